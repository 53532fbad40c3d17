/- For every state the law of StateName returns true, and the state reads behind the call as before. No conditions. -/
import Derived.Test.YtpolhmbpajeajabRows
import Derived.ProofKit
import Derived.WalkKit
import Derived.Below
import Derived.Laws.Cover2
import Derived.OpenShut
import Derived.ChangeOld
import Derived.IntWalk
namespace Go.Proofs.Ytpolhmbpajeajab.fnExactStateName
open Go Go.ChangeShapes Go.WideShapes Go.ChangeAt Go.RowKit Go.Proofs
set_option linter.unusedVariables false
theorem own : ownKnob Try.prog.godebug = none := by kernel_rfl
theorem wid {a0 : Int} (w0 : (Lit.int .i8 a0).wf = true) : wrap64 a0 = a0 := by
  have h : (decide ((-128 : Int) ≤ a0) && decide (a0 ≤ 127)) = true := w0
  simp only [Bool.and_eq_true, decide_eq_true_eq] at h
  unfold wrap64; omega
set_option maxRecDepth 1000000 in
set_option maxHeartbeats 4000000 in
theorem walk (a0 : Int) (w : World) (w0 : (Lit.int .i8 a0).wf = true) :
    Calls Try.prog 9 #[.int .i8 a0] w fun e w' => e = .returned (.bool true) ∧ Below w.heap.size w w' := by
  by_cases h0 : a0 = 0
  · subst h0
    go_enter Try.func9, Try.ntmps9
    go_wp2
    go_ret
    first | exact ⟨rfl, Below.alloc (Below.refl _ _) (Nat.le_refl _) _⟩ | exact ⟨rfl, Below.refl _ _⟩
  by_cases h1 : a0 = 1
  · subst h1
    go_enter Try.func9, Try.ntmps9
    go_wp2
    go_ret
    first | exact ⟨rfl, Below.alloc (Below.refl _ _) (Nat.le_refl _) _⟩ | exact ⟨rfl, Below.refl _ _⟩
  by_cases h2 : a0 = 2
  · subst h2
    go_enter Try.func9, Try.ntmps9
    go_wp2
    go_ret
    first | exact ⟨rfl, Below.alloc (Below.refl _ _) (Nat.le_refl _) _⟩ | exact ⟨rfl, Below.refl _ _⟩
  by_cases h3 : a0 = 3
  · subst h3
    go_enter Try.func9, Try.ntmps9
    go_wp2
    go_ret
    first | exact ⟨rfl, Below.alloc (Below.refl _ _) (Nat.le_refl _) _⟩ | exact ⟨rfl, Below.refl _ _⟩
  by_cases hn : a0 < 0
  · have g : ¬ (0 ≤ wrap64 a0) := by rw [wid w0]; exact Int.not_le.2 hn
    go_enter Try.func9, Try.ntmps9
    go_wp2
    go_ret
    first | exact ⟨rfl, Below.alloc (Below.refl _ _) (Nat.le_refl _) _⟩ | exact ⟨rfl, Below.refl _ _⟩
  · have g : ¬ (wrap64 a0 ≤ 3) := by rw [wid w0]; omega
    have g' : 0 ≤ wrap64 a0 := by rw [wid w0]; omega
    go_enter Try.func9, Try.ntmps9
    go_wp2
    go_ret
    first | exact ⟨rfl, Below.alloc (Below.refl _ _) (Nat.le_refl _) _⟩ | exact ⟨rfl, Below.refl _ _⟩

set_option maxRecDepth 100000 in
theorem lifted (os : Os) (started : os.Started) (H : Type) (enc : TypeId × Value → H) :
    ReturnsInHanded {} Try.checked os 9 .any (Rows.fnExactStateNameSpec.pre6 enc Try.prog Try.f9 Rows.fnExactStateNameRow.domain false) (Rows.fnExactStateNameSpec.post enc Try.prog Try.f9 false true false false) := by
  refine returnsInHanded_of_change (C := Try.checked) own started (by kernel_rfl) Try.func9
    (ChangeSpec.witness6 (enc := enc) (C := Try.checked) false ⟨#[], #[.int .i8 0], []⟩ 8 (by kernel_rfl) (by kernel_rfl) (by kernel_rfl) (by kernel_rfl)) ?_
  intro W base args ds gs before hval0 hW hcnd _
  have hval : ∀ (j : Nat) t v, Try.f9.params[j]? = some t → args[j]? = some v → Value.okWide Try.prog W .any base t v := hval0
  have hW' := hW
  obtain ⟨p, q, hA0, hV, rfl, hfz, hnd⟩ := hW
  have hA : DataW.TrodAll enc Try.prog W 0 (fun _ => true) true Try.f9.params.toList args.toList ds p := hA0
  rw [Try.params9] at hA hval
  obtain ⟨v0, vs0, d0, ds0, p0, q0, hargs, rfl, rfl, h0, r0⟩ := trodAll_cons hA
  obtain ⟨rfl, rfl, rfl⟩ := trodAll_nil r0
  obtain rfl : args = #[v0] := by cases args; simp_all
  obtain ⟨rfl, rfl⟩ := trodVars_none hV
  obtain ⟨a0, rfl, rfl, rfl, w0⟩ := open_int Try.underlying22 (hval 0 22 v0 rfl rfl) h0
  clear hA0 hval0
  refine (walk a0 W w0).mono fun e W' ⟨he, bel⟩ => ?_
  subst he
  exact ⟨_, rfl, _, _, _, [], _, [], hW', trodAll_mk1 (shut_bool Try.underlying4 _), (trodAll_cons_mk (shut_int Try.underlying22 w0) trodAll_mk0), rfl, bel.frame _, fun h => by cases h⟩

theorem over : Rows.fnExactStateNameRow.holds Try.pinned (OpenSpec.ofChange Rows.fnExactStateNameSpec) :=
  OpenClaim.holds_of_wide 9 Try.f9 rfl rfl rfl rfl rfl rfl rfl ⟨rfl, rfl, rfl, rfl, rfl⟩ rfl rfl rfl rfl rfl (by kernel_rfl) Try.func9 (by kernel_rfl)
    (of_decide_eq_true (by kernel_rfl)) (by unfold Func.isWrapper; first | (rw [if_pos (by decide +kernel)]; kernel_rfl) | (rw [if_neg (by decide +kernel)]; exact ⟨rfl, rfl⟩))
    (fun os started H enc _ => lifted os started H enc)

theorem proved : Rows.FnExactStateNameSaid := over
end Go.Proofs.Ytpolhmbpajeajab.fnExactStateName
