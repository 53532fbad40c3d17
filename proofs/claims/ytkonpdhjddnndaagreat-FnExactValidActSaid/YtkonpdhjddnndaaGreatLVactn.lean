/- For every act the law of ValidAct returns true. No conditions. -/
import Derived.Test.YtkonpdhjddnndaaGreatBqn
import Derived.Test.YtkonpdhjddnndaaGreatRows
namespace Go.Proofs.YtkonpdhjddnndaaGreat.fnExactValidAct
open Go Go.Ab Go.ChangeShapes Go.WideShapes Go.ChangeAt Go.RowKit Go.Proofs Go.Proofs.YtkonpdhjddnndaaGreat.ab
set_option linter.unusedVariables false
theorem own : ownKnob Tryz.prog.godebug = none := by kernel_rfl
theorem laidOut : laidOutB Tryz.prog = true := by kernel_rfl
set_option maxRecDepth 1000000 in
theorem walk (a0x0 : Int) (a0x1 : Int) (a0x2 : Int) (vs0 : List Value) (w : World) (w0 : VL noRho [.sint .i64 a0x0, .sint .i64 a0x1, .sint .i64 a0x2] vs0) :
    Calls Tryz.prog 3 #[.agg ⟨vs0⟩] w fun e w' => e = .returned (.bool true) ∧ Below w.heap.size w w' := by
  have hv : VL noRho [.agg [.sint .i64 a0x0, .sint .i64 a0x1, .sint .i64 a0x2]] [.agg ⟨vs0⟩] := (VL_cons (agg_V w0) VL_nil)
  have hv1 : ∀ {ρ : Rho} {k : IntKind} {n : Int} {r : List AVal} {vs : List Value}, VL ρ (.sint k n :: r) vs → VL ρ (.int k n :: r) vs := fun h => by
    unfold VL at h ⊢
    obtain ⟨v, vs', h1, h2, h3⟩ := h
    exact ⟨v, vs', h1, by unfold V at h2 ⊢; exact h2, h3⟩
  by_cases c1 : a0x0 = 1
  · subst c1
    have he : lawB (evBody Tryz.prog GG 300 Tryz.f3 [.agg [.int .i64 1, .sint .i64 a0x1, .sint .i64 a0x2]] St0) = some (bif (bif bif decide (a0x1 ≥ Int.ofNat 0) then decide (a0x1 ≤ Int.ofNat 999) else false then bif bif decide (a0x2 ≥ Int.ofNat 0) then decide (a0x2 ≤ Int.ofNat 999) else false then bif decide (a0x2 = Int.ofNat 0) then true else true else false else false) != bif bif decide (a0x1 ≥ Int.ofNat 0) then decide (a0x1 ≤ Int.ofNat 999) else false then bif bif decide (a0x2 ≥ Int.ofNat 0) then decide (a0x2 ≤ Int.ofNat 999) else false then bif decide (a0x2 = Int.ofNat 0) then true else true else false else false then false else true) := by kernel_rfl
    exact law_of gg mixed Tryz.func3 Tryz.call3 he (by simp) (VL_cons (agg_V (hv1 w0)) VL_nil) w
  by_cases c2 : a0x0 = 2
  · subst c2
    have he : lawB (evBody Tryz.prog GG 300 Tryz.f3 [.agg [.int .i64 2, .sint .i64 a0x1, .sint .i64 a0x2]] St0) = some (bif (bif bif decide (a0x1 ≥ Int.ofNat 0) then decide (a0x1 ≤ Int.ofNat 999) else false then bif bif decide (a0x2 ≥ Int.ofNat 0) then decide (a0x2 ≤ Int.ofNat 999) else false then bif decide (a0x2 = Int.ofNat 0) then true else false else false else false) != bif bif decide (a0x1 ≥ Int.ofNat 0) then decide (a0x1 ≤ Int.ofNat 999) else false then bif bif decide (a0x2 ≥ Int.ofNat 0) then decide (a0x2 ≤ Int.ofNat 999) else false then bif decide (a0x2 = Int.ofNat 0) then true else false else false else false then false else true) := by kernel_rfl
    exact law_of gg mixed Tryz.func3 Tryz.call3 he (by simp) (VL_cons (agg_V (hv1 w0)) VL_nil) w
  by_cases c3 : a0x0 = 3
  · subst c3
    have he : lawB (evBody Tryz.prog GG 300 Tryz.f3 [.agg [.int .i64 3, .sint .i64 a0x1, .sint .i64 a0x2]] St0) = some (bif (bif bif decide (a0x1 ≥ Int.ofNat 0) then decide (a0x1 ≤ Int.ofNat 999) else false then bif bif decide (a0x2 ≥ Int.ofNat 0) then decide (a0x2 ≤ Int.ofNat 999) else false then bif decide (a0x2 = Int.ofNat 0) then true else false else false else false) != bif bif decide (a0x1 ≥ Int.ofNat 0) then decide (a0x1 ≤ Int.ofNat 999) else false then bif bif decide (a0x2 ≥ Int.ofNat 0) then decide (a0x2 ≤ Int.ofNat 999) else false then bif decide (a0x2 = Int.ofNat 0) then true else false else false else false then false else true) := by kernel_rfl
    exact law_of gg mixed Tryz.func3 Tryz.call3 he (by simp) (VL_cons (agg_V (hv1 w0)) VL_nil) w
  by_cases c4 : a0x0 = 4
  · subst c4
    have he : lawB (evBody Tryz.prog GG 300 Tryz.f3 [.agg [.int .i64 4, .sint .i64 a0x1, .sint .i64 a0x2]] St0) = some (bif (bif bif decide (a0x1 ≥ Int.ofNat 0) then decide (a0x1 ≤ Int.ofNat 999) else false then bif bif decide (a0x2 ≥ Int.ofNat 0) then decide (a0x2 ≤ Int.ofNat 999) else false then bif decide (a0x2 = Int.ofNat 0) then true else false else false else false) != bif bif decide (a0x1 ≥ Int.ofNat 0) then decide (a0x1 ≤ Int.ofNat 999) else false then bif bif decide (a0x2 ≥ Int.ofNat 0) then decide (a0x2 ≤ Int.ofNat 999) else false then bif decide (a0x2 = Int.ofNat 0) then true else false else false else false then false else true) := by kernel_rfl
    exact law_of gg mixed Tryz.func3 Tryz.call3 he (by simp) (VL_cons (agg_V (hv1 w0)) VL_nil) w
  by_cases c5 : a0x0 = 5
  · subst c5
    have he : lawB (evBody Tryz.prog GG 300 Tryz.f3 [.agg [.int .i64 5, .sint .i64 a0x1, .sint .i64 a0x2]] St0) = some (bif (bif bif decide (a0x1 ≥ Int.ofNat 0) then decide (a0x1 ≤ Int.ofNat 999) else false then bif bif decide (a0x2 ≥ Int.ofNat 0) then decide (a0x2 ≤ Int.ofNat 999) else false then bif decide (a0x2 = Int.ofNat 0) then true else true else false else false) != bif bif decide (a0x1 ≥ Int.ofNat 0) then decide (a0x1 ≤ Int.ofNat 999) else false then bif bif decide (a0x2 ≥ Int.ofNat 0) then decide (a0x2 ≤ Int.ofNat 999) else false then bif decide (a0x2 = Int.ofNat 0) then true else true else false else false then false else true) := by kernel_rfl
    exact law_of gg mixed Tryz.func3 Tryz.call3 he (by simp) (VL_cons (agg_V (hv1 w0)) VL_nil) w
  by_cases c6 : a0x0 = 6
  · subst c6
    have he : lawB (evBody Tryz.prog GG 300 Tryz.f3 [.agg [.int .i64 6, .sint .i64 a0x1, .sint .i64 a0x2]] St0) = some (bif (bif bif decide (a0x1 ≥ Int.ofNat 0) then decide (a0x1 ≤ Int.ofNat 999) else false then bif bif decide (a0x2 ≥ Int.ofNat 0) then decide (a0x2 ≤ Int.ofNat 999) else false then bif decide (a0x2 = Int.ofNat 0) then true else true else false else false) != bif bif decide (a0x1 ≥ Int.ofNat 0) then decide (a0x1 ≤ Int.ofNat 999) else false then bif bif decide (a0x2 ≥ Int.ofNat 0) then decide (a0x2 ≤ Int.ofNat 999) else false then bif decide (a0x2 = Int.ofNat 0) then true else true else false else false then false else true) := by kernel_rfl
    exact law_of gg mixed Tryz.func3 Tryz.call3 he (by simp) (VL_cons (agg_V (hv1 w0)) VL_nil) w
  by_cases c7 : a0x0 = 7
  · subst c7
    have he : lawB (evBody Tryz.prog GG 300 Tryz.f3 [.agg [.int .i64 7, .sint .i64 a0x1, .sint .i64 a0x2]] St0) = some (bif (bif bif decide (a0x1 ≥ Int.ofNat 0) then decide (a0x1 ≤ Int.ofNat 999) else false then bif bif decide (a0x2 ≥ Int.ofNat 0) then decide (a0x2 ≤ Int.ofNat 999) else false then bif decide (a0x2 = Int.ofNat 0) then true else false else false else false) != bif bif decide (a0x1 ≥ Int.ofNat 0) then decide (a0x1 ≤ Int.ofNat 999) else false then bif bif decide (a0x2 ≥ Int.ofNat 0) then decide (a0x2 ≤ Int.ofNat 999) else false then bif decide (a0x2 = Int.ofNat 0) then true else false else false else false then false else true) := by kernel_rfl
    exact law_of gg mixed Tryz.func3 Tryz.call3 he (by simp) (VL_cons (agg_V (hv1 w0)) VL_nil) w
  by_cases c8 : a0x0 = 8
  · subst c8
    have he : lawB (evBody Tryz.prog GG 300 Tryz.f3 [.agg [.int .i64 8, .sint .i64 a0x1, .sint .i64 a0x2]] St0) = some (bif (bif bif decide (a0x1 ≥ Int.ofNat 0) then decide (a0x1 ≤ Int.ofNat 999) else false then bif bif decide (a0x2 ≥ Int.ofNat 0) then decide (a0x2 ≤ Int.ofNat 999) else false then bif decide (a0x2 = Int.ofNat 0) then true else true else false else false) != bif bif decide (a0x1 ≥ Int.ofNat 0) then decide (a0x1 ≤ Int.ofNat 999) else false then bif bif decide (a0x2 ≥ Int.ofNat 0) then decide (a0x2 ≤ Int.ofNat 999) else false then bif decide (a0x2 = Int.ofNat 0) then true else true else false else false then false else true) := by kernel_rfl
    exact law_of gg mixed Tryz.func3 Tryz.call3 he (by simp) (VL_cons (agg_V (hv1 w0)) VL_nil) w
  by_cases c9 : a0x0 = 9
  · subst c9
    have he : lawB (evBody Tryz.prog GG 300 Tryz.f3 [.agg [.int .i64 9, .sint .i64 a0x1, .sint .i64 a0x2]] St0) = some (bif (bif bif decide (a0x1 ≥ Int.ofNat 0) then decide (a0x1 ≤ Int.ofNat 999) else false then bif bif decide (a0x2 ≥ Int.ofNat 0) then decide (a0x2 ≤ Int.ofNat 999) else false then bif decide (a0x2 = Int.ofNat 0) then true else false else false else false) != bif bif decide (a0x1 ≥ Int.ofNat 0) then decide (a0x1 ≤ Int.ofNat 999) else false then bif bif decide (a0x2 ≥ Int.ofNat 0) then decide (a0x2 ≤ Int.ofNat 999) else false then bif decide (a0x2 = Int.ofNat 0) then true else false else false else false then false else true) := by kernel_rfl
    exact law_of gg mixed Tryz.func3 Tryz.call3 he (by simp) (VL_cons (agg_V (hv1 w0)) VL_nil) w
  have he : lawB (evBody Tryz.prog GG 300 Tryz.f3 [.agg [.sint .i64 a0x0, .sint .i64 a0x1, .sint .i64 a0x2]] St0) = some (bif bif andN true (ndc (bif decide (a0x0 ≥ Int.ofNat 1) then bif decide (a0x0 ≤ Int.ofNat 9) then bif bif decide (a0x1 ≥ Int.ofNat 0) then decide (a0x1 ≤ Int.ofNat 999) else false then bif bif decide (a0x2 ≥ Int.ofNat 0) then decide (a0x2 ≤ Int.ofNat 999) else false then !decide (a0x2 = Int.ofNat 0) else false else false else false else false) false true) then true else false then bif (bif bif decide (a0x0 ≥ Int.ofNat 1) then bif decide (a0x0 ≤ Int.ofNat 9) then bif bif decide (a0x1 ≥ Int.ofNat 0) then decide (a0x1 ≤ Int.ofNat 999) else false then bif bif decide (a0x2 ≥ Int.ofNat 0) then decide (a0x2 ≤ Int.ofNat 999) else false then !decide (a0x2 = Int.ofNat 0) else false else false else false else false then false else bif decide (a0x0 ≥ Int.ofNat 1) then bif decide (a0x0 ≤ Int.ofNat 9) then bif bif decide (a0x1 ≥ Int.ofNat 0) then decide (a0x1 ≤ Int.ofNat 999) else false then bif bif decide (a0x2 ≥ Int.ofNat 0) then decide (a0x2 ≤ Int.ofNat 999) else false then true else false else false else false else false) != bif bif decide (a0x0 ≥ Int.ofNat 1) then decide (a0x0 ≤ Int.ofNat 9) else false then bif bif decide (a0x1 ≥ Int.ofNat 0) then decide (a0x1 ≤ Int.ofNat 999) else false then bif bif decide (a0x2 ≥ Int.ofNat 0) then decide (a0x2 ≤ Int.ofNat 999) else false then bif decide (a0x2 = Int.ofNat 0) then true else bif decide (a0x0 = Int.ofNat 1) then true else bif decide (a0x0 = Int.ofNat 5) then true else bif decide (a0x0 = Int.ofNat 6) then true else decide (a0x0 = Int.ofNat 8) else false else false else false then false else true else false) := by kernel_rfl
  refine law_of gg mixed Tryz.func3 Tryz.call3 he ?_ hv w
  have hr : a0x0 < 1 ∨ 9 < a0x0 := by omega
  rcases hr with hr | hr
  · have e1 : decide (a0x0 ≥ Int.ofNat 1) = false := decide_eq_false (by simp; omega)
    simp only [e1]
    rfl
  · have e1 : decide (a0x0 ≥ Int.ofNat 1) = true := decide_eq_true (by simp; omega)
    have e2 : decide (a0x0 ≤ Int.ofNat 9) = false := decide_eq_false (by simp; omega)
    simp only [e1, e2]
    rfl

set_option maxRecDepth 100000 in
theorem lifted (os : Os) (started : os.Started) (H : Type) (enc : TypeId × Value → H) :
    ReturnsInHanded {} Tryz.checked os 3 .any (Rows.fnExactValidActSpec.pre6 enc Tryz.prog Tryz.f3 Rows.fnExactValidActRow.domain false) (Rows.fnExactValidActSpec.post enc Tryz.prog Tryz.f3 false true false false) := by
  refine returnsInHanded_of_change (C := Tryz.checked) own started (by kernel_rfl) Tryz.func3
    (ChangeSpec.witness6 (enc := enc) (C := Tryz.checked) false ⟨#[], #[.agg #[.int .i64 0, .int .i64 0, .int .i64 0]], []⟩ 8 (by kernel_rfl) (by kernel_rfl) (by kernel_rfl) (by kernel_rfl)) ?_
  intro W base args ds gs before hval0 hW hcnd _
  have hval : ∀ (j : Nat) t v, Tryz.f3.params[j]? = some t → args[j]? = some v → Value.okWide Tryz.prog W .any base t v := hval0
  have hW' := hW
  obtain ⟨p, q, hA0, hV, rfl, hfz, hnd⟩ := hW
  have hA : DataW.TrodAll enc Tryz.prog W 0 (fun _ => true) true Tryz.f3.params.toList args.toList ds p := hA0
  rw [Tryz.params3] at hA hval
  obtain ⟨v0, vs0, d0, ds0, p0, q0, hargs, rfl, rfl, h0, r0⟩ := trodAll_cons hA
  obtain ⟨rfl, rfl, rfl⟩ := trodAll_nil r0
  obtain rfl : args = #[v0] := by cases args; simp_all
  obtain ⟨rfl, rfl⟩ := trodVars_none hV
  have k0 := h0
  have lt0 : ∀ x ∈ p0, x.block < W.heap.size := by obtain ⟨m, hm⟩ := k0; exact DataW.trod_lt m _ _ _ hm
  obtain ⟨fd0, gd0, bd0, us0, rfl, w0⟩ := open_cells (ts := [2, 2, 2]) (sh := [.int .i64, .int .i64, .int .i64]) (by kernel_rfl) (by kernel_rfl) (by kernel_rfl) (by kernel_rfl) (hval 0 23 v0 rfl rfl)
  clear hA0 hval0
  refine (walk (gd0 0) (gd0 1) (gd0 2) us0 W w0).mono fun e W' ⟨he, bel⟩ => ?_
  subst he
  exact ⟨_, rfl, _, _, _, [], _, [], hW', trodAll_mk1 (shut_bool Tryz.underlying4 _), (trodAll_cons_mk (Below.trod laidOut (by kernel_rfl) (of_decide_eq_true (by kernel_rfl)) k0 bel lt0) trodAll_mk0), rfl, bel.frame _, fun h => by cases h⟩

theorem over : Rows.fnExactValidActRow.holds Tryz.pinned (OpenSpec.ofChange Rows.fnExactValidActSpec) :=
  OpenClaim.holds_of_wide 3 Tryz.f3 rfl rfl rfl rfl rfl rfl rfl ⟨rfl, rfl, rfl, rfl, rfl⟩ rfl rfl rfl rfl rfl (by kernel_rfl) Tryz.func3 (by kernel_rfl)
    (of_decide_eq_true (by kernel_rfl)) (by unfold Func.isWrapper; first | (rw [if_pos (by decide +kernel)]; kernel_rfl) | (rw [if_neg (by decide +kernel)]; exact ⟨rfl, rfl⟩))
    (fun os started H enc _ => lifted os started H enc)

theorem proved : Rows.FnExactValidActSaid := over
end Go.Proofs.YtkonpdhjddnndaaGreat.fnExactValidAct
