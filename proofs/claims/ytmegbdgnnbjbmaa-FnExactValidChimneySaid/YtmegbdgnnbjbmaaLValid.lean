/- For every chimney, of whatever length, the law of ValidChimney returns true, and the argument reads behind the call as before. No conditions. -/
import Derived.Test.YtmegbdgnnbjbmaaBd
import Derived.Test.YtmegbdgnnbjbmaaAbX
import Derived.Test.YtmegbdgnnbjbmaaRows
namespace Go.Proofs.Ytmegbdgnnbjbmaa.fnExactValidChimney
open Go Go.Ab Go.ChangeShapes Go.WideShapes Go.ChangeAt Go.RowKit Go.Proofs Go.Proofs.Ytmegbdgnnbjbmaa.ab
set_option linter.unusedVariables false
noncomputable def T1 (n : Nat) : Bool := decide ((cond (decide (IntKind.i64.wrap (1048576 - Int.ofNat n) < 0)) (-1) (IntKind.i64.wrap (1048576 - Int.ofNat n))) < 0)
theorem T1_le {n : Nat} (hn : n ≤ 9223372036854775807) (h : T1 n = false) : n ≤ 1048576 := by
  unfold T1 at h
  have hw : IntKind.i64.wrap (1048576 - Int.ofNat n) = 1048576 - Int.ofNat n := IntWalk.i64_in _ (by show _ ≤ 1048576 - (n : Int) ∧ 1048576 - (n : Int) ≤ _; omega)
  rw [hw] at h
  have h := of_decide_eq_false h
  by_cases k : (1048576 - Int.ofNat n : Int) < 0
  · rw [decide_eq_true k] at h
    exact absurd (by decide : (-1 : Int) < 0) h
  · have : ¬ (1048576 - (n : Int) < 0) := k
    omega
theorem own : ownKnob Try.prog.godebug = none := by kernel_rfl
theorem laidOut : laidOutB Try.prog = true := by kernel_rfl
set_option maxRecDepth 1000000 in
theorem walk (n0 : Nat) (fd0 : Nat → Nat → Nat) (gd0 : Nat → Nat → Int) (bd0 : Nat → Nat → Bool) (ρ : Rho) (v0 : Value) (w : World) (hn0 : n0 ≤ 9223372036854775807) (hM : Mem NoM w ρ (viewS [⟨[.f32, .f32, .f32, .f32, .int .i64], .sym n0, fd0, gd0, bd0, false⟩]) w) (w0 : V ρ (.vec 0 5 0 (.sym n0)) v0) :
    Calls Try.prog 5 #[v0] w fun e w' => e = .returned (.bool true) ∧ Below w.heap.size w w' := by
  have hv : VL ρ [.vec 0 5 0 (.sym n0)] [v0] := (VL_cons w0 VL_nil)
  have he : lawB (evBody Try.prog GG 300 Try.f5 [.vec 0 5 0 (.sym n0)] (viewS [(⟨[.f32, .f32, .f32, .f32, .int .i64], .sym n0, fd0, gd0, bd0, false⟩ : Vc)])) = some (cond (ndc (T1 n0) true (cond (cond (cond (cond (cond (cond (cond (cond (cond (cond (cond (cond (cond (true) ((Nat.ble (Nat.mul (Nat.add n0 0) 24) 140737488355328 && Nat.ble (Nat.add n0 0) 140737488355328) && Nat.ble (Nat.add 0 n0) n0) false) (cond (cond (cond (true) (Nat.ble n0 140737488355328 && Nat.ble (Nat.add 0 n0) n0) false) (true) false) (true) false) false) (true) false) (true) false) ((Nat.ble (Nat.mul (Nat.add n0 0) 24) 140737488355328 && Nat.ble (Nat.add n0 0) 140737488355328) && Nat.ble (Nat.add 0 n0) n0) false) (true) false) (true) false) (Nat.ble n0 140737488355328 && Nat.ble (Nat.add 0 n0) n0) false) (true) false) (true) false) (true) false) (true) false) (ndc (chimV (cpyR [.f32, .f32, .f32, .f32, .int .i64] (.sym n0) 0 (⟨[.f32, .f32, .f32, .f32, .int .i64], .sym n0, fd0, gd0, bd0, false⟩ : Vc)) 0 n0 != chimV (cpyR [.f32, .f32, .f32, .f32, .int .i64] (.sym n0) 0 (⟨[.f32, .f32, .f32, .f32, .int .i64], .sym n0, fd0, gd0, bd0, false⟩ : Vc)) 0 n0) true (cond (cond (cond (cond (true) ((Nat.ble (Nat.mul (Nat.add n0 0) 24) 140737488355328 && Nat.ble (Nat.add n0 0) 140737488355328) && Nat.ble (Nat.add 0 n0) n0) false) (Nat.ble n0 140737488355328 && (Nat.ble (Nat.add 0 n0) n0 && Nat.ble (Nat.add 0 n0) n0)) false) (true) false) (ndc (!eqRows elFlue (cpyR [.f32, .f32, .f32, .f32, .int .i64] (.sym n0) 0 (⟨[.f32, .f32, .f32, .f32, .int .i64], .sym n0, fd0, gd0, bd0, false⟩ : Vc)) (cpyR [.f32, .f32, .f32, .f32, .int .i64] (.sym n0) 0 (⟨[.f32, .f32, .f32, .f32, .int .i64], .sym n0, fd0, gd0, bd0, false⟩ : Vc)) 0 0 n0 n0) true true) false)) false)) (cond (T1 n0) true (cond (chimV (cpyR [.f32, .f32, .f32, .f32, .int .i64] (.sym n0) 0 (⟨[.f32, .f32, .f32, .f32, .int .i64], .sym n0, fd0, gd0, bd0, false⟩ : Vc)) 0 n0 != chimV (cpyR [.f32, .f32, .f32, .f32, .int .i64] (.sym n0) 0 (⟨[.f32, .f32, .f32, .f32, .int .i64], .sym n0, fd0, gd0, bd0, false⟩ : Vc)) 0 n0) false (cond (!eqRows elFlue (cpyR [.f32, .f32, .f32, .f32, .int .i64] (.sym n0) 0 (⟨[.f32, .f32, .f32, .f32, .int .i64], .sym n0, fd0, gd0, bd0, false⟩ : Vc)) (cpyR [.f32, .f32, .f32, .f32, .int .i64] (.sym n0) 0 (⟨[.f32, .f32, .f32, .f32, .int .i64], .sym n0, fd0, gd0, bd0, false⟩ : Vc)) 0 0 n0 n0) false true))) false) := by kernel_rfl
  refine law_any gg mixed Try.func5 Try.call5 he ?_ hM hv
  have q1 : (chimV (cpyR [.f32, .f32, .f32, .f32, .int .i64] (.sym n0) 0 (⟨[.f32, .f32, .f32, .f32, .int .i64], .sym n0, fd0, gd0, bd0, false⟩ : Vc)) 0 n0 != chimV (cpyR [.f32, .f32, .f32, .f32, .int .i64] (.sym n0) 0 (⟨[.f32, .f32, .f32, .f32, .int .i64], .sym n0, fd0, gd0, bd0, false⟩ : Vc)) 0 n0) = false := by simp
  have q2 : (!eqRows elFlue (cpyR [.f32, .f32, .f32, .f32, .int .i64] (.sym n0) 0 (⟨[.f32, .f32, .f32, .f32, .int .i64], .sym n0, fd0, gd0, bd0, false⟩ : Vc)) (cpyR [.f32, .f32, .f32, .f32, .int .i64] (.sym n0) 0 (⟨[.f32, .f32, .f32, .f32, .int .i64], .sym n0, fd0, gd0, bd0, false⟩ : Vc)) 0 0 n0 n0) = false := by rw [eqRows_self elFlue_self _ _ _ _ _ (fun j hj => ⟨rfl, rfl⟩)]; rfl
  rw [q1, q2]
  cases hT : T1 n0 with
  | true => simp only [ndc_eq]; rfl
  | false =>
    have hn := T1_le hn0 hT
    have b1 : Nat.ble (Nat.mul (Nat.add n0 0) 24) 140737488355328 = true := Nat.ble_eq_true_of_le (by show (n0 + 0) * 24 ≤ _; omega)
    have b2 : Nat.ble (Nat.add n0 0) 140737488355328 = true := Nat.ble_eq_true_of_le (by show n0 + 0 ≤ _; omega)
    have b3 : Nat.ble (Nat.add 0 n0) n0 = true := Nat.ble_eq_true_of_le (by show 0 + n0 ≤ _; omega)
    have b4 : Nat.ble n0 140737488355328 = true := Nat.ble_eq_true_of_le (by omega)
    rw [b1, b2, b3, b4]; rfl

set_option maxRecDepth 100000 in
theorem lifted (os : Os) (started : os.Started) (H : Type) (enc : TypeId × Value → H) :
    ReturnsInHanded {} Try.checked os 5 .any (Rows.fnExactValidChimneySpec.pre6 enc Try.prog Try.f5 Rows.fnExactValidChimneyRow.domain false) (Rows.fnExactValidChimneySpec.post enc Try.prog Try.f5 false true false false) := by
  refine returnsInHanded_of_change (C := Try.checked) own started (by kernel_rfl) Try.func5
    (ChangeSpec.witness6 (enc := enc) (C := Try.checked) false ⟨#[], #[.slice none 0 0], []⟩ 8 (by kernel_rfl) (by kernel_rfl) (by kernel_rfl) (by kernel_rfl)) ?_
  intro W base args ds gs before hval0 hW hcnd _
  have hval : ∀ (j : Nat) t v, Try.f5.params[j]? = some t → args[j]? = some v → Value.okWide Try.prog W .any base t v := hval0
  have hW' := hW
  obtain ⟨p, q, hA0, hV, rfl, hfz, hnd⟩ := hW
  have hA : DataW.TrodAll enc Try.prog W 0 (fun _ => true) true Try.f5.params.toList args.toList ds p := hA0
  rw [Try.params5] at hA hval
  obtain ⟨v0, vs0, d0, ds0, p0, q0, hargs, rfl, rfl, h0, r0⟩ := trodAll_cons hA
  obtain ⟨rfl, rfl, rfl⟩ := trodAll_nil r0
  obtain rfl : args = #[v0] := by cases args; simp_all
  obtain ⟨rfl, rfl⟩ := trodVars_none hV
  have k0 := h0
  have lt0 : ∀ x ∈ p0, x.block < W.heap.size := by obtain ⟨m, hm⟩ := k0; exact DataW.trod_lt m _ _ _ hm
  obtain ⟨n0, fd0, gd0, bd0, ρ, hn0, hM, w0⟩ := open_rows (sh := [.f32, .f32, .f32, .f32, .int .i64]) Try.underlying47 (elem_struct Try.underlying57 (by kernel_rfl) (by kernel_rfl) (by kernel_rfl)) (by kernel_rfl) (by decide) (hval 0 47 v0 rfl rfl) h0
  clear hA0 hval0
  refine (walk n0 fd0 gd0 bd0 ρ v0 W hn0 hM w0).mono fun e W' ⟨he, bel⟩ => ?_
  subst he
  exact ⟨_, rfl, _, _, _, [], _, [], hW', trodAll_mk1 (shut_bool Try.underlying4 _), (trodAll_cons_mk (Below.trod laidOut (by kernel_rfl) (of_decide_eq_true (by kernel_rfl)) k0 bel lt0) trodAll_mk0), rfl, bel.frame _, fun h => by cases h⟩

theorem over : Rows.fnExactValidChimneyRow.holds Try.pinned (OpenSpec.ofChange Rows.fnExactValidChimneySpec) :=
  OpenClaim.holds_of_wide 5 Try.f5 rfl rfl rfl rfl rfl rfl rfl ⟨rfl, rfl, rfl, rfl, rfl⟩ rfl rfl rfl rfl rfl (by kernel_rfl) Try.func5 (by kernel_rfl)
    (of_decide_eq_true (by kernel_rfl)) (by unfold Func.isWrapper; first | (rw [if_pos (by decide +kernel)]; kernel_rfl) | (rw [if_neg (by decide +kernel)]; exact ⟨rfl, rfl⟩))
    (fun os started H enc _ => lifted os started H enc)

theorem proved : Rows.FnExactValidChimneySaid := over
end Go.Proofs.Ytmegbdgnnbjbmaa.fnExactValidChimney

