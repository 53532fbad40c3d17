/- For every two chimneys, of whatever lengths, the law of SameChimney returns true, and the arguments read behind the call as before. No conditions. -/
import Derived.Test.YtgdkcibpjmkbdaaBe
import Derived.Test.YtgdkcibpjmkbdaaAbY
import Derived.Test.YtgdkcibpjmkbdaaRows
namespace Go.Proofs.Ytgdkcibpjmkbdaa.fnExactSameChimney
open Go Go.Ab Go.ChangeShapes Go.WideShapes Go.ChangeAt Go.RowKit Go.Proofs Go.Proofs.Ytgdkcibpjmkbdaa.ab
set_option linter.unusedVariables false
noncomputable def T1 (n : Nat) : Bool := decide ((cond (decide (IntKind.i64.wrap (1048576 - Int.ofNat n) < 0)) (-1) (IntKind.i64.wrap (1048576 - Int.ofNat n))) < 0)
theorem T1_le {n : Nat} (hn : n ≤ 9223372036854775807) (h : T1 n = false) : n ≤ 1048576 := by
  unfold T1 at h
  have hw : IntKind.i64.wrap (1048576 - Int.ofNat n) = 1048576 - Int.ofNat n := IntWalk.i64_in _ (by show _ ≤ 1048576 - (n : Int) ∧ 1048576 - (n : Int) ≤ _; omega)
  rw [hw] at h
  have h := of_decide_eq_false h
  by_cases k : (1048576 - Int.ofNat n : Int) < 0
  · rw [decide_eq_true k] at h
    exact absurd (by decide : (-1 : Int) < 0) h
  · have : ¬ (1048576 - (n : Int) < 0) := k
    omega
noncomputable def L1 (n : Nat) : Int := cond (decide (IntKind.i64.wrap (1048576 - Int.ofNat n) < 0)) (-1) (IntKind.i64.wrap (1048576 - Int.ofNat n))
noncomputable def T2 (n m : Nat) : Bool := decide ((cond (decide (IntKind.i64.wrap (L1 n - Int.ofNat m) < 0)) (-1) (IntKind.i64.wrap (L1 n - Int.ofNat m))) < 0)
theorem T2_le {n m : Nat} (hn : n ≤ 1048576) (hm : m ≤ 9223372036854775807) (h : T2 n m = false) : m ≤ 1048576 := by
  unfold T2 at h
  have hw : IntKind.i64.wrap (1048576 - Int.ofNat n) = 1048576 - Int.ofNat n := IntWalk.i64_in _ (by show _ ≤ 1048576 - (n : Int) ∧ 1048576 - (n : Int) ≤ _; omega)
  have hl : L1 n = 1048576 - (n : Int) := by
    unfold L1
    rw [hw, decide_eq_false (by show ¬ (1048576 - (n : Int) < 0); omega)]; rfl
  rw [hl] at h
  have hw2 : IntKind.i64.wrap (1048576 - (n : Int) - Int.ofNat m) = 1048576 - (n : Int) - Int.ofNat m := IntWalk.i64_in _ (by show _ ≤ 1048576 - (n : Int) - (m : Int) ∧ 1048576 - (n : Int) - (m : Int) ≤ _; omega)
  rw [hw2] at h
  have h := of_decide_eq_false h
  by_cases k : (1048576 - (n : Int) - Int.ofNat m : Int) < 0
  · rw [decide_eq_true k] at h
    exact absurd (by decide : (-1 : Int) < 0) h
  · have : ¬ (1048576 - (n : Int) - (m : Int) < 0) := k
    omega
theorem own : ownKnob Try.prog.godebug = none := by kernel_rfl
theorem laidOut : laidOutB Try.prog = true := by kernel_rfl
set_option maxRecDepth 1000000 in
theorem walk (ρ : Rho) (n0 : Nat) (fd0 : Nat → Nat → Nat) (gd0 : Nat → Nat → Int) (bd0 : Nat → Nat → Bool) (v0 : Value) (n1 : Nat) (fd1 : Nat → Nat → Nat) (gd1 : Nat → Nat → Int) (bd1 : Nat → Nat → Bool) (v1 : Value) (w : World) (hM : Mem NoM w ρ (viewS [⟨[.f32, .f32, .f32, .f32, .int .i64], .sym n0, fd0, gd0, bd0, false⟩, ⟨[.f32, .f32, .f32, .f32, .int .i64], .sym n1, fd1, gd1, bd1, false⟩]) w) (hn0 : n0 ≤ 9223372036854775807) (w0 : V ρ (.vec 0 5 0 (.sym n0)) v0) (hn1 : n1 ≤ 9223372036854775807) (w1 : V ρ (.vec 1 5 0 (.sym n1)) v1) :
    Calls Try.prog 6 #[v0, v1] w fun e w' => e = .returned (.bool true) ∧ Below w.heap.size w w' := by
  have hv : VL ρ [.vec 0 5 0 (.sym n0), .vec 1 5 0 (.sym n1)] [v0, v1] := (VL_cons w0 (VL_cons w1 VL_nil))
  have he : lawB (evBody Try.prog GG 300 Try.f6 [.vec 0 5 0 (.sym n0), .vec 1 5 0 (.sym n1)] (viewS [(⟨[.f32, .f32, .f32, .f32, .int .i64], .sym n0, fd0, gd0, bd0, false⟩ : Vc), (⟨[.f32, .f32, .f32, .f32, .int .i64], .sym n1, fd1, gd1, bd1, false⟩ : Vc)])) = some (cond (ndc (T1 n0) true (ndc (T2 n0 n1) true (cond (cond (cond (cond (cond (cond (cond (cond (cond (cond (cond (cond (cond (cond (cond (cond (cond (cond (cond (true) ((Nat.ble (Nat.mul (Nat.add n0 0) 24) 140737488355328 && Nat.ble (Nat.add n0 0) 140737488355328) && Nat.ble (Nat.add 0 n0) n0) false) (true) false) ((Nat.ble (Nat.mul (Nat.add n1 0) 24) 140737488355328 && Nat.ble (Nat.add n1 0) 140737488355328) && Nat.ble (Nat.add 0 n1) n1) false) (cond (cond (cond (true) (Nat.ble n0 140737488355328 && (Nat.ble (Nat.add 0 n0) n0 && Nat.ble (Nat.add 0 n1) n1)) false) (true) false) (true) false) false) (true) false) (true) false) ((Nat.ble (Nat.mul (Nat.add n0 0) 24) 140737488355328 && Nat.ble (Nat.add n0 0) 140737488355328) && Nat.ble (Nat.add 0 n0) n0) false) (true) false) (true) false) ((Nat.ble (Nat.mul (Nat.add n1 0) 24) 140737488355328 && Nat.ble (Nat.add n1 0) 140737488355328) && Nat.ble (Nat.add 0 n1) n1) false) (true) false) (true) false) (true) false) (cond (cond (cond (true) (Nat.ble n0 140737488355328 && (Nat.ble (Nat.add 0 n0) n0 && Nat.ble (Nat.add 0 n1) n1)) false) (true) false) (true) false) false) (true) false) (true) false) (true) false) (true) false) (ndc (eqRows elKey (cpyR [.f32, .f32, .f32, .f32, .int .i64] (.sym n0) 0 (⟨[.f32, .f32, .f32, .f32, .int .i64], .sym n0, fd0, gd0, bd0, false⟩ : Vc)) (cpyR [.f32, .f32, .f32, .f32, .int .i64] (.sym n1) 0 (⟨[.f32, .f32, .f32, .f32, .int .i64], .sym n1, fd1, gd1, bd1, false⟩ : Vc)) 0 0 n0 n1 != eqRows elKey (cpyR [.f32, .f32, .f32, .f32, .int .i64] (.sym n0) 0 (⟨[.f32, .f32, .f32, .f32, .int .i64], .sym n0, fd0, gd0, bd0, false⟩ : Vc)) (cpyR [.f32, .f32, .f32, .f32, .int .i64] (.sym n1) 0 (⟨[.f32, .f32, .f32, .f32, .int .i64], .sym n1, fd1, gd1, bd1, false⟩ : Vc)) 0 0 n0 n1) true (cond (cond (cond (cond (true) ((Nat.ble (Nat.mul (Nat.add n0 0) 24) 140737488355328 && Nat.ble (Nat.add n0 0) 140737488355328) && Nat.ble (Nat.add 0 n0) n0) false) (Nat.ble n0 140737488355328 && (Nat.ble (Nat.add 0 n0) n0 && Nat.ble (Nat.add 0 n0) n0)) false) (true) false) (ndc (!eqRows elFlue (cpyR [.f32, .f32, .f32, .f32, .int .i64] (.sym n0) 0 (⟨[.f32, .f32, .f32, .f32, .int .i64], .sym n0, fd0, gd0, bd0, false⟩ : Vc)) (cpyR [.f32, .f32, .f32, .f32, .int .i64] (.sym n0) 0 (⟨[.f32, .f32, .f32, .f32, .int .i64], .sym n0, fd0, gd0, bd0, false⟩ : Vc)) 0 0 n0 n0) true (cond (cond (cond (cond (true) ((Nat.ble (Nat.mul (Nat.add n1 0) 24) 140737488355328 && Nat.ble (Nat.add n1 0) 140737488355328) && Nat.ble (Nat.add 0 n1) n1) false) (Nat.ble n1 140737488355328 && (Nat.ble (Nat.add 0 n1) n1 && Nat.ble (Nat.add 0 n1) n1)) false) (true) false) (ndc (!eqRows elFlue (cpyR [.f32, .f32, .f32, .f32, .int .i64] (.sym n1) 0 (⟨[.f32, .f32, .f32, .f32, .int .i64], .sym n1, fd1, gd1, bd1, false⟩ : Vc)) (cpyR [.f32, .f32, .f32, .f32, .int .i64] (.sym n1) 0 (⟨[.f32, .f32, .f32, .f32, .int .i64], .sym n1, fd1, gd1, bd1, false⟩ : Vc)) 0 0 n1 n1) true true) false)) false)) false))) (cond (T1 n0) true (cond (T2 n0 n1) true (cond (eqRows elKey (cpyR [.f32, .f32, .f32, .f32, .int .i64] (.sym n0) 0 (⟨[.f32, .f32, .f32, .f32, .int .i64], .sym n0, fd0, gd0, bd0, false⟩ : Vc)) (cpyR [.f32, .f32, .f32, .f32, .int .i64] (.sym n1) 0 (⟨[.f32, .f32, .f32, .f32, .int .i64], .sym n1, fd1, gd1, bd1, false⟩ : Vc)) 0 0 n0 n1 != eqRows elKey (cpyR [.f32, .f32, .f32, .f32, .int .i64] (.sym n0) 0 (⟨[.f32, .f32, .f32, .f32, .int .i64], .sym n0, fd0, gd0, bd0, false⟩ : Vc)) (cpyR [.f32, .f32, .f32, .f32, .int .i64] (.sym n1) 0 (⟨[.f32, .f32, .f32, .f32, .int .i64], .sym n1, fd1, gd1, bd1, false⟩ : Vc)) 0 0 n0 n1) false (cond (!eqRows elFlue (cpyR [.f32, .f32, .f32, .f32, .int .i64] (.sym n0) 0 (⟨[.f32, .f32, .f32, .f32, .int .i64], .sym n0, fd0, gd0, bd0, false⟩ : Vc)) (cpyR [.f32, .f32, .f32, .f32, .int .i64] (.sym n0) 0 (⟨[.f32, .f32, .f32, .f32, .int .i64], .sym n0, fd0, gd0, bd0, false⟩ : Vc)) 0 0 n0 n0) false (cond (!eqRows elFlue (cpyR [.f32, .f32, .f32, .f32, .int .i64] (.sym n1) 0 (⟨[.f32, .f32, .f32, .f32, .int .i64], .sym n1, fd1, gd1, bd1, false⟩ : Vc)) (cpyR [.f32, .f32, .f32, .f32, .int .i64] (.sym n1) 0 (⟨[.f32, .f32, .f32, .f32, .int .i64], .sym n1, fd1, gd1, bd1, false⟩ : Vc)) 0 0 n1 n1) false true))))) false) := by kernel_rfl
  refine law_any gg mixed Try.func6 Try.call6 he ?_ hM hv
  have q1 : (eqRows elKey (cpyR [.f32, .f32, .f32, .f32, .int .i64] (.sym n0) 0 (⟨[.f32, .f32, .f32, .f32, .int .i64], .sym n0, fd0, gd0, bd0, false⟩ : Vc)) (cpyR [.f32, .f32, .f32, .f32, .int .i64] (.sym n1) 0 (⟨[.f32, .f32, .f32, .f32, .int .i64], .sym n1, fd1, gd1, bd1, false⟩ : Vc)) 0 0 n0 n1 != eqRows elKey (cpyR [.f32, .f32, .f32, .f32, .int .i64] (.sym n0) 0 (⟨[.f32, .f32, .f32, .f32, .int .i64], .sym n0, fd0, gd0, bd0, false⟩ : Vc)) (cpyR [.f32, .f32, .f32, .f32, .int .i64] (.sym n1) 0 (⟨[.f32, .f32, .f32, .f32, .int .i64], .sym n1, fd1, gd1, bd1, false⟩ : Vc)) 0 0 n0 n1) = false := by simp
  have q2 : (!eqRows elFlue (cpyR [.f32, .f32, .f32, .f32, .int .i64] (.sym n0) 0 (⟨[.f32, .f32, .f32, .f32, .int .i64], .sym n0, fd0, gd0, bd0, false⟩ : Vc)) (cpyR [.f32, .f32, .f32, .f32, .int .i64] (.sym n0) 0 (⟨[.f32, .f32, .f32, .f32, .int .i64], .sym n0, fd0, gd0, bd0, false⟩ : Vc)) 0 0 n0 n0) = false := by rw [eqRows_self elFlue_self _ _ _ _ _ (fun j hj => ⟨rfl, rfl⟩)]; rfl
  have q3 : (!eqRows elFlue (cpyR [.f32, .f32, .f32, .f32, .int .i64] (.sym n1) 0 (⟨[.f32, .f32, .f32, .f32, .int .i64], .sym n1, fd1, gd1, bd1, false⟩ : Vc)) (cpyR [.f32, .f32, .f32, .f32, .int .i64] (.sym n1) 0 (⟨[.f32, .f32, .f32, .f32, .int .i64], .sym n1, fd1, gd1, bd1, false⟩ : Vc)) 0 0 n1 n1) = false := by rw [eqRows_self elFlue_self _ _ _ _ _ (fun j hj => ⟨rfl, rfl⟩)]; rfl
  rw [q1, q2, q3]
  cases hT : T1 n0 with
  | true => simp only [ndc_eq]; rfl
  | false =>
    cases hT2 : T2 n0 n1 with
    | true => simp only [ndc_eq]; rfl
    | false =>
      have hn := T1_le hn0 hT
      have hk := T2_le hn hn1 hT2
      have b1 : Nat.ble (Nat.mul (Nat.add n0 0) 24) 140737488355328 = true := Nat.ble_eq_true_of_le (by show (n0 + 0) * 24 ≤ _; omega)
      have b2 : Nat.ble (Nat.add n0 0) 140737488355328 = true := Nat.ble_eq_true_of_le (by show n0 + 0 ≤ _; omega)
      have b3 : Nat.ble (Nat.add 0 n0) n0 = true := Nat.ble_eq_true_of_le (by show 0 + n0 ≤ _; omega)
      have b4 : Nat.ble n0 140737488355328 = true := Nat.ble_eq_true_of_le (by omega)
      have d1 : Nat.ble (Nat.mul (Nat.add n1 0) 24) 140737488355328 = true := Nat.ble_eq_true_of_le (by show (n1 + 0) * 24 ≤ _; omega)
      have d2 : Nat.ble (Nat.add n1 0) 140737488355328 = true := Nat.ble_eq_true_of_le (by show n1 + 0 ≤ _; omega)
      have d3 : Nat.ble (Nat.add 0 n1) n1 = true := Nat.ble_eq_true_of_le (by show 0 + n1 ≤ _; omega)
      have d4 : Nat.ble n1 140737488355328 = true := Nat.ble_eq_true_of_le (by omega)
      rw [b1, b2, b3, b4, d1, d2, d3, d4]; rfl

set_option maxRecDepth 100000 in
theorem lifted (os : Os) (started : os.Started) (H : Type) (enc : TypeId × Value → H) :
    ReturnsInHanded {} Try.checked os 6 .any (Rows.fnExactSameChimneySpec.pre6 enc Try.prog Try.f6 Rows.fnExactSameChimneyRow.domain false) (Rows.fnExactSameChimneySpec.post enc Try.prog Try.f6 false true false false) := by
  refine returnsInHanded_of_change (C := Try.checked) own started (by kernel_rfl) Try.func6
    (ChangeSpec.witness6 (enc := enc) (C := Try.checked) false ⟨#[], #[.slice none 0 0, .slice none 0 0], []⟩ 8 (by kernel_rfl) (by kernel_rfl) (by kernel_rfl) (by kernel_rfl)) ?_
  intro W base args ds gs before hval0 hW hcnd _
  have hval : ∀ (j : Nat) t v, Try.f6.params[j]? = some t → args[j]? = some v → Value.okWide Try.prog W .any base t v := hval0
  have hW' := hW
  obtain ⟨p, q, hA0, hV, rfl, hfz, hnd⟩ := hW
  have hA : DataW.TrodAll enc Try.prog W 0 (fun _ => true) true Try.f6.params.toList args.toList ds p := hA0
  rw [Try.params6] at hA hval
  obtain ⟨v0, vs0, d0, ds0, p0, q0, hargs, rfl, rfl, h0, r0⟩ := trodAll_cons hA
  obtain ⟨v1, vs1, d1, ds1, p1, q1, rfl, rfl, rfl, h1, r1⟩ := trodAll_cons r0
  obtain ⟨rfl, rfl, rfl⟩ := trodAll_nil r1
  obtain rfl : args = #[v0, v1] := by cases args; simp_all
  obtain ⟨rfl, rfl⟩ := trodVars_none hV
  have k0 := h0
  have lt0 : ∀ x ∈ p0, x.block < W.heap.size := by obtain ⟨m, hm⟩ := k0; exact DataW.trod_lt m _ _ _ hm
  obtain ⟨n0, fd0, gd0, bd0, ρ0, hn0, hM0, w0⟩ := open_rows (sh := [.f32, .f32, .f32, .f32, .int .i64]) Try.underlying47 (elem_struct Try.underlying57 (by kernel_rfl) (by kernel_rfl) (by kernel_rfl)) (by kernel_rfl) (by decide) (hval 0 47 v0 rfl rfl) h0
  have k1 := h1
  have lt1 : ∀ x ∈ p1, x.block < W.heap.size := by obtain ⟨m, hm⟩ := k1; exact DataW.trod_lt m _ _ _ hm
  obtain ⟨n1, fd1, gd1, bd1, ρ1, hn1, hM1, w1⟩ := open_rows (sh := [.f32, .f32, .f32, .f32, .int .i64]) Try.underlying47 (elem_struct Try.underlying57 (by kernel_rfl) (by kernel_rfl) (by kernel_rfl)) (by kernel_rfl) (by decide) (hval 1 47 v1 rfl rfl) h1
  obtain ⟨ρ, hM, w0, w1⟩ := views2 hM0 hM1 w0 w1
  clear hA0 hval0
  refine (walk ρ n0 fd0 gd0 bd0 v0 n1 fd1 gd1 bd1 v1 W hM hn0 w0 hn1 w1).mono fun e W' ⟨he, bel⟩ => ?_
  subst he
  exact ⟨_, rfl, _, _, _, [], _, [], hW', trodAll_mk1 (shut_bool Try.underlying4 _), (trodAll_cons_mk (Below.trod laidOut (by kernel_rfl) (of_decide_eq_true (by kernel_rfl)) k0 bel lt0) (trodAll_cons_mk (Below.trod laidOut (by kernel_rfl) (of_decide_eq_true (by kernel_rfl)) k1 bel lt1) trodAll_mk0)), rfl, bel.frame _, fun h => by cases h⟩

theorem over : Rows.fnExactSameChimneyRow.holds Try.pinned (OpenSpec.ofChange Rows.fnExactSameChimneySpec) :=
  OpenClaim.holds_of_wide 6 Try.f6 rfl rfl rfl rfl rfl rfl rfl ⟨rfl, rfl, rfl, rfl, rfl⟩ rfl rfl rfl rfl rfl (by kernel_rfl) Try.func6 (by kernel_rfl)
    (of_decide_eq_true (by kernel_rfl)) (by unfold Func.isWrapper; first | (rw [if_pos (by decide +kernel)]; kernel_rfl) | (rw [if_neg (by decide +kernel)]; exact ⟨rfl, rfl⟩))
    (fun os started H enc _ => lifted os started H enc)

theorem proved : Rows.FnExactSameChimneySaid := over
end Go.Proofs.Ytgdkcibpjmkbdaa.fnExactSameChimney

