/- For every stove, with however many logs, the law of ValidStove returns true, and the argument reads behind the call as before. No conditions. -/
import Derived.Test.YthepfkoaepjfbaaBs
import Derived.Test.YthepfkoaepjfbaaRows
namespace Go.Proofs.Ythepfkoaepjfbaa.fnExactValidStove
open Go Go.Ab Go.ChangeShapes Go.WideShapes Go.ChangeAt Go.RowKit Go.Proofs Go.Proofs.Ythepfkoaepjfbaa.ab
set_option linter.unusedVariables false
noncomputable def L0 (n : Nat) : Int := cond (decide (IntKind.i64.wrap (1048576 - Int.ofNat n) < 0)) (-1) (IntKind.i64.wrap (1048576 - Int.ofNat n))
noncomputable def T1 (n : Nat) : Bool := decide ((cond (decide (L0 n < 0)) (-1) (L0 n)) < 0)
theorem T1_le {n : Nat} (hn : n ≤ 9223372036854775807) (h : T1 n = false) : n ≤ 1048576 := by
  have h := of_decide_eq_false (show decide ((cond (decide (L0 n < 0)) (-1) (L0 n)) < 0) = false from h)
  have hw : IntKind.i64.wrap (1048576 - Int.ofNat n) = 1048576 - Int.ofNat n := IntWalk.i64_in _ (by show _ ≤ 1048576 - (n : Int) ∧ 1048576 - (n : Int) ≤ _; omega)
  by_cases k : (1048576 - (n : Int)) < 0
  · exfalso
    have e : L0 n = -1 := by
      unfold L0
      rw [hw, decide_eq_true (show (1048576 - Int.ofNat n : Int) < 0 from k)]; rfl
    rw [e] at h
    exact h (by decide)
  · omega
theorem own : ownKnob Try.prog.godebug = none := by kernel_rfl
theorem laidOut : laidOutB Try.prog = true := by kernel_rfl
set_option maxRecDepth 1000000 in
theorem walk (n0 : Nat) (fd0 : Nat → Nat → Nat) (gd0 : Nat → Nat → Int) (bd0 : Nat → Nat → Bool) (ρ : Rho) (f0 : Nat → Nat) (g0 : Nat → Int) (v0 : Value) (w : World) (hn0 : n0 ≤ 9223372036854775807) (hM : Mem NoM w ρ (viewS [⟨[.f32, .f32, .f32, .f32, .f32, .f32, .f32, .f32, .f32, .f32, .f32, .f32, .f32, .f32, .f32, .f32, .f32, .f32], .sym n0, fd0, gd0, bd0, false⟩]) w) (w0 : V ρ (.agg [.vec 0 18 0 (.sym n0), .flt .f32 (f0 0), .flt .f32 (f0 1), .sint .i8 (g0 2), .sint .i64 (g0 3), .flt .f32 (f0 4)]) v0) (hs0 : IntKind.i64.wrap (g0 2) = g0 2) :
    Calls Try.prog 3 #[v0] w fun e w' => e = .returned (.bool true) ∧ Below w.heap.size w w' := by
  have hv : VL ρ [.agg [.vec 0 18 0 (.sym n0), .flt .f32 (f0 0), .flt .f32 (f0 1), .sint .i8 (g0 2), .sint .i64 (g0 3), .flt .f32 (f0 4)]] [v0] := (VL_cons w0 VL_nil)
  have he : lawB (evBody Try.prog GG 300 Try.f3 [.agg [.vec 0 18 0 (.sym n0), .flt .f32 (f0 0), .flt .f32 (f0 1), .sint .i8 (g0 2), .sint .i64 (g0 3), .flt .f32 (f0 4)]] (viewS [(⟨[.f32, .f32, .f32, .f32, .f32, .f32, .f32, .f32, .f32, .f32, .f32, .f32, .f32, .f32, .f32, .f32, .f32, .f32], .sym n0, fd0, gd0, bd0, false⟩ : Vc)])) = some (cond (ndc (T1 n0) true (cond (andN (andN (andN (andN (true) ((cond (andN (true) (((Nat.ble (Nat.mul (Nat.add n0 0) 72) 140737488355328 && Nat.ble (Nat.add n0 0) 140737488355328) && Nat.ble (Nat.add 0 n0) n0))) ((Nat.ble (Nat.add 0 n0) n0)) false))) ((cond (andN (true) (((Nat.ble (Nat.add 0 n0) n0) && decide (IntKind.i64.wrap (g0 2) = g0 2)))) (true) false))) ((cond (andN (true) (((Nat.ble (Nat.mul (Nat.add n0 0) 72) 140737488355328 && Nat.ble (Nat.add n0 0) 140737488355328) && Nat.ble (Nat.add 0 n0) n0))) ((Nat.ble (Nat.add 0 n0) n0)) false))) (((Nat.ble (Nat.add 0 n0) n0) && decide (IntKind.i64.wrap (g0 2) = g0 2)))) (ndc ((stvB (shiftV (cpyR [.f32, .f32, .f32, .f32, .f32, .f32, .f32, .f32, .f32, .f32, .f32, .f32, .f32, .f32, .f32, .f32, .f32, .f32] (.sym n0) 0 (⟨[.f32, .f32, .f32, .f32, .f32, .f32, .f32, .f32, .f32, .f32, .f32, .f32, .f32, .f32, .f32, .f32, .f32, .f32], .sym n0, fd0, gd0, bd0, false⟩ : Vc)) 0 (.sym n0)).fd 0 n0 (f0 0) (f0 1) (f0 4) (g0 2) (g0 3)) != (stvB (shiftV (cpyR [.f32, .f32, .f32, .f32, .f32, .f32, .f32, .f32, .f32, .f32, .f32, .f32, .f32, .f32, .f32, .f32, .f32, .f32] (.sym n0) 0 (⟨[.f32, .f32, .f32, .f32, .f32, .f32, .f32, .f32, .f32, .f32, .f32, .f32, .f32, .f32, .f32, .f32, .f32, .f32], .sym n0, fd0, gd0, bd0, false⟩ : Vc)) 0 (.sym n0)).fd 0 n0 (f0 0) (f0 1) (f0 4) (g0 2) (g0 3))) true (cond (andN (andN (true) ((cond (andN (true) (((Nat.ble (Nat.mul (Nat.add n0 0) 72) 140737488355328 && Nat.ble (Nat.add n0 0) 140737488355328) && Nat.ble (Nat.add 0 n0) n0))) ((Nat.ble (Nat.add 0 n0) n0)) false))) ((cond (andN (true) ((Nat.ble n0 140737488355328 && ((Nat.ble (Nat.add 0 n0) n0) && (Nat.ble (Nat.add 0 n0) n0))))) (true) false))) true false)) false)) (cond (T1 n0) true (cond ((stvB (shiftV (cpyR [.f32, .f32, .f32, .f32, .f32, .f32, .f32, .f32, .f32, .f32, .f32, .f32, .f32, .f32, .f32, .f32, .f32, .f32] (.sym n0) 0 (⟨[.f32, .f32, .f32, .f32, .f32, .f32, .f32, .f32, .f32, .f32, .f32, .f32, .f32, .f32, .f32, .f32, .f32, .f32], .sym n0, fd0, gd0, bd0, false⟩ : Vc)) 0 (.sym n0)).fd 0 n0 (f0 0) (f0 1) (f0 4) (g0 2) (g0 3)) != (stvB (shiftV (cpyR [.f32, .f32, .f32, .f32, .f32, .f32, .f32, .f32, .f32, .f32, .f32, .f32, .f32, .f32, .f32, .f32, .f32, .f32] (.sym n0) 0 (⟨[.f32, .f32, .f32, .f32, .f32, .f32, .f32, .f32, .f32, .f32, .f32, .f32, .f32, .f32, .f32, .f32, .f32, .f32], .sym n0, fd0, gd0, bd0, false⟩ : Vc)) 0 (.sym n0)).fd 0 n0 (f0 0) (f0 1) (f0 4) (g0 2) (g0 3))) false (cond (!(cond (!eqRows elWood (shiftV (cpyR [.f32, .f32, .f32, .f32, .f32, .f32, .f32, .f32, .f32, .f32, .f32, .f32, .f32, .f32, .f32, .f32, .f32, .f32] (.sym n0) 0 (⟨[.f32, .f32, .f32, .f32, .f32, .f32, .f32, .f32, .f32, .f32, .f32, .f32, .f32, .f32, .f32, .f32, .f32, .f32], .sym n0, fd0, gd0, bd0, false⟩ : Vc)) 0 (.sym n0)) (shiftV (cpyR [.f32, .f32, .f32, .f32, .f32, .f32, .f32, .f32, .f32, .f32, .f32, .f32, .f32, .f32, .f32, .f32, .f32, .f32] (.sym n0) 0 (⟨[.f32, .f32, .f32, .f32, .f32, .f32, .f32, .f32, .f32, .f32, .f32, .f32, .f32, .f32, .f32, .f32, .f32, .f32], .sym n0, fd0, gd0, bd0, false⟩ : Vc)) 0 (.sym n0)) 0 0 n0 n0) false (cond (!sO (wide (f0 0)) (wide (f0 0))) false (cond (!sO (wide (f0 1)) (wide (f0 1))) false (cond ((g0 2) != (g0 2)) false (cond ((g0 3) != (g0 3)) false (cond (!sO (wide (f0 4)) (wide (f0 4))) false true))))))) false true))) false) := by kernel_rfl
  refine law_any gg mixed Try.func3 Try.call3 he ?_ hM hv
  have q1 : ((stvB (shiftV (cpyR [.f32, .f32, .f32, .f32, .f32, .f32, .f32, .f32, .f32, .f32, .f32, .f32, .f32, .f32, .f32, .f32, .f32, .f32] (.sym n0) 0 (⟨[.f32, .f32, .f32, .f32, .f32, .f32, .f32, .f32, .f32, .f32, .f32, .f32, .f32, .f32, .f32, .f32, .f32, .f32], .sym n0, fd0, gd0, bd0, false⟩ : Vc)) 0 (.sym n0)).fd 0 n0 (f0 0) (f0 1) (f0 4) (g0 2) (g0 3)) != (stvB (shiftV (cpyR [.f32, .f32, .f32, .f32, .f32, .f32, .f32, .f32, .f32, .f32, .f32, .f32, .f32, .f32, .f32, .f32, .f32, .f32] (.sym n0) 0 (⟨[.f32, .f32, .f32, .f32, .f32, .f32, .f32, .f32, .f32, .f32, .f32, .f32, .f32, .f32, .f32, .f32, .f32, .f32], .sym n0, fd0, gd0, bd0, false⟩ : Vc)) 0 (.sym n0)).fd 0 n0 (f0 0) (f0 1) (f0 4) (g0 2) (g0 3))) = false := by simp
  have q2 : (cond (!eqRows elWood (shiftV (cpyR [.f32, .f32, .f32, .f32, .f32, .f32, .f32, .f32, .f32, .f32, .f32, .f32, .f32, .f32, .f32, .f32, .f32, .f32] (.sym n0) 0 (⟨[.f32, .f32, .f32, .f32, .f32, .f32, .f32, .f32, .f32, .f32, .f32, .f32, .f32, .f32, .f32, .f32, .f32, .f32], .sym n0, fd0, gd0, bd0, false⟩ : Vc)) 0 (.sym n0)) (shiftV (cpyR [.f32, .f32, .f32, .f32, .f32, .f32, .f32, .f32, .f32, .f32, .f32, .f32, .f32, .f32, .f32, .f32, .f32, .f32] (.sym n0) 0 (⟨[.f32, .f32, .f32, .f32, .f32, .f32, .f32, .f32, .f32, .f32, .f32, .f32, .f32, .f32, .f32, .f32, .f32, .f32], .sym n0, fd0, gd0, bd0, false⟩ : Vc)) 0 (.sym n0)) 0 0 n0 n0) false (cond (!sO (wide (f0 0)) (wide (f0 0))) false (cond (!sO (wide (f0 1)) (wide (f0 1))) false (cond ((g0 2) != (g0 2)) false (cond ((g0 3) != (g0 3)) false (cond (!sO (wide (f0 4)) (wide (f0 4))) false true)))))) = true := by
    rw [eqRows_self elWood_self _ _ _ _ _ (fun j hj => ⟨rfl, rfl⟩)]
    simp [sO_self]
  rw [q1, q2]
  cases hT : T1 n0 with
  | true => simp only [ndc_eq]; rfl
  | false =>
    have hn := T1_le hn0 hT
    have b1 : Nat.ble (Nat.mul (Nat.add n0 0) 72) 140737488355328 = true := Nat.ble_eq_true_of_le (by show (n0 + 0) * 72 ≤ _; omega)
    have b2 : Nat.ble (Nat.add n0 0) 140737488355328 = true := Nat.ble_eq_true_of_le (by show n0 + 0 ≤ _; omega)
    have b3 : Nat.ble (Nat.add 0 n0) n0 = true := Nat.ble_eq_true_of_le (by show 0 + n0 ≤ _; omega)
    have b4 : Nat.ble n0 140737488355328 = true := Nat.ble_eq_true_of_le (by omega)
    have b5 : decide (IntKind.i64.wrap (g0 2) = g0 2) = true := decide_eq_true hs0
    rw [b1, b2, b3, b4, b5]; rfl

set_option maxRecDepth 100000 in
theorem lifted (os : Os) (started : os.Started) (H : Type) (enc : TypeId × Value → H) :
    ReturnsInHanded {} Try.checked os 3 .any (Rows.fnExactValidStoveSpec.pre6 enc Try.prog Try.f3 Rows.fnExactValidStoveRow.domain false) (Rows.fnExactValidStoveSpec.post enc Try.prog Try.f3 false true false false) := by
  refine returnsInHanded_of_change (C := Try.checked) own started (by kernel_rfl) Try.func3
    (ChangeSpec.witness6 (enc := enc) (C := Try.checked) false ⟨#[], #[.agg #[.slice none 0 0, .float .f32 0, .float .f32 0, .int .i8 0, .int .i64 0, .float .f32 0]], []⟩ 8 (by kernel_rfl) (by kernel_rfl) (by kernel_rfl) (by kernel_rfl)) ?_
  intro W base args ds gs before hval0 hW hcnd _
  have hval : ∀ (j : Nat) t v, Try.f3.params[j]? = some t → args[j]? = some v → Value.okWide Try.prog W .any base t v := hval0
  have hW' := hW
  obtain ⟨p, q, hA0, hV, rfl, hfz, hnd⟩ := hW
  have hA : DataW.TrodAll enc Try.prog W 0 (fun _ => true) true Try.f3.params.toList args.toList ds p := hA0
  rw [Try.params3] at hA hval
  obtain ⟨v0, vs0, d0, ds0, p0, q0, hargs, rfl, rfl, h0, r0⟩ := trodAll_cons hA
  obtain ⟨rfl, rfl, rfl⟩ := trodAll_nil r0
  obtain rfl : args = #[v0] := by cases args; simp_all
  obtain ⟨rfl, rfl⟩ := trodVars_none hV
  have k0 := h0
  have lt0 : ∀ x ∈ p0, x.block < W.heap.size := by obtain ⟨m, hm⟩ := k0; exact DataW.trod_lt m _ _ _ hm
  have elW : ElemIs Try.prog 42 [.f32, .f32, .f32, .f32, .f32, .f32, .f32, .f32, .f32, .f32, .f32, .f32, .f32, .f32, .f32, .f32, .f32, .f32] := elem_arrs (k := 3) (t := 40) (sh := repC 6 .f32) Try.underlying42 (by kernel_rfl) (by kernel_rfl) (by kernel_rfl) (elem_arr (n := 6) (c := .f32) Try.underlying40 (by kernel_rfl) (by kernel_rfl) (by kernel_rfl))
  obtain ⟨n0, fd0, gd0, bd0, ρ, f0, g0, b0, hn0, hM, w0, hr0⟩ := open_st (t0 := 22) (e := 42) (ts := [23, 23, 24, 2, 23]) (cks := [.f32, .f32, .int .i8, .int .i64, .f32]) (sh := [.f32, .f32, .f32, .f32, .f32, .f32, .f32, .f32, .f32, .f32, .f32, .f32, .f32, .f32, .f32, .f32, .f32, .f32]) Try.underlying26 (by kernel_rfl) (by kernel_rfl) (by kernel_rfl) (by kernel_rfl) Try.underlying22 elW (by kernel_rfl) (by decide) (by kernel_rfl) (hval 0 26 v0 rfl rfl) h0
  have hs0 : IntKind.i64.wrap (g0 2) = g0 2 := by
    obtain ⟨h1, h2⟩ := hr0 2 24 .i8 rfl Try.underlying24
    have h1 : -128 ≤ g0 2 := h1
    have h2 : g0 2 ≤ 127 := h2
    exact IntWalk.i64_in _ (by omega)
  clear hA0 hval0
  refine (walk n0 fd0 gd0 bd0 ρ f0 g0 v0 W hn0 hM w0 hs0).mono fun e W' ⟨he, bel⟩ => ?_
  subst he
  exact ⟨_, rfl, _, _, _, [], _, [], hW', trodAll_mk1 (shut_bool Try.underlying4 _), (trodAll_cons_mk (Below.trod laidOut (by kernel_rfl) (of_decide_eq_true (by kernel_rfl)) k0 bel lt0) trodAll_mk0), rfl, bel.frame _, fun h => by cases h⟩

theorem over : Rows.fnExactValidStoveRow.holds Try.pinned (OpenSpec.ofChange Rows.fnExactValidStoveSpec) :=
  OpenClaim.holds_of_wide 3 Try.f3 rfl rfl rfl rfl rfl rfl rfl ⟨rfl, rfl, rfl, rfl, rfl⟩ rfl rfl rfl rfl rfl (by kernel_rfl) Try.func3 (by kernel_rfl)
    (of_decide_eq_true (by kernel_rfl)) (by unfold Func.isWrapper; first | (rw [if_pos (by decide +kernel)]; kernel_rfl) | (rw [if_neg (by decide +kernel)]; exact ⟨rfl, rfl⟩))
    (fun os started H enc _ => lifted os started H enc)

theorem proved : Rows.FnExactValidStoveSaid := over
end Go.Proofs.Ythepfkoaepjfbaa.fnExactValidStove

