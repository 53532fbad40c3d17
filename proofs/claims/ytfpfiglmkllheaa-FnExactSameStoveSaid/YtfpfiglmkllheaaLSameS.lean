/- For every two stoves, of whatever many logs, the law of SameStove returns true, and the arguments read behind the call as before. No conditions. -/
import Derived.Test.YtfpfiglmkllheaaBnl
import Derived.Test.YtfpfiglmkllheaaRows
namespace Go.Proofs.Ytfpfiglmkllheaa.fnExactSameStove
open Go Go.Ab Go.ChangeShapes Go.WideShapes Go.ChangeAt Go.RowKit Go.Proofs Go.Proofs.Ytfpfiglmkllheaa.ab
set_option linter.unusedVariables false
noncomputable def L0 (n : Nat) : Int := cond (decide (IntKind.i64.wrap (1048576 - Int.ofNat n) < 0)) (-1) (IntKind.i64.wrap (1048576 - Int.ofNat n))
noncomputable def L1 (n : Nat) : Int := cond (decide (L0 n < 0)) (-1) (L0 n)
noncomputable def T1 (n : Nat) : Bool := decide (L1 n < 0)
noncomputable def M0 (n m : Nat) : Int := cond (decide (IntKind.i64.wrap (L1 n - Int.ofNat m) < 0)) (-1) (IntKind.i64.wrap (L1 n - Int.ofNat m))
noncomputable def M1 (n m : Nat) : Int := cond (decide (M0 n m < 0)) (-1) (M0 n m)
noncomputable def T2 (n m : Nat) : Bool := decide (M1 n m < 0)
theorem hold (x : Int) : (cond (decide (x < 0)) (-1) x < 0) ↔ x < 0 := by
  by_cases h : x < 0
  · rw [decide_eq_true h]; exact ⟨fun _ => h, fun _ => (show (-1 : Int) < 0 by decide)⟩
  · rw [decide_eq_false h]; exact Iff.rfl
theorem T1_le {n : Nat} (hn : n ≤ 9223372036854775807) (h : T1 n = false) : n ≤ 1048576 ∧ L1 n = 1048576 - Int.ofNat n := by
  have hw : IntKind.i64.wrap (1048576 - Int.ofNat n) = 1048576 - Int.ofNat n := IntWalk.i64_in _ (by show _ ≤ 1048576 - (n : Int) ∧ 1048576 - (n : Int) ≤ _; omega)
  unfold T1 at h
  have h := of_decide_eq_false h
  unfold L1 at h ⊢
  rw [hold] at h
  have e0 : L0 n = 1048576 - Int.ofNat n := by
    unfold L0 at h ⊢
    rw [hold] at h
    rw [hw] at h ⊢
    rw [decide_eq_false h]; rfl
  rw [decide_eq_false h]
  rw [e0] at h ⊢
  have : ¬ (1048576 - (n : Int) < 0) := h
  exact ⟨by omega, rfl⟩
theorem T2_le {n m : Nat} (hn : n ≤ 1048576) (hl : L1 n = 1048576 - Int.ofNat n) (hm : m ≤ 9223372036854775807) (h : T2 n m = false) : m ≤ 1048576 := by
  have hw : IntKind.i64.wrap (1048576 - Int.ofNat n - Int.ofNat m) = 1048576 - Int.ofNat n - Int.ofNat m := IntWalk.i64_in _ (by show _ ≤ 1048576 - (n : Int) - (m : Int) ∧ 1048576 - (n : Int) - (m : Int) ≤ _; omega)
  unfold T2 at h
  have h := of_decide_eq_false h
  unfold M1 at h
  rw [hold] at h
  unfold M0 at h
  rw [hold, hl, hw] at h
  have : ¬ (1048576 - (n : Int) - (m : Int) < 0) := h
  omega
theorem own : ownKnob Try.prog.godebug = none := by kernel_rfl
theorem laidOut : laidOutB Try.prog = true := by kernel_rfl
set_option maxRecDepth 1000000 in
theorem walk (ρ : Rho) (n0 : Nat) (fd0 : Nat → Nat → Nat) (gd0 : Nat → Nat → Int) (bd0 : Nat → Nat → Bool) (f0 : Nat → Nat) (g0 : Nat → Int) (v0 : Value) (n1 : Nat) (fd1 : Nat → Nat → Nat) (gd1 : Nat → Nat → Int) (bd1 : Nat → Nat → Bool) (f1 : Nat → Nat) (g1 : Nat → Int) (v1 : Value) (w : World) (hM : Mem NoM w ρ (viewS [(⟨[.f32, .f32, .f32, .f32, .f32, .f32, .f32, .f32, .f32, .f32, .f32, .f32, .f32, .f32, .f32, .f32, .f32, .f32], .sym n0, fd0, gd0, bd0, false⟩ : Vc), (⟨[.f32, .f32, .f32, .f32, .f32, .f32, .f32, .f32, .f32, .f32, .f32, .f32, .f32, .f32, .f32, .f32, .f32, .f32], .sym n1, fd1, gd1, bd1, false⟩ : Vc)]) w) (hn0 : n0 ≤ 9223372036854775807) (w0 : V ρ (.agg [.vec 0 18 0 (.sym n0), .flt .f32 (f0 0), .flt .f32 (f0 1), .sint .i8 (g0 2), .sint .i64 (g0 3), .flt .f32 (f0 4)]) v0) (hn1 : n1 ≤ 9223372036854775807) (w1 : V ρ (.agg [.vec 1 18 0 (.sym n1), .flt .f32 (f1 0), .flt .f32 (f1 1), .sint .i8 (g1 2), .sint .i64 (g1 3), .flt .f32 (f1 4)]) v1) :
    Calls Try.prog 6 #[v0, v1] w fun e w' => e = .returned (.bool true) ∧ Below w.heap.size w w' := by
  have hv : VL ρ [.agg [.vec 0 18 0 (.sym n0), .flt .f32 (f0 0), .flt .f32 (f0 1), .sint .i8 (g0 2), .sint .i64 (g0 3), .flt .f32 (f0 4)], .agg [.vec 1 18 0 (.sym n1), .flt .f32 (f1 0), .flt .f32 (f1 1), .sint .i8 (g1 2), .sint .i64 (g1 3), .flt .f32 (f1 4)]] [v0, v1] := (VL_cons w0 (VL_cons w1 VL_nil))
  have he : lawB (evBody Try.prog GG 300 Try.f6 [.agg [.vec 0 18 0 (.sym n0), .flt .f32 (f0 0), .flt .f32 (f0 1), .sint .i8 (g0 2), .sint .i64 (g0 3), .flt .f32 (f0 4)], .agg [.vec 1 18 0 (.sym n1), .flt .f32 (f1 0), .flt .f32 (f1 1), .sint .i8 (g1 2), .sint .i64 (g1 3), .flt .f32 (f1 4)]] (viewS [(⟨[.f32, .f32, .f32, .f32, .f32, .f32, .f32, .f32, .f32, .f32, .f32, .f32, .f32, .f32, .f32, .f32, .f32, .f32], .sym n0, fd0, gd0, bd0, false⟩ : Vc), (⟨[.f32, .f32, .f32, .f32, .f32, .f32, .f32, .f32, .f32, .f32, .f32, .f32, .f32, .f32, .f32, .f32, .f32, .f32], .sym n1, fd1, gd1, bd1, false⟩ : Vc)])) = some (cond (ndc (T1 n0) true (ndc (T2 n0 n1) true (cond (andN (andN (andN (andN (andN (andN true (cond (andN true ((Nat.ble (Nat.mul (Nat.add n0 0) 72) 140737488355328 && Nat.ble (Nat.add n0 0) 140737488355328) && Nat.ble (Nat.add 0 n0) n0)) (Nat.ble (Nat.add 0 n0) n0) false)) (cond (andN true ((Nat.ble (Nat.mul (Nat.add n1 0) 72) 140737488355328 && Nat.ble (Nat.add n1 0) 140737488355328) && Nat.ble (Nat.add 0 n1) n1)) (Nat.ble (Nat.add 0 n1) n1) false)) (Nat.ble n0 140737488355328 && (Nat.ble (Nat.add 0 n0) n0 && Nat.ble (Nat.add 0 n1) n1))) (cond (andN true ((Nat.ble (Nat.mul (Nat.add n0 0) 72) 140737488355328 && Nat.ble (Nat.add n0 0) 140737488355328) && Nat.ble (Nat.add 0 n0) n0)) (Nat.ble (Nat.add 0 n0) n0) false)) (cond (andN true ((Nat.ble (Nat.mul (Nat.add n1 0) 72) 140737488355328 && Nat.ble (Nat.add n1 0) 140737488355328) && Nat.ble (Nat.add 0 n1) n1)) (Nat.ble (Nat.add 0 n1) n1) false)) (cond (cond (andN true (Nat.ble n0 140737488355328 && (Nat.ble (Nat.add 0 n0) n0 && Nat.ble (Nat.add 0 n1) n1))) true false) true false)) (ndc (ssI (shiftV (cpyR [.f32, .f32, .f32, .f32, .f32, .f32, .f32, .f32, .f32, .f32, .f32, .f32, .f32, .f32, .f32, .f32, .f32, .f32] (.sym n0) 0 (⟨[.f32, .f32, .f32, .f32, .f32, .f32, .f32, .f32, .f32, .f32, .f32, .f32, .f32, .f32, .f32, .f32, .f32, .f32], .sym n0, fd0, gd0, bd0, false⟩ : Vc)) 0 (.sym n0)) (shiftV (cpyR [.f32, .f32, .f32, .f32, .f32, .f32, .f32, .f32, .f32, .f32, .f32, .f32, .f32, .f32, .f32, .f32, .f32, .f32] (.sym n1) 0 (⟨[.f32, .f32, .f32, .f32, .f32, .f32, .f32, .f32, .f32, .f32, .f32, .f32, .f32, .f32, .f32, .f32, .f32, .f32], .sym n1, fd1, gd1, bd1, false⟩ : Vc)) 0 (.sym n1)) 0 0 n0 n1 (f0 0) (f1 0) (f0 1) (f1 1) (f0 4) (f1 4) (g0 2) (g1 2) (g0 3) (g1 3) != ssV (shiftV (shiftV (cpyR [.f32, .f32, .f32, .f32, .f32, .f32, .f32, .f32, .f32, .f32, .f32, .f32, .f32, .f32, .f32, .f32, .f32, .f32] (.sym n0) 0 (⟨[.f32, .f32, .f32, .f32, .f32, .f32, .f32, .f32, .f32, .f32, .f32, .f32, .f32, .f32, .f32, .f32, .f32, .f32], .sym n0, fd0, gd0, bd0, false⟩ : Vc)) 0 (.sym n0)) 0 (.sym n0)) (shiftV (shiftV (cpyR [.f32, .f32, .f32, .f32, .f32, .f32, .f32, .f32, .f32, .f32, .f32, .f32, .f32, .f32, .f32, .f32, .f32, .f32] (.sym n1) 0 (⟨[.f32, .f32, .f32, .f32, .f32, .f32, .f32, .f32, .f32, .f32, .f32, .f32, .f32, .f32, .f32, .f32, .f32, .f32], .sym n1, fd1, gd1, bd1, false⟩ : Vc)) 0 (.sym n1)) 0 (.sym n1)) 0 0 n0 n1 (f0 0) (f1 0) (f0 1) (f1 1) (f0 4) (f1 4) (g0 2) (g1 2) (g0 3) (g1 3)) true (cond (andN (andN true (cond (andN true ((Nat.ble (Nat.mul (Nat.add n0 0) 72) 140737488355328 && Nat.ble (Nat.add n0 0) 140737488355328) && Nat.ble (Nat.add 0 n0) n0)) (Nat.ble (Nat.add 0 n0) n0) false)) (cond (andN true (Nat.ble n0 140737488355328 && (Nat.ble (Nat.add 0 n0) n0 && Nat.ble (Nat.add 0 n0) n0))) true false)) (ndc (!(cond (!eqRows elWood (shiftV (cpyR [.f32, .f32, .f32, .f32, .f32, .f32, .f32, .f32, .f32, .f32, .f32, .f32, .f32, .f32, .f32, .f32, .f32, .f32] (.sym n0) 0 (⟨[.f32, .f32, .f32, .f32, .f32, .f32, .f32, .f32, .f32, .f32, .f32, .f32, .f32, .f32, .f32, .f32, .f32, .f32], .sym n0, fd0, gd0, bd0, false⟩ : Vc)) 0 (.sym n0)) (shiftV (cpyR [.f32, .f32, .f32, .f32, .f32, .f32, .f32, .f32, .f32, .f32, .f32, .f32, .f32, .f32, .f32, .f32, .f32, .f32] (.sym n0) 0 (⟨[.f32, .f32, .f32, .f32, .f32, .f32, .f32, .f32, .f32, .f32, .f32, .f32, .f32, .f32, .f32, .f32, .f32, .f32], .sym n0, fd0, gd0, bd0, false⟩ : Vc)) 0 (.sym n0)) 0 0 n0 n0) false (cond (!sO (wide (f0 0)) (wide (f0 0))) false (cond (!sO (wide (f0 1)) (wide (f0 1))) false (cond (g0 2 != g0 2) false (cond (g0 3 != g0 3) false (cond (!sO (wide (f0 4)) (wide (f0 4))) false true))))))) true (cond (andN (andN true (cond (andN true ((Nat.ble (Nat.mul (Nat.add n1 0) 72) 140737488355328 && Nat.ble (Nat.add n1 0) 140737488355328) && Nat.ble (Nat.add 0 n1) n1)) (Nat.ble (Nat.add 0 n1) n1) false)) (cond (andN true (Nat.ble n1 140737488355328 && (Nat.ble (Nat.add 0 n1) n1 && Nat.ble (Nat.add 0 n1) n1))) true false)) true false)) false)) false))) (cond (T1 n0) true (cond (T2 n0 n1) true (cond (ssI (shiftV (cpyR [.f32, .f32, .f32, .f32, .f32, .f32, .f32, .f32, .f32, .f32, .f32, .f32, .f32, .f32, .f32, .f32, .f32, .f32] (.sym n0) 0 (⟨[.f32, .f32, .f32, .f32, .f32, .f32, .f32, .f32, .f32, .f32, .f32, .f32, .f32, .f32, .f32, .f32, .f32, .f32], .sym n0, fd0, gd0, bd0, false⟩ : Vc)) 0 (.sym n0)) (shiftV (cpyR [.f32, .f32, .f32, .f32, .f32, .f32, .f32, .f32, .f32, .f32, .f32, .f32, .f32, .f32, .f32, .f32, .f32, .f32] (.sym n1) 0 (⟨[.f32, .f32, .f32, .f32, .f32, .f32, .f32, .f32, .f32, .f32, .f32, .f32, .f32, .f32, .f32, .f32, .f32, .f32], .sym n1, fd1, gd1, bd1, false⟩ : Vc)) 0 (.sym n1)) 0 0 n0 n1 (f0 0) (f1 0) (f0 1) (f1 1) (f0 4) (f1 4) (g0 2) (g1 2) (g0 3) (g1 3) != ssV (shiftV (shiftV (cpyR [.f32, .f32, .f32, .f32, .f32, .f32, .f32, .f32, .f32, .f32, .f32, .f32, .f32, .f32, .f32, .f32, .f32, .f32] (.sym n0) 0 (⟨[.f32, .f32, .f32, .f32, .f32, .f32, .f32, .f32, .f32, .f32, .f32, .f32, .f32, .f32, .f32, .f32, .f32, .f32], .sym n0, fd0, gd0, bd0, false⟩ : Vc)) 0 (.sym n0)) 0 (.sym n0)) (shiftV (shiftV (cpyR [.f32, .f32, .f32, .f32, .f32, .f32, .f32, .f32, .f32, .f32, .f32, .f32, .f32, .f32, .f32, .f32, .f32, .f32] (.sym n1) 0 (⟨[.f32, .f32, .f32, .f32, .f32, .f32, .f32, .f32, .f32, .f32, .f32, .f32, .f32, .f32, .f32, .f32, .f32, .f32], .sym n1, fd1, gd1, bd1, false⟩ : Vc)) 0 (.sym n1)) 0 (.sym n1)) 0 0 n0 n1 (f0 0) (f1 0) (f0 1) (f1 1) (f0 4) (f1 4) (g0 2) (g1 2) (g0 3) (g1 3)) false (cond (!(cond (!eqRows elWood (shiftV (cpyR [.f32, .f32, .f32, .f32, .f32, .f32, .f32, .f32, .f32, .f32, .f32, .f32, .f32, .f32, .f32, .f32, .f32, .f32] (.sym n0) 0 (⟨[.f32, .f32, .f32, .f32, .f32, .f32, .f32, .f32, .f32, .f32, .f32, .f32, .f32, .f32, .f32, .f32, .f32, .f32], .sym n0, fd0, gd0, bd0, false⟩ : Vc)) 0 (.sym n0)) (shiftV (cpyR [.f32, .f32, .f32, .f32, .f32, .f32, .f32, .f32, .f32, .f32, .f32, .f32, .f32, .f32, .f32, .f32, .f32, .f32] (.sym n0) 0 (⟨[.f32, .f32, .f32, .f32, .f32, .f32, .f32, .f32, .f32, .f32, .f32, .f32, .f32, .f32, .f32, .f32, .f32, .f32], .sym n0, fd0, gd0, bd0, false⟩ : Vc)) 0 (.sym n0)) 0 0 n0 n0) false (cond (!sO (wide (f0 0)) (wide (f0 0))) false (cond (!sO (wide (f0 1)) (wide (f0 1))) false (cond (g0 2 != g0 2) false (cond (g0 3 != g0 3) false (cond (!sO (wide (f0 4)) (wide (f0 4))) false true))))))) false (cond (!(cond (!eqRows elWood (shiftV (cpyR [.f32, .f32, .f32, .f32, .f32, .f32, .f32, .f32, .f32, .f32, .f32, .f32, .f32, .f32, .f32, .f32, .f32, .f32] (.sym n1) 0 (⟨[.f32, .f32, .f32, .f32, .f32, .f32, .f32, .f32, .f32, .f32, .f32, .f32, .f32, .f32, .f32, .f32, .f32, .f32], .sym n1, fd1, gd1, bd1, false⟩ : Vc)) 0 (.sym n1)) (shiftV (cpyR [.f32, .f32, .f32, .f32, .f32, .f32, .f32, .f32, .f32, .f32, .f32, .f32, .f32, .f32, .f32, .f32, .f32, .f32] (.sym n1) 0 (⟨[.f32, .f32, .f32, .f32, .f32, .f32, .f32, .f32, .f32, .f32, .f32, .f32, .f32, .f32, .f32, .f32, .f32, .f32], .sym n1, fd1, gd1, bd1, false⟩ : Vc)) 0 (.sym n1)) 0 0 n1 n1) false (cond (!sO (wide (f1 0)) (wide (f1 0))) false (cond (!sO (wide (f1 1)) (wide (f1 1))) false (cond (g1 2 != g1 2) false (cond (g1 3 != g1 3) false (cond (!sO (wide (f1 4)) (wide (f1 4))) false true))))))) false true))))) false) := by kernel_rfl
  refine law_any gg mixed Try.func6 Try.call6 he ?_ hM hv
  have q1 : (ssI (shiftV (cpyR [.f32, .f32, .f32, .f32, .f32, .f32, .f32, .f32, .f32, .f32, .f32, .f32, .f32, .f32, .f32, .f32, .f32, .f32] (.sym n0) 0 (⟨[.f32, .f32, .f32, .f32, .f32, .f32, .f32, .f32, .f32, .f32, .f32, .f32, .f32, .f32, .f32, .f32, .f32, .f32], .sym n0, fd0, gd0, bd0, false⟩ : Vc)) 0 (.sym n0)) (shiftV (cpyR [.f32, .f32, .f32, .f32, .f32, .f32, .f32, .f32, .f32, .f32, .f32, .f32, .f32, .f32, .f32, .f32, .f32, .f32] (.sym n1) 0 (⟨[.f32, .f32, .f32, .f32, .f32, .f32, .f32, .f32, .f32, .f32, .f32, .f32, .f32, .f32, .f32, .f32, .f32, .f32], .sym n1, fd1, gd1, bd1, false⟩ : Vc)) 0 (.sym n1)) 0 0 n0 n1 (f0 0) (f1 0) (f0 1) (f1 1) (f0 4) (f1 4) (g0 2) (g1 2) (g0 3) (g1 3) != ssV (shiftV (shiftV (cpyR [.f32, .f32, .f32, .f32, .f32, .f32, .f32, .f32, .f32, .f32, .f32, .f32, .f32, .f32, .f32, .f32, .f32, .f32] (.sym n0) 0 (⟨[.f32, .f32, .f32, .f32, .f32, .f32, .f32, .f32, .f32, .f32, .f32, .f32, .f32, .f32, .f32, .f32, .f32, .f32], .sym n0, fd0, gd0, bd0, false⟩ : Vc)) 0 (.sym n0)) 0 (.sym n0)) (shiftV (shiftV (cpyR [.f32, .f32, .f32, .f32, .f32, .f32, .f32, .f32, .f32, .f32, .f32, .f32, .f32, .f32, .f32, .f32, .f32, .f32] (.sym n1) 0 (⟨[.f32, .f32, .f32, .f32, .f32, .f32, .f32, .f32, .f32, .f32, .f32, .f32, .f32, .f32, .f32, .f32, .f32, .f32], .sym n1, fd1, gd1, bd1, false⟩ : Vc)) 0 (.sym n1)) 0 (.sym n1)) 0 0 n0 n1 (f0 0) (f1 0) (f0 1) (f1 1) (f0 4) (f1 4) (g0 2) (g1 2) (g0 3) (g1 3)) = false := by
    have e : ssI (shiftV (cpyR [.f32, .f32, .f32, .f32, .f32, .f32, .f32, .f32, .f32, .f32, .f32, .f32, .f32, .f32, .f32, .f32, .f32, .f32] (.sym n0) 0 (⟨[.f32, .f32, .f32, .f32, .f32, .f32, .f32, .f32, .f32, .f32, .f32, .f32, .f32, .f32, .f32, .f32, .f32, .f32], .sym n0, fd0, gd0, bd0, false⟩ : Vc)) 0 (.sym n0)) (shiftV (cpyR [.f32, .f32, .f32, .f32, .f32, .f32, .f32, .f32, .f32, .f32, .f32, .f32, .f32, .f32, .f32, .f32, .f32, .f32] (.sym n1) 0 (⟨[.f32, .f32, .f32, .f32, .f32, .f32, .f32, .f32, .f32, .f32, .f32, .f32, .f32, .f32, .f32, .f32, .f32, .f32], .sym n1, fd1, gd1, bd1, false⟩ : Vc)) 0 (.sym n1)) 0 0 n0 n1 (f0 0) (f1 0) (f0 1) (f1 1) (f0 4) (f1 4) (g0 2) (g1 2) (g0 3) (g1 3) = ssV (shiftV (shiftV (cpyR [.f32, .f32, .f32, .f32, .f32, .f32, .f32, .f32, .f32, .f32, .f32, .f32, .f32, .f32, .f32, .f32, .f32, .f32] (.sym n0) 0 (⟨[.f32, .f32, .f32, .f32, .f32, .f32, .f32, .f32, .f32, .f32, .f32, .f32, .f32, .f32, .f32, .f32, .f32, .f32], .sym n0, fd0, gd0, bd0, false⟩ : Vc)) 0 (.sym n0)) 0 (.sym n0)) (shiftV (shiftV (cpyR [.f32, .f32, .f32, .f32, .f32, .f32, .f32, .f32, .f32, .f32, .f32, .f32, .f32, .f32, .f32, .f32, .f32, .f32] (.sym n1) 0 (⟨[.f32, .f32, .f32, .f32, .f32, .f32, .f32, .f32, .f32, .f32, .f32, .f32, .f32, .f32, .f32, .f32, .f32, .f32], .sym n1, fd1, gd1, bd1, false⟩ : Vc)) 0 (.sym n1)) 0 (.sym n1)) 0 0 n0 n1 (f0 0) (f1 0) (f0 1) (f1 1) (f0 4) (f1 4) (g0 2) (g1 2) (g0 3) (g1 3) := by
      rw [ss_eq]
      refine ssV_congr (fun j => ?_)
      have z : ∀ k, Nat.add 0 k = k := fun k => Nat.zero_add k
      show elKW (fd0 (Nat.add 0 (Nat.add 0 (Nat.add 0 j)))) (gd0 (Nat.add 0 (Nat.add 0 (Nat.add 0 j)))) (fd1 (Nat.add 0 (Nat.add 0 (Nat.add 0 j)))) (gd1 (Nat.add 0 (Nat.add 0 (Nat.add 0 j)))) = elKW (fd0 (Nat.add 0 (Nat.add 0 (Nat.add 0 (Nat.add 0 j))))) (gd0 (Nat.add 0 (Nat.add 0 (Nat.add 0 (Nat.add 0 j))))) (fd1 (Nat.add 0 (Nat.add 0 (Nat.add 0 (Nat.add 0 j))))) (gd1 (Nat.add 0 (Nat.add 0 (Nat.add 0 (Nat.add 0 j)))))
      simp only [z]
    rw [e]; simp
  have q2 : (cond (!eqRows elWood (shiftV (cpyR [.f32, .f32, .f32, .f32, .f32, .f32, .f32, .f32, .f32, .f32, .f32, .f32, .f32, .f32, .f32, .f32, .f32, .f32] (.sym n0) 0 (⟨[.f32, .f32, .f32, .f32, .f32, .f32, .f32, .f32, .f32, .f32, .f32, .f32, .f32, .f32, .f32, .f32, .f32, .f32], .sym n0, fd0, gd0, bd0, false⟩ : Vc)) 0 (.sym n0)) (shiftV (cpyR [.f32, .f32, .f32, .f32, .f32, .f32, .f32, .f32, .f32, .f32, .f32, .f32, .f32, .f32, .f32, .f32, .f32, .f32] (.sym n0) 0 (⟨[.f32, .f32, .f32, .f32, .f32, .f32, .f32, .f32, .f32, .f32, .f32, .f32, .f32, .f32, .f32, .f32, .f32, .f32], .sym n0, fd0, gd0, bd0, false⟩ : Vc)) 0 (.sym n0)) 0 0 n0 n0) false (cond (!sO (wide (f0 0)) (wide (f0 0))) false (cond (!sO (wide (f0 1)) (wide (f0 1))) false (cond (g0 2 != g0 2) false (cond (g0 3 != g0 3) false (cond (!sO (wide (f0 4)) (wide (f0 4))) false true)))))) = true := by rw [eqRows_self elWood_self _ _ _ _ _ (fun j hj => ⟨rfl, rfl⟩)]; simp [sO_self]
  have q3 : (cond (!eqRows elWood (shiftV (cpyR [.f32, .f32, .f32, .f32, .f32, .f32, .f32, .f32, .f32, .f32, .f32, .f32, .f32, .f32, .f32, .f32, .f32, .f32] (.sym n1) 0 (⟨[.f32, .f32, .f32, .f32, .f32, .f32, .f32, .f32, .f32, .f32, .f32, .f32, .f32, .f32, .f32, .f32, .f32, .f32], .sym n1, fd1, gd1, bd1, false⟩ : Vc)) 0 (.sym n1)) (shiftV (cpyR [.f32, .f32, .f32, .f32, .f32, .f32, .f32, .f32, .f32, .f32, .f32, .f32, .f32, .f32, .f32, .f32, .f32, .f32] (.sym n1) 0 (⟨[.f32, .f32, .f32, .f32, .f32, .f32, .f32, .f32, .f32, .f32, .f32, .f32, .f32, .f32, .f32, .f32, .f32, .f32], .sym n1, fd1, gd1, bd1, false⟩ : Vc)) 0 (.sym n1)) 0 0 n1 n1) false (cond (!sO (wide (f1 0)) (wide (f1 0))) false (cond (!sO (wide (f1 1)) (wide (f1 1))) false (cond (g1 2 != g1 2) false (cond (g1 3 != g1 3) false (cond (!sO (wide (f1 4)) (wide (f1 4))) false true)))))) = true := by rw [eqRows_self elWood_self _ _ _ _ _ (fun j hj => ⟨rfl, rfl⟩)]; simp [sO_self]
  rw [q1, q2, q3]
  cases hT : T1 n0 with
  | true => simp only [ndc_eq]; rfl
  | false =>
    cases hT2 : T2 n0 n1 with
    | true => simp only [ndc_eq]; rfl
    | false =>
      obtain ⟨hn, hl⟩ := T1_le hn0 hT
      have hk := T2_le hn hl hn1 hT2
      have b1 : Nat.ble (Nat.mul (Nat.add n0 0) 72) 140737488355328 = true := Nat.ble_eq_true_of_le (by show (n0 + 0) * 72 ≤ _; omega)
      have b2 : Nat.ble (Nat.add n0 0) 140737488355328 = true := Nat.ble_eq_true_of_le (by show n0 + 0 ≤ _; omega)
      have b3 : Nat.ble (Nat.add 0 n0) n0 = true := Nat.ble_eq_true_of_le (by show 0 + n0 ≤ _; omega)
      have b4 : Nat.ble n0 140737488355328 = true := Nat.ble_eq_true_of_le (by omega)
      have d1 : Nat.ble (Nat.mul (Nat.add n1 0) 72) 140737488355328 = true := Nat.ble_eq_true_of_le (by show (n1 + 0) * 72 ≤ _; omega)
      have d2 : Nat.ble (Nat.add n1 0) 140737488355328 = true := Nat.ble_eq_true_of_le (by show n1 + 0 ≤ _; omega)
      have d3 : Nat.ble (Nat.add 0 n1) n1 = true := Nat.ble_eq_true_of_le (by show 0 + n1 ≤ _; omega)
      have d4 : Nat.ble n1 140737488355328 = true := Nat.ble_eq_true_of_le (by omega)
      rw [b1, b2, b3, b4, d1, d2, d3, d4]; rfl

set_option maxRecDepth 100000 in
theorem lifted (os : Os) (started : os.Started) (H : Type) (enc : TypeId × Value → H) :
    ReturnsInHanded {} Try.checked os 6 .any (Rows.fnExactSameStoveSpec.pre6 enc Try.prog Try.f6 Rows.fnExactSameStoveRow.domain false) (Rows.fnExactSameStoveSpec.post enc Try.prog Try.f6 false true false false) := by
  refine returnsInHanded_of_change (C := Try.checked) own started (by kernel_rfl) Try.func6
    (ChangeSpec.witness6 (enc := enc) (C := Try.checked) false ⟨#[], #[.agg #[.slice none 0 0, .float .f32 0, .float .f32 0, .int .i8 0, .int .i64 0, .float .f32 0], .agg #[.slice none 0 0, .float .f32 0, .float .f32 0, .int .i8 0, .int .i64 0, .float .f32 0]], []⟩ 8 (by kernel_rfl) (by kernel_rfl) (by kernel_rfl) (by kernel_rfl)) ?_
  intro W base args ds gs before hval0 hW hcnd _
  have hval : ∀ (j : Nat) t v, Try.f6.params[j]? = some t → args[j]? = some v → Value.okWide Try.prog W .any base t v := hval0
  have hW' := hW
  obtain ⟨p, q, hA0, hV, rfl, hfz, hnd⟩ := hW
  have hA : DataW.TrodAll enc Try.prog W 0 (fun _ => true) true Try.f6.params.toList args.toList ds p := hA0
  rw [Try.params6] at hA hval
  obtain ⟨v0, vs0, d0, ds0, p0, q0, hargs, rfl, rfl, h0, r0⟩ := trodAll_cons hA
  obtain ⟨v1, vs1, d1, ds1, p1, q1, rfl, rfl, rfl, h1, r1⟩ := trodAll_cons r0
  obtain ⟨rfl, rfl, rfl⟩ := trodAll_nil r1
  obtain rfl : args = #[v0, v1] := by cases args; simp_all
  obtain ⟨rfl, rfl⟩ := trodVars_none hV
  have elW : ElemIs Try.prog 25 [.f32, .f32, .f32, .f32, .f32, .f32, .f32, .f32, .f32, .f32, .f32, .f32, .f32, .f32, .f32, .f32, .f32, .f32] := elem_arrs (k := 3) (t := 23) (sh := repC 6 .f32) Try.underlying25 (by kernel_rfl) (by kernel_rfl) (by kernel_rfl) (elem_arr Try.underlying23 (by kernel_rfl) (by kernel_rfl) (by kernel_rfl))
  have k0 := h0
  have lt0 : ∀ x ∈ p0, x.block < W.heap.size := by obtain ⟨m, hm⟩ := k0; exact DataW.trod_lt m _ _ _ hm
  obtain ⟨n0, fd0, gd0, bd0, ρ0, f0, g0, b0, hn0, hM0, w0, hr0⟩ := open_st (t0 := 37) (e := 25) (ts := [22, 22, 45, 2, 22]) (cks := [.f32, .f32, .int .i8, .int .i64, .f32]) (sh := [.f32, .f32, .f32, .f32, .f32, .f32, .f32, .f32, .f32, .f32, .f32, .f32, .f32, .f32, .f32, .f32, .f32, .f32]) Try.underlying47 (by kernel_rfl) (by kernel_rfl) (by kernel_rfl) (by kernel_rfl) Try.underlying37 elW (by kernel_rfl) (by decide) (by kernel_rfl) (hval 0 47 v0 rfl rfl) h0
  have k1 := h1
  have lt1 : ∀ x ∈ p1, x.block < W.heap.size := by obtain ⟨m, hm⟩ := k1; exact DataW.trod_lt m _ _ _ hm
  obtain ⟨n1, fd1, gd1, bd1, ρ1, f1, g1, b1, hn1, hM1, w1, hr1⟩ := open_st (t0 := 37) (e := 25) (ts := [22, 22, 45, 2, 22]) (cks := [.f32, .f32, .int .i8, .int .i64, .f32]) (sh := [.f32, .f32, .f32, .f32, .f32, .f32, .f32, .f32, .f32, .f32, .f32, .f32, .f32, .f32, .f32, .f32, .f32, .f32]) Try.underlying47 (by kernel_rfl) (by kernel_rfl) (by kernel_rfl) (by kernel_rfl) Try.underlying37 elW (by kernel_rfl) (by decide) (by kernel_rfl) (hval 1 47 v1 rfl rfl) h1
  obtain ⟨ρ, hM, w0, w1⟩ := views2S rfl rfl hM0 hM1 w0 w1
  clear hA0 hval0
  refine (walk ρ n0 fd0 gd0 bd0 f0 g0 v0 n1 fd1 gd1 bd1 f1 g1 v1 W hM hn0 w0 hn1 w1).mono fun e W' ⟨he, bel⟩ => ?_
  subst he
  exact ⟨_, rfl, _, _, _, [], _, [], hW', trodAll_mk1 (shut_bool Try.underlying4 _), (trodAll_cons_mk (Below.trod laidOut (by kernel_rfl) (of_decide_eq_true (by kernel_rfl)) k0 bel lt0) (trodAll_cons_mk (Below.trod laidOut (by kernel_rfl) (of_decide_eq_true (by kernel_rfl)) k1 bel lt1) trodAll_mk0)), rfl, bel.frame _, fun h => by cases h⟩

theorem over : Rows.fnExactSameStoveRow.holds Try.pinned (OpenSpec.ofChange Rows.fnExactSameStoveSpec) :=
  OpenClaim.holds_of_wide 6 Try.f6 rfl rfl rfl rfl rfl rfl rfl ⟨rfl, rfl, rfl, rfl, rfl⟩ rfl rfl rfl rfl rfl (by kernel_rfl) Try.func6 (by kernel_rfl)
    (of_decide_eq_true (by kernel_rfl)) (by unfold Func.isWrapper; first | (rw [if_pos (by decide +kernel)]; kernel_rfl) | (rw [if_neg (by decide +kernel)]; exact ⟨rfl, rfl⟩))
    (fun os started H enc _ => lifted os started H enc)

theorem proved : Rows.FnExactSameStoveSaid := over
end Go.Proofs.Ytfpfiglmkllheaa.fnExactSameStove
