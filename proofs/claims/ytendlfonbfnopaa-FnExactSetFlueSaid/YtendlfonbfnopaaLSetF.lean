/- For every chimney, of whatever length, every number of a flue and every damper the law of SetFlue returns true, and the arguments read behind the call as before. No conditions. -/
import Derived.Test.YtendlfonbfnopaaBz
import Derived.Test.YtendlfonbfnopaaGd
import Derived.Test.YtendlfonbfnopaaRows
namespace Go.Proofs.Ytendlfonbfnopaa.fnExactSetFlue
open Go Go.Ab Go.ChangeShapes Go.WideShapes Go.ChangeAt Go.RowKit Go.Proofs Go.Proofs.Ytendlfonbfnopaa.ab
set_option linter.unusedVariables false
noncomputable def T1 (n : Nat) : Bool := decide ((cond (decide (IntKind.i64.wrap (1048576 - Int.ofNat n) < 0)) (-1) (IntKind.i64.wrap (1048576 - Int.ofNat n))) < 0)
theorem T1_le {n : Nat} (hn : n ≤ 9223372036854775807) (h : T1 n = false) : n ≤ 1048576 := by
  unfold T1 at h
  have hw : IntKind.i64.wrap (1048576 - Int.ofNat n) = 1048576 - Int.ofNat n := IntWalk.i64_in _ (by show _ ≤ 1048576 - (n : Int) ∧ 1048576 - (n : Int) ≤ _; omega)
  rw [hw] at h
  have h := of_decide_eq_false h
  by_cases k : (1048576 - Int.ofNat n : Int) < 0
  · rw [decide_eq_true k] at h
    exact absurd (by decide : (-1 : Int) < 0) h
  · have : ¬ (1048576 - (n : Int) < 0) := k
    omega
noncomputable def BI (n0 : Nat) (a1 : Int) (a2 : Nat) : Bool := bif !bif decide (a1 ≥ Int.ofNat 0) then decide (a1 < Int.ofNat n0) else false then true else !shO a2
noncomputable def BS (n0 : Nat) (a1 : Int) (a2 : Nat) : Bool := bif !bif decide (a1 ≥ Int.ofNat 0) then decide (a1 ≤ IntKind.i64.wrap ((Int.ofNat n0).sub (Int.ofNat 1))) else false then true else !shO a2
def Rc (fd0 : Nat → Nat → Nat) (gd0 : Nat → Nat → Int) (bd0 : Nat → Nat → Bool) (n0 : Nat) : Vc := { sh := fSh, n := Num.sym n0, fd := fun k o => fd0 (Nat.add 0 k) o, gd := fun k o => gd0 (Nat.add 0 k) o, bd := fun k o => bd0 (Nat.add 0 k) o, wr := true }
def Ni (c b : Bool) (n0 : Nat) : Nat := bif !c then 0 else bif b then 0 else Nat.add 0 n0
def Rn (c b : Bool) (n0 : Nat) (fd0 : Nat → Nat → Nat) (gd0 : Nat → Nat → Int) (bd0 : Nat → Nat → Bool) (a1 : Int) (a2 : Nat) : Vc := { sh := fSh, n := Num.sym (Ni c b n0), fd := fun k o => bif (Nat.add 0 (Nat.add 0 k)).beq (Nat.add 0 a1.toNat) && (Nat.ble 3 o && (o.add 1).ble 4) then wF (nth (o.sub 3) [.flt .f32 a2]) else bif ((Nat.add 0 (Nat.add 0 (Nat.add 0 k))).add 1).ble 0 then wF (nth o [AVal.flt FloatKind.f32 0, AVal.flt FloatKind.f32 0, AVal.flt FloatKind.f32 0, AVal.flt FloatKind.f32 0, AVal.int IntKind.i64 (Int.ofNat 0)]) else fd0 (Nat.add 0 (Nat.add 0 ((Nat.add 0 (Nat.add 0 (Nat.add 0 k))).sub 0))) o, gd := fun k o => bif (Nat.add 0 (Nat.add 0 k)).beq (Nat.add 0 a1.toNat) && (Nat.ble 3 o && (o.add 1).ble 4) then wG (nth (o.sub 3) [.flt .f32 a2]) else bif ((Nat.add 0 (Nat.add 0 (Nat.add 0 k))).add 1).ble 0 then wG (nth o [AVal.flt FloatKind.f32 0, AVal.flt FloatKind.f32 0, AVal.flt FloatKind.f32 0, AVal.flt FloatKind.f32 0, AVal.int IntKind.i64 (Int.ofNat 0)]) else gd0 (Nat.add 0 (Nat.add 0 ((Nat.add 0 (Nat.add 0 (Nat.add 0 k))).sub 0))) o, bd := fun k o => bif (Nat.add 0 (Nat.add 0 k)).beq (Nat.add 0 a1.toNat) && (Nat.ble 3 o && (o.add 1).ble 4) then wB (nth (o.sub 3) [.flt .f32 a2]) else bif ((Nat.add 0 (Nat.add 0 (Nat.add 0 k))).add 1).ble 0 then wB (nth o [AVal.flt FloatKind.f32 0, AVal.flt FloatKind.f32 0, AVal.flt FloatKind.f32 0, AVal.flt FloatKind.f32 0, AVal.int IntKind.i64 (Int.ofNat 0)]) else bd0 (Nat.add 0 (Nat.add 0 ((Nat.add 0 (Nat.add 0 (Nat.add 0 k))).sub 0))) o, wr := true }
def Rs (c b : Bool) (n0 : Nat) (fd0 : Nat → Nat → Nat) (gd0 : Nat → Nat → Int) (bd0 : Nat → Nat → Bool) (a1 : Int) (a2 : Nat) : Vc := { sh := fSh, n := Num.sym (Ni c b n0), fd := fun k o => bif !c then wF (nth o [AVal.flt FloatKind.f32 0, AVal.flt FloatKind.f32 0, AVal.flt FloatKind.f32 0, AVal.flt FloatKind.f32 0, AVal.int IntKind.i64 (Int.ofNat 0)]) else bif b then wF (nth o [AVal.flt FloatKind.f32 0, AVal.flt FloatKind.f32 0, AVal.flt FloatKind.f32 0, AVal.flt FloatKind.f32 0, AVal.int IntKind.i64 (Int.ofNat 0)]) else bif (Nat.add 0 (Nat.add 0 k)).beq (Nat.add 0 a1.toNat) && (Nat.ble 3 o && (o.add 1).ble 4) then wF (nth (o.sub 3) [.flt .f32 a2]) else bif ((Nat.add 0 (Nat.add 0 k)).add 1).ble 0 then wF (nth o [AVal.flt FloatKind.f32 0, AVal.flt FloatKind.f32 0, AVal.flt FloatKind.f32 0, AVal.flt FloatKind.f32 0, AVal.int IntKind.i64 (Int.ofNat 0)]) else fd0 (Nat.add 0 (Nat.add 0 ((Nat.add 0 (Nat.add 0 k)).sub 0))) o, gd := fun k o => bif !c then wG (nth o [AVal.flt FloatKind.f32 0, AVal.flt FloatKind.f32 0, AVal.flt FloatKind.f32 0, AVal.flt FloatKind.f32 0, AVal.int IntKind.i64 (Int.ofNat 0)]) else bif b then wG (nth o [AVal.flt FloatKind.f32 0, AVal.flt FloatKind.f32 0, AVal.flt FloatKind.f32 0, AVal.flt FloatKind.f32 0, AVal.int IntKind.i64 (Int.ofNat 0)]) else bif (Nat.add 0 (Nat.add 0 k)).beq (Nat.add 0 a1.toNat) && (Nat.ble 3 o && (o.add 1).ble 4) then wG (nth (o.sub 3) [.flt .f32 a2]) else bif ((Nat.add 0 (Nat.add 0 k)).add 1).ble 0 then wG (nth o [AVal.flt FloatKind.f32 0, AVal.flt FloatKind.f32 0, AVal.flt FloatKind.f32 0, AVal.flt FloatKind.f32 0, AVal.int IntKind.i64 (Int.ofNat 0)]) else gd0 (Nat.add 0 (Nat.add 0 ((Nat.add 0 (Nat.add 0 k)).sub 0))) o, bd := fun k o => bif !c then wB (nth o [AVal.flt FloatKind.f32 0, AVal.flt FloatKind.f32 0, AVal.flt FloatKind.f32 0, AVal.flt FloatKind.f32 0, AVal.int IntKind.i64 (Int.ofNat 0)]) else bif b then wB (nth o [AVal.flt FloatKind.f32 0, AVal.flt FloatKind.f32 0, AVal.flt FloatKind.f32 0, AVal.flt FloatKind.f32 0, AVal.int IntKind.i64 (Int.ofNat 0)]) else bif (Nat.add 0 (Nat.add 0 k)).beq (Nat.add 0 a1.toNat) && (Nat.ble 3 o && (o.add 1).ble 4) then wB (nth (o.sub 3) [.flt .f32 a2]) else bif ((Nat.add 0 (Nat.add 0 k)).add 1).ble 0 then wB (nth o [AVal.flt FloatKind.f32 0, AVal.flt FloatKind.f32 0, AVal.flt FloatKind.f32 0, AVal.flt FloatKind.f32 0, AVal.int IntKind.i64 (Int.ofNat 0)]) else bd0 (Nat.add 0 (Nat.add 0 ((Nat.add 0 (Nat.add 0 k)).sub 0))) o, wr := true }
theorem andN_eq (a b : Bool) : andN a b = (a && b) := by cases a <;> cases b <;> rfl
theorem ble_eq (x y : Nat) : Nat.ble x y = decide (x ≤ y) := by
  by_cases h : x ≤ y
  · rw [decide_eq_true h]; exact Nat.ble_eq_true_of_le h
  · rw [decide_eq_false h]
    cases hb : Nat.ble x y with
    | false => rfl
    | true => exact absurd (Nat.le_of_ble_eq_true hb) h
theorem bs_bi {n0 : Nat} {a1 : Int} {a2 : Nat} (hn : n0 ≤ 1048576) : BS n0 a1 a2 = BI n0 a1 a2 := by
  unfold BS BI
  have hw : IntKind.i64.wrap ((Int.ofNat n0).sub (Int.ofNat 1)) = (n0 : Int) - 1 := IntWalk.i64_in _ (by show _ ≤ (n0 : Int) - 1 ∧ (n0 : Int) - 1 ≤ _; omega)
  have e : decide (a1 ≤ (n0 : Int) - 1) = decide (a1 < Int.ofNat n0) := by
    rw [decide_eq_decide]
    show _ ↔ a1 < (n0 : Int)
    omega
  rw [hw, e]
theorem bi_in {n0 : Nat} {a1 : Int} {a2 : Nat} (h : BI n0 a1 a2 = false) : 0 ≤ a1 ∧ a1 < (n0 : Int) := by
  unfold BI at h
  cases h1 : decide (a1 ≥ Int.ofNat 0) with
  | false => rw [h1] at h; cases h
  | true =>
    cases h2 : decide (a1 < Int.ofNat n0) with
    | false => rw [h1, h2] at h; cases h
    | true => exact ⟨of_decide_eq_true h1, of_decide_eq_true h2⟩
theorem chim_one {v : Vc} {n : Nat} (h : chimV v 0 n = true) : 1 ≤ n := by
  cases n with
  | zero => cases (show false = true from h)
  | succ n => omega
theorem eq_ns (c b : Bool) (n0 : Nat) (fd0 : Nat → Nat → Nat) (gd0 : Nat → Nat → Int) (bd0 : Nat → Nat → Bool) (a1 : Int) (a2 : Nat) : eqRows elFlue (Rn c b n0 fd0 gd0 bd0 a1 a2) (Rs c b n0 fd0 gd0 bd0 a1 a2) 0 0 (Ni c b n0) (Ni c b n0) = true := by
  cases c with
  | false => rfl
  | true =>
    cases b with
    | true => rfl
    | false => exact eqRows_self elFlue_self _ _ _ _ _ (fun j hj => ⟨by funext o; simp [Rn, Rs], by funext o; simp [Rn, Rs]⟩)
theorem eq_cc (n0 : Nat) (fd0 : Nat → Nat → Nat) (gd0 : Nat → Nat → Int) (bd0 : Nat → Nat → Bool) (a1 : Int) (a2 : Nat) : eqRows elFlue (Rc fd0 gd0 bd0 n0) (Rc fd0 gd0 bd0 n0) 0 0 n0 n0 = true := eqRows_self elFlue_self _ _ _ _ _ (fun j hj => ⟨rfl, rfl⟩)
theorem hld_n (c b : Bool) (n0 : Nat) (fd0 : Nat → Nat → Nat) (gd0 : Nat → Nat → Int) (bd0 : Nat → Nat → Bool) (a1 : Int) (a2 : Nat) (hn : n0 ≤ 1048576) : hldB fSh (mrkJ (Rn c b n0 fd0 gd0 bd0 a1 a2) 0 (Int.ofNat 1) (Ni c b n0)) 0 (Ni c b n0) (Int.ofNat 1) = true :=
  hldB_mrk rfl (by decide) (by decide) (fun j hj => by
    have e : lenL fSh = 5 := by decide
    have hN : Ni c b n0 ≤ n0 := by unfold Ni; cases c <;> cases b <;> simp
    rw [e]
    show (1 : Int) + _ ≤ _
    omega)
theorem own : ownKnob Try.prog.godebug = none := by kernel_rfl
theorem laidOut : laidOutB Try.prog = true := by kernel_rfl
set_option maxRecDepth 1000000 in
theorem walk (ρ : Rho) (n0 : Nat) (fd0 : Nat → Nat → Nat) (gd0 : Nat → Nat → Int) (bd0 : Nat → Nat → Bool) (v0 : Value) (a1 : Int) (a2 : Nat) (w : World) (hM : Mem NoM w ρ (viewS [⟨[.f32, .f32, .f32, .f32, .int .i64], .sym n0, fd0, gd0, bd0, false⟩]) w) (hn0 : n0 ≤ 9223372036854775807) (w0 : V ρ (.vec 0 5 0 (.sym n0)) v0) (w1 : (Lit.int .i64 a1).wf = true) (w2 : wfW .f32 a2) :
    Calls Try.prog 8 #[v0, .int .i64 a1, .float .f32 a2] w fun e w' => e = .returned (.bool true) ∧ Below w.heap.size w w' := by
  have hv : VL ρ [.vec 0 5 0 (.sym n0), .sint .i64 a1, .flt .f32 a2] [v0, .int .i64 a1, .float .f32 a2] := (VL_cons w0 (VL_cons (sint_V .i64 a1) (VL_cons (flt_V .f32 w2) VL_nil)))
  have he : lawB (evBody Try.prog GG 300 Try.f8 [.vec 0 5 0 (.sym n0), .sint .i64 a1, .flt .f32 a2] (viewS [(⟨[.f32, .f32, .f32, .f32, .int .i64], .sym n0, fd0, gd0, bd0, false⟩ : Vc)])) = some (cond (ndc (T1 n0) true (bif bif andN (andN (andN (andN (andN true (((n0.add 0).mul 24).ble 140737488355328 && (n0.add 0).ble 140737488355328 && (Nat.add 0 n0).ble n0)) (bif andN true (n0.ble 140737488355328 && (Nat.add 0 n0).ble n0) then ndc (!(chimV (Rc fd0 gd0 bd0 n0) 0 n0)) true (ndc (BS n0 a1 a2) true (bif andN true (bif andN (andN (andN true (((Nat.add 0 n0).mul 24).ble 140737488355328 && (Nat.add 0 n0).ble 140737488355328 && ((Nat.add 0 n0).ble n0 && true))) (decide (Int.ofNat 0 ≤ a1) && (a1.toNat.add 1).ble (Nat.add 0 n0))) (((Nat.add 0 a1.toNat).add 1).ble (Nat.add 0 n0)) then (Nat.add 0 (Nat.add 0 n0)).ble (Nat.add 0 n0) else false) then (Nat.add 0 (Nat.add 0 n0)).ble (Nat.add 0 n0) else false)) else false)) (((n0.add 0).mul 24).ble 140737488355328 && (n0.add 0).ble 140737488355328 && (Nat.add 0 n0).ble n0)) (bif andN true (n0.ble 140737488355328 && (Nat.add 0 n0).ble n0) then ndc (!(chimV (Rc fd0 gd0 bd0 n0) 0 n0)) true (ndc (BI n0 a1 a2) true (bif andN true (bif andN (andN (andN true (bif andN (andN true (Nat.ble 1 n0)) (((Nat.add 0 n0).mul 24).ble 140737488355328 && (Nat.add 0 n0).ble 140737488355328 && ((Nat.add 0 n0).ble n0 && true)) then (Nat.add 0 (Nat.add 0 n0)).ble (Nat.add 0 n0) else false)) (decide (Int.ofNat 0 ≤ a1) && (a1.toNat.add 1).ble (Nat.add 0 n0))) (((Nat.add 0 a1.toNat).add 1).ble (Nat.add 0 n0)) then (Nat.add 0 (Nat.add 0 n0)).ble (Nat.add 0 n0) else false) then (Nat.add 0 (Nat.add 0 n0)).ble (Nat.add 0 n0) else false)) else false)) ((Ni (chimV (Rc fd0 gd0 bd0 n0) 0 n0) (BI n0 a1 a2) n0).ble 140737488355328 && ((Nat.add 0 (Ni (chimV (Rc fd0 gd0 bd0 n0) 0 n0) (BI n0 a1 a2) n0)).ble (Ni (chimV (Rc fd0 gd0 bd0 n0) 0 n0) (BI n0 a1 a2) n0) && (Nat.add 0 (Ni (chimV (Rc fd0 gd0 bd0 n0) 0 n0) (BS n0 a1 a2) n0)).ble (Ni (chimV (Rc fd0 gd0 bd0 n0) 0 n0) (BS n0 a1 a2) n0))) then true else false then ndc (bif !eqRows elFlue (Rn (chimV (Rc fd0 gd0 bd0 n0) 0 n0) (BI n0 a1 a2) n0 fd0 gd0 bd0 a1 a2) (Rs (chimV (Rc fd0 gd0 bd0 n0) 0 n0) (BS n0 a1 a2) n0 fd0 gd0 bd0 a1 a2) 0 0 (Ni (chimV (Rc fd0 gd0 bd0 n0) 0 n0) (BI n0 a1 a2) n0) (Ni (chimV (Rc fd0 gd0 bd0 n0) 0 n0) (BS n0 a1 a2) n0) then true else (bif !(chimV (Rc fd0 gd0 bd0 n0) 0 n0) then Int.ofNat 1 else bif (BI n0 a1 a2) then Int.ofNat 2 else Int.ofNat 0) != bif !(chimV (Rc fd0 gd0 bd0 n0) 0 n0) then Int.ofNat 1 else bif (BS n0 a1 a2) then Int.ofNat 2 else Int.ofNat 0) true (bif andN (andN true (((n0.add 0).mul 24).ble 140737488355328 && (n0.add 0).ble 140737488355328 && (Nat.add 0 n0).ble n0)) (n0.ble 140737488355328 && ((Nat.add 0 n0).ble n0 && (Nat.add 0 n0).ble n0)) then ndc (!eqRows elFlue (Rc fd0 gd0 bd0 n0) (Rc fd0 gd0 bd0 n0) 0 0 n0 n0) true (bif bif andN true (true && (n0.ble 140737488355328 && true) && (Nat.add 0 n0).ble n0) then ndc false true (bif andN true ((Ni (chimV (Rc fd0 gd0 bd0 n0) 0 n0) (BI n0 a1 a2) n0).ble 140737488355328 && ((Nat.add 0 (Ni (chimV (Rc fd0 gd0 bd0 n0) 0 n0) (BI n0 a1 a2) n0)).ble (Ni (chimV (Rc fd0 gd0 bd0 n0) 0 n0) (BI n0 a1 a2) n0) && (Nat.add 0 (Ni (chimV (Rc fd0 gd0 bd0 n0) 0 n0) (BS n0 a1 a2) n0)).ble (Ni (chimV (Rc fd0 gd0 bd0 n0) 0 n0) (BS n0 a1 a2) n0))) then true else false) else false then ndc (bif !eqRows elFlue (Rn (chimV (Rc fd0 gd0 bd0 n0) 0 n0) (BI n0 a1 a2) n0 fd0 gd0 bd0 a1 a2) (Rs (chimV (Rc fd0 gd0 bd0 n0) 0 n0) (BS n0 a1 a2) n0 fd0 gd0 bd0 a1 a2) 0 0 (Ni (chimV (Rc fd0 gd0 bd0 n0) 0 n0) (BI n0 a1 a2) n0) (Ni (chimV (Rc fd0 gd0 bd0 n0) 0 n0) (BS n0 a1 a2) n0) then true else (bif !(chimV (Rc fd0 gd0 bd0 n0) 0 n0) then Int.ofNat 1 else bif (BI n0 a1 a2) then Int.ofNat 2 else Int.ofNat 0) != bif !(chimV (Rc fd0 gd0 bd0 n0) 0 n0) then Int.ofNat 1 else bif (BS n0 a1 a2) then Int.ofNat 2 else Int.ofNat 0) true (bif andN (andN true (true && ((Ni (chimV (Rc fd0 gd0 bd0 n0) 0 n0) (BI n0 a1 a2) n0).ble 140737488355328 && true) && (Nat.add 0 (Ni (chimV (Rc fd0 gd0 bd0 n0) 0 n0) (BI n0 a1 a2) n0)).ble (Ni (chimV (Rc fd0 gd0 bd0 n0) 0 n0) (BI n0 a1 a2) n0))) (true && ((Ni (chimV (Rc fd0 gd0 bd0 n0) 0 n0) (BI n0 a1 a2) n0).ble 140737488355328 && true) && (Nat.add 0 (Ni (chimV (Rc fd0 gd0 bd0 n0) 0 n0) (BI n0 a1 a2) n0)).ble (Ni (chimV (Rc fd0 gd0 bd0 n0) 0 n0) (BI n0 a1 a2) n0) && hldB fSh (mrkJ (Rn (chimV (Rc fd0 gd0 bd0 n0) 0 n0) (BI n0 a1 a2) n0 fd0 gd0 bd0 a1 a2) 0 (Int.ofNat 1) (Ni (chimV (Rc fd0 gd0 bd0 n0) 0 n0) (BI n0 a1 a2) n0)) 0 (Ni (chimV (Rc fd0 gd0 bd0 n0) 0 n0) (BI n0 a1 a2) n0) (Int.ofNat 1)) then ndc false true (ndc ((Int.ofNat 1).add (Int.ofNat ((Ni (chimV (Rc fd0 gd0 bd0 n0) 0 n0) (BI n0 a1 a2) n0).mul 5)) != (Int.ofNat 1).add (Int.ofNat ((Ni (chimV (Rc fd0 gd0 bd0 n0) 0 n0) (BI n0 a1 a2) n0).mul 5))) true (bif bif andN (andN (andN true (((n0.add 0).mul 24).ble 140737488355328 && (n0.add 0).ble 140737488355328 && (Nat.add 0 n0).ble n0)) (bif andN true (n0.ble 140737488355328 && (Nat.add 0 n0).ble n0) then ndc (!(chimV (Rc fd0 gd0 bd0 n0) 0 n0)) true (ndc (BI n0 a1 a2) true (bif andN true (bif andN (andN (andN true (bif andN (andN true (Nat.ble 1 n0)) (((Nat.add 0 n0).mul 24).ble 140737488355328 && (Nat.add 0 n0).ble 140737488355328 && ((Nat.add 0 n0).ble n0 && true)) then (Nat.add 0 (Nat.add 0 n0)).ble (Nat.add 0 n0) else false)) (decide (Int.ofNat 0 ≤ a1) && (a1.toNat.add 1).ble (Nat.add 0 n0))) (((Nat.add 0 a1.toNat).add 1).ble (Nat.add 0 n0)) then (Nat.add 0 (Nat.add 0 n0)).ble (Nat.add 0 n0) else false) then (Nat.add 0 (Nat.add 0 n0)).ble (Nat.add 0 n0) else false)) else false)) ((Ni (chimV (Rc fd0 gd0 bd0 n0) 0 n0) (BI n0 a1 a2) n0).ble 140737488355328 && ((Nat.add 0 (Ni (chimV (Rc fd0 gd0 bd0 n0) 0 n0) (BI n0 a1 a2) n0)).ble (Ni (chimV (Rc fd0 gd0 bd0 n0) 0 n0) (BI n0 a1 a2) n0) && (Nat.add 0 (Ni (chimV (Rc fd0 gd0 bd0 n0) 0 n0) (BS n0 a1 a2) n0)).ble (Ni (chimV (Rc fd0 gd0 bd0 n0) 0 n0) (BS n0 a1 a2) n0))) then true else false then ndc (bif !eqRows elFlue (Rn (chimV (Rc fd0 gd0 bd0 n0) 0 n0) (BI n0 a1 a2) n0 fd0 gd0 bd0 a1 a2) (Rs (chimV (Rc fd0 gd0 bd0 n0) 0 n0) (BS n0 a1 a2) n0 fd0 gd0 bd0 a1 a2) 0 0 (Ni (chimV (Rc fd0 gd0 bd0 n0) 0 n0) (BI n0 a1 a2) n0) (Ni (chimV (Rc fd0 gd0 bd0 n0) 0 n0) (BS n0 a1 a2) n0) then true else (bif !(chimV (Rc fd0 gd0 bd0 n0) 0 n0) then Int.ofNat 1 else bif (BI n0 a1 a2) then Int.ofNat 2 else Int.ofNat 0) != bif !(chimV (Rc fd0 gd0 bd0 n0) 0 n0) then Int.ofNat 1 else bif (BS n0 a1 a2) then Int.ofNat 2 else Int.ofNat 0) true (bif andN true (true && ((Ni (chimV (Rc fd0 gd0 bd0 n0) 0 n0) (BI n0 a1 a2) n0).ble 140737488355328 && true) && (Nat.add 0 (Ni (chimV (Rc fd0 gd0 bd0 n0) 0 n0) (BI n0 a1 a2) n0)).ble (Ni (chimV (Rc fd0 gd0 bd0 n0) 0 n0) (BI n0 a1 a2) n0) && hldB fSh (mrkJ (Rn (chimV (Rc fd0 gd0 bd0 n0) 0 n0) (BI n0 a1 a2) n0 fd0 gd0 bd0 a1 a2) 0 (Int.ofNat 1) (Ni (chimV (Rc fd0 gd0 bd0 n0) 0 n0) (BI n0 a1 a2) n0)) 0 (Ni (chimV (Rc fd0 gd0 bd0 n0) 0 n0) (BI n0 a1 a2) n0) (Int.ofNat 1)) then true else false) else false)) else false) else false) else false) else false)) (bif T1 n0 then true else bif bif !eqRows elFlue (Rn (chimV (Rc fd0 gd0 bd0 n0) 0 n0) (BI n0 a1 a2) n0 fd0 gd0 bd0 a1 a2) (Rs (chimV (Rc fd0 gd0 bd0 n0) 0 n0) (BS n0 a1 a2) n0 fd0 gd0 bd0 a1 a2) 0 0 (Ni (chimV (Rc fd0 gd0 bd0 n0) 0 n0) (BI n0 a1 a2) n0) (Ni (chimV (Rc fd0 gd0 bd0 n0) 0 n0) (BS n0 a1 a2) n0) then true else (bif !(chimV (Rc fd0 gd0 bd0 n0) 0 n0) then Int.ofNat 1 else bif (BI n0 a1 a2) then Int.ofNat 2 else Int.ofNat 0) != bif !(chimV (Rc fd0 gd0 bd0 n0) 0 n0) then Int.ofNat 1 else bif (BS n0 a1 a2) then Int.ofNat 2 else Int.ofNat 0 then false else bif !eqRows elFlue (Rc fd0 gd0 bd0 n0) (Rc fd0 gd0 bd0 n0) 0 0 n0 n0 then false else bif bif !eqRows elFlue (Rn (chimV (Rc fd0 gd0 bd0 n0) 0 n0) (BI n0 a1 a2) n0 fd0 gd0 bd0 a1 a2) (Rs (chimV (Rc fd0 gd0 bd0 n0) 0 n0) (BS n0 a1 a2) n0 fd0 gd0 bd0 a1 a2) 0 0 (Ni (chimV (Rc fd0 gd0 bd0 n0) 0 n0) (BI n0 a1 a2) n0) (Ni (chimV (Rc fd0 gd0 bd0 n0) 0 n0) (BS n0 a1 a2) n0) then true else (bif !(chimV (Rc fd0 gd0 bd0 n0) 0 n0) then Int.ofNat 1 else bif (BI n0 a1 a2) then Int.ofNat 2 else Int.ofNat 0) != bif !(chimV (Rc fd0 gd0 bd0 n0) 0 n0) then Int.ofNat 1 else bif (BS n0 a1 a2) then Int.ofNat 2 else Int.ofNat 0 then false else bif (Int.ofNat 1).add (Int.ofNat ((Ni (chimV (Rc fd0 gd0 bd0 n0) 0 n0) (BI n0 a1 a2) n0).mul 5)) != (Int.ofNat 1).add (Int.ofNat ((Ni (chimV (Rc fd0 gd0 bd0 n0) 0 n0) (BI n0 a1 a2) n0).mul 5)) then false else bif bif !eqRows elFlue (Rn (chimV (Rc fd0 gd0 bd0 n0) 0 n0) (BI n0 a1 a2) n0 fd0 gd0 bd0 a1 a2) (Rs (chimV (Rc fd0 gd0 bd0 n0) 0 n0) (BS n0 a1 a2) n0 fd0 gd0 bd0 a1 a2) 0 0 (Ni (chimV (Rc fd0 gd0 bd0 n0) 0 n0) (BI n0 a1 a2) n0) (Ni (chimV (Rc fd0 gd0 bd0 n0) 0 n0) (BS n0 a1 a2) n0) then true else (bif !(chimV (Rc fd0 gd0 bd0 n0) 0 n0) then Int.ofNat 1 else bif (BI n0 a1 a2) then Int.ofNat 2 else Int.ofNat 0) != bif !(chimV (Rc fd0 gd0 bd0 n0) 0 n0) then Int.ofNat 1 else bif (BS n0 a1 a2) then Int.ofNat 2 else Int.ofNat 0 then false else bif (Int.ofNat 1).add (Int.ofNat ((Ni (chimV (Rc fd0 gd0 bd0 n0) 0 n0) (BI n0 a1 a2) n0).mul 5)) != (Int.ofNat 1).add (Int.ofNat ((Ni (chimV (Rc fd0 gd0 bd0 n0) 0 n0) (BI n0 a1 a2) n0).mul 5)) then false else true) false) := by kernel_rfl
  refine law_any gg mixed Try.func8 Try.call8 he ?_ hM hv
  clear he
  cases hT : T1 n0 with
  | true => simp only [ndc_eq]; rfl
  | false =>
    have hn := T1_le hn0 hT
    rw [bs_bi hn]
    have k1 : chimV (Rc fd0 gd0 bd0 n0) 0 n0 = true → 1 ≤ n0 := chim_one
    have k2 : BI n0 a1 a2 = false → 0 ≤ a1 ∧ a1 < (n0 : Int) := bi_in
    revert k1 k2
    generalize chimV (Rc fd0 gd0 bd0 n0) 0 n0 = c
    generalize BI n0 a1 a2 = b
    intro k1 k2
    rw [eq_ns c b n0 fd0 gd0 bd0 a1 a2, eq_cc n0 fd0 gd0 bd0 a1 a2, hld_n c b n0 fd0 gd0 bd0 a1 a2 hn]
    cases c with
    | false => simp [andN_eq, ndc_eq, ble_eq, Ni] <;> omega
    | true =>
      have k1 := k1 rfl
      cases b with
      | true => simp [andN_eq, ndc_eq, ble_eq, Ni] <;> omega
      | false =>
        obtain ⟨k3, k4⟩ := k2 rfl
        simp [andN_eq, ndc_eq, ble_eq, Ni] <;> omega

set_option maxRecDepth 100000 in
theorem lifted (os : Os) (started : os.Started) (H : Type) (enc : TypeId × Value → H) :
    ReturnsInHanded {} Try.checked os 8 .any (Rows.fnExactSetFlueSpec.pre6 enc Try.prog Try.f8 Rows.fnExactSetFlueRow.domain false) (Rows.fnExactSetFlueSpec.post enc Try.prog Try.f8 false true false false) := by
  refine returnsInHanded_of_change (C := Try.checked) own started (by kernel_rfl) Try.func8
    (ChangeSpec.witness6 (enc := enc) (C := Try.checked) false ⟨#[], #[.slice none 0 0, .int .i64 0, .float .f32 0], []⟩ 8 (by kernel_rfl) (by kernel_rfl) (by kernel_rfl) (by kernel_rfl)) ?_
  intro W base args ds gs before hval0 hW hcnd _
  have hval : ∀ (j : Nat) t v, Try.f8.params[j]? = some t → args[j]? = some v → Value.okWide Try.prog W .any base t v := hval0
  have hW' := hW
  obtain ⟨p, q, hA0, hV, rfl, hfz, hnd⟩ := hW
  have hA : DataW.TrodAll enc Try.prog W 0 (fun _ => true) true Try.f8.params.toList args.toList ds p := hA0
  rw [Try.params8] at hA hval
  obtain ⟨v0, vs0, d0, ds0, p0, q0, hargs, rfl, rfl, h0, r0⟩ := trodAll_cons hA
  obtain ⟨v1, vs1, d1, ds1, p1, q1, rfl, rfl, rfl, h1, r1⟩ := trodAll_cons r0
  obtain ⟨v2, vs2, d2, ds2, p2, q2, rfl, rfl, rfl, h2, r2⟩ := trodAll_cons r1
  obtain ⟨rfl, rfl, rfl⟩ := trodAll_nil r2
  obtain rfl : args = #[v0, v1, v2] := by cases args; simp_all
  obtain ⟨rfl, rfl⟩ := trodVars_none hV
  have k0 := h0
  have lt0 : ∀ x ∈ p0, x.block < W.heap.size := by obtain ⟨m, hm⟩ := k0; exact DataW.trod_lt m _ _ _ hm
  obtain ⟨n0, fd0, gd0, bd0, ρ0, hn0, hM0, w0⟩ := open_rows (sh := [.f32, .f32, .f32, .f32, .int .i64]) Try.underlying52 (elem_struct Try.underlying103 (by kernel_rfl) (by kernel_rfl) (by kernel_rfl)) (by kernel_rfl) (by decide) (hval 0 52 v0 rfl rfl) h0
  obtain ⟨a1, rfl, rfl, rfl, w1⟩ := open_int Try.underlying2 (hval 1 2 v1 rfl rfl) h1
  obtain ⟨a2, rfl, rfl, rfl, w2⟩ := open_float Try.underlying22 (hval 2 22 v2 rfl rfl) h2
  have hM := hM0
  clear hA0 hval0
  refine (walk ρ0 n0 fd0 gd0 bd0 v0 a1 a2 W hM hn0 w0 w1 (lit32 w2)).mono fun e W' ⟨he, bel⟩ => ?_
  subst he
  exact ⟨_, rfl, _, _, _, [], _, [], hW', trodAll_mk1 (shut_bool Try.underlying4 _), (trodAll_cons_mk (Below.trod laidOut (by kernel_rfl) (of_decide_eq_true (by kernel_rfl)) k0 bel lt0) (trodAll_cons_mk (shut_int Try.underlying2 w1) (trodAll_cons_mk (shut_float Try.underlying22 w2) trodAll_mk0))), rfl, bel.frame _, fun h => by cases h⟩

theorem over : Rows.fnExactSetFlueRow.holds Try.pinned (OpenSpec.ofChange Rows.fnExactSetFlueSpec) :=
  OpenClaim.holds_of_wide 8 Try.f8 rfl rfl rfl rfl rfl rfl rfl ⟨rfl, rfl, rfl, rfl, rfl⟩ rfl rfl rfl rfl rfl (by kernel_rfl) Try.func8 (by kernel_rfl)
    (of_decide_eq_true (by kernel_rfl)) (by unfold Func.isWrapper; first | (rw [if_pos (by decide +kernel)]; kernel_rfl) | (rw [if_neg (by decide +kernel)]; exact ⟨rfl, rfl⟩))
    (fun os started H enc _ => lifted os started H enc)

theorem proved : Rows.FnExactSetFlueSaid := over
end Go.Proofs.Ytendlfonbfnopaa.fnExactSetFlue
