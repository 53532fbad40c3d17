/- For every stove, with however many logs, the law of DropSpent returns true, and the argument reads behind the call as before. No conditions. -/
import Derived.Test.YtbblhkjkokbheaaBv10
import Derived.Test.YtbblhkjkokbheaaRows
namespace Go.Proofs.Ytbblhkjkokbheaa.fnExactDropSpent
open Go Go.Ab Go.ChangeShapes Go.WideShapes Go.ChangeAt Go.RowKit Go.Proofs Go.Proofs.Ytbblhkjkokbheaa.ab
set_option linter.unusedVariables false
noncomputable def L0 (n : Nat) : Int := cond (decide (IntKind.i64.wrap (1048576 - Int.ofNat n) < 0)) (-1) (IntKind.i64.wrap (1048576 - Int.ofNat n))
noncomputable def T1 (n : Nat) : Bool := decide ((cond (decide (L0 n < 0)) (-1) (L0 n)) < 0)
theorem T1_le {n : Nat} (hn : n ≤ 9223372036854775807) (h : T1 n = false) : n ≤ 1048576 := by
  have h := of_decide_eq_false (show decide ((cond (decide (L0 n < 0)) (-1) (L0 n)) < 0) = false from h)
  have hw : IntKind.i64.wrap (1048576 - Int.ofNat n) = 1048576 - Int.ofNat n := IntWalk.i64_in _ (by show _ ≤ 1048576 - (n : Int) ∧ 1048576 - (n : Int) ≤ _; omega)
  by_cases k : (1048576 - (n : Int)) < 0
  · exfalso
    have e : L0 n = -1 := by
      unfold L0
      rw [hw, decide_eq_true (show (1048576 - Int.ofNat n : Int) < 0 from k)]; rfl
    rw [e] at h
    exact h (by decide)
  · omega
theorem andN_eq (a b : Bool) : andN a b = (a && b) := by cases a <;> cases b <;> rfl
theorem ble_eq (x y : Nat) : Nat.ble x y = decide (x ≤ y) := by
  by_cases h : x ≤ y
  · rw [decide_eq_true h]; exact Nat.ble_eq_true_of_le h
  · rw [decide_eq_false h]
    cases hb : Nat.ble x y with
    | false => rfl
    | true => exact absurd (Nat.le_of_ble_eq_true hb) h
theorem eq_same {v v' : Vc} {n n' : Nat} (hn : n = n') (h : ∀ k, v.fd k = v'.fd k ∧ v.gd k = v'.gd k) : eqRows elWood v v' 0 0 n n' = true := by
  subst hn
  exact eqRows_self elWood_self _ _ _ _ _ (fun j hj => ⟨(h _).1, (h _).2⟩)
theorem stv_six {fd : Nat → Nat → Nat} {a n b d u : Nat} {s h : Int} (h1 : stvB fd a n b d u s h = true) : n ≤ 6 := by
  by_cases k : 7 ≤ n
  · unfold stvB at h1
    rw [Nat.ble_eq_true_of_le k] at h1
    cases h1
  · omega
theorem hld1 {v : Vc} {n : Nat} (hs : v.sh = wSh) (hn : n ≤ 1048576) : hldB wSh (mrkJ v 0 1 n) 0 n 1 = true :=
  hldB_mrk hs (by decide) (by decide) (fun j hj => by
    have e : lenL wSh = 18 := by decide
    rw [e]; omega)
def X (n0 : Nat) (fd0 : Nat → Nat → Nat) (gd0 : Nat → Nat → Int) (bd0 : Nat → Nat → Bool) (f0 : Nat → Nat) (g0 : Nat → Int) : Prm := { n := n0, fd := fun k o => fd0 (Nat.add 0 (Nat.add 0 (Nat.add 0 k))) o, gd := fun k o => gd0 (Nat.add 0 (Nat.add 0 (Nat.add 0 k))) o, bd := fun k o => bd0 (Nat.add 0 (Nat.add 0 (Nat.add 0 k))) o, b := f0 0, d := f0 1, s := g0 2, h := g0 3, u := f0 4 }
theorem DN_le (p : Prm) : DN p ≤ 6 := by
  rw [DN_eq]
  unfold dsN
  cases hs : dsS p with
  | false => exact Nat.zero_le _
  | true =>
    have h6 := stv_le6 hs
    have hk := kpN_le (dsQ p) p.n
    show kpN (dsQ p) p.n ≤ 6; omega
theorem elW_18 {f f' : Nat → Nat} (g g' : Nat → Int) (h : ∀ o, o < 18 → f o = f' o) : elWood f g f' g' = true := by
  unfold elWood
  simp [h 0, h 1, h 2, h 3, h 4, h 5, h 6, h 7, h 8, h 9, h 10, h 11, h 12, h 13, h 14, h 15, h 16, h 17, sO_self]
theorem fd_fs (p : Prm) (j : Nat) (hj : j < DN p) (o : Nat) (ho : o < 18) : DFi p j o = DFs p j o := by
  rw [DN_eq] at hj
  unfold dsN at hj
  cases hS : dsS p with
  | false => rw [hS] at hj; exact absurd hj (Nat.not_lt_zero _)
  | true =>
    rw [hS] at hj
    have hj : j < kpN (dsQ p) p.n := hj
    rw [DFs_eq, DFi_eq]
    show _ = (dsT p).fd j o
    rw [dsT_fd p hj ho]
    have eF : (fun (j q : Nat) => p.fd (Nat.add 0 (j.sub 0)) q) = p.fd := by
      funext j q
      simp only [Nat.add_eq, Nat.sub_eq, Nat.zero_add, Nat.sub_zero]
    simp only [dsK_n hS, kpR_same _ p.n (dsK_eq hS), eF]
    simp only [Nat.add_eq, Nat.sub_eq, Nat.zero_add, Nat.sub_zero]
    rw [Nat.ble_eq_true_of_le (show j + 1 ≤ kpN (dsQ p) p.n from hj)]
    rfl
theorem eq_fs (p : Prm) : eqRows elWood { sh := wSh, n := Num.sym (DN p), fd := DFi p, gd := DGi p, bd := DBi p, wr := true } { sh := wSh, n := Num.sym (DN p), fd := DFs p, gd := DGs p, bd := DBs p, wr := true } 0 0 (DN p) (DN p) = true := by
  unfold eqRows
  have h0 : (Int.ofNat (DN p) != Int.ofNat (DN p)) = false := by simp
  rw [h0]
  refine allB_all (fun j hj => ?_)
  unfold elAt
  show elWood (DFi p (0 + j)) _ (DFs p (0 + j)) _ = true
  rw [Nat.zero_add]
  exact elW_18 _ _ (fd_fs p j hj)
theorem own : ownKnob Try.prog.godebug = none := by kernel_rfl
theorem laidOut : laidOutB Try.prog = true := by kernel_rfl
set_option maxRecDepth 1000000 in
theorem walk (n0 : Nat) (fd0 : Nat → Nat → Nat) (gd0 : Nat → Nat → Int) (bd0 : Nat → Nat → Bool) (ρ : Rho) (f0 : Nat → Nat) (g0 : Nat → Int) (v0 : Value) (w : World) (hn0 : n0 ≤ 9223372036854775807) (hM : Mem NoM w ρ (viewS [⟨[.f32, .f32, .f32, .f32, .f32, .f32, .f32, .f32, .f32, .f32, .f32, .f32, .f32, .f32, .f32, .f32, .f32, .f32], .sym n0, fd0, gd0, bd0, false⟩]) w) (w0 : V ρ (.agg [.vec 0 18 0 (.sym n0), .flt .f32 (f0 0), .flt .f32 (f0 1), .sint .i8 (g0 2), .sint .i64 (g0 3), .flt .f32 (f0 4)]) v0) (hs0 : IntKind.i64.wrap (g0 2) = g0 2) :
    Calls Try.prog 9 #[v0] w fun e w' => e = .returned (.bool true) ∧ Below w.heap.size w w' := by
  have hv : VL ρ [.agg [.vec 0 18 0 (.sym n0), .flt .f32 (f0 0), .flt .f32 (f0 1), .sint .i8 (g0 2), .sint .i64 (g0 3), .flt .f32 (f0 4)]] [v0] := (VL_cons w0 VL_nil)
  have he : lawB (evBody Try.prog GG 300 Try.f9 [.agg [.vec 0 18 0 (.sym n0), .flt .f32 (f0 0), .flt .f32 (f0 1), .sint .i8 (g0 2), .sint .i64 (g0 3), .flt .f32 (f0 4)]] (viewS [(⟨[.f32, .f32, .f32, .f32, .f32, .f32, .f32, .f32, .f32, .f32, .f32, .f32, .f32, .f32, .f32, .f32, .f32, .f32], .sym n0, fd0, gd0, bd0, false⟩ : Vc)])) = some (cond (ndc (T1 n0) true (bif bif andN (andN (andN (andN (andN true (bif andN true (((n0.add 0).mul 72).ble 140737488355328 && (n0.add 0).ble 140737488355328 && (Nat.add 0 n0).ble n0) then (Nat.add 0 n0).ble n0 else false)) ((Nat.add 0 n0).ble n0 && decide (IntKind.i64.wrap (g0 2) = g0 2) && n0.ble 1048576)) (bif andN true (((n0.add 0).mul 72).ble 140737488355328 && (n0.add 0).ble 140737488355328 && (Nat.add 0 n0).ble n0) then (Nat.add 0 n0).ble n0 else false)) ((Nat.add 0 n0).ble n0 && decide (IntKind.i64.wrap (g0 2) = g0 2) && n0.ble 1048576)) (bif andN true ((DN (X n0 fd0 gd0 bd0 f0 g0)).ble 140737488355328 && ((Nat.add 0 (DN (X n0 fd0 gd0 bd0 f0 g0))).ble (DN (X n0 fd0 gd0 bd0 f0 g0)) && (Nat.add 0 (DN (X n0 fd0 gd0 bd0 f0 g0))).ble (DN (X n0 fd0 gd0 bd0 f0 g0)))) then true else false) then true else false then ndc (bif !bif !eqRows elWood { sh := wSh, n := Num.sym (DN (X n0 fd0 gd0 bd0 f0 g0)), fd := DFi (X n0 fd0 gd0 bd0 f0 g0), gd := DGi (X n0 fd0 gd0 bd0 f0 g0), bd := DBi (X n0 fd0 gd0 bd0 f0 g0), wr := true } { sh := wSh, n := Num.sym (DN (X n0 fd0 gd0 bd0 f0 g0)), fd := DFs (X n0 fd0 gd0 bd0 f0 g0), gd := DGs (X n0 fd0 gd0 bd0 f0 g0), bd := DBs (X n0 fd0 gd0 bd0 f0 g0), wr := true } 0 0 (DN (X n0 fd0 gd0 bd0 f0 g0)) (DN (X n0 fd0 gd0 bd0 f0 g0)) then false else bif !sO (wide (DV (X n0 fd0 gd0 bd0 f0 g0) (f0 0))) (wide (DV (X n0 fd0 gd0 bd0 f0 g0) (f0 0))) then false else bif !sO (wide (DV (X n0 fd0 gd0 bd0 f0 g0) (f0 1))) (wide (DV (X n0 fd0 gd0 bd0 f0 g0) (f0 1))) then false else bif DI (X n0 fd0 gd0 bd0 f0 g0) (g0 2) != DI (X n0 fd0 gd0 bd0 f0 g0) (g0 2) then false else bif DI (X n0 fd0 gd0 bd0 f0 g0) (g0 3) != DI (X n0 fd0 gd0 bd0 f0 g0) (g0 3) then false else bif !sO (wide (DV (X n0 fd0 gd0 bd0 f0 g0) (f0 4))) (wide (DV (X n0 fd0 gd0 bd0 f0 g0) (f0 4))) then false else true then true else bif DC (X n0 fd0 gd0 bd0 f0 g0) != DC (X n0 fd0 gd0 bd0 f0 g0) then true else DD (X n0 fd0 gd0 bd0 f0 g0) != DD (X n0 fd0 gd0 bd0 f0 g0)) true (bif andN (andN true (bif andN true (((n0.add 0).mul 72).ble 140737488355328 && (n0.add 0).ble 140737488355328 && (Nat.add 0 n0).ble n0) then (Nat.add 0 n0).ble n0 else false)) (bif andN true (n0.ble 140737488355328 && ((Nat.add 0 n0).ble n0 && (Nat.add 0 n0).ble n0)) then true else false) then ndc (!bif !eqRows elWood { sh := wSh, n := Num.sym n0, fd := fun k o => fd0 (Nat.add 0 (Nat.add 0 k)) o, gd := fun k o => gd0 (Nat.add 0 (Nat.add 0 k)) o, bd := fun k o => bd0 (Nat.add 0 (Nat.add 0 k)) o, wr := true } { sh := wSh, n := Num.sym n0, fd := fun k o => fd0 (Nat.add 0 (Nat.add 0 k)) o, gd := fun k o => gd0 (Nat.add 0 (Nat.add 0 k)) o, bd := fun k o => bd0 (Nat.add 0 (Nat.add 0 k)) o, wr := true } 0 0 n0 n0 then false else bif !sO (wide (f0 0)) (wide (f0 0)) then false else bif !sO (wide (f0 1)) (wide (f0 1)) then false else bif g0 2 != g0 2 then false else bif g0 3 != g0 3 then false else bif !sO (wide (f0 4)) (wide (f0 4)) then false else true) true (bif bif andN true (bif andN true (true && (n0.ble 140737488355328 && true) && (Nat.add 0 n0).ble n0) then true else false) then ndc false true (bif andN true (bif andN true ((DN (X n0 fd0 gd0 bd0 f0 g0)).ble 140737488355328 && ((Nat.add 0 (DN (X n0 fd0 gd0 bd0 f0 g0))).ble (DN (X n0 fd0 gd0 bd0 f0 g0)) && (Nat.add 0 (DN (X n0 fd0 gd0 bd0 f0 g0))).ble (DN (X n0 fd0 gd0 bd0 f0 g0)))) then true else false) then true else false) else false then ndc (bif !bif !eqRows elWood { sh := wSh, n := Num.sym (DN (X n0 fd0 gd0 bd0 f0 g0)), fd := DFi (X n0 fd0 gd0 bd0 f0 g0), gd := DGi (X n0 fd0 gd0 bd0 f0 g0), bd := DBi (X n0 fd0 gd0 bd0 f0 g0), wr := true } { sh := wSh, n := Num.sym (DN (X n0 fd0 gd0 bd0 f0 g0)), fd := DFs (X n0 fd0 gd0 bd0 f0 g0), gd := DGs (X n0 fd0 gd0 bd0 f0 g0), bd := DBs (X n0 fd0 gd0 bd0 f0 g0), wr := true } 0 0 (DN (X n0 fd0 gd0 bd0 f0 g0)) (DN (X n0 fd0 gd0 bd0 f0 g0)) then false else bif !sO (wide (DV (X n0 fd0 gd0 bd0 f0 g0) (f0 0))) (wide (DV (X n0 fd0 gd0 bd0 f0 g0) (f0 0))) then false else bif !sO (wide (DV (X n0 fd0 gd0 bd0 f0 g0) (f0 1))) (wide (DV (X n0 fd0 gd0 bd0 f0 g0) (f0 1))) then false else bif DI (X n0 fd0 gd0 bd0 f0 g0) (g0 2) != DI (X n0 fd0 gd0 bd0 f0 g0) (g0 2) then false else bif DI (X n0 fd0 gd0 bd0 f0 g0) (g0 3) != DI (X n0 fd0 gd0 bd0 f0 g0) (g0 3) then false else bif !sO (wide (DV (X n0 fd0 gd0 bd0 f0 g0) (f0 4))) (wide (DV (X n0 fd0 gd0 bd0 f0 g0) (f0 4))) then false else true then true else bif DC (X n0 fd0 gd0 bd0 f0 g0) != DC (X n0 fd0 gd0 bd0 f0 g0) then true else DD (X n0 fd0 gd0 bd0 f0 g0) != DD (X n0 fd0 gd0 bd0 f0 g0)) true (bif andN (andN true (bif andN true (true && ((DN (X n0 fd0 gd0 bd0 f0 g0)).ble 140737488355328 && true) && (Nat.add 0 (DN (X n0 fd0 gd0 bd0 f0 g0))).ble (DN (X n0 fd0 gd0 bd0 f0 g0))) then true else false)) (bif andN true (true && ((DN (X n0 fd0 gd0 bd0 f0 g0)).ble 140737488355328 && true) && (Nat.add 0 (DN (X n0 fd0 gd0 bd0 f0 g0))).ble (DN (X n0 fd0 gd0 bd0 f0 g0)) && hldB wSh (mrkJ { sh := wSh, n := Num.sym (DN (X n0 fd0 gd0 bd0 f0 g0)), fd := DFi (X n0 fd0 gd0 bd0 f0 g0), gd := DGi (X n0 fd0 gd0 bd0 f0 g0), bd := DBi (X n0 fd0 gd0 bd0 f0 g0), wr := true } 0 (Int.ofNat 1) (DN (X n0 fd0 gd0 bd0 f0 g0))) 0 (DN (X n0 fd0 gd0 bd0 f0 g0)) (Int.ofNat 1)) then true else false) then ndc (decide ((Int.ofNat 1).add (Int.ofNat ((DN (X n0 fd0 gd0 bd0 f0 g0)).mul 18)) < Int.ofNat 0)) true (ndc ((Int.ofNat 1).add (Int.ofNat ((DN (X n0 fd0 gd0 bd0 f0 g0)).mul 18)) != (Int.ofNat 1).add (Int.ofNat ((DN (X n0 fd0 gd0 bd0 f0 g0)).mul 18))) true (bif bif andN (andN (andN true (bif andN true (((n0.add 0).mul 72).ble 140737488355328 && (n0.add 0).ble 140737488355328 && (Nat.add 0 n0).ble n0) then (Nat.add 0 n0).ble n0 else false)) ((Nat.add 0 n0).ble n0 && decide (IntKind.i64.wrap (g0 2) = g0 2) && n0.ble 1048576)) (bif andN true ((DN (X n0 fd0 gd0 bd0 f0 g0)).ble 140737488355328 && ((Nat.add 0 (DN (X n0 fd0 gd0 bd0 f0 g0))).ble (DN (X n0 fd0 gd0 bd0 f0 g0)) && (Nat.add 0 (DN (X n0 fd0 gd0 bd0 f0 g0))).ble (DN (X n0 fd0 gd0 bd0 f0 g0)))) then true else false) then true else false then ndc (bif !bif !eqRows elWood { sh := wSh, n := Num.sym (DN (X n0 fd0 gd0 bd0 f0 g0)), fd := DFi (X n0 fd0 gd0 bd0 f0 g0), gd := DGi (X n0 fd0 gd0 bd0 f0 g0), bd := DBi (X n0 fd0 gd0 bd0 f0 g0), wr := true } { sh := wSh, n := Num.sym (DN (X n0 fd0 gd0 bd0 f0 g0)), fd := DFs (X n0 fd0 gd0 bd0 f0 g0), gd := DGs (X n0 fd0 gd0 bd0 f0 g0), bd := DBs (X n0 fd0 gd0 bd0 f0 g0), wr := true } 0 0 (DN (X n0 fd0 gd0 bd0 f0 g0)) (DN (X n0 fd0 gd0 bd0 f0 g0)) then false else bif !sO (wide (DV (X n0 fd0 gd0 bd0 f0 g0) (f0 0))) (wide (DV (X n0 fd0 gd0 bd0 f0 g0) (f0 0))) then false else bif !sO (wide (DV (X n0 fd0 gd0 bd0 f0 g0) (f0 1))) (wide (DV (X n0 fd0 gd0 bd0 f0 g0) (f0 1))) then false else bif DI (X n0 fd0 gd0 bd0 f0 g0) (g0 2) != DI (X n0 fd0 gd0 bd0 f0 g0) (g0 2) then false else bif DI (X n0 fd0 gd0 bd0 f0 g0) (g0 3) != DI (X n0 fd0 gd0 bd0 f0 g0) (g0 3) then false else bif !sO (wide (DV (X n0 fd0 gd0 bd0 f0 g0) (f0 4))) (wide (DV (X n0 fd0 gd0 bd0 f0 g0) (f0 4))) then false else true then true else bif DC (X n0 fd0 gd0 bd0 f0 g0) != DC (X n0 fd0 gd0 bd0 f0 g0) then true else DD (X n0 fd0 gd0 bd0 f0 g0) != DD (X n0 fd0 gd0 bd0 f0 g0)) true (bif andN true (bif andN true (true && ((DN (X n0 fd0 gd0 bd0 f0 g0)).ble 140737488355328 && true) && (Nat.add 0 (DN (X n0 fd0 gd0 bd0 f0 g0))).ble (DN (X n0 fd0 gd0 bd0 f0 g0)) && hldB wSh (mrkJ { sh := wSh, n := Num.sym (DN (X n0 fd0 gd0 bd0 f0 g0)), fd := DFi (X n0 fd0 gd0 bd0 f0 g0), gd := DGi (X n0 fd0 gd0 bd0 f0 g0), bd := DBi (X n0 fd0 gd0 bd0 f0 g0), wr := true } 0 (Int.ofNat 1) (DN (X n0 fd0 gd0 bd0 f0 g0))) 0 (DN (X n0 fd0 gd0 bd0 f0 g0)) (Int.ofNat 1)) then true else false) then true else false) else false)) else false) else false) else false) else false)) (bif T1 n0 then true else bif bif !bif !eqRows elWood { sh := wSh, n := Num.sym (DN (X n0 fd0 gd0 bd0 f0 g0)), fd := DFi (X n0 fd0 gd0 bd0 f0 g0), gd := DGi (X n0 fd0 gd0 bd0 f0 g0), bd := DBi (X n0 fd0 gd0 bd0 f0 g0), wr := true } { sh := wSh, n := Num.sym (DN (X n0 fd0 gd0 bd0 f0 g0)), fd := DFs (X n0 fd0 gd0 bd0 f0 g0), gd := DGs (X n0 fd0 gd0 bd0 f0 g0), bd := DBs (X n0 fd0 gd0 bd0 f0 g0), wr := true } 0 0 (DN (X n0 fd0 gd0 bd0 f0 g0)) (DN (X n0 fd0 gd0 bd0 f0 g0)) then false else bif !sO (wide (DV (X n0 fd0 gd0 bd0 f0 g0) (f0 0))) (wide (DV (X n0 fd0 gd0 bd0 f0 g0) (f0 0))) then false else bif !sO (wide (DV (X n0 fd0 gd0 bd0 f0 g0) (f0 1))) (wide (DV (X n0 fd0 gd0 bd0 f0 g0) (f0 1))) then false else bif DI (X n0 fd0 gd0 bd0 f0 g0) (g0 2) != DI (X n0 fd0 gd0 bd0 f0 g0) (g0 2) then false else bif DI (X n0 fd0 gd0 bd0 f0 g0) (g0 3) != DI (X n0 fd0 gd0 bd0 f0 g0) (g0 3) then false else bif !sO (wide (DV (X n0 fd0 gd0 bd0 f0 g0) (f0 4))) (wide (DV (X n0 fd0 gd0 bd0 f0 g0) (f0 4))) then false else true then true else bif DC (X n0 fd0 gd0 bd0 f0 g0) != DC (X n0 fd0 gd0 bd0 f0 g0) then true else DD (X n0 fd0 gd0 bd0 f0 g0) != DD (X n0 fd0 gd0 bd0 f0 g0) then false else bif !bif !eqRows elWood { sh := wSh, n := Num.sym n0, fd := fun k o => fd0 (Nat.add 0 (Nat.add 0 k)) o, gd := fun k o => gd0 (Nat.add 0 (Nat.add 0 k)) o, bd := fun k o => bd0 (Nat.add 0 (Nat.add 0 k)) o, wr := true } { sh := wSh, n := Num.sym n0, fd := fun k o => fd0 (Nat.add 0 (Nat.add 0 k)) o, gd := fun k o => gd0 (Nat.add 0 (Nat.add 0 k)) o, bd := fun k o => bd0 (Nat.add 0 (Nat.add 0 k)) o, wr := true } 0 0 n0 n0 then false else bif !sO (wide (f0 0)) (wide (f0 0)) then false else bif !sO (wide (f0 1)) (wide (f0 1)) then false else bif g0 2 != g0 2 then false else bif g0 3 != g0 3 then false else bif !sO (wide (f0 4)) (wide (f0 4)) then false else true then false else bif bif !bif !eqRows elWood { sh := wSh, n := Num.sym (DN (X n0 fd0 gd0 bd0 f0 g0)), fd := DFi (X n0 fd0 gd0 bd0 f0 g0), gd := DGi (X n0 fd0 gd0 bd0 f0 g0), bd := DBi (X n0 fd0 gd0 bd0 f0 g0), wr := true } { sh := wSh, n := Num.sym (DN (X n0 fd0 gd0 bd0 f0 g0)), fd := DFs (X n0 fd0 gd0 bd0 f0 g0), gd := DGs (X n0 fd0 gd0 bd0 f0 g0), bd := DBs (X n0 fd0 gd0 bd0 f0 g0), wr := true } 0 0 (DN (X n0 fd0 gd0 bd0 f0 g0)) (DN (X n0 fd0 gd0 bd0 f0 g0)) then false else bif !sO (wide (DV (X n0 fd0 gd0 bd0 f0 g0) (f0 0))) (wide (DV (X n0 fd0 gd0 bd0 f0 g0) (f0 0))) then false else bif !sO (wide (DV (X n0 fd0 gd0 bd0 f0 g0) (f0 1))) (wide (DV (X n0 fd0 gd0 bd0 f0 g0) (f0 1))) then false else bif DI (X n0 fd0 gd0 bd0 f0 g0) (g0 2) != DI (X n0 fd0 gd0 bd0 f0 g0) (g0 2) then false else bif DI (X n0 fd0 gd0 bd0 f0 g0) (g0 3) != DI (X n0 fd0 gd0 bd0 f0 g0) (g0 3) then false else bif !sO (wide (DV (X n0 fd0 gd0 bd0 f0 g0) (f0 4))) (wide (DV (X n0 fd0 gd0 bd0 f0 g0) (f0 4))) then false else true then true else bif DC (X n0 fd0 gd0 bd0 f0 g0) != DC (X n0 fd0 gd0 bd0 f0 g0) then true else DD (X n0 fd0 gd0 bd0 f0 g0) != DD (X n0 fd0 gd0 bd0 f0 g0) then false else bif decide ((Int.ofNat 1).add (Int.ofNat ((DN (X n0 fd0 gd0 bd0 f0 g0)).mul 18)) < Int.ofNat 0) then false else bif (Int.ofNat 1).add (Int.ofNat ((DN (X n0 fd0 gd0 bd0 f0 g0)).mul 18)) != (Int.ofNat 1).add (Int.ofNat ((DN (X n0 fd0 gd0 bd0 f0 g0)).mul 18)) then false else bif bif !bif !eqRows elWood { sh := wSh, n := Num.sym (DN (X n0 fd0 gd0 bd0 f0 g0)), fd := DFi (X n0 fd0 gd0 bd0 f0 g0), gd := DGi (X n0 fd0 gd0 bd0 f0 g0), bd := DBi (X n0 fd0 gd0 bd0 f0 g0), wr := true } { sh := wSh, n := Num.sym (DN (X n0 fd0 gd0 bd0 f0 g0)), fd := DFs (X n0 fd0 gd0 bd0 f0 g0), gd := DGs (X n0 fd0 gd0 bd0 f0 g0), bd := DBs (X n0 fd0 gd0 bd0 f0 g0), wr := true } 0 0 (DN (X n0 fd0 gd0 bd0 f0 g0)) (DN (X n0 fd0 gd0 bd0 f0 g0)) then false else bif !sO (wide (DV (X n0 fd0 gd0 bd0 f0 g0) (f0 0))) (wide (DV (X n0 fd0 gd0 bd0 f0 g0) (f0 0))) then false else bif !sO (wide (DV (X n0 fd0 gd0 bd0 f0 g0) (f0 1))) (wide (DV (X n0 fd0 gd0 bd0 f0 g0) (f0 1))) then false else bif DI (X n0 fd0 gd0 bd0 f0 g0) (g0 2) != DI (X n0 fd0 gd0 bd0 f0 g0) (g0 2) then false else bif DI (X n0 fd0 gd0 bd0 f0 g0) (g0 3) != DI (X n0 fd0 gd0 bd0 f0 g0) (g0 3) then false else bif !sO (wide (DV (X n0 fd0 gd0 bd0 f0 g0) (f0 4))) (wide (DV (X n0 fd0 gd0 bd0 f0 g0) (f0 4))) then false else true then true else bif DC (X n0 fd0 gd0 bd0 f0 g0) != DC (X n0 fd0 gd0 bd0 f0 g0) then true else DD (X n0 fd0 gd0 bd0 f0 g0) != DD (X n0 fd0 gd0 bd0 f0 g0) then false else bif decide ((Int.ofNat 1).add (Int.ofNat ((DN (X n0 fd0 gd0 bd0 f0 g0)).mul 18)) < Int.ofNat 0) then false else bif (Int.ofNat 1).add (Int.ofNat ((DN (X n0 fd0 gd0 bd0 f0 g0)).mul 18)) != (Int.ofNat 1).add (Int.ofNat ((DN (X n0 fd0 gd0 bd0 f0 g0)).mul 18)) then false else true) false) := by kernel_rfl
  refine law_any gg mixed Try.func9 Try.call9 he ?_ hM hv
  clear he hv w0 hM
  cases hT : T1 n0 with
  | true => simp only [ndc_eq]; rfl
  | false =>
    have hn := T1_le hn0 hT
    clear hT
    have hN := DN_le (X n0 fd0 gd0 bd0 f0 g0)
    have q1 := eq_fs (X n0 fd0 gd0 bd0 f0 g0)
    generalize DN (X n0 fd0 gd0 bd0 f0 g0) = NX at hN q1 ⊢
    generalize DFi (X n0 fd0 gd0 bd0 f0 g0) = FX at q1 ⊢
    generalize DGi (X n0 fd0 gd0 bd0 f0 g0) = GX at q1 ⊢
    generalize DBi (X n0 fd0 gd0 bd0 f0 g0) = BX at q1 ⊢
    generalize DFs (X n0 fd0 gd0 bd0 f0 g0) = FY at q1 ⊢
    generalize DGs (X n0 fd0 gd0 bd0 f0 g0) = GY at q1 ⊢
    generalize DBs (X n0 fd0 gd0 bd0 f0 g0) = BY at q1 ⊢
    generalize DV (X n0 fd0 gd0 bd0 f0 g0) = VX
    generalize DI (X n0 fd0 gd0 bd0 f0 g0) = IX
    generalize DC (X n0 fd0 gd0 bd0 f0 g0) = CX
    generalize DD (X n0 fd0 gd0 bd0 f0 g0) = EX
    have d1 : decide ((Int.ofNat 1).add (Int.ofNat (NX.mul 18)) < Int.ofNat 0) = false := decide_eq_false (by show ¬ ((1 : Int) + ((NX * 18 : Nat) : Int) < 0); omega)
    have q2 : eqRows elWood { sh := wSh, n := Num.sym n0, fd := fun k o => fd0 (Nat.add 0 (Nat.add 0 k)) o, gd := fun k o => gd0 (Nat.add 0 (Nat.add 0 k)) o, bd := fun k o => bd0 (Nat.add 0 (Nat.add 0 k)) o, wr := true } { sh := wSh, n := Num.sym n0, fd := fun k o => fd0 (Nat.add 0 (Nat.add 0 k)) o, gd := fun k o => gd0 (Nat.add 0 (Nat.add 0 k)) o, bd := fun k o => bd0 (Nat.add 0 (Nat.add 0 k)) o, wr := true } 0 0 n0 n0 = true := eqRows_self elWood_self _ _ _ _ _ (fun j hj => ⟨rfl, rfl⟩)
    have q3 : hldB wSh (mrkJ { sh := wSh, n := Num.sym NX, fd := FX, gd := GX, bd := BX, wr := true } 0 (Int.ofNat 1) NX) 0 NX (Int.ofNat 1) = true := hld1 rfl (by omega)
    have b1 : Nat.ble (Nat.mul (Nat.add n0 0) 72) 140737488355328 = true := Nat.ble_eq_true_of_le (by show (n0 + 0) * 72 ≤ _; omega)
    have b2 : Nat.ble (Nat.add n0 0) 140737488355328 = true := Nat.ble_eq_true_of_le (by show n0 + 0 ≤ _; omega)
    have b3 : Nat.ble (Nat.add 0 n0) n0 = true := Nat.ble_eq_true_of_le (by show 0 + n0 ≤ _; omega)
    have b4 : Nat.ble n0 1048576 = true := Nat.ble_eq_true_of_le hn
    have b5 : Nat.ble n0 140737488355328 = true := Nat.ble_eq_true_of_le (by omega)
    have b6 : Nat.ble NX 140737488355328 = true := Nat.ble_eq_true_of_le (by omega)
    have b7 : Nat.ble (Nat.add 0 NX) NX = true := Nat.ble_eq_true_of_le (by show 0 + NX ≤ _; omega)
    have s1 : decide (IntKind.i64.wrap (g0 2) = g0 2) = true := decide_eq_true hs0
    simp only [b1, b2, b3, b4, b5, b6, b7, s1, d1, q1, q2, q3, sO_self, bne_self_eq_false, andN_eq, ndc_eq, Bool.and_true, cond_true, cond_false, Bool.not_true]

set_option maxRecDepth 100000 in
theorem lifted (os : Os) (started : os.Started) (H : Type) (enc : TypeId × Value → H) :
    ReturnsInHanded {} Try.checked os 9 .any (Rows.fnExactDropSpentSpec.pre6 enc Try.prog Try.f9 Rows.fnExactDropSpentRow.domain false) (Rows.fnExactDropSpentSpec.post enc Try.prog Try.f9 false true false false) := by
  refine returnsInHanded_of_change (C := Try.checked) own started (by kernel_rfl) Try.func9
    (ChangeSpec.witness6 (enc := enc) (C := Try.checked) false ⟨#[], #[.agg #[.slice none 0 0, .float .f32 0, .float .f32 0, .int .i8 0, .int .i64 0, .float .f32 0]], []⟩ 8 (by kernel_rfl) (by kernel_rfl) (by kernel_rfl) (by kernel_rfl)) ?_
  intro W base args ds gs before hval0 hW hcnd _
  have hval : ∀ (j : Nat) t v, Try.f9.params[j]? = some t → args[j]? = some v → Value.okWide Try.prog W .any base t v := hval0
  have hW' := hW
  obtain ⟨p, q, hA0, hV, rfl, hfz, hnd⟩ := hW
  have hA : DataW.TrodAll enc Try.prog W 0 (fun _ => true) true Try.f9.params.toList args.toList ds p := hA0
  rw [Try.params9] at hA hval
  obtain ⟨v0, vs0, d0, ds0, p0, q0, hargs, rfl, rfl, h0, r0⟩ := trodAll_cons hA
  obtain ⟨rfl, rfl, rfl⟩ := trodAll_nil r0
  obtain rfl : args = #[v0] := by cases args; simp_all
  obtain ⟨rfl, rfl⟩ := trodVars_none hV
  have k0 := h0
  have lt0 : ∀ x ∈ p0, x.block < W.heap.size := by obtain ⟨m, hm⟩ := k0; exact DataW.trod_lt m _ _ _ hm
  have elW : ElemIs Try.prog 25 [.f32, .f32, .f32, .f32, .f32, .f32, .f32, .f32, .f32, .f32, .f32, .f32, .f32, .f32, .f32, .f32, .f32, .f32] := elem_arrs (k := 3) (t := 23) (sh := repC 6 .f32) Try.underlying25 (by kernel_rfl) (by kernel_rfl) (by kernel_rfl) (elem_arr Try.underlying23 (by kernel_rfl) (by kernel_rfl) (by kernel_rfl))
  obtain ⟨n0, fd0, gd0, bd0, ρ, f0, g0, b0, hn0, hM, w0, hr0⟩ := open_st (t0 := 37) (e := 25) (ts := [22, 22, 45, 2, 22]) (cks := [.f32, .f32, .int .i8, .int .i64, .f32]) (sh := [.f32, .f32, .f32, .f32, .f32, .f32, .f32, .f32, .f32, .f32, .f32, .f32, .f32, .f32, .f32, .f32, .f32, .f32]) Try.underlying47 (by kernel_rfl) (by kernel_rfl) (by kernel_rfl) (by kernel_rfl) Try.underlying37 elW (by kernel_rfl) (by decide) (by kernel_rfl) (hval 0 47 v0 rfl rfl) h0
  have hs0 : IntKind.i64.wrap (g0 2) = g0 2 := by
    obtain ⟨h1, h2⟩ := hr0 2 45 .i8 rfl Try.underlying45
    have h1 : -128 ≤ g0 2 := h1
    have h2 : g0 2 ≤ 127 := h2
    exact IntWalk.i64_in _ (by omega)
  clear hA0 hval0
  refine (walk n0 fd0 gd0 bd0 ρ f0 g0 v0 W hn0 hM w0 hs0).mono fun e W' ⟨he, bel⟩ => ?_
  subst he
  exact ⟨_, rfl, _, _, _, [], _, [], hW', trodAll_mk1 (shut_bool Try.underlying4 _), (trodAll_cons_mk (Below.trod laidOut (by kernel_rfl) (of_decide_eq_true (by kernel_rfl)) k0 bel lt0) trodAll_mk0), rfl, bel.frame _, fun h => by cases h⟩

theorem over : Rows.fnExactDropSpentRow.holds Try.pinned (OpenSpec.ofChange Rows.fnExactDropSpentSpec) :=
  OpenClaim.holds_of_wide 9 Try.f9 rfl rfl rfl rfl rfl rfl rfl ⟨rfl, rfl, rfl, rfl, rfl⟩ rfl rfl rfl rfl rfl (by kernel_rfl) Try.func9 (by kernel_rfl)
    (of_decide_eq_true (by kernel_rfl)) (by unfold Func.isWrapper; first | (rw [if_pos (by decide +kernel)]; kernel_rfl) | (rw [if_neg (by decide +kernel)]; exact ⟨rfl, rfl⟩))
    (fun os started H enc _ => lifted os started H enc)

theorem proved : Rows.FnExactDropSpentSaid := over
end Go.Proofs.Ytbblhkjkokbheaa.fnExactDropSpent

