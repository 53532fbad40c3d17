import Derived.Test.YthepfkoaepjfbaaGf

import Derived.Test.YthepfkoaepjfbaaGd
import Derived.Test.YthepfkoaepjfbaaProg
namespace Go.Proofs.Ythepfkoaepjfbaa.ab
open Go Go.Ab Go.Proofs
set_option maxRecDepth 100000
theorem mixed : Try.prog.follows .mixedOrders = true := by kernel_rfl

noncomputable def G0 : List (Nat × Ctr) := []
theorem g0 : Ab.Good Try.prog G0 := good_nil _

/-- laws.sameFloat -/
noncomputable def G1 : List (Nat × Ctr) := (38, ctrD2 fun a b => .sbool (sO a b)) :: G0
theorem g1 : Ab.Good Try.prog G1 := good_cons (satD2 (g := fun a b => .sbool (sO a b)) g0 mixed Try.func38 Try.call38 100 (fun a b => .sbool (same64 a b)) (fun a b => by kernel_rfl) (fun a b _ _ ρ u h => by show V ρ (.sbool (sO a b)) u; rw [sO_eq]; exact h)) g0

/-- laws.eqFloat32A6 -/
noncomputable def G2 : List (Nat × Ctr) := (71, inl Try.prog G1 100 Try.f71) :: G1
theorem g2 : Ab.Good Try.prog G2 := good_cons (inl_sat g1 mixed Try.func71 Try.call71 100) g1

/-- laws.eqWood -/
noncomputable def G3 : List (Nat × Ctr) := (31, inl Try.prog G2 100 Try.f31) :: G2
theorem g3 : Ab.Good Try.prog G3 := good_cons (inl_sat g2 mixed Try.func31 Try.call31 100) g2

noncomputable def elWood : ElQ := fun f g f' g' => cond (!(cond (!sO (wide (f 0)) (wide (f' 0))) false (cond (!sO (wide (f 1)) (wide (f' 1))) false (cond (!sO (wide (f 2)) (wide (f' 2))) false (cond (!sO (wide (f 3)) (wide (f' 3))) false (cond (!sO (wide (f 4)) (wide (f' 4))) false (cond (!sO (wide (f 5)) (wide (f' 5))) false (true)))))))) false (cond (!(cond (!sO (wide (f 6)) (wide (f' 6))) false (cond (!sO (wide (f 7)) (wide (f' 7))) false (cond (!sO (wide (f 8)) (wide (f' 8))) false (cond (!sO (wide (f 9)) (wide (f' 9))) false (cond (!sO (wide (f 10)) (wide (f' 10))) false (cond (!sO (wide (f 11)) (wide (f' 11))) false (true)))))))) false (cond (!(cond (!sO (wide (f 12)) (wide (f' 12))) false (cond (!sO (wide (f 13)) (wide (f' 13))) false (cond (!sO (wide (f 14)) (wide (f' 14))) false (cond (!sO (wide (f 15)) (wide (f' 15))) false (cond (!sO (wide (f 16)) (wide (f' 16))) false (cond (!sO (wide (f 17)) (wide (f' 17))) false (true)))))))) false true))
theorem elWood_self (f : Nat → Nat) (g : Nat → Int) : elWood f g f g = true := by
  unfold elWood; simp [sO_self]

theorem eqs54step (fd : Nat → Nat → Nat) (gd : Nat → Nat → Int) (bd : Nat → Nat → Bool) (wr : Bool) (m : Num) (fd' : Nat → Nat → Nat) (gd' : Nat → Nat → Int) (bd' : Nat → Nat → Bool) (wr' : Bool) (m' : Num) (a a' n n' : Nat) (j : Nat) (hj : j < n) (hnn : n = n') (hn : n ≤ 140737488355328) (han : a + n ≤ m.val) (han' : a' + n' ≤ m'.val) (hp : (elWood (fd (Nat.add a j)) (gd (Nat.add a j)) (fd' (Nat.add a' j)) (gd' (Nat.add a' j))) = true) : Run Try.prog Try.f54.ntmps (cL (cK (cB (cA (cB (cB (bodyOf Try.f54))))))) (stR [.vec 0 18 a (.sym n), .vec 1 18 a' (.sym n'), .bad, .bad, .bad, .sint .i64 (Int.ofNat j)] [⟨[.f32, .f32, .f32, .f32, .f32, .f32, .f32, .f32, .f32, .f32, .f32, .f32, .f32, .f32, .f32, .f32, .f32, .f32], m, fd, gd, bd, false⟩, ⟨[.f32, .f32, .f32, .f32, .f32, .f32, .f32, .f32, .f32, .f32, .f32, .f32, .f32, .f32, .f32, .f32, .f32, .f32], m', fd', gd', bd', false⟩]) (.normal, (stR [.vec 0 18 a (.sym n), .vec 1 18 a' (.sym n'), .bad, .bad, .bad, .sint .i64 (Int.ofNat (j + 1))] [⟨[.f32, .f32, .f32, .f32, .f32, .f32, .f32, .f32, .f32, .f32, .f32, .f32, .f32, .f32, .f32, .f32, .f32, .f32], m, fd, gd, bd, false⟩, ⟨[.f32, .f32, .f32, .f32, .f32, .f32, .f32, .f32, .f32, .f32, .f32, .f32, .f32, .f32, .f32, .f32, .f32, .f32], m', fd', gd', bd', false⟩])) := by
  have c1 : Nat.ble (j + 1) n = true := Nat.ble_eq_true_of_le hj
  have c2 : Nat.ble (Nat.add a j + 1) m.val = true := Nat.ble_eq_true_of_le (by show a + j + 1 ≤ m.val; omega)
  have c3 : Nat.ble (j + 1) n' = true := Nat.ble_eq_true_of_le (by omega)
  have c4 : Nat.ble (Nat.add a' j + 1) m'.val = true := Nat.ble_eq_true_of_le (by show a' + j + 1 ≤ m'.val; omega)
  refine Run.to g3 mixed 60 [true, false] (by kernel_rfl) ?_ ?_ (by kernel_rfl) (by kernel_rfl) ?_ ⟨⟨⟨[.f32, .f32, .f32, .f32, .f32, .f32, .f32, .f32, .f32, .f32, .f32, .f32, .f32, .f32, .f32, .f32, .f32, .f32], m, fd, gd, bd, false⟩, by kernel_rfl, VcLe.refl _⟩, ⟨⟨[.f32, .f32, .f32, .f32, .f32, .f32, .f32, .f32, .f32, .f32, .f32, .f32, .f32, .f32, .f32, .f32, .f32, .f32], m', fd', gd', bd', false⟩, by kernel_rfl, VcLe.refl _⟩, trivial⟩ (by kernel_rfl)
  · have e : wBs (wayO [true, false] (stR [.vec 0 18 a (.sym n), .vec 1 18 a' (.sym n'), .bad, .bad, .bad, .sint .i64 (Int.ofNat j)] [⟨[.f32, .f32, .f32, .f32, .f32, .f32, .f32, .f32, .f32, .f32, .f32, .f32, .f32, .f32, .f32, .f32, .f32, .f32], m, fd, gd, bd, false⟩, ⟨[.f32, .f32, .f32, .f32, .f32, .f32, .f32, .f32, .f32, .f32, .f32, .f32, .f32, .f32, .f32, .f32, .f32, .f32], m', fd', gd', bd', false⟩]) (Ab.ev Try.prog G3 Try.f54.ntmps 60 (cL (cK (cB (cA (cB (cB (bodyOf Try.f54))))))) (stR [.vec 0 18 a (.sym n), .vec 1 18 a' (.sym n'), .bad, .bad, .bad, .sint .i64 (Int.ofNat j)] [⟨[.f32, .f32, .f32, .f32, .f32, .f32, .f32, .f32, .f32, .f32, .f32, .f32, .f32, .f32, .f32, .f32, .f32, .f32], m, fd, gd, bd, false⟩, ⟨[.f32, .f32, .f32, .f32, .f32, .f32, .f32, .f32, .f32, .f32, .f32, .f32, .f32, .f32, .f32, .f32, .f32, .f32], m', fd', gd', bd', false⟩]) Dl.nil)) = [decide (Int.ofNat j < Int.ofNat n), !(elWood (fd (Nat.add a j)) (gd (Nat.add a j)) (fd' (Nat.add a' j)) (gd' (Nat.add a' j)))] := by kernel_rfl
    rw [e, dec_lt hj, hp]; rfl
  · have e : wNd (wayO [true, false] (stR [.vec 0 18 a (.sym n), .vec 1 18 a' (.sym n'), .bad, .bad, .bad, .sint .i64 (Int.ofNat j)] [⟨[.f32, .f32, .f32, .f32, .f32, .f32, .f32, .f32, .f32, .f32, .f32, .f32, .f32, .f32, .f32, .f32, .f32, .f32], m, fd, gd, bd, false⟩, ⟨[.f32, .f32, .f32, .f32, .f32, .f32, .f32, .f32, .f32, .f32, .f32, .f32, .f32, .f32, .f32, .f32, .f32, .f32], m', fd', gd', bd', false⟩]) (Ab.ev Try.prog G3 Try.f54.ntmps 60 (cL (cK (cB (cA (cB (cB (bodyOf Try.f54))))))) (stR [.vec 0 18 a (.sym n), .vec 1 18 a' (.sym n'), .bad, .bad, .bad, .sint .i64 (Int.ofNat j)] [⟨[.f32, .f32, .f32, .f32, .f32, .f32, .f32, .f32, .f32, .f32, .f32, .f32, .f32, .f32, .f32, .f32, .f32, .f32], m, fd, gd, bd, false⟩, ⟨[.f32, .f32, .f32, .f32, .f32, .f32, .f32, .f32, .f32, .f32, .f32, .f32, .f32, .f32, .f32, .f32, .f32, .f32], m', fd', gd', bd', false⟩]) Dl.nil)) = (cond (andN (andN (andN (andN (true) (Nat.ble (j + 1) n)) (Nat.ble (Nat.add a j + 1) m.val)) (Nat.ble (j + 1) n')) (Nat.ble (Nat.add a' j + 1) m'.val)) (true) false) := by kernel_rfl
    rw [e, c1, c2, c3, c4]; rfl
  · refine ⟨Or.inr (ge_eq (by kernel_rfl)), Or.inr (ge_eq (by kernel_rfl)), Or.inl rfl, Or.inl rfl, Or.inl rfl, Or.inr (ge_eq ?_), trivial⟩
    have e : (wS (wayO [true, false] (stR [.vec 0 18 a (.sym n), .vec 1 18 a' (.sym n'), .bad, .bad, .bad, .sint .i64 (Int.ofNat j)] [⟨[.f32, .f32, .f32, .f32, .f32, .f32, .f32, .f32, .f32, .f32, .f32, .f32, .f32, .f32, .f32, .f32, .f32, .f32], m, fd, gd, bd, false⟩, ⟨[.f32, .f32, .f32, .f32, .f32, .f32, .f32, .f32, .f32, .f32, .f32, .f32, .f32, .f32, .f32, .f32, .f32, .f32], m', fd', gd', bd', false⟩]) (Ab.ev Try.prog G3 Try.f54.ntmps 60 (cL (cK (cB (cA (cB (cB (bodyOf Try.f54))))))) (stR [.vec 0 18 a (.sym n), .vec 1 18 a' (.sym n'), .bad, .bad, .bad, .sint .i64 (Int.ofNat j)] [⟨[.f32, .f32, .f32, .f32, .f32, .f32, .f32, .f32, .f32, .f32, .f32, .f32, .f32, .f32, .f32, .f32, .f32, .f32], m, fd, gd, bd, false⟩, ⟨[.f32, .f32, .f32, .f32, .f32, .f32, .f32, .f32, .f32, .f32, .f32, .f32, .f32, .f32, .f32, .f32, .f32, .f32], m', fd', gd', bd', false⟩]) Dl.nil))).get 5 = .sint .i64 (IntKind.i64.wrap (Int.ofNat j + 1)) := by kernel_rfl
    rw [e, wrap_next hj hn]

theorem eqs54ret (fd : Nat → Nat → Nat) (gd : Nat → Nat → Int) (bd : Nat → Nat → Bool) (wr : Bool) (m : Num) (fd' : Nat → Nat → Nat) (gd' : Nat → Nat → Int) (bd' : Nat → Nat → Bool) (wr' : Bool) (m' : Num) (a a' n n' : Nat) (j : Nat) (hj : j < n) (hnn : n = n') (hn : n ≤ 140737488355328) (han : a + n ≤ m.val) (han' : a' + n' ≤ m'.val) (hp : (elWood (fd (Nat.add a j)) (gd (Nat.add a j)) (fd' (Nat.add a' j)) (gd' (Nat.add a' j))) = false) : Run Try.prog Try.f54.ntmps (cL (cK (cB (cA (cB (cB (bodyOf Try.f54))))))) (stR [.vec 0 18 a (.sym n), .vec 1 18 a' (.sym n'), .bad, .bad, .bad, .sint .i64 (Int.ofNat j)] [⟨[.f32, .f32, .f32, .f32, .f32, .f32, .f32, .f32, .f32, .f32, .f32, .f32, .f32, .f32, .f32, .f32, .f32, .f32], m, fd, gd, bd, false⟩, ⟨[.f32, .f32, .f32, .f32, .f32, .f32, .f32, .f32, .f32, .f32, .f32, .f32, .f32, .f32, .f32, .f32, .f32, .f32], m', fd', gd', bd', false⟩]) (.ret, (stR [.bad, .bad, .bad, .bad, .sbool false] [⟨[.f32, .f32, .f32, .f32, .f32, .f32, .f32, .f32, .f32, .f32, .f32, .f32, .f32, .f32, .f32, .f32, .f32, .f32], m, fd, gd, bd, false⟩, ⟨[.f32, .f32, .f32, .f32, .f32, .f32, .f32, .f32, .f32, .f32, .f32, .f32, .f32, .f32, .f32, .f32, .f32, .f32], m', fd', gd', bd', false⟩])) := by
  have c1 : Nat.ble (j + 1) n = true := Nat.ble_eq_true_of_le hj
  have c2 : Nat.ble (Nat.add a j + 1) m.val = true := Nat.ble_eq_true_of_le (by show a + j + 1 ≤ m.val; omega)
  have c3 : Nat.ble (j + 1) n' = true := Nat.ble_eq_true_of_le (by omega)
  have c4 : Nat.ble (Nat.add a' j + 1) m'.val = true := Nat.ble_eq_true_of_le (by show a' + j + 1 ≤ m'.val; omega)
  refine Run.to g3 mixed 60 [true, true] (by kernel_rfl) ?_ ?_ (by kernel_rfl) (by kernel_rfl) ⟨Or.inl rfl, Or.inl rfl, Or.inl rfl, Or.inl rfl, Or.inr (ge_bool (by kernel_rfl)), trivial⟩ ⟨⟨⟨[.f32, .f32, .f32, .f32, .f32, .f32, .f32, .f32, .f32, .f32, .f32, .f32, .f32, .f32, .f32, .f32, .f32, .f32], m, fd, gd, bd, false⟩, by kernel_rfl, VcLe.refl _⟩, ⟨⟨[.f32, .f32, .f32, .f32, .f32, .f32, .f32, .f32, .f32, .f32, .f32, .f32, .f32, .f32, .f32, .f32, .f32, .f32], m', fd', gd', bd', false⟩, by kernel_rfl, VcLe.refl _⟩, trivial⟩ (by kernel_rfl)
  · have e : wBs (wayO [true, true] (stR [.vec 0 18 a (.sym n), .vec 1 18 a' (.sym n'), .bad, .bad, .bad, .sint .i64 (Int.ofNat j)] [⟨[.f32, .f32, .f32, .f32, .f32, .f32, .f32, .f32, .f32, .f32, .f32, .f32, .f32, .f32, .f32, .f32, .f32, .f32], m, fd, gd, bd, false⟩, ⟨[.f32, .f32, .f32, .f32, .f32, .f32, .f32, .f32, .f32, .f32, .f32, .f32, .f32, .f32, .f32, .f32, .f32, .f32], m', fd', gd', bd', false⟩]) (Ab.ev Try.prog G3 Try.f54.ntmps 60 (cL (cK (cB (cA (cB (cB (bodyOf Try.f54))))))) (stR [.vec 0 18 a (.sym n), .vec 1 18 a' (.sym n'), .bad, .bad, .bad, .sint .i64 (Int.ofNat j)] [⟨[.f32, .f32, .f32, .f32, .f32, .f32, .f32, .f32, .f32, .f32, .f32, .f32, .f32, .f32, .f32, .f32, .f32, .f32], m, fd, gd, bd, false⟩, ⟨[.f32, .f32, .f32, .f32, .f32, .f32, .f32, .f32, .f32, .f32, .f32, .f32, .f32, .f32, .f32, .f32, .f32, .f32], m', fd', gd', bd', false⟩]) Dl.nil)) = [decide (Int.ofNat j < Int.ofNat n), !(elWood (fd (Nat.add a j)) (gd (Nat.add a j)) (fd' (Nat.add a' j)) (gd' (Nat.add a' j)))] := by kernel_rfl
    rw [e, dec_lt hj, hp]; rfl
  · have e : wNd (wayO [true, true] (stR [.vec 0 18 a (.sym n), .vec 1 18 a' (.sym n'), .bad, .bad, .bad, .sint .i64 (Int.ofNat j)] [⟨[.f32, .f32, .f32, .f32, .f32, .f32, .f32, .f32, .f32, .f32, .f32, .f32, .f32, .f32, .f32, .f32, .f32, .f32], m, fd, gd, bd, false⟩, ⟨[.f32, .f32, .f32, .f32, .f32, .f32, .f32, .f32, .f32, .f32, .f32, .f32, .f32, .f32, .f32, .f32, .f32, .f32], m', fd', gd', bd', false⟩]) (Ab.ev Try.prog G3 Try.f54.ntmps 60 (cL (cK (cB (cA (cB (cB (bodyOf Try.f54))))))) (stR [.vec 0 18 a (.sym n), .vec 1 18 a' (.sym n'), .bad, .bad, .bad, .sint .i64 (Int.ofNat j)] [⟨[.f32, .f32, .f32, .f32, .f32, .f32, .f32, .f32, .f32, .f32, .f32, .f32, .f32, .f32, .f32, .f32, .f32, .f32], m, fd, gd, bd, false⟩, ⟨[.f32, .f32, .f32, .f32, .f32, .f32, .f32, .f32, .f32, .f32, .f32, .f32, .f32, .f32, .f32, .f32, .f32, .f32], m', fd', gd', bd', false⟩]) Dl.nil)) = (cond (andN (andN (andN (andN (true) (Nat.ble (j + 1) n)) (Nat.ble (Nat.add a j + 1) m.val)) (Nat.ble (j + 1) n')) (Nat.ble (Nat.add a' j + 1) m'.val)) (true) false) := by kernel_rfl
    rw [e, c1, c2, c3, c4]; rfl

theorem eqs54end (fd : Nat → Nat → Nat) (gd : Nat → Nat → Int) (bd : Nat → Nat → Bool) (wr : Bool) (m : Num) (fd' : Nat → Nat → Nat) (gd' : Nat → Nat → Int) (bd' : Nat → Nat → Bool) (wr' : Bool) (m' : Num) (a a' n n' : Nat) : Run Try.prog Try.f54.ntmps (cL (cK (cB (cA (cB (cB (bodyOf Try.f54))))))) (stR [.vec 0 18 a (.sym n), .vec 1 18 a' (.sym n'), .bad, .bad, .bad, .sint .i64 (Int.ofNat n)] [⟨[.f32, .f32, .f32, .f32, .f32, .f32, .f32, .f32, .f32, .f32, .f32, .f32, .f32, .f32, .f32, .f32, .f32, .f32], m, fd, gd, bd, false⟩, ⟨[.f32, .f32, .f32, .f32, .f32, .f32, .f32, .f32, .f32, .f32, .f32, .f32, .f32, .f32, .f32, .f32, .f32, .f32], m', fd', gd', bd', false⟩]) (.exit 0, (stR [.vec 0 18 a (.sym n), .vec 1 18 a' (.sym n'), .bad, .bad, .bad, .sint .i64 (Int.ofNat n)] [⟨[.f32, .f32, .f32, .f32, .f32, .f32, .f32, .f32, .f32, .f32, .f32, .f32, .f32, .f32, .f32, .f32, .f32, .f32], m, fd, gd, bd, false⟩, ⟨[.f32, .f32, .f32, .f32, .f32, .f32, .f32, .f32, .f32, .f32, .f32, .f32, .f32, .f32, .f32, .f32, .f32, .f32], m', fd', gd', bd', false⟩])) := by
  refine Run.to g3 mixed 60 [false] (by kernel_rfl) ?_ (by kernel_rfl) (by kernel_rfl) (by kernel_rfl) ⟨Or.inr (ge_eq (by kernel_rfl)), Or.inr (ge_eq (by kernel_rfl)), Or.inl rfl, Or.inl rfl, Or.inl rfl, Or.inr (ge_eq (by kernel_rfl)), trivial⟩ ⟨⟨⟨[.f32, .f32, .f32, .f32, .f32, .f32, .f32, .f32, .f32, .f32, .f32, .f32, .f32, .f32, .f32, .f32, .f32, .f32], m, fd, gd, bd, false⟩, by kernel_rfl, VcLe.refl _⟩, ⟨⟨[.f32, .f32, .f32, .f32, .f32, .f32, .f32, .f32, .f32, .f32, .f32, .f32, .f32, .f32, .f32, .f32, .f32, .f32], m', fd', gd', bd', false⟩, by kernel_rfl, VcLe.refl _⟩, trivial⟩ (by kernel_rfl)
  have e : wBs (wayO [false] (stR [.vec 0 18 a (.sym n), .vec 1 18 a' (.sym n'), .bad, .bad, .bad, .sint .i64 (Int.ofNat n)] [⟨[.f32, .f32, .f32, .f32, .f32, .f32, .f32, .f32, .f32, .f32, .f32, .f32, .f32, .f32, .f32, .f32, .f32, .f32], m, fd, gd, bd, false⟩, ⟨[.f32, .f32, .f32, .f32, .f32, .f32, .f32, .f32, .f32, .f32, .f32, .f32, .f32, .f32, .f32, .f32, .f32, .f32], m', fd', gd', bd', false⟩]) (Ab.ev Try.prog G3 Try.f54.ntmps 60 (cL (cK (cB (cA (cB (cB (bodyOf Try.f54))))))) (stR [.vec 0 18 a (.sym n), .vec 1 18 a' (.sym n'), .bad, .bad, .bad, .sint .i64 (Int.ofNat n)] [⟨[.f32, .f32, .f32, .f32, .f32, .f32, .f32, .f32, .f32, .f32, .f32, .f32, .f32, .f32, .f32, .f32, .f32, .f32], m, fd, gd, bd, false⟩, ⟨[.f32, .f32, .f32, .f32, .f32, .f32, .f32, .f32, .f32, .f32, .f32, .f32, .f32, .f32, .f32, .f32, .f32, .f32], m', fd', gd', bd', false⟩]) Dl.nil)) = [decide (Int.ofNat n < Int.ofNat n)] := by kernel_rfl
  rw [e, dec_irr]

theorem eqs54 (i i' a a' n n' : Nat) (v v' : Vc) (hs : v.sh = [.f32, .f32, .f32, .f32, .f32, .f32, .f32, .f32, .f32, .f32, .f32, .f32, .f32, .f32, .f32, .f32, .f32, .f32]) (hs' : v'.sh = [.f32, .f32, .f32, .f32, .f32, .f32, .f32, .f32, .f32, .f32, .f32, .f32, .f32, .f32, .f32, .f32, .f32, .f32]) (han : a + n ≤ v.n.val) (han' : a' + n' ≤ v'.n.val) (hn : n ≤ 140737488355328) : OnRows Try.prog 54 [⟨i, 18, a, .sym n⟩, ⟨i', 18, a', .sym n'⟩] [] [v, v'] ⟨.sbool (eqRows elWood v v' a a' n n'), [], [], [], true, none⟩ := by
  obtain ⟨sh, m, fd, gd, bd, wr⟩ := v
  have hs : sh = [.f32, .f32, .f32, .f32, .f32, .f32, .f32, .f32, .f32, .f32, .f32, .f32, .f32, .f32, .f32, .f32, .f32, .f32] := hs
  subst hs
  obtain ⟨sh', m', fd', gd', bd', wr'⟩ := v'
  have hs' : sh' = [.f32, .f32, .f32, .f32, .f32, .f32, .f32, .f32, .f32, .f32, .f32, .f32, .f32, .f32, .f32, .f32, .f32, .f32] := hs'
  subst hs'
  have rr : VecsLe (stR [.vec 0 18 a (.sym n), .vec 1 18 a' (.sym n')] [⟨[.f32, .f32, .f32, .f32, .f32, .f32, .f32, .f32, .f32, .f32, .f32, .f32, .f32, .f32, .f32, .f32, .f32, .f32], m, fd, gd, bd, false⟩, ⟨[.f32, .f32, .f32, .f32, .f32, .f32, .f32, .f32, .f32, .f32, .f32, .f32, .f32, .f32, .f32, .f32, .f32, .f32], m', fd', gd', bd', false⟩]) 0 [⟨[.f32, .f32, .f32, .f32, .f32, .f32, .f32, .f32, .f32, .f32, .f32, .f32, .f32, .f32, .f32, .f32, .f32, .f32], m, fd, gd, bd, false⟩, ⟨[.f32, .f32, .f32, .f32, .f32, .f32, .f32, .f32, .f32, .f32, .f32, .f32, .f32, .f32, .f32, .f32, .f32, .f32], m', fd', gd', bd', false⟩] := ⟨⟨⟨[.f32, .f32, .f32, .f32, .f32, .f32, .f32, .f32, .f32, .f32, .f32, .f32, .f32, .f32, .f32, .f32, .f32, .f32], m, fd, gd, bd, false⟩, rfl, VcLe.refl _⟩, ⟨⟨[.f32, .f32, .f32, .f32, .f32, .f32, .f32, .f32, .f32, .f32, .f32, .f32, .f32, .f32, .f32, .f32, .f32, .f32], m', fd', gd', bd', false⟩, rfl, VcLe.refl _⟩, trivial⟩
  have h0 : Run Try.prog Try.f54.ntmps (cA (bodyOf Try.f54)) ((viewS [⟨[.f32, .f32, .f32, .f32, .f32, .f32, .f32, .f32, .f32, .f32, .f32, .f32, .f32, .f32, .f32, .f32, .f32, .f32], m, fd, gd, bd, wr⟩, ⟨[.f32, .f32, .f32, .f32, .f32, .f32, .f32, .f32, .f32, .f32, .f32, .f32, .f32, .f32, .f32, .f32, .f32, .f32], m', fd', gd', bd', wr'⟩]).start Try.f54.ntmps [.vec 0 18 a (.sym n), .vec 1 18 a' (.sym n')]) (.normal, stR [.vec 0 18 a (.sym n), .vec 1 18 a' (.sym n')] [⟨[.f32, .f32, .f32, .f32, .f32, .f32, .f32, .f32, .f32, .f32, .f32, .f32, .f32, .f32, .f32, .f32, .f32, .f32], m, fd, gd, bd, false⟩, ⟨[.f32, .f32, .f32, .f32, .f32, .f32, .f32, .f32, .f32, .f32, .f32, .f32, .f32, .f32, .f32, .f32, .f32, .f32], m', fd', gd', bd', false⟩]) :=
    Run.to g3 mixed 60 [] (by kernel_rfl) (by kernel_rfl) (by kernel_rfl) (by kernel_rfl) (by kernel_rfl) ⟨Or.inr (ge_eq (by kernel_rfl)), Or.inr (ge_eq (by kernel_rfl)), trivial⟩ ⟨⟨⟨[.f32, .f32, .f32, .f32, .f32, .f32, .f32, .f32, .f32, .f32, .f32, .f32, .f32, .f32, .f32, .f32, .f32, .f32], m, fd, gd, bd, false⟩, by kernel_rfl, VcLe.refl _⟩, ⟨⟨[.f32, .f32, .f32, .f32, .f32, .f32, .f32, .f32, .f32, .f32, .f32, .f32, .f32, .f32, .f32, .f32, .f32, .f32], m', fd', gd', bd', false⟩, by kernel_rfl, VcLe.refl _⟩, trivial⟩ (by kernel_rfl)
  have ebT : wBs (wayO [true] (stR [.vec 0 18 a (.sym n), .vec 1 18 a' (.sym n')] [⟨[.f32, .f32, .f32, .f32, .f32, .f32, .f32, .f32, .f32, .f32, .f32, .f32, .f32, .f32, .f32, .f32, .f32, .f32], m, fd, gd, bd, false⟩, ⟨[.f32, .f32, .f32, .f32, .f32, .f32, .f32, .f32, .f32, .f32, .f32, .f32, .f32, .f32, .f32, .f32, .f32, .f32], m', fd', gd', bd', false⟩]) (Ab.ev Try.prog G3 Try.f54.ntmps 60 (cA (cB (bodyOf Try.f54))) (stR [.vec 0 18 a (.sym n), .vec 1 18 a' (.sym n')] [⟨[.f32, .f32, .f32, .f32, .f32, .f32, .f32, .f32, .f32, .f32, .f32, .f32, .f32, .f32, .f32, .f32, .f32, .f32], m, fd, gd, bd, false⟩, ⟨[.f32, .f32, .f32, .f32, .f32, .f32, .f32, .f32, .f32, .f32, .f32, .f32, .f32, .f32, .f32, .f32, .f32, .f32], m', fd', gd', bd', false⟩]) Dl.nil)) = [Int.ofNat n != Int.ofNat n'] := by kernel_rfl
  have ebF : wBs (wayO [false] (stR [.vec 0 18 a (.sym n), .vec 1 18 a' (.sym n')] [⟨[.f32, .f32, .f32, .f32, .f32, .f32, .f32, .f32, .f32, .f32, .f32, .f32, .f32, .f32, .f32, .f32, .f32, .f32], m, fd, gd, bd, false⟩, ⟨[.f32, .f32, .f32, .f32, .f32, .f32, .f32, .f32, .f32, .f32, .f32, .f32, .f32, .f32, .f32, .f32, .f32, .f32], m', fd', gd', bd', false⟩]) (Ab.ev Try.prog G3 Try.f54.ntmps 60 (cA (cB (bodyOf Try.f54))) (stR [.vec 0 18 a (.sym n), .vec 1 18 a' (.sym n')] [⟨[.f32, .f32, .f32, .f32, .f32, .f32, .f32, .f32, .f32, .f32, .f32, .f32, .f32, .f32, .f32, .f32, .f32, .f32], m, fd, gd, bd, false⟩, ⟨[.f32, .f32, .f32, .f32, .f32, .f32, .f32, .f32, .f32, .f32, .f32, .f32, .f32, .f32, .f32, .f32, .f32, .f32], m', fd', gd', bd', false⟩]) Dl.nil)) = [Int.ofNat n != Int.ofNat n'] := by kernel_rfl
  have hr : Run Try.prog Try.f54.ntmps (bodyOf Try.f54) ((viewS [⟨[.f32, .f32, .f32, .f32, .f32, .f32, .f32, .f32, .f32, .f32, .f32, .f32, .f32, .f32, .f32, .f32, .f32, .f32], m, fd, gd, bd, wr⟩, ⟨[.f32, .f32, .f32, .f32, .f32, .f32, .f32, .f32, .f32, .f32, .f32, .f32, .f32, .f32, .f32, .f32, .f32, .f32], m', fd', gd', bd', wr'⟩]).start Try.f54.ntmps [.vec 0 18 a (.sym n), .vec 1 18 a' (.sym n')]) (.ret, (stR [.bad, .bad, .bad, .bad, .sbool (eqRows elWood ⟨[.f32, .f32, .f32, .f32, .f32, .f32, .f32, .f32, .f32, .f32, .f32, .f32, .f32, .f32, .f32, .f32, .f32, .f32], m, fd, gd, bd, wr⟩ ⟨[.f32, .f32, .f32, .f32, .f32, .f32, .f32, .f32, .f32, .f32, .f32, .f32, .f32, .f32, .f32, .f32, .f32, .f32], m', fd', gd', bd', wr'⟩ a a' n n')] [⟨[.f32, .f32, .f32, .f32, .f32, .f32, .f32, .f32, .f32, .f32, .f32, .f32, .f32, .f32, .f32, .f32, .f32, .f32], m, fd, gd, bd, false⟩, ⟨[.f32, .f32, .f32, .f32, .f32, .f32, .f32, .f32, .f32, .f32, .f32, .f32, .f32, .f32, .f32, .f32, .f32, .f32], m', fd', gd', bd', false⟩])) := by
    have hB : (bodyOf Try.f54) = .seq (cA (bodyOf Try.f54)) (.seq (cA (cB (bodyOf Try.f54))) (.seq (.seq (cA (cA (cB (cB (bodyOf Try.f54))))) (.block 0 (.loop (cL (cK (cB (cA (cB (cB (bodyOf Try.f54)))))))))) (cB (cB (cB (bodyOf Try.f54)))))) := by kernel_rfl
    rw [hB]
    refine Run.seq h0 (Nat.le_refl _) ?_
    unfold eqRows
    by_cases hnn : n = n'
    · have hne : (Int.ofNat n != Int.ofNat n') = false := by rw [hnn]; simp
      have h1 : Run Try.prog Try.f54.ntmps (cA (cB (bodyOf Try.f54))) (stR [.vec 0 18 a (.sym n), .vec 1 18 a' (.sym n')] [⟨[.f32, .f32, .f32, .f32, .f32, .f32, .f32, .f32, .f32, .f32, .f32, .f32, .f32, .f32, .f32, .f32, .f32, .f32], m, fd, gd, bd, false⟩, ⟨[.f32, .f32, .f32, .f32, .f32, .f32, .f32, .f32, .f32, .f32, .f32, .f32, .f32, .f32, .f32, .f32, .f32, .f32], m', fd', gd', bd', false⟩]) (.normal, stR [.vec 0 18 a (.sym n), .vec 1 18 a' (.sym n')] [⟨[.f32, .f32, .f32, .f32, .f32, .f32, .f32, .f32, .f32, .f32, .f32, .f32, .f32, .f32, .f32, .f32, .f32, .f32], m, fd, gd, bd, false⟩, ⟨[.f32, .f32, .f32, .f32, .f32, .f32, .f32, .f32, .f32, .f32, .f32, .f32, .f32, .f32, .f32, .f32, .f32, .f32], m', fd', gd', bd', false⟩]) := by
        refine Run.to g3 mixed 60 [false] (by kernel_rfl) ?_ (by kernel_rfl) (by kernel_rfl) (by kernel_rfl) ⟨Or.inr (ge_eq (by kernel_rfl)), Or.inr (ge_eq (by kernel_rfl)), trivial⟩ ⟨⟨⟨[.f32, .f32, .f32, .f32, .f32, .f32, .f32, .f32, .f32, .f32, .f32, .f32, .f32, .f32, .f32, .f32, .f32, .f32], m, fd, gd, bd, false⟩, by kernel_rfl, VcLe.refl _⟩, ⟨⟨[.f32, .f32, .f32, .f32, .f32, .f32, .f32, .f32, .f32, .f32, .f32, .f32, .f32, .f32, .f32, .f32, .f32, .f32], m', fd', gd', bd', false⟩, by kernel_rfl, VcLe.refl _⟩, trivial⟩ (by kernel_rfl)
        rw [ebF, hne]
      have h2 : Run Try.prog Try.f54.ntmps (cA (cA (cB (cB (bodyOf Try.f54))))) (stR [.vec 0 18 a (.sym n), .vec 1 18 a' (.sym n')] [⟨[.f32, .f32, .f32, .f32, .f32, .f32, .f32, .f32, .f32, .f32, .f32, .f32, .f32, .f32, .f32, .f32, .f32, .f32], m, fd, gd, bd, false⟩, ⟨[.f32, .f32, .f32, .f32, .f32, .f32, .f32, .f32, .f32, .f32, .f32, .f32, .f32, .f32, .f32, .f32, .f32, .f32], m', fd', gd', bd', false⟩]) (.normal, (stR [.vec 0 18 a (.sym n), .vec 1 18 a' (.sym n'), .bad, .bad, .bad, .sint .i64 (Int.ofNat 0)] [⟨[.f32, .f32, .f32, .f32, .f32, .f32, .f32, .f32, .f32, .f32, .f32, .f32, .f32, .f32, .f32, .f32, .f32, .f32], m, fd, gd, bd, false⟩, ⟨[.f32, .f32, .f32, .f32, .f32, .f32, .f32, .f32, .f32, .f32, .f32, .f32, .f32, .f32, .f32, .f32, .f32, .f32], m', fd', gd', bd', false⟩])) :=
        Run.to g3 mixed 60 [] (by kernel_rfl) (by kernel_rfl) (by kernel_rfl) (by kernel_rfl) (by kernel_rfl) ⟨Or.inr (ge_eq (by kernel_rfl)), Or.inr (ge_eq (by kernel_rfl)), Or.inl rfl, Or.inl rfl, Or.inl rfl, Or.inr (ge_int (by kernel_rfl)), trivial⟩ ⟨⟨⟨[.f32, .f32, .f32, .f32, .f32, .f32, .f32, .f32, .f32, .f32, .f32, .f32, .f32, .f32, .f32, .f32, .f32, .f32], m, fd, gd, bd, false⟩, by kernel_rfl, VcLe.refl _⟩, ⟨⟨[.f32, .f32, .f32, .f32, .f32, .f32, .f32, .f32, .f32, .f32, .f32, .f32, .f32, .f32, .f32, .f32, .f32, .f32], m', fd', gd', bd', false⟩, by kernel_rfl, VcLe.refl _⟩, trivial⟩ (by kernel_rfl)
      rw [hne]
      show Run Try.prog Try.f54.ntmps _ _ (.ret, (stR [.bad, .bad, .bad, .bad, .sbool (allB n (fun j => elAt elWood ⟨[.f32, .f32, .f32, .f32, .f32, .f32, .f32, .f32, .f32, .f32, .f32, .f32, .f32, .f32, .f32, .f32, .f32, .f32], m, fd, gd, bd, wr⟩ ⟨[.f32, .f32, .f32, .f32, .f32, .f32, .f32, .f32, .f32, .f32, .f32, .f32, .f32, .f32, .f32, .f32, .f32, .f32], m', fd', gd', bd', wr'⟩ a a' j))] [⟨[.f32, .f32, .f32, .f32, .f32, .f32, .f32, .f32, .f32, .f32, .f32, .f32, .f32, .f32, .f32, .f32, .f32, .f32], m, fd, gd, bd, false⟩, ⟨[.f32, .f32, .f32, .f32, .f32, .f32, .f32, .f32, .f32, .f32, .f32, .f32, .f32, .f32, .f32, .f32, .f32, .f32], m', fd', gd', bd', false⟩]))
      refine Run.seq h1 (Nat.le_refl _) ?_
      cases hall : allB n (fun j => elAt elWood ⟨[.f32, .f32, .f32, .f32, .f32, .f32, .f32, .f32, .f32, .f32, .f32, .f32, .f32, .f32, .f32, .f32, .f32, .f32], m, fd, gd, bd, wr⟩ ⟨[.f32, .f32, .f32, .f32, .f32, .f32, .f32, .f32, .f32, .f32, .f32, .f32, .f32, .f32, .f32, .f32, .f32, .f32], m', fd', gd', bd', wr'⟩ a a' j) with
      | true =>
        have hp := allB_true hall
        have h3 : Run Try.prog Try.f54.ntmps (.loop (cL (cK (cB (cA (cB (cB (bodyOf Try.f54)))))))) (stR [.vec 0 18 a (.sym n), .vec 1 18 a' (.sym n'), .bad, .bad, .bad, .sint .i64 (Int.ofNat 0)] [⟨[.f32, .f32, .f32, .f32, .f32, .f32, .f32, .f32, .f32, .f32, .f32, .f32, .f32, .f32, .f32, .f32, .f32, .f32], m, fd, gd, bd, false⟩, ⟨[.f32, .f32, .f32, .f32, .f32, .f32, .f32, .f32, .f32, .f32, .f32, .f32, .f32, .f32, .f32, .f32, .f32, .f32], m', fd', gd', bd', false⟩]) (.exit 0, (stR [.vec 0 18 a (.sym n), .vec 1 18 a' (.sym n'), .bad, .bad, .bad, .sint .i64 (Int.ofNat n)] [⟨[.f32, .f32, .f32, .f32, .f32, .f32, .f32, .f32, .f32, .f32, .f32, .f32, .f32, .f32, .f32, .f32, .f32, .f32], m, fd, gd, bd, false⟩, ⟨[.f32, .f32, .f32, .f32, .f32, .f32, .f32, .f32, .f32, .f32, .f32, .f32, .f32, .f32, .f32, .f32, .f32, .f32], m', fd', gd', bd', false⟩])) := Run.loop n (fun j => (stR [.vec 0 18 a (.sym n), .vec 1 18 a' (.sym n'), .bad, .bad, .bad, .sint .i64 (Int.ofNat j)] [⟨[.f32, .f32, .f32, .f32, .f32, .f32, .f32, .f32, .f32, .f32, .f32, .f32, .f32, .f32, .f32, .f32, .f32, .f32], m, fd, gd, bd, false⟩, ⟨[.f32, .f32, .f32, .f32, .f32, .f32, .f32, .f32, .f32, .f32, .f32, .f32, .f32, .f32, .f32, .f32, .f32, .f32], m', fd', gd', bd', false⟩])) (fun j => rfl) (fun j hj => eqs54step fd gd bd wr m fd' gd' bd' wr' m' a a' n n' j hj hnn hn han han' (hp j hj)) (eqs54end fd gd bd wr m fd' gd' bd' wr' m' a a' n n') (by intro h; cases h)
        have h6 : Run Try.prog Try.f54.ntmps (cB (cB (cB (bodyOf Try.f54)))) (stR [.vec 0 18 a (.sym n), .vec 1 18 a' (.sym n'), .bad, .bad, .bad, .sint .i64 (Int.ofNat n)] [⟨[.f32, .f32, .f32, .f32, .f32, .f32, .f32, .f32, .f32, .f32, .f32, .f32, .f32, .f32, .f32, .f32, .f32, .f32], m, fd, gd, bd, false⟩, ⟨[.f32, .f32, .f32, .f32, .f32, .f32, .f32, .f32, .f32, .f32, .f32, .f32, .f32, .f32, .f32, .f32, .f32, .f32], m', fd', gd', bd', false⟩]) (.ret, (stR [.bad, .bad, .bad, .bad, .sbool true] [⟨[.f32, .f32, .f32, .f32, .f32, .f32, .f32, .f32, .f32, .f32, .f32, .f32, .f32, .f32, .f32, .f32, .f32, .f32], m, fd, gd, bd, false⟩, ⟨[.f32, .f32, .f32, .f32, .f32, .f32, .f32, .f32, .f32, .f32, .f32, .f32, .f32, .f32, .f32, .f32, .f32, .f32], m', fd', gd', bd', false⟩])) :=
          Run.to g3 mixed 60 [] (by kernel_rfl) (by kernel_rfl) (by kernel_rfl) (by kernel_rfl) (by kernel_rfl) ⟨Or.inl rfl, Or.inl rfl, Or.inl rfl, Or.inl rfl, Or.inr (ge_bool (by kernel_rfl)), trivial⟩ ⟨⟨⟨[.f32, .f32, .f32, .f32, .f32, .f32, .f32, .f32, .f32, .f32, .f32, .f32, .f32, .f32, .f32, .f32, .f32, .f32], m, fd, gd, bd, false⟩, by kernel_rfl, VcLe.refl _⟩, ⟨⟨[.f32, .f32, .f32, .f32, .f32, .f32, .f32, .f32, .f32, .f32, .f32, .f32, .f32, .f32, .f32, .f32, .f32, .f32], m', fd', gd', bd', false⟩, by kernel_rfl, VcLe.refl _⟩, trivial⟩ (by kernel_rfl)
        exact Run.seq (Run.seq h2 (Nat.le_refl _) (Run.block h3)) (Nat.le_refl _) h6
      | false =>
        obtain ⟨j, hj, hpj, hpk⟩ := allB_false hall
        have h3 : Run Try.prog Try.f54.ntmps (.loop (cL (cK (cB (cA (cB (cB (bodyOf Try.f54)))))))) (stR [.vec 0 18 a (.sym n), .vec 1 18 a' (.sym n'), .bad, .bad, .bad, .sint .i64 (Int.ofNat 0)] [⟨[.f32, .f32, .f32, .f32, .f32, .f32, .f32, .f32, .f32, .f32, .f32, .f32, .f32, .f32, .f32, .f32, .f32, .f32], m, fd, gd, bd, false⟩, ⟨[.f32, .f32, .f32, .f32, .f32, .f32, .f32, .f32, .f32, .f32, .f32, .f32, .f32, .f32, .f32, .f32, .f32, .f32], m', fd', gd', bd', false⟩]) (.ret, (stR [.bad, .bad, .bad, .bad, .sbool false] [⟨[.f32, .f32, .f32, .f32, .f32, .f32, .f32, .f32, .f32, .f32, .f32, .f32, .f32, .f32, .f32, .f32, .f32, .f32], m, fd, gd, bd, false⟩, ⟨[.f32, .f32, .f32, .f32, .f32, .f32, .f32, .f32, .f32, .f32, .f32, .f32, .f32, .f32, .f32, .f32, .f32, .f32], m', fd', gd', bd', false⟩])) := Run.loop j (fun j => (stR [.vec 0 18 a (.sym n), .vec 1 18 a' (.sym n'), .bad, .bad, .bad, .sint .i64 (Int.ofNat j)] [⟨[.f32, .f32, .f32, .f32, .f32, .f32, .f32, .f32, .f32, .f32, .f32, .f32, .f32, .f32, .f32, .f32, .f32, .f32], m, fd, gd, bd, false⟩, ⟨[.f32, .f32, .f32, .f32, .f32, .f32, .f32, .f32, .f32, .f32, .f32, .f32, .f32, .f32, .f32, .f32, .f32, .f32], m', fd', gd', bd', false⟩])) (fun j => rfl) (fun k hk => eqs54step fd gd bd wr m fd' gd' bd' wr' m' a a' n n' k (by omega) hnn hn han han' (hpk k hk)) (eqs54ret fd gd bd wr m fd' gd' bd' wr' m' a a' n n' j hj hnn hn han han' hpj) (by intro h; cases h)
        exact Run.seq_out (Run.seq h2 (Nat.le_refl _) (Run.block_out h3 (by intro h; cases h))) (by intro h; cases h)
    · have hne : (Int.ofNat n != Int.ofNat n') = true := by
        simp only [bne_iff_ne, ne_eq]
        intro h
        exact hnn (Int.ofNat.inj h)
      rw [hne]
      have h1 : Run Try.prog Try.f54.ntmps (cA (cB (bodyOf Try.f54))) (stR [.vec 0 18 a (.sym n), .vec 1 18 a' (.sym n')] [⟨[.f32, .f32, .f32, .f32, .f32, .f32, .f32, .f32, .f32, .f32, .f32, .f32, .f32, .f32, .f32, .f32, .f32, .f32], m, fd, gd, bd, false⟩, ⟨[.f32, .f32, .f32, .f32, .f32, .f32, .f32, .f32, .f32, .f32, .f32, .f32, .f32, .f32, .f32, .f32, .f32, .f32], m', fd', gd', bd', false⟩]) (.ret, (stR [.bad, .bad, .bad, .bad, .sbool false] [⟨[.f32, .f32, .f32, .f32, .f32, .f32, .f32, .f32, .f32, .f32, .f32, .f32, .f32, .f32, .f32, .f32, .f32, .f32], m, fd, gd, bd, false⟩, ⟨[.f32, .f32, .f32, .f32, .f32, .f32, .f32, .f32, .f32, .f32, .f32, .f32, .f32, .f32, .f32, .f32, .f32, .f32], m', fd', gd', bd', false⟩])) := by
        refine Run.to g3 mixed 60 [true] (by kernel_rfl) ?_ (by kernel_rfl) (by kernel_rfl) (by kernel_rfl) ⟨Or.inl rfl, Or.inl rfl, Or.inl rfl, Or.inl rfl, Or.inr (ge_bool (by kernel_rfl)), trivial⟩ ⟨⟨⟨[.f32, .f32, .f32, .f32, .f32, .f32, .f32, .f32, .f32, .f32, .f32, .f32, .f32, .f32, .f32, .f32, .f32, .f32], m, fd, gd, bd, false⟩, by kernel_rfl, VcLe.refl _⟩, ⟨⟨[.f32, .f32, .f32, .f32, .f32, .f32, .f32, .f32, .f32, .f32, .f32, .f32, .f32, .f32, .f32, .f32, .f32, .f32], m', fd', gd', bd', false⟩, by kernel_rfl, VcLe.refl _⟩, trivial⟩ (by kernel_rfl)
        rw [ebT, hne]
      exact Run.seq_out h1 (by intro h; cases h)
  intro M w0 ρ w vs hM hv
  exact Run.calls (fr := ⟨none, some ⟨.sbool (eqRows elWood ⟨[.f32, .f32, .f32, .f32, .f32, .f32, .f32, .f32, .f32, .f32, .f32, .f32, .f32, .f32, .f32, .f32, .f32, .f32], m, fd, gd, bd, wr⟩ ⟨[.f32, .f32, .f32, .f32, .f32, .f32, .f32, .f32, .f32, .f32, .f32, .f32, .f32, .f32, .f32, .f32, .f32, .f32], m', fd', gd', bd', wr'⟩ a a' n n'), [], [], []⟩, true⟩) Try.func54 (by kernel_rfl) hr (ahv := []) (avv := []) (by kernel_rfl) rfl rfl ⟨⟨[], rfl⟩, fun i o => rfl, fun i => rfl⟩ (Nat.le_of_ble_eq_true (by kernel_rfl)) hM hv
/-- laws.eqWoodS -/
noncomputable def G4 : List (Nat × Ctr) := (54, orC (eqC [.f32, .f32, .f32, .f32, .f32, .f32, .f32, .f32, .f32, .f32, .f32, .f32, .f32, .f32, .f32, .f32, .f32, .f32] elWood) (inl Try.prog G3 100 Try.f54)) :: G3
theorem g4 : Ab.Good Try.prog G4 := good_cons (sat_or (sat_eq Try.call54 (fun i i' a a' n n' v v' hs hs' han han' hn => eqs54 i i' a a' n n' v v' hs hs' han han' hn)) (inl_sat g3 mixed Try.func54 Try.call54 100) rfl rfl) g3

/-- laws.eqStove -/
noncomputable def G5 : List (Nat × Ctr) := (19, inl Try.prog G4 100 Try.f19) :: G4
theorem g5 : Ab.Good Try.prog G5 := good_cons (inl_sat g4 mixed Try.func19 Try.call19 100) g4

/-- spec.l01Finite -/
noncomputable def G6 : List (Nat × Ctr) := (104, ctr1 fun a => .sbool (finF a)) :: G5
theorem g6 : Ab.Good Try.prog G6 := good_cons (sat1 (g := fun a => .sbool (finF a)) g5 mixed Try.func104 Try.call104 100 (fun a => .sbool (feqB .f32 (fop .sub .f32 a a) 0)) (fun a => by kernel_rfl) (fun a ha ρ u h => by show V ρ (.sbool (finF a)) u; rw [← fin_sub a]; exact h)) g5

/-- math.Float32bits -/
noncomputable def G7 : List (Nat × Ctr) := (105, extC .f32bits) :: G6
theorem g7 : Ab.Good Try.prog G7 := good_cons (sat_ext .f32bits Try.func105 (by kernel_rfl) (by kernel_rfl) (by kernel_rfl) (by kernel_rfl)) g6

/-- spec.l01Amount -/
noncomputable def G8 : List (Nat × Ctr) := (75, ctr1 fun a => .sbool (amtF a)) :: G7
theorem g8 : Ab.Good Try.prog G8 := good_cons (sat1 (g := fun a => .sbool (amtF a)) g7 mixed Try.func75 Try.call75 100 (fun a => .cbool (cond (finF a) (cond (fltB .f32 0 a) true (!nanB .f32 a && true)) true) (cond (finF a) (cond (fltB .f32 0 a) true (Int.ofNat a == 0)) false)) (fun a => by kernel_rfl) (fun a ha ρ u h => by show V ρ (.sbool (amtF a)) u; rw [← amt_spec ha]; exact cbool_say (amt_cond a) h)) g7

/-- spec.l01Ok -/
noncomputable def G9 : List (Nat × Ctr) := (63, orC (ctrWp fun ns => .sbool (vOp ns)) (ctrWv fun ns => .sbool (vOp ns))) :: G8
theorem g9 : Ab.Good Try.prog G9 := good_cons (sat_or (satWp (g := fun ns => .sbool (vOp ns)) g8 mixed Try.func63 Try.call63 100 (fun ns => .sbool (validS ns)) (fun ns hl => by obtain ⟨a0, a1, a2, a3, a4, a5, b0, b1, b2, b3, b4, b5, c0, c1, c2, c3, c4, c5, rfl⟩ := len18 hl; kernel_rfl) (fun ns _ ρ u h => by show V ρ (.sbool (vOp ns)) u; rw [vOp_eq, ← validS_eq]; exact h)) (satWv (g := fun ns => .sbool (vOp ns)) g8 mixed Try.func63 Try.call63 100 (fun ns => .sbool (validS ns)) (fun ns hl => by obtain ⟨a0, a1, a2, a3, a4, a5, b0, b1, b2, b3, b4, b5, c0, c1, c2, c3, c4, c5, rfl⟩ := len18 hl; kernel_rfl) (fun ns _ ρ u h => by show V ρ (.sbool (vOp ns)) u; rw [vOp_eq, ← validS_eq]; exact h)) rfl rfl) g8

/-- spec.l00In -/
noncomputable def G10 : List (Nat × Ctr) := (67, inl Try.prog G9 100 Try.f67) :: G9
theorem g10 : Ab.Good Try.prog G10 := good_cons (inl_sat g9 mixed Try.func67 Try.call67 100) g9

/-- spec.l01Share -/
noncomputable def G11 : List (Nat × Ctr) := (72, ctr1 fun a => .sbool (shO a)) :: G10
theorem g11 : Ab.Good Try.prog G11 := good_cons (sat1 (g := fun a => .sbool (shO a)) g10 mixed Try.func72 Try.call72 100 (fun a => .sbool (shI a)) (fun a => by kernel_rfl) (fun a ha ρ u h => by show V ρ (.sbool (shO a)) u; rw [shO_eq]; exact h)) g10


set_option maxRecDepth 1000000 in
theorem sv48 (n : Nat) (m : Num) (fd : Nat → Nat → Nat) (gd : Nat → Nat → Int) (bd : Nat → Nat → Bool) (wr : Bool) (a b d u : Nat) (s h : Int) (hw : IntKind.i64.wrap s = s) : ∃ v0, evBody Try.prog G11 100 Try.f48 [.ptr 0 0] (cellS [.vec 1 18 0 (svN n), .flt .f32 b, .flt .f32 d, .sint .i8 s, .sint .i64 h, .flt .f32 u] [svRow m fd gd bd wr a n]) = some ⟨v0, [], [], [], true, none⟩ ∧ v0.flat = true ∧ ∀ ρ z, V ρ v0 z → V ρ (.sbool (stvB fd a n b d u s h)) z := by
  match n with
  | 0 => exact ⟨(.sbool (cond (outS b d u s h) false (chainF fd a 0 0 true))), by kernel_rfl, rfl, fun ρ z hz => by rw [stv_eq fd a 0 b d u s h hw] at hz; exact hz⟩
  | 1 => exact ⟨(.sbool (cond (outS b d u s h) false (chainF fd a 1 0 true))), by kernel_rfl, rfl, fun ρ z hz => by rw [stv_eq fd a 1 b d u s h hw] at hz; exact hz⟩
  | 2 => exact ⟨(.sbool (cond (outS b d u s h) false (chainF fd a 2 0 true))), by kernel_rfl, rfl, fun ρ z hz => by rw [stv_eq fd a 2 b d u s h hw] at hz; exact hz⟩
  | 3 => exact ⟨(.sbool (cond (outS b d u s h) false (chainF fd a 3 0 true))), by kernel_rfl, rfl, fun ρ z hz => by rw [stv_eq fd a 3 b d u s h hw] at hz; exact hz⟩
  | 4 => exact ⟨(.sbool (cond (outS b d u s h) false (chainF fd a 4 0 true))), by kernel_rfl, rfl, fun ρ z hz => by rw [stv_eq fd a 4 b d u s h hw] at hz; exact hz⟩
  | 5 => exact ⟨(.sbool (cond (outS b d u s h) false (chainF fd a 5 0 true))), by kernel_rfl, rfl, fun ρ z hz => by rw [stv_eq fd a 5 b d u s h hw] at hz; exact hz⟩
  | 6 => exact ⟨(.sbool (cond (outS b d u s h) false (chainF fd a 6 0 true))), by kernel_rfl, rfl, fun ρ z hz => by rw [stv_eq fd a 6 b d u s h hw] at hz; exact hz⟩
  | n + 7 =>
    refine ⟨.bool false, by kernel_rfl, rfl, fun ρ z hz => ?_⟩
    have e : stvB fd a (n + 7) b d u s h = false := by
      unfold stvB
      rw [Nat.ble_eq_true_of_le (show 7 ≤ n + 7 by omega)]; rfl
    rw [e]
    unfold V at hz ⊢
    exact hz
/-- spec.l02Ok -/
noncomputable def G12 : List (Nat × Ctr) := (48, orC stvP (inl Try.prog G11 100 Try.f48)) :: G11
theorem g12 : Ab.Good Try.prog G12 := good_cons (sat_or (sat_stvP g11 mixed Try.func48 Try.call48 (fun n m fd gd bd wr a b d u s h hw => sv48 n m fd gd bd wr a b d u s h hw)) (inl_sat g11 mixed Try.func48 Try.call48 100) rfl rfl) g11

/-- spec.ColdStove -/
noncomputable def G13 : List (Nat × Ctr) := (22, inl Try.prog G12 100 Try.f22) :: G12
theorem g13 : Ab.Good Try.prog G13 := good_cons (inl_sat g12 mixed Try.func22 Try.call22 100) g12

/-- (impl.badStove).refusedWith -/
noncomputable def G14 : List (Nat × Ctr) := (140, inl Try.prog G13 100 Try.f140) :: G13
theorem g14 : Ab.Good Try.prog G14 := good_cons (inl_sat g13 mixed Try.func140 Try.call140 100) g13

/-- impl.isBetween -/
noncomputable def G15 : List (Nat × Ctr) := (51, inl Try.prog G14 100 Try.f51) :: G14
theorem g15 : Ab.Good Try.prog G15 := good_cons (inl_sat g14 mixed Try.func51 Try.call51 100) g14

/-- impl.isFinite -/
noncomputable def G16 : List (Nat × Ctr) := (93, ctr1 fun a => .sbool (finF a)) :: G15
theorem g16 : Ab.Good Try.prog G16 := good_cons (sat1 (g := fun a => .sbool (finF a)) g15 mixed Try.func93 Try.call93 100 (fun a => .sbool (cond (fleB .f32 4286578687 a) (fleB .f32 a 2139095039) false)) (fun a => by kernel_rfl) (fun a ha ρ u h => by show V ρ (.sbool (finF a)) u; rw [← fin_between ha]; exact h)) g15

/-- math.Float64bits -/
noncomputable def G17 : List (Nat × Ctr) := (117, extC .f64bits) :: G16
theorem g17 : Ab.Good Try.prog G17 := good_cons (sat_ext .f64bits Try.func117 (by kernel_rfl) (by kernel_rfl) (by kernel_rfl) (by kernel_rfl)) g16

/-- math.Signbit -/
noncomputable def G18 : List (Nat × Ctr) := (94, inl Try.prog G17 100 Try.f94) :: G17
theorem g18 : Ab.Good Try.prog G18 := good_cons (inl_sat g17 mixed Try.func94 Try.call94 100) g17

/-- impl.IsAmount -/
noncomputable def G19 : List (Nat × Ctr) := (53, ctr1 fun a => .sbool (amtF a)) :: G18
theorem g19 : Ab.Good Try.prog G19 := good_cons (sat1 (g := fun a => .sbool (amtF a)) g18 mixed Try.func53 Try.call53 100 (fun a => .cbool (cond (finF a) (!nanB .f64 (wide a) && true) true) (cond (finF a) (!decide (IntKind.i64.wrap (Int.ofNat (wide a)) < 0)) false)) (fun a => by kernel_rfl) (fun a ha ρ u h => by show V ρ (.sbool (amtF a)) u; rw [← wide_neg ha]; exact cbool_say wide_nan h)) g18

/-- impl.isKilos -/
noncomputable def G20 : List (Nat × Ctr) := (92, ctr1 fun a => .sbool (kilF a)) :: G19
theorem g20 : Ab.Good Try.prog G20 := good_cons (sat1 (g := fun a => .sbool (kilF a)) g19 mixed Try.func92 Try.call92 100 (fun a => .sbool (cond (amtF a) (fleB .f32 a 1092616192) false)) (fun a => by kernel_rfl) (fun a ha ρ u h => by show V ρ (.sbool (kilF a)) u; rw [← kil_impl a]; exact h)) g19

/-- impl.ValidWood -/
noncomputable def G21 : List (Nat × Ctr) := (50, ctrW fun ns => .sbool (vOp ns)) :: G20
theorem g21 : Ab.Good Try.prog G21 := good_cons (satW (g := fun ns => .sbool (vOp ns)) g20 mixed Try.func50 Try.call50 100 (fun ns => .sbool (validI ns)) (fun ns hl => by obtain ⟨a0, a1, a2, a3, a4, a5, b0, b1, b2, b3, b4, b5, c0, c1, c2, c3, c4, c5, rfl⟩ := len18 hl; kernel_rfl) (fun ns _ ρ u h => by show V ρ (.sbool (vOp ns)) u; rw [vOp_eq]; exact h)) g20

/-- impl.IsShare -/
noncomputable def G22 : List (Nat × Ctr) := (52, ctr1 fun a => .sbool (shO a)) :: G21
theorem g22 : Ab.Good Try.prog G22 := good_cons (sat1 (g := fun a => .sbool (shO a)) g21 mixed Try.func52 Try.call52 100 (fun a => .sbool (shI a)) (fun a => by kernel_rfl) (fun a ha ρ u h => by show V ρ (.sbool (shO a)) u; rw [shO_eq]; exact h)) g21


set_option maxRecDepth 1000000 in
theorem sv18 (n : Nat) (m : Num) (fd : Nat → Nat → Nat) (gd : Nat → Nat → Int) (bd : Nat → Nat → Bool) (wr : Bool) (a b d u : Nat) (s h : Int) : ∃ v0, evBody Try.prog G22 100 Try.f18 [.agg [.vec 0 18 0 (svN n), .flt .f32 b, .flt .f32 d, .sint .i8 s, .sint .i64 h, .flt .f32 u]] (viewS [svRow m fd gd bd wr a n]) = some ⟨v0, [], [], [], true, none⟩ ∧ v0.flat = true ∧ ∀ ρ z, V ρ v0 z → V ρ (.sbool (stvB fd a n b d u s h)) z := by
  match n with
  | 0 => exact ⟨(.sbool (cond (outSH s h) false (chainF fd a 0 0 (endB b d u)))), by kernel_rfl, rfl, fun ρ z hz => hz⟩
  | 1 => exact ⟨(.sbool (cond (outSH s h) false (chainF fd a 1 0 (endB b d u)))), by kernel_rfl, rfl, fun ρ z hz => hz⟩
  | 2 => exact ⟨(.sbool (cond (outSH s h) false (chainF fd a 2 0 (endB b d u)))), by kernel_rfl, rfl, fun ρ z hz => hz⟩
  | 3 => exact ⟨(.sbool (cond (outSH s h) false (chainF fd a 3 0 (endB b d u)))), by kernel_rfl, rfl, fun ρ z hz => hz⟩
  | 4 => exact ⟨(.sbool (cond (outSH s h) false (chainF fd a 4 0 (endB b d u)))), by kernel_rfl, rfl, fun ρ z hz => hz⟩
  | 5 => exact ⟨(.sbool (cond (outSH s h) false (chainF fd a 5 0 (endB b d u)))), by kernel_rfl, rfl, fun ρ z hz => hz⟩
  | 6 => exact ⟨(.sbool (cond (outSH s h) false (chainF fd a 6 0 (endB b d u)))), by kernel_rfl, rfl, fun ρ z hz => hz⟩
  | n + 7 =>
    refine ⟨.bool false, by kernel_rfl, rfl, fun ρ z hz => ?_⟩
    have e : stvB fd a (n + 7) b d u s h = false := by
      unfold stvB
      rw [Nat.ble_eq_true_of_le (show 7 ≤ n + 7 by omega)]; rfl
    rw [e]
    unfold V at hz ⊢
    exact hz
/-- impl.ValidStove -/
noncomputable def G23 : List (Nat × Ctr) := (18, orC stvA (inl Try.prog G22 100 Try.f18)) :: G22
theorem g23 : Ab.Good Try.prog G23 := good_cons (sat_or (sat_stvA g22 mixed Try.func18 Try.call18 (fun n m fd gd bd wr a b d u s h => sv18 n m fd gd bd wr a b d u s h)) (inl_sat g22 mixed Try.func18 Try.call18 100) rfl rfl) g22

/-- impl.needStove -/
noncomputable def G24 : List (Nat × Ctr) := (101, inl Try.prog G23 100 Try.f101) :: G23
theorem g24 : Ab.Good Try.prog G24 := good_cons (inl_sat g23 mixed Try.func101 Try.call101 100) g23

/-- impl.ColdStove$1 -/
noncomputable def G25 : List (Nat × Ctr) := (60, inl Try.prog G24 100 Try.f60) :: G24
theorem g25 : Ab.Good Try.prog G25 := good_cons (inl_sat g24 mixed Try.func60 Try.call60 100) g24

/-- impl.PutLog$1 -/
noncomputable def G26 : List (Nat × Ctr) := (66, inl Try.prog G25 100 Try.f66) :: G25
theorem g26 : Ab.Good Try.prog G26 := good_cons (inl_sat g25 mixed Try.func66 Try.call66 100) g25

/-- impl.SetDamper$1 -/
noncomputable def G27 : List (Nat × Ctr) := (73, inlZ Try.prog G26 100 Try.f73) :: G26
theorem g27 : Ab.Good Try.prog G27 := good_cons (inlZ_sat g26 mixed Try.func73 Try.call73 100) g26

/-- impl.KindleStove$1 -/
noncomputable def G28 : List (Nat × Ctr) := (74, inlZ Try.prog G27 100 Try.f74) :: G27
theorem g28 : Ab.Good Try.prog G28 := good_cons (inlZ_sat g27 mixed Try.func74 Try.call74 100) g27

/-- impl.ofStove[impl.Stove]$1 -/
noncomputable def G29 : List (Nat × Ctr) := (100, inl Try.prog G28 100 Try.f100) :: G28
theorem g29 : Ab.Good Try.prog G29 := good_cons (inl_sat g28 mixed Try.func100 Try.call100 100) g28

/-- impl.refusable[impl.Stove] -/
noncomputable def G30 : List (Nat × Ctr) := (99, inlD Try.prog G29 100 119 Try.f119 Try.f99) :: G29
theorem g30 : Ab.Good Try.prog G30 := good_cons (inlD_sat g29 mixed Try.func119 Try.call119 Try.func99 Try.call99 100) g29

/-- impl.ofStove[impl.Stove] -/
noncomputable def G31 : List (Nat × Ctr) := (59, inl Try.prog G30 100 Try.f59) :: G30
theorem g31 : Ab.Good Try.prog G31 := good_cons (inl_sat g30 mixed Try.func59 Try.call59 100) g30

/-- impl.ColdStove -/
noncomputable def G32 : List (Nat × Ctr) := (23, inl Try.prog G31 100 Try.f23) :: G31
theorem g32 : Ab.Good Try.prog G32 := good_cons (inl_sat g31 mixed Try.func23 Try.call23 100) g31


set_option maxHeartbeats 4000000 in
set_option maxRecDepth 1000000 in
theorem mrk61step (fd : Nat → Nat → Nat) (gd : Nat → Nat → Int) (bd : Nat → Nat → Bool) (m : Num) (a n : Nat) (K : Int) (j : Nat) (hj : j < n) (hn : n ≤ 140737488355328) (han : a + n ≤ m.val) (h0 : 0 ≤ K) (hK : K ≤ 4611686018427387904) : Run Try.prog Try.f61.ntmps (cL (cK (cB (cA (cB (bodyOf Try.f61)))))) (stR [.vec 0 18 a (.sym n), .sint .i64 (K + (j * 18 : Nat)), .bad, .bad, .bad, .sint .i64 (Int.ofNat j)] [mrkJ (⟨[.f32, .f32, .f32, .f32, .f32, .f32, .f32, .f32, .f32, .f32, .f32, .f32, .f32, .f32, .f32, .f32, .f32, .f32], m, fd, gd, bd, true⟩ : Vc) a K j]) (.normal, (stR [.vec 0 18 a (.sym n), .sint .i64 (K + ((j + 1) * 18 : Nat)), .bad, .bad, .bad, .sint .i64 (Int.ofNat (j + 1))] [mrkJ (⟨[.f32, .f32, .f32, .f32, .f32, .f32, .f32, .f32, .f32, .f32, .f32, .f32, .f32, .f32, .f32, .f32, .f32, .f32], m, fd, gd, bd, true⟩ : Vc) a K (j + 1)])) := by
  have c1 : Nat.ble (j + 1) n = true := Nat.ble_eq_true_of_le hj
  have c2 : Nat.ble (Nat.add a j + 1) m.val = true := Nat.ble_eq_true_of_le (by show a + j + 1 ≤ m.val; omega)
  have hr : K + ((j + 1) * 18 : Nat) ≤ 9223372036854775807 := by omega
  refine Run.to g32 mixed 150 [true] (by kernel_rfl) ?_ ?_ (by kernel_rfl) (by kernel_rfl) ⟨Or.inr (ge_eq (by kernel_rfl)), Or.inr (ge_eq ?_), Or.inl rfl, Or.inl rfl, Or.inl rfl, Or.inr (ge_eq ?_), trivial⟩ ⟨⟨putsF (Nat.add a j) (K + (j * 18 : Nat)) 0 [.f32, .f32, .f32, .f32, .f32, .f32, .f32, .f32, .f32, .f32, .f32, .f32, .f32, .f32, .f32, .f32, .f32, .f32] (mrkJ (⟨[.f32, .f32, .f32, .f32, .f32, .f32, .f32, .f32, .f32, .f32, .f32, .f32, .f32, .f32, .f32, .f32, .f32, .f32], m, fd, gd, bd, true⟩ : Vc) a K j), by kernel_rfl, mrkJ_next (⟨[.f32, .f32, .f32, .f32, .f32, .f32, .f32, .f32, .f32, .f32, .f32, .f32, .f32, .f32, .f32, .f32, .f32, .f32], m, fd, gd, bd, true⟩ : Vc) a K j rfl h0 hr⟩, trivial⟩ (by kernel_rfl)
  · have e : wBs (wayO [true] (stR [.vec 0 18 a (.sym n), .sint .i64 (K + (j * 18 : Nat)), .bad, .bad, .bad, .sint .i64 (Int.ofNat j)] [mrkJ (⟨[.f32, .f32, .f32, .f32, .f32, .f32, .f32, .f32, .f32, .f32, .f32, .f32, .f32, .f32, .f32, .f32, .f32, .f32], m, fd, gd, bd, true⟩ : Vc) a K j]) (Ab.ev Try.prog G32 Try.f61.ntmps 150 (cL (cK (cB (cA (cB (bodyOf Try.f61)))))) (stR [.vec 0 18 a (.sym n), .sint .i64 (K + (j * 18 : Nat)), .bad, .bad, .bad, .sint .i64 (Int.ofNat j)] [mrkJ (⟨[.f32, .f32, .f32, .f32, .f32, .f32, .f32, .f32, .f32, .f32, .f32, .f32, .f32, .f32, .f32, .f32, .f32, .f32], m, fd, gd, bd, true⟩ : Vc) a K j]) Dl.nil)) = [decide (Int.ofNat j < Int.ofNat n)] := by kernel_rfl
    rw [e, dec_lt hj]
  · have e : wNd (wayO [true] (stR [.vec 0 18 a (.sym n), .sint .i64 (K + (j * 18 : Nat)), .bad, .bad, .bad, .sint .i64 (Int.ofNat j)] [mrkJ (⟨[.f32, .f32, .f32, .f32, .f32, .f32, .f32, .f32, .f32, .f32, .f32, .f32, .f32, .f32, .f32, .f32, .f32, .f32], m, fd, gd, bd, true⟩ : Vc) a K j]) (Ab.ev Try.prog G32 Try.f61.ntmps 150 (cL (cK (cB (cA (cB (bodyOf Try.f61)))))) (stR [.vec 0 18 a (.sym n), .sint .i64 (K + (j * 18 : Nat)), .bad, .bad, .bad, .sint .i64 (Int.ofNat j)] [mrkJ (⟨[.f32, .f32, .f32, .f32, .f32, .f32, .f32, .f32, .f32, .f32, .f32, .f32, .f32, .f32, .f32, .f32, .f32, .f32], m, fd, gd, bd, true⟩ : Vc) a K j]) Dl.nil)) = (andN (andN (andN (andN (andN (andN (andN (andN (andN (andN (andN (andN (andN (andN (andN (andN (andN (andN (andN (andN (andN (andN (andN (andN (andN (andN (andN (andN (andN (andN (andN (andN (andN (andN (andN (andN (true) (Nat.ble (j + 1) n)) (Nat.ble (Nat.add a j + 1) m.val)) (Nat.ble (j + 1) n)) (Nat.ble (Nat.add a j + 1) m.val)) (Nat.ble (j + 1) n)) (Nat.ble (Nat.add a j + 1) m.val)) (Nat.ble (j + 1) n)) (Nat.ble (Nat.add a j + 1) m.val)) (Nat.ble (j + 1) n)) (Nat.ble (Nat.add a j + 1) m.val)) (Nat.ble (j + 1) n)) (Nat.ble (Nat.add a j + 1) m.val)) (Nat.ble (j + 1) n)) (Nat.ble (Nat.add a j + 1) m.val)) (Nat.ble (j + 1) n)) (Nat.ble (Nat.add a j + 1) m.val)) (Nat.ble (j + 1) n)) (Nat.ble (Nat.add a j + 1) m.val)) (Nat.ble (j + 1) n)) (Nat.ble (Nat.add a j + 1) m.val)) (Nat.ble (j + 1) n)) (Nat.ble (Nat.add a j + 1) m.val)) (Nat.ble (j + 1) n)) (Nat.ble (Nat.add a j + 1) m.val)) (Nat.ble (j + 1) n)) (Nat.ble (Nat.add a j + 1) m.val)) (Nat.ble (j + 1) n)) (Nat.ble (Nat.add a j + 1) m.val)) (Nat.ble (j + 1) n)) (Nat.ble (Nat.add a j + 1) m.val)) (Nat.ble (j + 1) n)) (Nat.ble (Nat.add a j + 1) m.val)) (Nat.ble (j + 1) n)) (Nat.ble (Nat.add a j + 1) m.val)) (Nat.ble (j + 1) n)) (Nat.ble (Nat.add a j + 1) m.val)) := by kernel_rfl
    rw [e, c1, c2]; rfl
  · have e : (wS (wayO [true] (stR [.vec 0 18 a (.sym n), .sint .i64 (K + (j * 18 : Nat)), .bad, .bad, .bad, .sint .i64 (Int.ofNat j)] [mrkJ (⟨[.f32, .f32, .f32, .f32, .f32, .f32, .f32, .f32, .f32, .f32, .f32, .f32, .f32, .f32, .f32, .f32, .f32, .f32], m, fd, gd, bd, true⟩ : Vc) a K j]) (Ab.ev Try.prog G32 Try.f61.ntmps 150 (cL (cK (cB (cA (cB (bodyOf Try.f61)))))) (stR [.vec 0 18 a (.sym n), .sint .i64 (K + (j * 18 : Nat)), .bad, .bad, .bad, .sint .i64 (Int.ofNat j)] [mrkJ (⟨[.f32, .f32, .f32, .f32, .f32, .f32, .f32, .f32, .f32, .f32, .f32, .f32, .f32, .f32, .f32, .f32, .f32, .f32], m, fd, gd, bd, true⟩ : Vc) a K j]) Dl.nil))).get 1 = .sint .i64 (incW 18 (K + (j * 18 : Nat))) := by kernel_rfl
    rw [e, incW_eq _ _ (by omega) (by omega)]
    congr 1; omega
  · have e : (wS (wayO [true] (stR [.vec 0 18 a (.sym n), .sint .i64 (K + (j * 18 : Nat)), .bad, .bad, .bad, .sint .i64 (Int.ofNat j)] [mrkJ (⟨[.f32, .f32, .f32, .f32, .f32, .f32, .f32, .f32, .f32, .f32, .f32, .f32, .f32, .f32, .f32, .f32, .f32, .f32], m, fd, gd, bd, true⟩ : Vc) a K j]) (Ab.ev Try.prog G32 Try.f61.ntmps 150 (cL (cK (cB (cA (cB (bodyOf Try.f61)))))) (stR [.vec 0 18 a (.sym n), .sint .i64 (K + (j * 18 : Nat)), .bad, .bad, .bad, .sint .i64 (Int.ofNat j)] [mrkJ (⟨[.f32, .f32, .f32, .f32, .f32, .f32, .f32, .f32, .f32, .f32, .f32, .f32, .f32, .f32, .f32, .f32, .f32, .f32], m, fd, gd, bd, true⟩ : Vc) a K j]) Dl.nil))).get 5 = .sint .i64 (IntKind.i64.wrap (Int.ofNat j + 1)) := by kernel_rfl
    rw [e, wrap_next hj hn]

theorem mrk61end (fd : Nat → Nat → Nat) (gd : Nat → Nat → Int) (bd : Nat → Nat → Bool) (m : Num) (a n : Nat) (K : Int) : Run Try.prog Try.f61.ntmps (cL (cK (cB (cA (cB (bodyOf Try.f61)))))) (stR [.vec 0 18 a (.sym n), .sint .i64 (K + (n * 18 : Nat)), .bad, .bad, .bad, .sint .i64 (Int.ofNat n)] [mrkJ (⟨[.f32, .f32, .f32, .f32, .f32, .f32, .f32, .f32, .f32, .f32, .f32, .f32, .f32, .f32, .f32, .f32, .f32, .f32], m, fd, gd, bd, true⟩ : Vc) a K n]) (.exit 0, (stR [.vec 0 18 a (.sym n), .sint .i64 (K + (n * 18 : Nat)), .bad, .bad, .bad, .sint .i64 (Int.ofNat n)] [mrkJ (⟨[.f32, .f32, .f32, .f32, .f32, .f32, .f32, .f32, .f32, .f32, .f32, .f32, .f32, .f32, .f32, .f32, .f32, .f32], m, fd, gd, bd, true⟩ : Vc) a K n])) := by
  refine Run.to g32 mixed 150 [false] (by kernel_rfl) ?_ (by kernel_rfl) (by kernel_rfl) (by kernel_rfl) ⟨Or.inr (ge_eq (by kernel_rfl)), Or.inr (ge_eq (by kernel_rfl)), Or.inl rfl, Or.inl rfl, Or.inl rfl, Or.inr (ge_eq (by kernel_rfl)), trivial⟩ ⟨⟨mrkJ (⟨[.f32, .f32, .f32, .f32, .f32, .f32, .f32, .f32, .f32, .f32, .f32, .f32, .f32, .f32, .f32, .f32, .f32, .f32], m, fd, gd, bd, true⟩ : Vc) a K n, by kernel_rfl, VcLe.refl _⟩, trivial⟩ (by kernel_rfl)
  have e : wBs (wayO [false] (stR [.vec 0 18 a (.sym n), .sint .i64 (K + (n * 18 : Nat)), .bad, .bad, .bad, .sint .i64 (Int.ofNat n)] [mrkJ (⟨[.f32, .f32, .f32, .f32, .f32, .f32, .f32, .f32, .f32, .f32, .f32, .f32, .f32, .f32, .f32, .f32, .f32, .f32], m, fd, gd, bd, true⟩ : Vc) a K n]) (Ab.ev Try.prog G32 Try.f61.ntmps 150 (cL (cK (cB (cA (cB (bodyOf Try.f61)))))) (stR [.vec 0 18 a (.sym n), .sint .i64 (K + (n * 18 : Nat)), .bad, .bad, .bad, .sint .i64 (Int.ofNat n)] [mrkJ (⟨[.f32, .f32, .f32, .f32, .f32, .f32, .f32, .f32, .f32, .f32, .f32, .f32, .f32, .f32, .f32, .f32, .f32, .f32], m, fd, gd, bd, true⟩ : Vc) a K n]) Dl.nil)) = [decide (Int.ofNat n < Int.ofNat n)] := by kernel_rfl
  rw [e, dec_irr]

theorem mrk61 (i a n : Nat) (K : Int) (v : Vc) (hs : v.sh = [.f32, .f32, .f32, .f32, .f32, .f32, .f32, .f32, .f32, .f32, .f32, .f32, .f32, .f32, .f32, .f32, .f32, .f32]) (hw : v.wr = true) (han : a + n ≤ v.n.val) (hn : n ≤ 140737488355328) (h0 : 0 ≤ K) (hK : K ≤ 4611686018427387904) : OnRowW Try.prog 61 ⟨i, 18, a, .sym n⟩ [.sint .i64 K] v ⟨.sint .i64 (K + (n * 18 : Nat)), [], [(0, mrkJ v a K n)], [], true, none⟩ := by
  obtain ⟨sh, m, fd, gd, bd, wr⟩ := v
  have hs : sh = [.f32, .f32, .f32, .f32, .f32, .f32, .f32, .f32, .f32, .f32, .f32, .f32, .f32, .f32, .f32, .f32, .f32, .f32] := hs
  subst hs
  have hw : wr = true := hw
  subst hw
  have h1 : Run Try.prog Try.f61.ntmps (cA (bodyOf Try.f61)) ((stR [] [(⟨[.f32, .f32, .f32, .f32, .f32, .f32, .f32, .f32, .f32, .f32, .f32, .f32, .f32, .f32, .f32, .f32, .f32, .f32], m, fd, gd, bd, true⟩ : Vc)]).start Try.f61.ntmps [.vec 0 18 a (.sym n), .sint .i64 K]) (.normal, stR [.vec 0 18 a (.sym n), .sint .i64 K] [(⟨[.f32, .f32, .f32, .f32, .f32, .f32, .f32, .f32, .f32, .f32, .f32, .f32, .f32, .f32, .f32, .f32, .f32, .f32], m, fd, gd, bd, true⟩ : Vc)]) :=
    Run.to g32 mixed 150 [] (by kernel_rfl) (by kernel_rfl) (by kernel_rfl) (by kernel_rfl) (by kernel_rfl) ⟨Or.inr (ge_eq (by kernel_rfl)), Or.inr (ge_eq (by kernel_rfl)), trivial⟩ ⟨⟨(⟨[.f32, .f32, .f32, .f32, .f32, .f32, .f32, .f32, .f32, .f32, .f32, .f32, .f32, .f32, .f32, .f32, .f32, .f32], m, fd, gd, bd, true⟩ : Vc), by kernel_rfl, VcLe.refl _⟩, trivial⟩ (by kernel_rfl)
  have e0 : K = K + (0 * 18 : Nat) := by omega
  have h2 : Run Try.prog Try.f61.ntmps (cA (cA (cB (bodyOf Try.f61)))) (stR [.vec 0 18 a (.sym n), .sint .i64 K] [(⟨[.f32, .f32, .f32, .f32, .f32, .f32, .f32, .f32, .f32, .f32, .f32, .f32, .f32, .f32, .f32, .f32, .f32, .f32], m, fd, gd, bd, true⟩ : Vc)]) (.normal, (stR [.vec 0 18 a (.sym n), .sint .i64 (K + (0 * 18 : Nat)), .bad, .bad, .bad, .sint .i64 (Int.ofNat 0)] [mrkJ (⟨[.f32, .f32, .f32, .f32, .f32, .f32, .f32, .f32, .f32, .f32, .f32, .f32, .f32, .f32, .f32, .f32, .f32, .f32], m, fd, gd, bd, true⟩ : Vc) a K 0])) := by
    refine Run.to g32 mixed 150 [] (by kernel_rfl) (by kernel_rfl) (by kernel_rfl) (by kernel_rfl) (by kernel_rfl) ⟨Or.inr (ge_eq (by kernel_rfl)), Or.inr (ge_eq ?_), Or.inl rfl, Or.inl rfl, Or.inl rfl, Or.inr (ge_int (by kernel_rfl)), trivial⟩ ⟨⟨(⟨[.f32, .f32, .f32, .f32, .f32, .f32, .f32, .f32, .f32, .f32, .f32, .f32, .f32, .f32, .f32, .f32, .f32, .f32], m, fd, gd, bd, true⟩ : Vc), by kernel_rfl, mrkJ_zero _ _ _⟩, trivial⟩ (by kernel_rfl)
    rw [← e0]; kernel_rfl
  have h3 : Run Try.prog Try.f61.ntmps (.loop (cL (cK (cB (cA (cB (bodyOf Try.f61))))))) (stR [.vec 0 18 a (.sym n), .sint .i64 (K + (0 * 18 : Nat)), .bad, .bad, .bad, .sint .i64 (Int.ofNat 0)] [mrkJ (⟨[.f32, .f32, .f32, .f32, .f32, .f32, .f32, .f32, .f32, .f32, .f32, .f32, .f32, .f32, .f32, .f32, .f32, .f32], m, fd, gd, bd, true⟩ : Vc) a K 0]) (.exit 0, (stR [.vec 0 18 a (.sym n), .sint .i64 (K + (n * 18 : Nat)), .bad, .bad, .bad, .sint .i64 (Int.ofNat n)] [mrkJ (⟨[.f32, .f32, .f32, .f32, .f32, .f32, .f32, .f32, .f32, .f32, .f32, .f32, .f32, .f32, .f32, .f32, .f32, .f32], m, fd, gd, bd, true⟩ : Vc) a K n])) := Run.loop n (fun j => (stR [.vec 0 18 a (.sym n), .sint .i64 (K + (j * 18 : Nat)), .bad, .bad, .bad, .sint .i64 (Int.ofNat j)] [mrkJ (⟨[.f32, .f32, .f32, .f32, .f32, .f32, .f32, .f32, .f32, .f32, .f32, .f32, .f32, .f32, .f32, .f32, .f32, .f32], m, fd, gd, bd, true⟩ : Vc) a K j])) (fun j => rfl) (fun j hj => mrk61step fd gd bd m a n K j hj hn han h0 hK) (mrk61end fd gd bd m a n K) (by intro h; cases h)
  have h6 : Run Try.prog Try.f61.ntmps (cB (cB (bodyOf Try.f61))) (stR [.vec 0 18 a (.sym n), .sint .i64 (K + (n * 18 : Nat)), .bad, .bad, .bad, .sint .i64 (Int.ofNat n)] [mrkJ (⟨[.f32, .f32, .f32, .f32, .f32, .f32, .f32, .f32, .f32, .f32, .f32, .f32, .f32, .f32, .f32, .f32, .f32, .f32], m, fd, gd, bd, true⟩ : Vc) a K n]) (.ret, (stR [.bad, .bad, .bad, .bad, .sint .i64 (K + (n * 18 : Nat))] [mrkJ (⟨[.f32, .f32, .f32, .f32, .f32, .f32, .f32, .f32, .f32, .f32, .f32, .f32, .f32, .f32, .f32, .f32, .f32, .f32], m, fd, gd, bd, true⟩ : Vc) a K n])) :=
    Run.to g32 mixed 150 [] (by kernel_rfl) (by kernel_rfl) (by kernel_rfl) (by kernel_rfl) (by kernel_rfl) ⟨Or.inl rfl, Or.inl rfl, Or.inl rfl, Or.inl rfl, Or.inr (ge_eq (by kernel_rfl)), trivial⟩ ⟨⟨mrkJ (⟨[.f32, .f32, .f32, .f32, .f32, .f32, .f32, .f32, .f32, .f32, .f32, .f32, .f32, .f32, .f32, .f32, .f32, .f32], m, fd, gd, bd, true⟩ : Vc) a K n, by kernel_rfl, VcLe.refl _⟩, trivial⟩ (by kernel_rfl)
  have hr : Run Try.prog Try.f61.ntmps (bodyOf Try.f61) ((stR [] [(⟨[.f32, .f32, .f32, .f32, .f32, .f32, .f32, .f32, .f32, .f32, .f32, .f32, .f32, .f32, .f32, .f32, .f32, .f32], m, fd, gd, bd, true⟩ : Vc)]).start Try.f61.ntmps [.vec 0 18 a (.sym n), .sint .i64 K]) (.ret, (stR [.bad, .bad, .bad, .bad, .sint .i64 (K + (n * 18 : Nat))] [mrkJ (⟨[.f32, .f32, .f32, .f32, .f32, .f32, .f32, .f32, .f32, .f32, .f32, .f32, .f32, .f32, .f32, .f32, .f32, .f32], m, fd, gd, bd, true⟩ : Vc) a K n])) := by
    have hB : (bodyOf Try.f61) = .seq (cA (bodyOf Try.f61)) (.seq (.seq (cA (cA (cB (bodyOf Try.f61)))) (.block 0 (.loop (cL (cK (cB (cA (cB (bodyOf Try.f61))))))))) (cB (cB (bodyOf Try.f61)))) := by kernel_rfl
    rw [hB]
    exact Run.seq h1 (Nat.le_refl _) (Run.seq (Run.seq h2 (Nat.le_refl _) (Run.block h3)) (Nat.le_refl _) h6)
  intro M w0 ρ w vs hM hv
  have hr' : Run Try.prog Try.f61.ntmps (bodyOf Try.f61) ((stR [] [(⟨[.f32, .f32, .f32, .f32, .f32, .f32, .f32, .f32, .f32, .f32, .f32, .f32, .f32, .f32, .f32, .f32, .f32, .f32], m, fd, gd, bd, true⟩ : Vc)]).start Try.f61.ntmps [.vec 0 18 a (.sym n), .sint .i64 K]) (.ret, stV [.bad, .bad, .bad, .bad, .sint .i64 (K + (n * 18 : Nat))] (⟨[.f32, .f32, .f32, .f32, .f32, .f32, .f32, .f32, .f32, .f32, .f32, .f32, .f32, .f32, .f32, .f32, .f32, .f32], m, fd, gd, bd, true⟩ : Vc) (mrkJ (⟨[.f32, .f32, .f32, .f32, .f32, .f32, .f32, .f32, .f32, .f32, .f32, .f32, .f32, .f32, .f32, .f32, .f32, .f32], m, fd, gd, bd, true⟩ : Vc) a K n)) := hr.weak (Wk.refl _) (Nat.le_refl _) rfl wk_stV
  exact Run.calls (fr := ⟨none, some ⟨.sint .i64 (K + (n * 18 : Nat)), [], [], [(0, mrkJ (⟨[.f32, .f32, .f32, .f32, .f32, .f32, .f32, .f32, .f32, .f32, .f32, .f32, .f32, .f32, .f32, .f32, .f32, .f32], m, fd, gd, bd, true⟩ : Vc) a K n)]⟩, true⟩) Try.func61 (by kernel_rfl) hr' (ahv := []) (avv := [(0, mrkJ (⟨[.f32, .f32, .f32, .f32, .f32, .f32, .f32, .f32, .f32, .f32, .f32, .f32, .f32, .f32, .f32, .f32, .f32, .f32], m, fd, gd, bd, true⟩ : Vc) a K n)]) (by kernel_rfl) rfl rfl acc_stV (Nat.le_of_ble_eq_true (by kernel_rfl)) hM hv
/-- laws.markWoodS -/
noncomputable def G33 : List (Nat × Ctr) := (61, orC (mrkC [.f32, .f32, .f32, .f32, .f32, .f32, .f32, .f32, .f32, .f32, .f32, .f32, .f32, .f32, .f32, .f32, .f32, .f32]) (inl Try.prog G32 100 Try.f61)) :: G32
theorem g33 : Ab.Good Try.prog G33 := good_cons (sat_or (sat_mrk Try.call61 (fun i a n K v hs hw han hn h0 hK => mrk61 i a n K v hs hw han hn h0 hK)) (inl_sat g32 mixed Try.func61 Try.call61 100) rfl rfl) g32

/-- laws.markStove -/
noncomputable def G34 : List (Nat × Ctr) := (24, inl Try.prog G33 100 Try.f24) :: G33
theorem g34 : Ab.Good Try.prog G34 := good_cons (inl_sat g33 mixed Try.func24 Try.call24 100) g33


set_option maxHeartbeats 4000000 in
set_option maxRecDepth 1000000 in
theorem hld62step (fd : Nat → Nat → Nat) (gd : Nat → Nat → Int) (bd : Nat → Nat → Bool) (m : Num) (a n : Nat) (K : Int) (j : Nat) (hj : j < n) (hn : n ≤ 140737488355328) (han : a + n ≤ m.val) (h0 : 0 ≤ K) (hK : K ≤ 4611686018427387904) (hh : noneB (hldT (K + (j * 18 : Nat)) (fd (Nat.add a j)) (gd (Nat.add a j)) 0 [.f32, .f32, .f32, .f32, .f32, .f32, .f32, .f32, .f32, .f32, .f32, .f32, .f32, .f32, .f32, .f32, .f32, .f32]) = true) : Run Try.prog Try.f62.ntmps (cL (cK (cB (cA (cB (bodyOf Try.f62)))))) (stR [.vec 0 18 a (.sym n), .sint .i64 (K + (j * 18 : Nat)), .bad, .bad, .bad, .sint .i64 (Int.ofNat j)] [(⟨[.f32, .f32, .f32, .f32, .f32, .f32, .f32, .f32, .f32, .f32, .f32, .f32, .f32, .f32, .f32, .f32, .f32, .f32], m, fd, gd, bd, false⟩ : Vc)]) (.normal, (stR [.vec 0 18 a (.sym n), .sint .i64 (K + ((j + 1) * 18 : Nat)), .bad, .bad, .bad, .sint .i64 (Int.ofNat (j + 1))] [(⟨[.f32, .f32, .f32, .f32, .f32, .f32, .f32, .f32, .f32, .f32, .f32, .f32, .f32, .f32, .f32, .f32, .f32, .f32], m, fd, gd, bd, false⟩ : Vc)])) := by
  have c1 : Nat.ble (j + 1) n = true := Nat.ble_eq_true_of_le hj
  have c2 : Nat.ble (Nat.add a j + 1) m.val = true := Nat.ble_eq_true_of_le (by show a + j + 1 ≤ m.val; clear hh; omega)
  have q0 : (0 : Int) ≤ K + (j * 18 : Nat) := by clear hh; omega
  have q1 : K + (j * 18 : Nat) + (18 : Nat) ≤ 9223372036854775807 := by clear hh; omega
  have q2 : K + (j * 18 : Nat) + (18 : Nat) = K + ((j + 1) * 18 : Nat) := by clear hh; omega
  refine Run.to g34 mixed 150 (true :: falses 18) (by kernel_rfl) ?_ ?_ (by kernel_rfl) (by kernel_rfl) ⟨Or.inr (ge_eq (by kernel_rfl)), Or.inr (ge_eq ?_), Or.inl rfl, Or.inl rfl, Or.inl rfl, Or.inr (ge_eq ?_), trivial⟩ ⟨⟨(⟨[.f32, .f32, .f32, .f32, .f32, .f32, .f32, .f32, .f32, .f32, .f32, .f32, .f32, .f32, .f32, .f32, .f32, .f32], m, fd, gd, bd, false⟩ : Vc), by kernel_rfl, VcLe.refl _⟩, trivial⟩ (by kernel_rfl)
  · have e : wBs (wayO (true :: falses 18) (stR [.vec 0 18 a (.sym n), .sint .i64 (K + (j * 18 : Nat)), .bad, .bad, .bad, .sint .i64 (Int.ofNat j)] [(⟨[.f32, .f32, .f32, .f32, .f32, .f32, .f32, .f32, .f32, .f32, .f32, .f32, .f32, .f32, .f32, .f32, .f32, .f32], m, fd, gd, bd, false⟩ : Vc)]) (Ab.ev Try.prog G34 Try.f62.ntmps 150 (cL (cK (cB (cA (cB (bodyOf Try.f62)))))) (stR [.vec 0 18 a (.sym n), .sint .i64 (K + (j * 18 : Nat)), .bad, .bad, .bad, .sint .i64 (Int.ofNat j)] [(⟨[.f32, .f32, .f32, .f32, .f32, .f32, .f32, .f32, .f32, .f32, .f32, .f32, .f32, .f32, .f32, .f32, .f32, .f32], m, fd, gd, bd, false⟩ : Vc)]) Dl.nil)) = decide (Int.ofNat j < Int.ofNat n) :: (hldT (K + (j * 18 : Nat)) (fd (Nat.add a j)) (gd (Nat.add a j)) 0 [.f32, .f32, .f32, .f32, .f32, .f32, .f32, .f32, .f32, .f32, .f32, .f32, .f32, .f32, .f32, .f32, .f32, .f32]) := by kernel_rfl
    rw [e, dec_lt hj, hldT_false hh]; rfl
  · have e : wNd (wayO (true :: falses 18) (stR [.vec 0 18 a (.sym n), .sint .i64 (K + (j * 18 : Nat)), .bad, .bad, .bad, .sint .i64 (Int.ofNat j)] [(⟨[.f32, .f32, .f32, .f32, .f32, .f32, .f32, .f32, .f32, .f32, .f32, .f32, .f32, .f32, .f32, .f32, .f32, .f32], m, fd, gd, bd, false⟩ : Vc)]) (Ab.ev Try.prog G34 Try.f62.ntmps 150 (cL (cK (cB (cA (cB (bodyOf Try.f62)))))) (stR [.vec 0 18 a (.sym n), .sint .i64 (K + (j * 18 : Nat)), .bad, .bad, .bad, .sint .i64 (Int.ofNat j)] [(⟨[.f32, .f32, .f32, .f32, .f32, .f32, .f32, .f32, .f32, .f32, .f32, .f32, .f32, .f32, .f32, .f32, .f32, .f32], m, fd, gd, bd, false⟩ : Vc)]) Dl.nil)) = (cond (andN (andN (true) (Nat.ble (j + 1) n)) (Nat.ble (Nat.add a j + 1) m.val)) (cond (andN (andN (true) (Nat.ble (j + 1) n)) (Nat.ble (Nat.add a j + 1) m.val)) (cond (andN (andN (true) (Nat.ble (j + 1) n)) (Nat.ble (Nat.add a j + 1) m.val)) (cond (andN (andN (true) (Nat.ble (j + 1) n)) (Nat.ble (Nat.add a j + 1) m.val)) (cond (andN (andN (true) (Nat.ble (j + 1) n)) (Nat.ble (Nat.add a j + 1) m.val)) (cond (andN (andN (true) (Nat.ble (j + 1) n)) (Nat.ble (Nat.add a j + 1) m.val)) (cond (andN (andN (true) (Nat.ble (j + 1) n)) (Nat.ble (Nat.add a j + 1) m.val)) (cond (andN (andN (true) (Nat.ble (j + 1) n)) (Nat.ble (Nat.add a j + 1) m.val)) (cond (andN (andN (true) (Nat.ble (j + 1) n)) (Nat.ble (Nat.add a j + 1) m.val)) (cond (andN (andN (true) (Nat.ble (j + 1) n)) (Nat.ble (Nat.add a j + 1) m.val)) (cond (andN (andN (true) (Nat.ble (j + 1) n)) (Nat.ble (Nat.add a j + 1) m.val)) (cond (andN (andN (true) (Nat.ble (j + 1) n)) (Nat.ble (Nat.add a j + 1) m.val)) (cond (andN (andN (true) (Nat.ble (j + 1) n)) (Nat.ble (Nat.add a j + 1) m.val)) (cond (andN (andN (true) (Nat.ble (j + 1) n)) (Nat.ble (Nat.add a j + 1) m.val)) (cond (andN (andN (true) (Nat.ble (j + 1) n)) (Nat.ble (Nat.add a j + 1) m.val)) (cond (andN (andN (true) (Nat.ble (j + 1) n)) (Nat.ble (Nat.add a j + 1) m.val)) (cond (andN (andN (true) (Nat.ble (j + 1) n)) (Nat.ble (Nat.add a j + 1) m.val)) (cond (andN (andN (true) (Nat.ble (j + 1) n)) (Nat.ble (Nat.add a j + 1) m.val)) (true) false) false) false) false) false) false) false) false) false) false) false) false) false) false) false) false) false) false) := by kernel_rfl
    rw [e, c1, c2]; rfl
  · have e : (wS (wayO (true :: falses 18) (stR [.vec 0 18 a (.sym n), .sint .i64 (K + (j * 18 : Nat)), .bad, .bad, .bad, .sint .i64 (Int.ofNat j)] [(⟨[.f32, .f32, .f32, .f32, .f32, .f32, .f32, .f32, .f32, .f32, .f32, .f32, .f32, .f32, .f32, .f32, .f32, .f32], m, fd, gd, bd, false⟩ : Vc)]) (Ab.ev Try.prog G34 Try.f62.ntmps 150 (cL (cK (cB (cA (cB (bodyOf Try.f62)))))) (stR [.vec 0 18 a (.sym n), .sint .i64 (K + (j * 18 : Nat)), .bad, .bad, .bad, .sint .i64 (Int.ofNat j)] [(⟨[.f32, .f32, .f32, .f32, .f32, .f32, .f32, .f32, .f32, .f32, .f32, .f32, .f32, .f32, .f32, .f32, .f32, .f32], m, fd, gd, bd, false⟩ : Vc)]) Dl.nil))).get 1 = .sint .i64 (incW 18 (K + (j * 18 : Nat))) := by kernel_rfl
    rw [e, incW_eq _ _ q0 q1, q2]
  · have e : (wS (wayO (true :: falses 18) (stR [.vec 0 18 a (.sym n), .sint .i64 (K + (j * 18 : Nat)), .bad, .bad, .bad, .sint .i64 (Int.ofNat j)] [(⟨[.f32, .f32, .f32, .f32, .f32, .f32, .f32, .f32, .f32, .f32, .f32, .f32, .f32, .f32, .f32, .f32, .f32, .f32], m, fd, gd, bd, false⟩ : Vc)]) (Ab.ev Try.prog G34 Try.f62.ntmps 150 (cL (cK (cB (cA (cB (bodyOf Try.f62)))))) (stR [.vec 0 18 a (.sym n), .sint .i64 (K + (j * 18 : Nat)), .bad, .bad, .bad, .sint .i64 (Int.ofNat j)] [(⟨[.f32, .f32, .f32, .f32, .f32, .f32, .f32, .f32, .f32, .f32, .f32, .f32, .f32, .f32, .f32, .f32, .f32, .f32], m, fd, gd, bd, false⟩ : Vc)]) Dl.nil))).get 5 = .sint .i64 (IntKind.i64.wrap (Int.ofNat j + 1)) := by kernel_rfl
    rw [e, wrap_next hj hn]

theorem hld62end (fd : Nat → Nat → Nat) (gd : Nat → Nat → Int) (bd : Nat → Nat → Bool) (m : Num) (a n : Nat) (K : Int) : Run Try.prog Try.f62.ntmps (cL (cK (cB (cA (cB (bodyOf Try.f62)))))) (stR [.vec 0 18 a (.sym n), .sint .i64 (K + (n * 18 : Nat)), .bad, .bad, .bad, .sint .i64 (Int.ofNat n)] [(⟨[.f32, .f32, .f32, .f32, .f32, .f32, .f32, .f32, .f32, .f32, .f32, .f32, .f32, .f32, .f32, .f32, .f32, .f32], m, fd, gd, bd, false⟩ : Vc)]) (.exit 0, (stR [.vec 0 18 a (.sym n), .sint .i64 (K + (n * 18 : Nat)), .bad, .bad, .bad, .sint .i64 (Int.ofNat n)] [(⟨[.f32, .f32, .f32, .f32, .f32, .f32, .f32, .f32, .f32, .f32, .f32, .f32, .f32, .f32, .f32, .f32, .f32, .f32], m, fd, gd, bd, false⟩ : Vc)])) := by
  refine Run.to g34 mixed 150 [false] (by kernel_rfl) ?_ (by kernel_rfl) (by kernel_rfl) (by kernel_rfl) ⟨Or.inr (ge_eq (by kernel_rfl)), Or.inr (ge_eq (by kernel_rfl)), Or.inl rfl, Or.inl rfl, Or.inl rfl, Or.inr (ge_eq (by kernel_rfl)), trivial⟩ ⟨⟨(⟨[.f32, .f32, .f32, .f32, .f32, .f32, .f32, .f32, .f32, .f32, .f32, .f32, .f32, .f32, .f32, .f32, .f32, .f32], m, fd, gd, bd, false⟩ : Vc), by kernel_rfl, VcLe.refl _⟩, trivial⟩ (by kernel_rfl)
  have e : wBs (wayO [false] (stR [.vec 0 18 a (.sym n), .sint .i64 (K + (n * 18 : Nat)), .bad, .bad, .bad, .sint .i64 (Int.ofNat n)] [(⟨[.f32, .f32, .f32, .f32, .f32, .f32, .f32, .f32, .f32, .f32, .f32, .f32, .f32, .f32, .f32, .f32, .f32, .f32], m, fd, gd, bd, false⟩ : Vc)]) (Ab.ev Try.prog G34 Try.f62.ntmps 150 (cL (cK (cB (cA (cB (bodyOf Try.f62)))))) (stR [.vec 0 18 a (.sym n), .sint .i64 (K + (n * 18 : Nat)), .bad, .bad, .bad, .sint .i64 (Int.ofNat n)] [(⟨[.f32, .f32, .f32, .f32, .f32, .f32, .f32, .f32, .f32, .f32, .f32, .f32, .f32, .f32, .f32, .f32, .f32, .f32], m, fd, gd, bd, false⟩ : Vc)]) Dl.nil)) = [decide (Int.ofNat n < Int.ofNat n)] := by kernel_rfl
  rw [e, dec_irr]

theorem hld62 (i a n : Nat) (K : Int) (v : Vc) (hs : v.sh = [.f32, .f32, .f32, .f32, .f32, .f32, .f32, .f32, .f32, .f32, .f32, .f32, .f32, .f32, .f32, .f32, .f32, .f32]) (han : a + n ≤ v.n.val) (hn : n ≤ 140737488355328) (h0 : 0 ≤ K) (hK : K ≤ 4611686018427387904) (hh : hldB [.f32, .f32, .f32, .f32, .f32, .f32, .f32, .f32, .f32, .f32, .f32, .f32, .f32, .f32, .f32, .f32, .f32, .f32] v a n K = true) : OnRows Try.prog 62 [⟨i, 18, a, .sym n⟩] [.sint .i64 K] [v] ⟨.sint .i64 (K + (n * 18 : Nat)), [], [], [], true, none⟩ := by
  obtain ⟨sh, m, fd, gd, bd, wr⟩ := v
  have hs : sh = [.f32, .f32, .f32, .f32, .f32, .f32, .f32, .f32, .f32, .f32, .f32, .f32, .f32, .f32, .f32, .f32, .f32, .f32] := hs
  subst hs
  have hp := allB_true hh
  have h1 : Run Try.prog Try.f62.ntmps (cA (bodyOf Try.f62)) ((viewS [(⟨[.f32, .f32, .f32, .f32, .f32, .f32, .f32, .f32, .f32, .f32, .f32, .f32, .f32, .f32, .f32, .f32, .f32, .f32], m, fd, gd, bd, wr⟩ : Vc)]).start Try.f62.ntmps [.vec 0 18 a (.sym n), .sint .i64 K]) (.normal, stR [.vec 0 18 a (.sym n), .sint .i64 K] [(⟨[.f32, .f32, .f32, .f32, .f32, .f32, .f32, .f32, .f32, .f32, .f32, .f32, .f32, .f32, .f32, .f32, .f32, .f32], m, fd, gd, bd, false⟩ : Vc)]) :=
    Run.to g34 mixed 150 [] (by kernel_rfl) (by kernel_rfl) (by kernel_rfl) (by kernel_rfl) (by kernel_rfl) ⟨Or.inr (ge_eq (by kernel_rfl)), Or.inr (ge_eq (by kernel_rfl)), trivial⟩ ⟨⟨(⟨[.f32, .f32, .f32, .f32, .f32, .f32, .f32, .f32, .f32, .f32, .f32, .f32, .f32, .f32, .f32, .f32, .f32, .f32], m, fd, gd, bd, false⟩ : Vc), by kernel_rfl, VcLe.refl _⟩, trivial⟩ (by kernel_rfl)
  have e0 : K = K + (0 * 18 : Nat) := by omega
  have h2 : Run Try.prog Try.f62.ntmps (cA (cA (cB (bodyOf Try.f62)))) (stR [.vec 0 18 a (.sym n), .sint .i64 K] [(⟨[.f32, .f32, .f32, .f32, .f32, .f32, .f32, .f32, .f32, .f32, .f32, .f32, .f32, .f32, .f32, .f32, .f32, .f32], m, fd, gd, bd, false⟩ : Vc)]) (.normal, (stR [.vec 0 18 a (.sym n), .sint .i64 (K + (0 * 18 : Nat)), .bad, .bad, .bad, .sint .i64 (Int.ofNat 0)] [(⟨[.f32, .f32, .f32, .f32, .f32, .f32, .f32, .f32, .f32, .f32, .f32, .f32, .f32, .f32, .f32, .f32, .f32, .f32], m, fd, gd, bd, false⟩ : Vc)])) := by
    refine Run.to g34 mixed 150 [] (by kernel_rfl) (by kernel_rfl) (by kernel_rfl) (by kernel_rfl) (by kernel_rfl) ⟨Or.inr (ge_eq (by kernel_rfl)), Or.inr (ge_eq ?_), Or.inl rfl, Or.inl rfl, Or.inl rfl, Or.inr (ge_int (by kernel_rfl)), trivial⟩ ⟨⟨(⟨[.f32, .f32, .f32, .f32, .f32, .f32, .f32, .f32, .f32, .f32, .f32, .f32, .f32, .f32, .f32, .f32, .f32, .f32], m, fd, gd, bd, false⟩ : Vc), by kernel_rfl, VcLe.refl _⟩, trivial⟩ (by kernel_rfl)
    rw [← e0]; kernel_rfl
  have h3 : Run Try.prog Try.f62.ntmps (.loop (cL (cK (cB (cA (cB (bodyOf Try.f62))))))) (stR [.vec 0 18 a (.sym n), .sint .i64 (K + (0 * 18 : Nat)), .bad, .bad, .bad, .sint .i64 (Int.ofNat 0)] [(⟨[.f32, .f32, .f32, .f32, .f32, .f32, .f32, .f32, .f32, .f32, .f32, .f32, .f32, .f32, .f32, .f32, .f32, .f32], m, fd, gd, bd, false⟩ : Vc)]) (.exit 0, (stR [.vec 0 18 a (.sym n), .sint .i64 (K + (n * 18 : Nat)), .bad, .bad, .bad, .sint .i64 (Int.ofNat n)] [(⟨[.f32, .f32, .f32, .f32, .f32, .f32, .f32, .f32, .f32, .f32, .f32, .f32, .f32, .f32, .f32, .f32, .f32, .f32], m, fd, gd, bd, false⟩ : Vc)])) := Run.loop n (fun j => (stR [.vec 0 18 a (.sym n), .sint .i64 (K + (j * 18 : Nat)), .bad, .bad, .bad, .sint .i64 (Int.ofNat j)] [(⟨[.f32, .f32, .f32, .f32, .f32, .f32, .f32, .f32, .f32, .f32, .f32, .f32, .f32, .f32, .f32, .f32, .f32, .f32], m, fd, gd, bd, false⟩ : Vc)])) (fun j => rfl) (fun j hj => hld62step fd gd bd m a n K j hj hn han h0 hK (hp j hj)) (hld62end fd gd bd m a n K) (by intro h; cases h)
  have h6 : Run Try.prog Try.f62.ntmps (cB (cB (bodyOf Try.f62))) (stR [.vec 0 18 a (.sym n), .sint .i64 (K + (n * 18 : Nat)), .bad, .bad, .bad, .sint .i64 (Int.ofNat n)] [(⟨[.f32, .f32, .f32, .f32, .f32, .f32, .f32, .f32, .f32, .f32, .f32, .f32, .f32, .f32, .f32, .f32, .f32, .f32], m, fd, gd, bd, false⟩ : Vc)]) (.ret, (stR [.bad, .bad, .bad, .bad, .sint .i64 (K + (n * 18 : Nat))] [(⟨[.f32, .f32, .f32, .f32, .f32, .f32, .f32, .f32, .f32, .f32, .f32, .f32, .f32, .f32, .f32, .f32, .f32, .f32], m, fd, gd, bd, false⟩ : Vc)])) :=
    Run.to g34 mixed 150 [] (by kernel_rfl) (by kernel_rfl) (by kernel_rfl) (by kernel_rfl) (by kernel_rfl) ⟨Or.inl rfl, Or.inl rfl, Or.inl rfl, Or.inl rfl, Or.inr (ge_eq (by kernel_rfl)), trivial⟩ ⟨⟨(⟨[.f32, .f32, .f32, .f32, .f32, .f32, .f32, .f32, .f32, .f32, .f32, .f32, .f32, .f32, .f32, .f32, .f32, .f32], m, fd, gd, bd, false⟩ : Vc), by kernel_rfl, VcLe.refl _⟩, trivial⟩ (by kernel_rfl)
  have hr : Run Try.prog Try.f62.ntmps (bodyOf Try.f62) ((viewS [(⟨[.f32, .f32, .f32, .f32, .f32, .f32, .f32, .f32, .f32, .f32, .f32, .f32, .f32, .f32, .f32, .f32, .f32, .f32], m, fd, gd, bd, wr⟩ : Vc)]).start Try.f62.ntmps [.vec 0 18 a (.sym n), .sint .i64 K]) (.ret, (stR [.bad, .bad, .bad, .bad, .sint .i64 (K + (n * 18 : Nat))] [(⟨[.f32, .f32, .f32, .f32, .f32, .f32, .f32, .f32, .f32, .f32, .f32, .f32, .f32, .f32, .f32, .f32, .f32, .f32], m, fd, gd, bd, false⟩ : Vc)])) := by
    have hB : (bodyOf Try.f62) = .seq (cA (bodyOf Try.f62)) (.seq (.seq (cA (cA (cB (bodyOf Try.f62)))) (.block 0 (.loop (cL (cK (cB (cA (cB (bodyOf Try.f62))))))))) (cB (cB (bodyOf Try.f62)))) := by kernel_rfl
    rw [hB]
    exact Run.seq h1 (Nat.le_refl _) (Run.seq (Run.seq h2 (Nat.le_refl _) (Run.block h3)) (Nat.le_refl _) h6)
  intro M w0 ρ w vs hM hv
  exact Run.calls (fr := ⟨none, some ⟨.sint .i64 (K + (n * 18 : Nat)), [], [], []⟩, true⟩) Try.func62 (by kernel_rfl) hr (ahv := []) (avv := []) (by kernel_rfl) rfl rfl ⟨⟨[], rfl⟩, fun i o => rfl, fun i => rfl⟩ (Nat.le_of_ble_eq_true (by kernel_rfl)) hM hv
/-- laws.heldWoodS -/
noncomputable def G35 : List (Nat × Ctr) := (62, orC (hldC [.f32, .f32, .f32, .f32, .f32, .f32, .f32, .f32, .f32, .f32, .f32, .f32, .f32, .f32, .f32, .f32, .f32, .f32]) (inl Try.prog G34 100 Try.f62)) :: G34
theorem g35 : Ab.Good Try.prog G35 := good_cons (sat_or (sat_hld Try.call62 (fun i a n K v hs han hn h0 hK hh => hld62 i a n K v hs han hn h0 hK hh)) (inl_sat g34 mixed Try.func62 Try.call62 100) rfl rfl) g34

/-- laws.heldStove -/
noncomputable def G36 : List (Nat × Ctr) := (25, inl Try.prog G35 100 Try.f25) :: G35
theorem g36 : Ab.Good Try.prog G36 := good_cons (inl_sat g35 mixed Try.func25 Try.call25 100) g35

/-- laws.szWoodS -/
noncomputable def G37 : List (Nat × Ctr) := (47, inl Try.prog G36 100 Try.f47) :: G36
theorem g37 : Ab.Good Try.prog G37 := good_cons (inl_sat g36 mixed Try.func47 Try.call47 100) g36

/-- laws.szStove -/
noncomputable def G38 : List (Nat × Ctr) := (15, inl Try.prog G37 100 Try.f15) :: G37
theorem g38 : Ab.Good Try.prog G38 := good_cons (inl_sat g37 mixed Try.func15 Try.call15 100) g37

/-- laws.toFloat32A6 -/
noncomputable def G39 : List (Nat × Ctr) := (65, inl Try.prog G38 100 Try.f65) :: G38
theorem g39 : Ab.Good Try.prog G39 := good_cons (inl_sat g38 mixed Try.func65 Try.call65 100) g38

/-- laws.toWood -/
noncomputable def G40 : List (Nat × Ctr) := (27, inl Try.prog G39 100 Try.f27) :: G39
theorem g40 : Ab.Good Try.prog G40 := good_cons (inl_sat g39 mixed Try.func27 Try.call27 100) g39


theorem cpy49step (fd : Nat → Nat → Nat) (gd : Nat → Nat → Int) (bd : Nat → Nat → Bool) (wr : Bool) (m : Num) (a n : Nat) (j : Nat) (hj : j < n) (hn : n ≤ 140737488355328) (han : a + n ≤ m.val) : Run Try.prog Try.f49.ntmps (cL (cK (cB (cA (cB (cB (bodyOf Try.f49))))))) (stR [.vec 0 18 a (.sym n), .bad, .bad, .vec 1 18 0 (.sym n), .sint .i64 (Int.ofNat j)] [⟨[.f32, .f32, .f32, .f32, .f32, .f32, .f32, .f32, .f32, .f32, .f32, .f32, .f32, .f32, .f32, .f32, .f32, .f32], m, fd, gd, bd, false⟩, rowJ [.f32, .f32, .f32, .f32, .f32, .f32, .f32, .f32, .f32, .f32, .f32, .f32, .f32, .f32, .f32, .f32, .f32, .f32] n a ⟨[.f32, .f32, .f32, .f32, .f32, .f32, .f32, .f32, .f32, .f32, .f32, .f32, .f32, .f32, .f32, .f32, .f32, .f32], m, fd, gd, bd, wr⟩ [.flt .f32 0, .flt .f32 0, .flt .f32 0, .flt .f32 0, .flt .f32 0, .flt .f32 0, .flt .f32 0, .flt .f32 0, .flt .f32 0, .flt .f32 0, .flt .f32 0, .flt .f32 0, .flt .f32 0, .flt .f32 0, .flt .f32 0, .flt .f32 0, .flt .f32 0, .flt .f32 0] j]) (.normal, (stR [.vec 0 18 a (.sym n), .bad, .bad, .vec 1 18 0 (.sym n), .sint .i64 (Int.ofNat (j + 1))] [⟨[.f32, .f32, .f32, .f32, .f32, .f32, .f32, .f32, .f32, .f32, .f32, .f32, .f32, .f32, .f32, .f32, .f32, .f32], m, fd, gd, bd, false⟩, rowJ [.f32, .f32, .f32, .f32, .f32, .f32, .f32, .f32, .f32, .f32, .f32, .f32, .f32, .f32, .f32, .f32, .f32, .f32] n a ⟨[.f32, .f32, .f32, .f32, .f32, .f32, .f32, .f32, .f32, .f32, .f32, .f32, .f32, .f32, .f32, .f32, .f32, .f32], m, fd, gd, bd, wr⟩ [.flt .f32 0, .flt .f32 0, .flt .f32 0, .flt .f32 0, .flt .f32 0, .flt .f32 0, .flt .f32 0, .flt .f32 0, .flt .f32 0, .flt .f32 0, .flt .f32 0, .flt .f32 0, .flt .f32 0, .flt .f32 0, .flt .f32 0, .flt .f32 0, .flt .f32 0, .flt .f32 0] (j + 1)])) := by
  have c1 : Nat.ble (j + 1) n = true := Nat.ble_eq_true_of_le hj
  have c2 : Nat.ble (Nat.add a j + 1) m.val = true := Nat.ble_eq_true_of_le (by show a + j + 1 ≤ m.val; omega)
  have c4 : Nat.ble (Nat.add 0 j + 1) n = true := Nat.ble_eq_true_of_le (by show 0 + j + 1 ≤ n; omega)
  refine Run.to g40 mixed 60 [true] (by kernel_rfl) ?_ ?_ (by kernel_rfl) (by kernel_rfl) ?_ ?_ (by kernel_rfl)
  · have e : wBs (wayO [true] (stR [.vec 0 18 a (.sym n), .bad, .bad, .vec 1 18 0 (.sym n), .sint .i64 (Int.ofNat j)] [⟨[.f32, .f32, .f32, .f32, .f32, .f32, .f32, .f32, .f32, .f32, .f32, .f32, .f32, .f32, .f32, .f32, .f32, .f32], m, fd, gd, bd, false⟩, rowJ [.f32, .f32, .f32, .f32, .f32, .f32, .f32, .f32, .f32, .f32, .f32, .f32, .f32, .f32, .f32, .f32, .f32, .f32] n a ⟨[.f32, .f32, .f32, .f32, .f32, .f32, .f32, .f32, .f32, .f32, .f32, .f32, .f32, .f32, .f32, .f32, .f32, .f32], m, fd, gd, bd, wr⟩ [.flt .f32 0, .flt .f32 0, .flt .f32 0, .flt .f32 0, .flt .f32 0, .flt .f32 0, .flt .f32 0, .flt .f32 0, .flt .f32 0, .flt .f32 0, .flt .f32 0, .flt .f32 0, .flt .f32 0, .flt .f32 0, .flt .f32 0, .flt .f32 0, .flt .f32 0, .flt .f32 0] j]) (Ab.ev Try.prog G40 Try.f49.ntmps 60 (cL (cK (cB (cA (cB (cB (bodyOf Try.f49))))))) (stR [.vec 0 18 a (.sym n), .bad, .bad, .vec 1 18 0 (.sym n), .sint .i64 (Int.ofNat j)] [⟨[.f32, .f32, .f32, .f32, .f32, .f32, .f32, .f32, .f32, .f32, .f32, .f32, .f32, .f32, .f32, .f32, .f32, .f32], m, fd, gd, bd, false⟩, rowJ [.f32, .f32, .f32, .f32, .f32, .f32, .f32, .f32, .f32, .f32, .f32, .f32, .f32, .f32, .f32, .f32, .f32, .f32] n a ⟨[.f32, .f32, .f32, .f32, .f32, .f32, .f32, .f32, .f32, .f32, .f32, .f32, .f32, .f32, .f32, .f32, .f32, .f32], m, fd, gd, bd, wr⟩ [.flt .f32 0, .flt .f32 0, .flt .f32 0, .flt .f32 0, .flt .f32 0, .flt .f32 0, .flt .f32 0, .flt .f32 0, .flt .f32 0, .flt .f32 0, .flt .f32 0, .flt .f32 0, .flt .f32 0, .flt .f32 0, .flt .f32 0, .flt .f32 0, .flt .f32 0, .flt .f32 0] j]) Dl.nil)) = [decide (Int.ofNat j < Int.ofNat n)] := by kernel_rfl
    rw [e, dec_lt hj]
  · have e : wNd (wayO [true] (stR [.vec 0 18 a (.sym n), .bad, .bad, .vec 1 18 0 (.sym n), .sint .i64 (Int.ofNat j)] [⟨[.f32, .f32, .f32, .f32, .f32, .f32, .f32, .f32, .f32, .f32, .f32, .f32, .f32, .f32, .f32, .f32, .f32, .f32], m, fd, gd, bd, false⟩, rowJ [.f32, .f32, .f32, .f32, .f32, .f32, .f32, .f32, .f32, .f32, .f32, .f32, .f32, .f32, .f32, .f32, .f32, .f32] n a ⟨[.f32, .f32, .f32, .f32, .f32, .f32, .f32, .f32, .f32, .f32, .f32, .f32, .f32, .f32, .f32, .f32, .f32, .f32], m, fd, gd, bd, wr⟩ [.flt .f32 0, .flt .f32 0, .flt .f32 0, .flt .f32 0, .flt .f32 0, .flt .f32 0, .flt .f32 0, .flt .f32 0, .flt .f32 0, .flt .f32 0, .flt .f32 0, .flt .f32 0, .flt .f32 0, .flt .f32 0, .flt .f32 0, .flt .f32 0, .flt .f32 0, .flt .f32 0] j]) (Ab.ev Try.prog G40 Try.f49.ntmps 60 (cL (cK (cB (cA (cB (cB (bodyOf Try.f49))))))) (stR [.vec 0 18 a (.sym n), .bad, .bad, .vec 1 18 0 (.sym n), .sint .i64 (Int.ofNat j)] [⟨[.f32, .f32, .f32, .f32, .f32, .f32, .f32, .f32, .f32, .f32, .f32, .f32, .f32, .f32, .f32, .f32, .f32, .f32], m, fd, gd, bd, false⟩, rowJ [.f32, .f32, .f32, .f32, .f32, .f32, .f32, .f32, .f32, .f32, .f32, .f32, .f32, .f32, .f32, .f32, .f32, .f32] n a ⟨[.f32, .f32, .f32, .f32, .f32, .f32, .f32, .f32, .f32, .f32, .f32, .f32, .f32, .f32, .f32, .f32, .f32, .f32], m, fd, gd, bd, wr⟩ [.flt .f32 0, .flt .f32 0, .flt .f32 0, .flt .f32 0, .flt .f32 0, .flt .f32 0, .flt .f32 0, .flt .f32 0, .flt .f32 0, .flt .f32 0, .flt .f32 0, .flt .f32 0, .flt .f32 0, .flt .f32 0, .flt .f32 0, .flt .f32 0, .flt .f32 0, .flt .f32 0] j]) Dl.nil)) = (andN (andN (andN (andN (true) (Nat.ble (j + 1) n)) (Nat.ble (Nat.add a j + 1) m.val)) (Nat.ble (j + 1) n)) (Nat.ble (Nat.add 0 j + 1) n)) := by kernel_rfl
    rw [e, c1, c2, c4]; rfl
  · refine ⟨Or.inr (ge_eq (by kernel_rfl)), Or.inl rfl, Or.inl rfl, Or.inr (ge_eq (by kernel_rfl)), Or.inr (ge_eq ?_), trivial⟩
    have e : (wS (wayO [true] (stR [.vec 0 18 a (.sym n), .bad, .bad, .vec 1 18 0 (.sym n), .sint .i64 (Int.ofNat j)] [⟨[.f32, .f32, .f32, .f32, .f32, .f32, .f32, .f32, .f32, .f32, .f32, .f32, .f32, .f32, .f32, .f32, .f32, .f32], m, fd, gd, bd, false⟩, rowJ [.f32, .f32, .f32, .f32, .f32, .f32, .f32, .f32, .f32, .f32, .f32, .f32, .f32, .f32, .f32, .f32, .f32, .f32] n a ⟨[.f32, .f32, .f32, .f32, .f32, .f32, .f32, .f32, .f32, .f32, .f32, .f32, .f32, .f32, .f32, .f32, .f32, .f32], m, fd, gd, bd, wr⟩ [.flt .f32 0, .flt .f32 0, .flt .f32 0, .flt .f32 0, .flt .f32 0, .flt .f32 0, .flt .f32 0, .flt .f32 0, .flt .f32 0, .flt .f32 0, .flt .f32 0, .flt .f32 0, .flt .f32 0, .flt .f32 0, .flt .f32 0, .flt .f32 0, .flt .f32 0, .flt .f32 0] j]) (Ab.ev Try.prog G40 Try.f49.ntmps 60 (cL (cK (cB (cA (cB (cB (bodyOf Try.f49))))))) (stR [.vec 0 18 a (.sym n), .bad, .bad, .vec 1 18 0 (.sym n), .sint .i64 (Int.ofNat j)] [⟨[.f32, .f32, .f32, .f32, .f32, .f32, .f32, .f32, .f32, .f32, .f32, .f32, .f32, .f32, .f32, .f32, .f32, .f32], m, fd, gd, bd, false⟩, rowJ [.f32, .f32, .f32, .f32, .f32, .f32, .f32, .f32, .f32, .f32, .f32, .f32, .f32, .f32, .f32, .f32, .f32, .f32] n a ⟨[.f32, .f32, .f32, .f32, .f32, .f32, .f32, .f32, .f32, .f32, .f32, .f32, .f32, .f32, .f32, .f32, .f32, .f32], m, fd, gd, bd, wr⟩ [.flt .f32 0, .flt .f32 0, .flt .f32 0, .flt .f32 0, .flt .f32 0, .flt .f32 0, .flt .f32 0, .flt .f32 0, .flt .f32 0, .flt .f32 0, .flt .f32 0, .flt .f32 0, .flt .f32 0, .flt .f32 0, .flt .f32 0, .flt .f32 0, .flt .f32 0, .flt .f32 0] j]) Dl.nil))).get 4 = .sint .i64 (IntKind.i64.wrap (Int.ofNat j + 1)) := by kernel_rfl
    rw [e, wrap_next hj hn]
  · exact ⟨⟨⟨[.f32, .f32, .f32, .f32, .f32, .f32, .f32, .f32, .f32, .f32, .f32, .f32, .f32, .f32, .f32, .f32, .f32, .f32], m, fd, gd, bd, false⟩, by kernel_rfl, VcLe.refl _⟩, ⟨(rowJ [.f32, .f32, .f32, .f32, .f32, .f32, .f32, .f32, .f32, .f32, .f32, .f32, .f32, .f32, .f32, .f32, .f32, .f32] n a ⟨[.f32, .f32, .f32, .f32, .f32, .f32, .f32, .f32, .f32, .f32, .f32, .f32, .f32, .f32, .f32, .f32, .f32, .f32], m, fd, gd, bd, wr⟩ [.flt .f32 0, .flt .f32 0, .flt .f32 0, .flt .f32 0, .flt .f32 0, .flt .f32 0, .flt .f32 0, .flt .f32 0, .flt .f32 0, .flt .f32 0, .flt .f32 0, .flt .f32 0, .flt .f32 0, .flt .f32 0, .flt .f32 0, .flt .f32 0, .flt .f32 0, .flt .f32 0] j).put (Nat.add 0 j) 0 (encC (fd (Nat.add a j)) (gd (Nat.add a j)) (bd (Nat.add a j)) 0 [.f32, .f32, .f32, .f32, .f32, .f32, .f32, .f32, .f32, .f32, .f32, .f32, .f32, .f32, .f32, .f32, .f32, .f32]), by kernel_rfl, rowJ_next [.f32, .f32, .f32, .f32, .f32, .f32, .f32, .f32, .f32, .f32, .f32, .f32, .f32, .f32, .f32, .f32, .f32, .f32] n a ⟨[.f32, .f32, .f32, .f32, .f32, .f32, .f32, .f32, .f32, .f32, .f32, .f32, .f32, .f32, .f32, .f32, .f32, .f32], m, fd, gd, bd, wr⟩ [.flt .f32 0, .flt .f32 0, .flt .f32 0, .flt .f32 0, .flt .f32 0, .flt .f32 0, .flt .f32 0, .flt .f32 0, .flt .f32 0, .flt .f32 0, .flt .f32 0, .flt .f32 0, .flt .f32 0, .flt .f32 0, .flt .f32 0, .flt .f32 0, .flt .f32 0, .flt .f32 0] j⟩, trivial⟩

theorem cpy49end (fd : Nat → Nat → Nat) (gd : Nat → Nat → Int) (bd : Nat → Nat → Bool) (wr : Bool) (m : Num) (a n : Nat) : Run Try.prog Try.f49.ntmps (cL (cK (cB (cA (cB (cB (bodyOf Try.f49))))))) (stR [.vec 0 18 a (.sym n), .bad, .bad, .vec 1 18 0 (.sym n), .sint .i64 (Int.ofNat n)] [⟨[.f32, .f32, .f32, .f32, .f32, .f32, .f32, .f32, .f32, .f32, .f32, .f32, .f32, .f32, .f32, .f32, .f32, .f32], m, fd, gd, bd, false⟩, rowJ [.f32, .f32, .f32, .f32, .f32, .f32, .f32, .f32, .f32, .f32, .f32, .f32, .f32, .f32, .f32, .f32, .f32, .f32] n a ⟨[.f32, .f32, .f32, .f32, .f32, .f32, .f32, .f32, .f32, .f32, .f32, .f32, .f32, .f32, .f32, .f32, .f32, .f32], m, fd, gd, bd, wr⟩ [.flt .f32 0, .flt .f32 0, .flt .f32 0, .flt .f32 0, .flt .f32 0, .flt .f32 0, .flt .f32 0, .flt .f32 0, .flt .f32 0, .flt .f32 0, .flt .f32 0, .flt .f32 0, .flt .f32 0, .flt .f32 0, .flt .f32 0, .flt .f32 0, .flt .f32 0, .flt .f32 0] n]) (.exit 0, (stR [.vec 0 18 a (.sym n), .bad, .bad, .vec 1 18 0 (.sym n), .sint .i64 (Int.ofNat n)] [⟨[.f32, .f32, .f32, .f32, .f32, .f32, .f32, .f32, .f32, .f32, .f32, .f32, .f32, .f32, .f32, .f32, .f32, .f32], m, fd, gd, bd, false⟩, rowJ [.f32, .f32, .f32, .f32, .f32, .f32, .f32, .f32, .f32, .f32, .f32, .f32, .f32, .f32, .f32, .f32, .f32, .f32] n a ⟨[.f32, .f32, .f32, .f32, .f32, .f32, .f32, .f32, .f32, .f32, .f32, .f32, .f32, .f32, .f32, .f32, .f32, .f32], m, fd, gd, bd, wr⟩ [.flt .f32 0, .flt .f32 0, .flt .f32 0, .flt .f32 0, .flt .f32 0, .flt .f32 0, .flt .f32 0, .flt .f32 0, .flt .f32 0, .flt .f32 0, .flt .f32 0, .flt .f32 0, .flt .f32 0, .flt .f32 0, .flt .f32 0, .flt .f32 0, .flt .f32 0, .flt .f32 0] n])) := by
  refine Run.to g40 mixed 60 [false] (by kernel_rfl) ?_ (by kernel_rfl) (by kernel_rfl) (by kernel_rfl) ?_ ?_ (by kernel_rfl)
  · have e : wBs (wayO [false] (stR [.vec 0 18 a (.sym n), .bad, .bad, .vec 1 18 0 (.sym n), .sint .i64 (Int.ofNat n)] [⟨[.f32, .f32, .f32, .f32, .f32, .f32, .f32, .f32, .f32, .f32, .f32, .f32, .f32, .f32, .f32, .f32, .f32, .f32], m, fd, gd, bd, false⟩, rowJ [.f32, .f32, .f32, .f32, .f32, .f32, .f32, .f32, .f32, .f32, .f32, .f32, .f32, .f32, .f32, .f32, .f32, .f32] n a ⟨[.f32, .f32, .f32, .f32, .f32, .f32, .f32, .f32, .f32, .f32, .f32, .f32, .f32, .f32, .f32, .f32, .f32, .f32], m, fd, gd, bd, wr⟩ [.flt .f32 0, .flt .f32 0, .flt .f32 0, .flt .f32 0, .flt .f32 0, .flt .f32 0, .flt .f32 0, .flt .f32 0, .flt .f32 0, .flt .f32 0, .flt .f32 0, .flt .f32 0, .flt .f32 0, .flt .f32 0, .flt .f32 0, .flt .f32 0, .flt .f32 0, .flt .f32 0] n]) (Ab.ev Try.prog G40 Try.f49.ntmps 60 (cL (cK (cB (cA (cB (cB (bodyOf Try.f49))))))) (stR [.vec 0 18 a (.sym n), .bad, .bad, .vec 1 18 0 (.sym n), .sint .i64 (Int.ofNat n)] [⟨[.f32, .f32, .f32, .f32, .f32, .f32, .f32, .f32, .f32, .f32, .f32, .f32, .f32, .f32, .f32, .f32, .f32, .f32], m, fd, gd, bd, false⟩, rowJ [.f32, .f32, .f32, .f32, .f32, .f32, .f32, .f32, .f32, .f32, .f32, .f32, .f32, .f32, .f32, .f32, .f32, .f32] n a ⟨[.f32, .f32, .f32, .f32, .f32, .f32, .f32, .f32, .f32, .f32, .f32, .f32, .f32, .f32, .f32, .f32, .f32, .f32], m, fd, gd, bd, wr⟩ [.flt .f32 0, .flt .f32 0, .flt .f32 0, .flt .f32 0, .flt .f32 0, .flt .f32 0, .flt .f32 0, .flt .f32 0, .flt .f32 0, .flt .f32 0, .flt .f32 0, .flt .f32 0, .flt .f32 0, .flt .f32 0, .flt .f32 0, .flt .f32 0, .flt .f32 0, .flt .f32 0] n]) Dl.nil)) = [decide (Int.ofNat n < Int.ofNat n)] := by kernel_rfl
    rw [e, dec_irr]
  · exact ⟨Or.inr (ge_eq (by kernel_rfl)), Or.inl rfl, Or.inl rfl, Or.inr (ge_eq (by kernel_rfl)), Or.inr (ge_eq (by kernel_rfl)), trivial⟩
  · exact ⟨⟨⟨[.f32, .f32, .f32, .f32, .f32, .f32, .f32, .f32, .f32, .f32, .f32, .f32, .f32, .f32, .f32, .f32, .f32, .f32], m, fd, gd, bd, false⟩, by kernel_rfl, VcLe.refl _⟩, ⟨rowJ [.f32, .f32, .f32, .f32, .f32, .f32, .f32, .f32, .f32, .f32, .f32, .f32, .f32, .f32, .f32, .f32, .f32, .f32] n a ⟨[.f32, .f32, .f32, .f32, .f32, .f32, .f32, .f32, .f32, .f32, .f32, .f32, .f32, .f32, .f32, .f32, .f32, .f32], m, fd, gd, bd, wr⟩ [.flt .f32 0, .flt .f32 0, .flt .f32 0, .flt .f32 0, .flt .f32 0, .flt .f32 0, .flt .f32 0, .flt .f32 0, .flt .f32 0, .flt .f32 0, .flt .f32 0, .flt .f32 0, .flt .f32 0, .flt .f32 0, .flt .f32 0, .flt .f32 0, .flt .f32 0, .flt .f32 0] n, by kernel_rfl, VcLe.refl _⟩, trivial⟩

theorem cpy49 (i a n : Nat) (v : Vc) (hs : v.sh = [.f32, .f32, .f32, .f32, .f32, .f32, .f32, .f32, .f32, .f32, .f32, .f32, .f32, .f32, .f32, .f32, .f32, .f32]) (han : a + n ≤ v.n.val) (hb : n * 72 ≤ 140737488355328) (hn : n ≤ 140737488355328) : OnRows Try.prog 49 [⟨i, 18, a, .sym n⟩] [] [v] ⟨.vec 1 18 0 (.sym n), [], [], [⟨[], false, some (cpyR [.f32, .f32, .f32, .f32, .f32, .f32, .f32, .f32, .f32, .f32, .f32, .f32, .f32, .f32, .f32, .f32, .f32, .f32] (.sym n) a v)⟩], true, none⟩ := by
  obtain ⟨sh, m, fd, gd, bd, wr⟩ := v
  have hs : sh = [.f32, .f32, .f32, .f32, .f32, .f32, .f32, .f32, .f32, .f32, .f32, .f32, .f32, .f32, .f32, .f32, .f32, .f32] := hs
  subst hs
  have h0 : Run Try.prog Try.f49.ntmps (cA (bodyOf Try.f49)) ((viewS [⟨[.f32, .f32, .f32, .f32, .f32, .f32, .f32, .f32, .f32, .f32, .f32, .f32, .f32, .f32, .f32, .f32, .f32, .f32], m, fd, gd, bd, wr⟩]).start Try.f49.ntmps [.vec 0 18 a (.sym n)]) (.normal, stR [.vec 0 18 a (.sym n)] [⟨[.f32, .f32, .f32, .f32, .f32, .f32, .f32, .f32, .f32, .f32, .f32, .f32, .f32, .f32, .f32, .f32, .f32, .f32], m, fd, gd, bd, false⟩]) :=
    Run.to g40 mixed 60 [] (by kernel_rfl) (by kernel_rfl) (by kernel_rfl) (by kernel_rfl) (by kernel_rfl) ⟨Or.inr (ge_eq (by kernel_rfl)), trivial⟩ ⟨⟨_, rfl, VcLe.refl _⟩, trivial⟩ (by kernel_rfl)
  have b1 : Nat.ble (Nat.mul (Nat.add n 0) 72) 140737488355328 = true := Nat.ble_eq_true_of_le (by show (n + 0) * 72 ≤ _; omega)
  have b2 : Nat.ble (Nat.add n 0) 140737488355328 = true := Nat.ble_eq_true_of_le (by show n + 0 ≤ _; omega)
  have h1 : Run Try.prog Try.f49.ntmps (cA (cB (bodyOf Try.f49))) (stR [.vec 0 18 a (.sym n)] [⟨[.f32, .f32, .f32, .f32, .f32, .f32, .f32, .f32, .f32, .f32, .f32, .f32, .f32, .f32, .f32, .f32, .f32, .f32], m, fd, gd, bd, false⟩]) (.normal, stR [.vec 0 18 a (.sym n), .bad, .bad, .vec 1 18 0 (.sym n)] [⟨[.f32, .f32, .f32, .f32, .f32, .f32, .f32, .f32, .f32, .f32, .f32, .f32, .f32, .f32, .f32, .f32, .f32, .f32], m, fd, gd, bd, false⟩, rowJ [.f32, .f32, .f32, .f32, .f32, .f32, .f32, .f32, .f32, .f32, .f32, .f32, .f32, .f32, .f32, .f32, .f32, .f32] n a ⟨[.f32, .f32, .f32, .f32, .f32, .f32, .f32, .f32, .f32, .f32, .f32, .f32, .f32, .f32, .f32, .f32, .f32, .f32], m, fd, gd, bd, wr⟩ [.flt .f32 0, .flt .f32 0, .flt .f32 0, .flt .f32 0, .flt .f32 0, .flt .f32 0, .flt .f32 0, .flt .f32 0, .flt .f32 0, .flt .f32 0, .flt .f32 0, .flt .f32 0, .flt .f32 0, .flt .f32 0, .flt .f32 0, .flt .f32 0, .flt .f32 0, .flt .f32 0] 0]) := by
    refine Run.to g40 mixed 60 [] (by kernel_rfl) (by kernel_rfl) ?_ (by kernel_rfl) (by kernel_rfl) ⟨Or.inr (ge_eq (by kernel_rfl)), Or.inl rfl, Or.inl rfl, Or.inr (ge_eq (by kernel_rfl)), trivial⟩ ⟨⟨⟨[.f32, .f32, .f32, .f32, .f32, .f32, .f32, .f32, .f32, .f32, .f32, .f32, .f32, .f32, .f32, .f32, .f32, .f32], m, fd, gd, bd, false⟩, by kernel_rfl, VcLe.refl _⟩, ⟨Vc.all [.f32, .f32, .f32, .f32, .f32, .f32, .f32, .f32, .f32, .f32, .f32, .f32, .f32, .f32, .f32, .f32, .f32, .f32] (.sym n) [.flt .f32 0, .flt .f32 0, .flt .f32 0, .flt .f32 0, .flt .f32 0, .flt .f32 0, .flt .f32 0, .flt .f32 0, .flt .f32 0, .flt .f32 0, .flt .f32 0, .flt .f32 0, .flt .f32 0, .flt .f32 0, .flt .f32 0, .flt .f32 0, .flt .f32 0, .flt .f32 0], by kernel_rfl, rowJ_zero _ _ _ _ _⟩, trivial⟩ (by kernel_rfl)
    have e : wNd (wayO [] (stR [.vec 0 18 a (.sym n)] [⟨[.f32, .f32, .f32, .f32, .f32, .f32, .f32, .f32, .f32, .f32, .f32, .f32, .f32, .f32, .f32, .f32, .f32, .f32], m, fd, gd, bd, false⟩]) (Ab.ev Try.prog G40 Try.f49.ntmps 60 (cA (cB (bodyOf Try.f49))) (stR [.vec 0 18 a (.sym n)] [⟨[.f32, .f32, .f32, .f32, .f32, .f32, .f32, .f32, .f32, .f32, .f32, .f32, .f32, .f32, .f32, .f32, .f32, .f32], m, fd, gd, bd, false⟩]) Dl.nil)) = (cond (Nat.ble (Nat.mul (Nat.add n 0) 72) 140737488355328 && Nat.ble (Nat.add n 0) 140737488355328) true false) := by kernel_rfl
    rw [e, b1, b2]; rfl
  have h2 : Run Try.prog Try.f49.ntmps (cA (cA (cB (cB (bodyOf Try.f49))))) (stR [.vec 0 18 a (.sym n), .bad, .bad, .vec 1 18 0 (.sym n)] [⟨[.f32, .f32, .f32, .f32, .f32, .f32, .f32, .f32, .f32, .f32, .f32, .f32, .f32, .f32, .f32, .f32, .f32, .f32], m, fd, gd, bd, false⟩, rowJ [.f32, .f32, .f32, .f32, .f32, .f32, .f32, .f32, .f32, .f32, .f32, .f32, .f32, .f32, .f32, .f32, .f32, .f32] n a ⟨[.f32, .f32, .f32, .f32, .f32, .f32, .f32, .f32, .f32, .f32, .f32, .f32, .f32, .f32, .f32, .f32, .f32, .f32], m, fd, gd, bd, wr⟩ [.flt .f32 0, .flt .f32 0, .flt .f32 0, .flt .f32 0, .flt .f32 0, .flt .f32 0, .flt .f32 0, .flt .f32 0, .flt .f32 0, .flt .f32 0, .flt .f32 0, .flt .f32 0, .flt .f32 0, .flt .f32 0, .flt .f32 0, .flt .f32 0, .flt .f32 0, .flt .f32 0] 0]) (.normal, (stR [.vec 0 18 a (.sym n), .bad, .bad, .vec 1 18 0 (.sym n), .sint .i64 (Int.ofNat 0)] [⟨[.f32, .f32, .f32, .f32, .f32, .f32, .f32, .f32, .f32, .f32, .f32, .f32, .f32, .f32, .f32, .f32, .f32, .f32], m, fd, gd, bd, false⟩, rowJ [.f32, .f32, .f32, .f32, .f32, .f32, .f32, .f32, .f32, .f32, .f32, .f32, .f32, .f32, .f32, .f32, .f32, .f32] n a ⟨[.f32, .f32, .f32, .f32, .f32, .f32, .f32, .f32, .f32, .f32, .f32, .f32, .f32, .f32, .f32, .f32, .f32, .f32], m, fd, gd, bd, wr⟩ [.flt .f32 0, .flt .f32 0, .flt .f32 0, .flt .f32 0, .flt .f32 0, .flt .f32 0, .flt .f32 0, .flt .f32 0, .flt .f32 0, .flt .f32 0, .flt .f32 0, .flt .f32 0, .flt .f32 0, .flt .f32 0, .flt .f32 0, .flt .f32 0, .flt .f32 0, .flt .f32 0] 0])) :=
    Run.to g40 mixed 60 [] (by kernel_rfl) (by kernel_rfl) (by kernel_rfl) (by kernel_rfl) (by kernel_rfl) ⟨Or.inr (ge_eq (by kernel_rfl)), Or.inl rfl, Or.inl rfl, Or.inr (ge_eq (by kernel_rfl)), Or.inr (ge_int (by kernel_rfl)), trivial⟩ ⟨⟨⟨[.f32, .f32, .f32, .f32, .f32, .f32, .f32, .f32, .f32, .f32, .f32, .f32, .f32, .f32, .f32, .f32, .f32, .f32], m, fd, gd, bd, false⟩, by kernel_rfl, VcLe.refl _⟩, ⟨rowJ [.f32, .f32, .f32, .f32, .f32, .f32, .f32, .f32, .f32, .f32, .f32, .f32, .f32, .f32, .f32, .f32, .f32, .f32] n a ⟨[.f32, .f32, .f32, .f32, .f32, .f32, .f32, .f32, .f32, .f32, .f32, .f32, .f32, .f32, .f32, .f32, .f32, .f32], m, fd, gd, bd, wr⟩ [.flt .f32 0, .flt .f32 0, .flt .f32 0, .flt .f32 0, .flt .f32 0, .flt .f32 0, .flt .f32 0, .flt .f32 0, .flt .f32 0, .flt .f32 0, .flt .f32 0, .flt .f32 0, .flt .f32 0, .flt .f32 0, .flt .f32 0, .flt .f32 0, .flt .f32 0, .flt .f32 0] 0, by kernel_rfl, VcLe.refl _⟩, trivial⟩ (by kernel_rfl)
  have h3 : Run Try.prog Try.f49.ntmps (.loop (cL (cK (cB (cA (cB (cB (bodyOf Try.f49)))))))) (stR [.vec 0 18 a (.sym n), .bad, .bad, .vec 1 18 0 (.sym n), .sint .i64 (Int.ofNat 0)] [⟨[.f32, .f32, .f32, .f32, .f32, .f32, .f32, .f32, .f32, .f32, .f32, .f32, .f32, .f32, .f32, .f32, .f32, .f32], m, fd, gd, bd, false⟩, rowJ [.f32, .f32, .f32, .f32, .f32, .f32, .f32, .f32, .f32, .f32, .f32, .f32, .f32, .f32, .f32, .f32, .f32, .f32] n a ⟨[.f32, .f32, .f32, .f32, .f32, .f32, .f32, .f32, .f32, .f32, .f32, .f32, .f32, .f32, .f32, .f32, .f32, .f32], m, fd, gd, bd, wr⟩ [.flt .f32 0, .flt .f32 0, .flt .f32 0, .flt .f32 0, .flt .f32 0, .flt .f32 0, .flt .f32 0, .flt .f32 0, .flt .f32 0, .flt .f32 0, .flt .f32 0, .flt .f32 0, .flt .f32 0, .flt .f32 0, .flt .f32 0, .flt .f32 0, .flt .f32 0, .flt .f32 0] 0]) (.exit 0, (stR [.vec 0 18 a (.sym n), .bad, .bad, .vec 1 18 0 (.sym n), .sint .i64 (Int.ofNat n)] [⟨[.f32, .f32, .f32, .f32, .f32, .f32, .f32, .f32, .f32, .f32, .f32, .f32, .f32, .f32, .f32, .f32, .f32, .f32], m, fd, gd, bd, false⟩, rowJ [.f32, .f32, .f32, .f32, .f32, .f32, .f32, .f32, .f32, .f32, .f32, .f32, .f32, .f32, .f32, .f32, .f32, .f32] n a ⟨[.f32, .f32, .f32, .f32, .f32, .f32, .f32, .f32, .f32, .f32, .f32, .f32, .f32, .f32, .f32, .f32, .f32, .f32], m, fd, gd, bd, wr⟩ [.flt .f32 0, .flt .f32 0, .flt .f32 0, .flt .f32 0, .flt .f32 0, .flt .f32 0, .flt .f32 0, .flt .f32 0, .flt .f32 0, .flt .f32 0, .flt .f32 0, .flt .f32 0, .flt .f32 0, .flt .f32 0, .flt .f32 0, .flt .f32 0, .flt .f32 0, .flt .f32 0] n])) := Run.loop n (fun j => (stR [.vec 0 18 a (.sym n), .bad, .bad, .vec 1 18 0 (.sym n), .sint .i64 (Int.ofNat j)] [⟨[.f32, .f32, .f32, .f32, .f32, .f32, .f32, .f32, .f32, .f32, .f32, .f32, .f32, .f32, .f32, .f32, .f32, .f32], m, fd, gd, bd, false⟩, rowJ [.f32, .f32, .f32, .f32, .f32, .f32, .f32, .f32, .f32, .f32, .f32, .f32, .f32, .f32, .f32, .f32, .f32, .f32] n a ⟨[.f32, .f32, .f32, .f32, .f32, .f32, .f32, .f32, .f32, .f32, .f32, .f32, .f32, .f32, .f32, .f32, .f32, .f32], m, fd, gd, bd, wr⟩ [.flt .f32 0, .flt .f32 0, .flt .f32 0, .flt .f32 0, .flt .f32 0, .flt .f32 0, .flt .f32 0, .flt .f32 0, .flt .f32 0, .flt .f32 0, .flt .f32 0, .flt .f32 0, .flt .f32 0, .flt .f32 0, .flt .f32 0, .flt .f32 0, .flt .f32 0, .flt .f32 0] j])) (fun j => rfl) (fun j hj => cpy49step fd gd bd wr m a n j hj hn han) (cpy49end fd gd bd wr m a n) (by intro h; cases h)
  have h6 : Run Try.prog Try.f49.ntmps (cB (cB (cB (bodyOf Try.f49)))) (stR [.vec 0 18 a (.sym n), .bad, .bad, .vec 1 18 0 (.sym n), .sint .i64 (Int.ofNat n)] [⟨[.f32, .f32, .f32, .f32, .f32, .f32, .f32, .f32, .f32, .f32, .f32, .f32, .f32, .f32, .f32, .f32, .f32, .f32], m, fd, gd, bd, false⟩, rowJ [.f32, .f32, .f32, .f32, .f32, .f32, .f32, .f32, .f32, .f32, .f32, .f32, .f32, .f32, .f32, .f32, .f32, .f32] n a ⟨[.f32, .f32, .f32, .f32, .f32, .f32, .f32, .f32, .f32, .f32, .f32, .f32, .f32, .f32, .f32, .f32, .f32, .f32], m, fd, gd, bd, wr⟩ [.flt .f32 0, .flt .f32 0, .flt .f32 0, .flt .f32 0, .flt .f32 0, .flt .f32 0, .flt .f32 0, .flt .f32 0, .flt .f32 0, .flt .f32 0, .flt .f32 0, .flt .f32 0, .flt .f32 0, .flt .f32 0, .flt .f32 0, .flt .f32 0, .flt .f32 0, .flt .f32 0] n]) (.ret, stR [.bad, .bad, .vec 1 18 0 (.sym n)] [⟨[.f32, .f32, .f32, .f32, .f32, .f32, .f32, .f32, .f32, .f32, .f32, .f32, .f32, .f32, .f32, .f32, .f32, .f32], m, fd, gd, bd, false⟩, cpyR [.f32, .f32, .f32, .f32, .f32, .f32, .f32, .f32, .f32, .f32, .f32, .f32, .f32, .f32, .f32, .f32, .f32, .f32] (.sym n) a ⟨[.f32, .f32, .f32, .f32, .f32, .f32, .f32, .f32, .f32, .f32, .f32, .f32, .f32, .f32, .f32, .f32, .f32, .f32], m, fd, gd, bd, wr⟩]) :=
    Run.to g40 mixed 60 [] (by kernel_rfl) (by kernel_rfl) (by kernel_rfl) (by kernel_rfl) (by kernel_rfl) ⟨Or.inl rfl, Or.inl rfl, Or.inr (ge_eq (by kernel_rfl)), trivial⟩ ⟨⟨⟨[.f32, .f32, .f32, .f32, .f32, .f32, .f32, .f32, .f32, .f32, .f32, .f32, .f32, .f32, .f32, .f32, .f32, .f32], m, fd, gd, bd, false⟩, by kernel_rfl, VcLe.refl _⟩, ⟨rowJ [.f32, .f32, .f32, .f32, .f32, .f32, .f32, .f32, .f32, .f32, .f32, .f32, .f32, .f32, .f32, .f32, .f32, .f32] n a ⟨[.f32, .f32, .f32, .f32, .f32, .f32, .f32, .f32, .f32, .f32, .f32, .f32, .f32, .f32, .f32, .f32, .f32, .f32], m, fd, gd, bd, wr⟩ [.flt .f32 0, .flt .f32 0, .flt .f32 0, .flt .f32 0, .flt .f32 0, .flt .f32 0, .flt .f32 0, .flt .f32 0, .flt .f32 0, .flt .f32 0, .flt .f32 0, .flt .f32 0, .flt .f32 0, .flt .f32 0, .flt .f32 0, .flt .f32 0, .flt .f32 0, .flt .f32 0] n, by kernel_rfl, rowJ_all _ _ _ _ _⟩, trivial⟩ (by kernel_rfl)
  have hr : Run Try.prog Try.f49.ntmps (bodyOf Try.f49) ((viewS [⟨[.f32, .f32, .f32, .f32, .f32, .f32, .f32, .f32, .f32, .f32, .f32, .f32, .f32, .f32, .f32, .f32, .f32, .f32], m, fd, gd, bd, wr⟩]).start Try.f49.ntmps [.vec 0 18 a (.sym n)]) (.ret, stR [.bad, .bad, .vec 1 18 0 (.sym n)] [⟨[.f32, .f32, .f32, .f32, .f32, .f32, .f32, .f32, .f32, .f32, .f32, .f32, .f32, .f32, .f32, .f32, .f32, .f32], m, fd, gd, bd, false⟩, cpyR [.f32, .f32, .f32, .f32, .f32, .f32, .f32, .f32, .f32, .f32, .f32, .f32, .f32, .f32, .f32, .f32, .f32, .f32] (.sym n) a ⟨[.f32, .f32, .f32, .f32, .f32, .f32, .f32, .f32, .f32, .f32, .f32, .f32, .f32, .f32, .f32, .f32, .f32, .f32], m, fd, gd, bd, wr⟩]) := by
    have hB : (bodyOf Try.f49) = .seq (cA (bodyOf Try.f49)) (.seq (cA (cB (bodyOf Try.f49))) (.seq (.seq (cA (cA (cB (cB (bodyOf Try.f49))))) (.block 0 (.loop (cL (cK (cB (cA (cB (cB (bodyOf Try.f49)))))))))) (cB (cB (cB (bodyOf Try.f49)))))) := by kernel_rfl
    rw [hB]
    exact Run.seq h0 (Nat.le_refl _) (Run.seq h1 (by show (1 : Nat) ≤ 2; decide) (Run.seq (Run.seq h2 (Nat.le_refl _) (Run.block h3)) (Nat.le_refl _) h6))
  intro M w0 ρ w vs hM hv
  have b3 : Nat.ble (0 + n) n = true := Nat.ble_eq_true_of_le (by omega)
  have key : Calls Try.prog 49 ⟨vs⟩ w (Res M w0 ρ (viewS [⟨[.f32, .f32, .f32, .f32, .f32, .f32, .f32, .f32, .f32, .f32, .f32, .f32, .f32, .f32, .f32, .f32, .f32, .f32], m, fd, gd, bd, wr⟩]) ⟨.vec 1 18 0 (.sym n), [], [], [⟨[], false, some (shiftV (cpyR [.f32, .f32, .f32, .f32, .f32, .f32, .f32, .f32, .f32, .f32, .f32, .f32, .f32, .f32, .f32, .f32, .f32, .f32] (.sym n) a ⟨[.f32, .f32, .f32, .f32, .f32, .f32, .f32, .f32, .f32, .f32, .f32, .f32, .f32, .f32, .f32, .f32, .f32, .f32], m, fd, gd, bd, wr⟩) 0 (.sym n))⟩], Nat.ble (0 + n) n, none⟩) :=
    Run.calls (fr := ⟨none, some ⟨.vec 1 18 0 (.sym n), [shiftV (cpyR [.f32, .f32, .f32, .f32, .f32, .f32, .f32, .f32, .f32, .f32, .f32, .f32, .f32, .f32, .f32, .f32, .f32, .f32] (.sym n) a ⟨[.f32, .f32, .f32, .f32, .f32, .f32, .f32, .f32, .f32, .f32, .f32, .f32, .f32, .f32, .f32, .f32, .f32, .f32], m, fd, gd, bd, wr⟩) 0 (.sym n)], [], []⟩, Nat.ble (0 + n) n⟩) Try.func49 (by kernel_rfl) hr (ahv := []) (avv := []) (by kernel_rfl) rfl (by show Nat.ble (0 + n) n = true; exact b3) ⟨⟨[⟨[], false, some (cpyR [.f32, .f32, .f32, .f32, .f32, .f32, .f32, .f32, .f32, .f32, .f32, .f32, .f32, .f32, .f32, .f32, .f32, .f32] (.sym n) a ⟨[.f32, .f32, .f32, .f32, .f32, .f32, .f32, .f32, .f32, .f32, .f32, .f32, .f32, .f32, .f32, .f32, .f32, .f32], m, fd, gd, bd, wr⟩)⟩], rfl⟩, fun i o => rfl, fun i => rfl⟩ (Nat.le_of_ble_eq_true (by kernel_rfl)) hM hv
  rw [shift_cpy, b3] at key
  exact key
/-- laws.toWoodS -/
noncomputable def G41 : List (Nat × Ctr) := (49, cpyC [.f32, .f32, .f32, .f32, .f32, .f32, .f32, .f32, .f32, .f32, .f32, .f32, .f32, .f32, .f32, .f32, .f32, .f32] 72) :: G40
theorem g41 : Ab.Good Try.prog G41 := good_cons (sat_cpy Try.call49 (by decide) (fun i a n v hs han hb hn => cpy49 i a n v hs han hb hn)) g40

/-- laws.toStove -/
noncomputable def G42 : List (Nat × Ctr) := (17, inl Try.prog G41 100 Try.f17) :: G41
theorem g42 : Ab.Good Try.prog G42 := good_cons (inl_sat g41 mixed Try.func17 Try.call17 100) g41

/-- spec.l02Copy -/
noncomputable def G43 : List (Nat × Ctr) := (64, inl Try.prog G42 100 Try.f64) :: G42
theorem g43 : Ab.Good Try.prog G43 := good_cons (inl_sat g42 mixed Try.func64 Try.call64 100) g42

/-- spec.PutLog -/
noncomputable def G44 : List (Nat × Ctr) := (26, inl Try.prog G43 100 Try.f26) :: G43
theorem g44 : Ab.Good Try.prog G44 := good_cons (inl_sat g43 mixed Try.func26 Try.call26 100) g43

/-- impl.PutLog -/
noncomputable def G45 : List (Nat × Ctr) := (28, inl Try.prog G44 100 Try.f28) :: G44
theorem g45 : Ab.Good Try.prog G45 := good_cons (inl_sat g44 mixed Try.func28 Try.call28 100) g44

/-- spec.SetDamper -/
noncomputable def G46 : List (Nat × Ctr) := (32, inl Try.prog G45 100 Try.f32) :: G45
theorem g46 : Ab.Good Try.prog G46 := good_cons (inl_sat g45 mixed Try.func32 Try.call32 100) g45

/-- impl.SetDamper -/
noncomputable def G47 : List (Nat × Ctr) := (33, inl Try.prog G46 100 Try.f33) :: G46
theorem g47 : Ab.Good Try.prog G47 := good_cons (inl_sat g46 mixed Try.func33 Try.call33 100) g46

/-- spec.KindleStove -/
noncomputable def G48 : List (Nat × Ctr) := (34, inl Try.prog G47 100 Try.f34) :: G47
theorem g48 : Ab.Good Try.prog G48 := good_cons (inl_sat g47 mixed Try.func34 Try.call34 100) g47

/-- impl.KindleStove -/
noncomputable def G49 : List (Nat × Ctr) := (35, inl Try.prog G48 100 Try.f35) :: G48
theorem g49 : Ab.Good Try.prog G49 := good_cons (inl_sat g48 mixed Try.func35 Try.call35 100) g48

/-- spec.l01Less -/
noncomputable def G50 : List (Nat × Ctr) := (106, inl Try.prog G49 100 Try.f106) :: G49
theorem g50 : Ab.Good Try.prog G50 := good_cons (inl_sat g49 mixed Try.func106 Try.call106 100) g49

/-- spec.l02Air -/
noncomputable def G51 : List (Nat × Ctr) := (76, inl Try.prog G50 100 Try.f76) :: G50
theorem g51 : Ab.Good Try.prog G51 := good_cons (inl_sat g50 mixed Try.func76 Try.call76 100) g50

/-- spec.AirOf -/
noncomputable def G52 : List (Nat × Ctr) := (36, inl Try.prog G51 100 Try.f36) :: G51
theorem g52 : Ab.Good Try.prog G52 := good_cons (inl_sat g51 mixed Try.func36 Try.call36 100) g51

/-- impl.airFor -/
noncomputable def G53 : List (Nat × Ctr) := (79, inl Try.prog G52 100 Try.f79) :: G52
theorem g53 : Ab.Good Try.prog G53 := good_cons (inl_sat g52 mixed Try.func79 Try.call79 100) g52

/-- impl.AirOf$1 -/
noncomputable def G54 : List (Nat × Ctr) := (78, inl Try.prog G53 100 Try.f78) :: G53
theorem g54 : Ab.Good Try.prog G54 := good_cons (inl_sat g53 mixed Try.func78 Try.call78 100) g53

/-- impl.rowSum -/
noncomputable def G55 : List (Nat × Ctr) := (86, inl Try.prog G54 100 Try.f86) :: G54
theorem g55 : Ab.Good Try.prog G55 := good_cons (inl_sat g54 mixed Try.func86 Try.call86 100) g54

/-- impl.FuelIn$1 -/
noncomputable def G56 : List (Nat × Ctr) := (85, inl Try.prog G55 100 Try.f85) :: G55
theorem g56 : Ab.Good Try.prog G56 := good_cons (inl_sat g55 mixed Try.func85 Try.call85 100) g55

/-- impl.ofStove[float32]$1 -/
noncomputable def G57 : List (Nat × Ctr) := (108, inl Try.prog G56 100 Try.f108) :: G56
theorem g57 : Ab.Good Try.prog G57 := good_cons (inl_sat g56 mixed Try.func108 Try.call108 100) g56

/-- impl.refusable[float32] -/
noncomputable def G58 : List (Nat × Ctr) := (107, inlD Try.prog G57 100 121 Try.f121 Try.f107) :: G57
theorem g58 : Ab.Good Try.prog G58 := good_cons (inlD_sat g57 mixed Try.func121 Try.call121 Try.func107 Try.call107 100) g57

/-- impl.ofStove[float32] -/
noncomputable def G59 : List (Nat × Ctr) := (77, inl Try.prog G58 100 Try.f77) :: G58
theorem g59 : Ab.Good Try.prog G59 := good_cons (inl_sat g58 mixed Try.func77 Try.call77 100) g58

/-- impl.AirOf -/
noncomputable def G60 : List (Nat × Ctr) := (37, inl Try.prog G59 100 Try.f37) :: G59
theorem g60 : Ab.Good Try.prog G60 := good_cons (inl_sat g59 mixed Try.func37 Try.call37 100) g59

/-- spec.l01Sum -/
noncomputable def G61 : List (Nat × Ctr) := (84, inl Try.prog G60 100 Try.f84) :: G60
theorem g61 : Ab.Good Try.prog G61 := good_cons (inl_sat g60 mixed Try.func84 Try.call84 100) g60

/-- spec.FuelIn -/
noncomputable def G62 : List (Nat × Ctr) := (41, inl Try.prog G61 100 Try.f41) :: G61
theorem g62 : Ab.Good Try.prog G62 := good_cons (inl_sat g61 mixed Try.func41 Try.call41 100) g61

/-- impl.FuelIn -/
noncomputable def G63 : List (Nat × Ctr) := (42, inl Try.prog G62 100 Try.f42) :: G62
theorem g63 : Ab.Good Try.prog G63 := good_cons (inl_sat g62 mixed Try.func42 Try.call42 100) g62

/-- spec.RakeOut -/
noncomputable def G64 : List (Nat × Ctr) := (43, inl Try.prog G63 100 Try.f43) :: G63
theorem g64 : Ab.Good Try.prog G64 := good_cons (inl_sat g63 mixed Try.func43 Try.call43 100) g63

/-- impl.RakeOut$1 -/
noncomputable def G65 : List (Nat × Ctr) := (88, inlZ Try.prog G64 100 Try.f88) :: G64
theorem g65 : Ab.Good Try.prog G65 := good_cons (inlZ_sat g64 mixed Try.func88 Try.call88 100) g64

/-- slices.IndexFunc[[]impl.Wood,impl.Wood] -/
noncomputable def G66 : List (Nat × Ctr) := (116, inl Try.prog G65 100 Try.f116) :: G65
theorem g66 : Ab.Good Try.prog G66 := good_cons (inl_sat g65 mixed Try.func116 Try.call116 100) g65

/-- slices.DeleteFunc[[]impl.Wood,impl.Wood] -/
noncomputable def G67 : List (Nat × Ctr) := (90, inl Try.prog G66 100 Try.f90) :: G66
theorem g67 : Ab.Good Try.prog G67 := good_cons (inl_sat g66 mixed Try.func90 Try.call90 100) g66

/-- impl.DropSpent$1$1 -/
noncomputable def G68 : List (Nat × Ctr) := (91, inl Try.prog G67 100 Try.f91) :: G67
theorem g68 : Ab.Good Try.prog G68 := good_cons (inl_sat g67 mixed Try.func91 Try.call91 100) g67

/-- impl.DropSpent$1 -/
noncomputable def G69 : List (Nat × Ctr) := (89, inlZ Try.prog G68 100 Try.f89) :: G68
theorem g69 : Ab.Good Try.prog G69 := good_cons (inlZ_sat g68 mixed Try.func89 Try.call89 100) g68

/-- impl.ofStove[impl.stoveAnd[int64]]$1 -/
noncomputable def G70 : List (Nat × Ctr) := (115, inl Try.prog G69 100 Try.f115) :: G69
theorem g70 : Ab.Good Try.prog G70 := good_cons (inl_sat g69 mixed Try.func115 Try.call115 100) g69

/-- impl.refusable[impl.stoveAnd[int64]] -/
noncomputable def G71 : List (Nat × Ctr) := (114, inlD Try.prog G70 100 124 Try.f124 Try.f114) :: G70
theorem g71 : Ab.Good Try.prog G71 := good_cons (inlD_sat g70 mixed Try.func124 Try.call124 Try.func114 Try.call114 100) g70

/-- impl.ofStove[impl.stoveAnd[int64]] -/
noncomputable def G72 : List (Nat × Ctr) := (87, inl Try.prog G71 100 Try.f87) :: G71
theorem g72 : Ab.Good Try.prog G72 := good_cons (inl_sat g71 mixed Try.func87 Try.call87 100) g71

/-- impl.RakeOut -/
noncomputable def G73 : List (Nat × Ctr) := (44, inl Try.prog G72 100 Try.f44) :: G72
theorem g73 : Ab.Good Try.prog G73 := good_cons (inl_sat g72 mixed Try.func44 Try.call44 100) g72

noncomputable def GG : List (Nat × Ctr) := G73
theorem gg : Ab.Good Try.prog GG := g73

end Go.Proofs.Ythepfkoaepjfbaa.ab
