import Derived.Test.YtnkfeoodbhihcaaLm4
import Derived.Test.YtnkfeoodbhihcaaGd
namespace Go.Proofs.Ytnkfeoodbhihcaa.lm
open Go Go.Ab Go.Proofs
set_option maxRecDepth 100000
set_option linter.unusedVariables false
abbrev ElB := (Nat → Nat) → (Nat → Int) → (Nat → Bool) → (Nat → Nat) → (Nat → Int) → (Nat → Bool) → Bool

noncomputable def elAtB (el : ElB) (v v' : Vc) (a a' j : Nat) : Bool := el (v.fd (Nat.add a j)) (v.gd (Nat.add a j)) (v.bd (Nat.add a j)) (v'.fd (Nat.add a' j)) (v'.gd (Nat.add a' j)) (v'.bd (Nat.add a' j))
/-- Two rows alike. -/
noncomputable def eqRowsB (el : ElB) (v v' : Vc) (a a' n n' : Nat) : Bool := cond (Int.ofNat n != Int.ofNat n') false (allB n (fun j => elAtB el v v' a a' j))

/-- The contract of a comparison. -/
noncomputable def eqCB (sh : List CK) (el : ElB) : Ctr := ⟨fun args S => match args with
  | [.vec i e a n, .vec i' e' a' n'] => match S.vec i, S.vec i' with
    | some v, some v' => match Nat.beq e (lenL sh) && (Nat.beq e' (lenL sh) && (eqSh sh v.sh && eqSh sh v'.sh)) with
      | true => some ⟨.sbool (eqRowsB el v v' a a' n.val n'.val), [], [], [], Nat.ble n.val 140737488355328 && (Nat.ble (Nat.add a n.val) v.n.val && Nat.ble (Nat.add a' n'.val) v'.n.val), none⟩
      | false => none
    | _, _ => none
  | _ => none, none⟩

section
variable {P : Program}
/-- A function that compares. -/
theorem sat_eqB {f : FuncId} {sh : List CK} {el : ElB} (hcall : ∀ (args : Array Value) (w : World), (callFunc f args).run P w = .ok (.enter f args) w)
    (h : ∀ (i i' a a' n n' : Nat) (v v' : Vc), v.sh = sh → v'.sh = sh → a + n ≤ v.n.val → a' + n' ≤ v'.n.val → n ≤ 140737488355328 → OnRows P f [⟨i, lenL sh, a, .sym n⟩, ⟨i', lenL sh, a', .sym n'⟩] [] [v, v'] ⟨.sbool (eqRowsB el v v' a a' n n'), [], [], [], true, none⟩) : Sat P f (eqCB sh el) :=
  sat_rd hcall rfl (fun args S out hfn hnd hv => by
    simp only [eqCB] at hfn
    split at hfn
    · rename_i i e a n i' e' a' n'
      split at hfn
      · rename_i v v' hvec hvec'
        split at hfn
        · rename_i hb
          cases hfn
          simp only [Bool.and_eq_true] at hb hnd
          obtain ⟨b1, b2, b3, b4⟩ := hb
          have he := Nat.eq_of_beq_eq_true b1
          have he' := Nat.eq_of_beq_eq_true b2
          have hs := (eqSh_eq b3).symm
          have hs' := (eqSh_eq b4).symm
          obtain ⟨h1, h2, h3⟩ := hnd
          have n1 := Nat.le_of_ble_eq_true h1
          have n2 := Nat.le_of_ble_eq_true h2
          have n3 := Nat.le_of_ble_eq_true h3
          simp only [Nat.add_eq] at n1 n2 n3
          subst he
          subst he'
          have hand : (Nat.ble n.val 140737488355328 && (Nat.ble (Nat.add a n.val) v.n.val && Nat.ble (Nat.add a' n'.val) v'.n.val)) = true := by
            simp only [Bool.and_eq_true]
            exact ⟨h1, h2, h3⟩
          rw [hand]
          exact ⟨[⟨i, lenL sh, a, n⟩, ⟨i', lenL sh, a', n'⟩], [], [v, v'], .sbool (eqRowsB el v v' a a' n.val n'.val), rfl, rfl, by simp [rowsAt, hvec, hvec'], onRows_sym2 (h i i' a a' n.val n'.val v v' hs hs' n2 n3 n1), rfl, rfl, fun ρ u hu => hu⟩
        · cases hfn
      · cases hfn
    · cases hfn)
end

noncomputable def G5 : List (Nat × Ctr) := (24, inl Try.prog lb.G4 100 Try.f24) :: lb.G4
theorem g5 : Ab.Good Try.prog G5 := good_cons (inl_sat lb.g4 lb.mixed Try.func24 Try.call24 100) lb.g4
noncomputable def G6 : List (Nat × Ctr) := (21, inl Try.prog G5 100 Try.f21) :: G5
theorem g6 : Ab.Good Try.prog G6 := good_cons (inl_sat g5 lb.mixed Try.func21 Try.call21 100) g5
noncomputable def elEn : ElB := fun f g b f' g' b' => cond (b 0 != b' 0) false (cond (g 1 != g' 1) false (cond (!(cond (g 2 != g' 2) false (cond (g 3 != g' 3) false (cond (g 4 != g' 4) false true)))) false true))
theorem elEn_self (f : Nat → Nat) (g : Nat → Int) (b : Nat → Bool) : elEn f g b f g b = true := by unfold elEn; simp

theorem eqs15step (fd : Nat → Nat → Nat) (gd : Nat → Nat → Int) (bd : Nat → Nat → Bool) (wr : Bool) (m : Num) (fd' : Nat → Nat → Nat) (gd' : Nat → Nat → Int) (bd' : Nat → Nat → Bool) (wr' : Bool) (m' : Num) (a a' n n' : Nat) (j : Nat) (hj : j < n) (hnn : n = n') (hn : n ≤ 140737488355328) (han : a + n ≤ m.val) (han' : a' + n' ≤ m'.val) (hp : (elEn (fd (Nat.add a j)) (gd (Nat.add a j)) (bd (Nat.add a j)) (fd' (Nat.add a' j)) (gd' (Nat.add a' j)) (bd' (Nat.add a' j))) = true) : Run Try.prog Try.f15.ntmps (cL (cK (cB (cA (cB (cB (bodyOf Try.f15))))))) (stR [.vec 0 5 a (.sym n), .vec 1 5 a' (.sym n'), .bad, .bad, .bad, .sint .i64 (Int.ofNat j)] [⟨[.bool, .int .u32, .int .i64, .int .i64, .int .i64], m, fd, gd, bd, false⟩, ⟨[.bool, .int .u32, .int .i64, .int .i64, .int .i64], m', fd', gd', bd', false⟩]) (.normal, (stR [.vec 0 5 a (.sym n), .vec 1 5 a' (.sym n'), .bad, .bad, .bad, .sint .i64 (Int.ofNat (j + 1))] [⟨[.bool, .int .u32, .int .i64, .int .i64, .int .i64], m, fd, gd, bd, false⟩, ⟨[.bool, .int .u32, .int .i64, .int .i64, .int .i64], m', fd', gd', bd', false⟩])) := by
  have c1 : Nat.ble (j + 1) n = true := Nat.ble_eq_true_of_le hj
  have c2 : Nat.ble (Nat.add a j + 1) m.val = true := Nat.ble_eq_true_of_le (by show a + j + 1 ≤ m.val; omega)
  have c3 : Nat.ble (j + 1) n' = true := Nat.ble_eq_true_of_le (by omega)
  have c4 : Nat.ble (Nat.add a' j + 1) m'.val = true := Nat.ble_eq_true_of_le (by show a' + j + 1 ≤ m'.val; omega)
  refine Run.to g6 lb.mixed 60 [true, false] (by kernel_rfl) ?_ ?_ (by kernel_rfl) (by kernel_rfl) ?_ ⟨⟨⟨[.bool, .int .u32, .int .i64, .int .i64, .int .i64], m, fd, gd, bd, false⟩, by kernel_rfl, VcLe.refl _⟩, ⟨⟨[.bool, .int .u32, .int .i64, .int .i64, .int .i64], m', fd', gd', bd', false⟩, by kernel_rfl, VcLe.refl _⟩, trivial⟩ (by kernel_rfl)
  · have e : wBs (wayO [true, false] (stR [.vec 0 5 a (.sym n), .vec 1 5 a' (.sym n'), .bad, .bad, .bad, .sint .i64 (Int.ofNat j)] [⟨[.bool, .int .u32, .int .i64, .int .i64, .int .i64], m, fd, gd, bd, false⟩, ⟨[.bool, .int .u32, .int .i64, .int .i64, .int .i64], m', fd', gd', bd', false⟩]) (Ab.ev Try.prog G6 Try.f15.ntmps 60 (cL (cK (cB (cA (cB (cB (bodyOf Try.f15))))))) (stR [.vec 0 5 a (.sym n), .vec 1 5 a' (.sym n'), .bad, .bad, .bad, .sint .i64 (Int.ofNat j)] [⟨[.bool, .int .u32, .int .i64, .int .i64, .int .i64], m, fd, gd, bd, false⟩, ⟨[.bool, .int .u32, .int .i64, .int .i64, .int .i64], m', fd', gd', bd', false⟩]) Dl.nil)) = [decide (Int.ofNat j < Int.ofNat n), !(elEn (fd (Nat.add a j)) (gd (Nat.add a j)) (bd (Nat.add a j)) (fd' (Nat.add a' j)) (gd' (Nat.add a' j)) (bd' (Nat.add a' j)))] := by kernel_rfl
    rw [e, dec_lt hj, hp]; rfl
  · have e : wNd (wayO [true, false] (stR [.vec 0 5 a (.sym n), .vec 1 5 a' (.sym n'), .bad, .bad, .bad, .sint .i64 (Int.ofNat j)] [⟨[.bool, .int .u32, .int .i64, .int .i64, .int .i64], m, fd, gd, bd, false⟩, ⟨[.bool, .int .u32, .int .i64, .int .i64, .int .i64], m', fd', gd', bd', false⟩]) (Ab.ev Try.prog G6 Try.f15.ntmps 60 (cL (cK (cB (cA (cB (cB (bodyOf Try.f15))))))) (stR [.vec 0 5 a (.sym n), .vec 1 5 a' (.sym n'), .bad, .bad, .bad, .sint .i64 (Int.ofNat j)] [⟨[.bool, .int .u32, .int .i64, .int .i64, .int .i64], m, fd, gd, bd, false⟩, ⟨[.bool, .int .u32, .int .i64, .int .i64, .int .i64], m', fd', gd', bd', false⟩]) Dl.nil)) = (cond (andN (andN (andN (andN true (Nat.ble (j + 1) n)) (Nat.ble (Nat.add a j + 1) m.val)) (Nat.ble (j + 1) n')) (Nat.ble (Nat.add a' j + 1) m'.val)) true false) := by kernel_rfl
    rw [e, c1, c2, c3, c4]; rfl
  · refine ⟨Or.inr (ge_eq (by kernel_rfl)), Or.inr (ge_eq (by kernel_rfl)), Or.inl rfl, Or.inl rfl, Or.inl rfl, Or.inr (ge_eq ?_), trivial⟩
    have e : (wS (wayO [true, false] (stR [.vec 0 5 a (.sym n), .vec 1 5 a' (.sym n'), .bad, .bad, .bad, .sint .i64 (Int.ofNat j)] [⟨[.bool, .int .u32, .int .i64, .int .i64, .int .i64], m, fd, gd, bd, false⟩, ⟨[.bool, .int .u32, .int .i64, .int .i64, .int .i64], m', fd', gd', bd', false⟩]) (Ab.ev Try.prog G6 Try.f15.ntmps 60 (cL (cK (cB (cA (cB (cB (bodyOf Try.f15))))))) (stR [.vec 0 5 a (.sym n), .vec 1 5 a' (.sym n'), .bad, .bad, .bad, .sint .i64 (Int.ofNat j)] [⟨[.bool, .int .u32, .int .i64, .int .i64, .int .i64], m, fd, gd, bd, false⟩, ⟨[.bool, .int .u32, .int .i64, .int .i64, .int .i64], m', fd', gd', bd', false⟩]) Dl.nil))).get 5 = .sint .i64 (IntKind.i64.wrap (Int.ofNat j + 1)) := by kernel_rfl
    rw [e, wrap_next hj hn]

theorem eqs15ret (fd : Nat → Nat → Nat) (gd : Nat → Nat → Int) (bd : Nat → Nat → Bool) (wr : Bool) (m : Num) (fd' : Nat → Nat → Nat) (gd' : Nat → Nat → Int) (bd' : Nat → Nat → Bool) (wr' : Bool) (m' : Num) (a a' n n' : Nat) (j : Nat) (hj : j < n) (hnn : n = n') (hn : n ≤ 140737488355328) (han : a + n ≤ m.val) (han' : a' + n' ≤ m'.val) (hp : (elEn (fd (Nat.add a j)) (gd (Nat.add a j)) (bd (Nat.add a j)) (fd' (Nat.add a' j)) (gd' (Nat.add a' j)) (bd' (Nat.add a' j))) = false) : Run Try.prog Try.f15.ntmps (cL (cK (cB (cA (cB (cB (bodyOf Try.f15))))))) (stR [.vec 0 5 a (.sym n), .vec 1 5 a' (.sym n'), .bad, .bad, .bad, .sint .i64 (Int.ofNat j)] [⟨[.bool, .int .u32, .int .i64, .int .i64, .int .i64], m, fd, gd, bd, false⟩, ⟨[.bool, .int .u32, .int .i64, .int .i64, .int .i64], m', fd', gd', bd', false⟩]) (.ret, (stR [.bad, .bad, .bad, .bad, .sbool false] [⟨[.bool, .int .u32, .int .i64, .int .i64, .int .i64], m, fd, gd, bd, false⟩, ⟨[.bool, .int .u32, .int .i64, .int .i64, .int .i64], m', fd', gd', bd', false⟩])) := by
  have c1 : Nat.ble (j + 1) n = true := Nat.ble_eq_true_of_le hj
  have c2 : Nat.ble (Nat.add a j + 1) m.val = true := Nat.ble_eq_true_of_le (by show a + j + 1 ≤ m.val; omega)
  have c3 : Nat.ble (j + 1) n' = true := Nat.ble_eq_true_of_le (by omega)
  have c4 : Nat.ble (Nat.add a' j + 1) m'.val = true := Nat.ble_eq_true_of_le (by show a' + j + 1 ≤ m'.val; omega)
  refine Run.to g6 lb.mixed 60 [true, true] (by kernel_rfl) ?_ ?_ (by kernel_rfl) (by kernel_rfl) ⟨Or.inl rfl, Or.inl rfl, Or.inl rfl, Or.inl rfl, Or.inr (ge_bool (by kernel_rfl)), trivial⟩ ⟨⟨⟨[.bool, .int .u32, .int .i64, .int .i64, .int .i64], m, fd, gd, bd, false⟩, by kernel_rfl, VcLe.refl _⟩, ⟨⟨[.bool, .int .u32, .int .i64, .int .i64, .int .i64], m', fd', gd', bd', false⟩, by kernel_rfl, VcLe.refl _⟩, trivial⟩ (by kernel_rfl)
  · have e : wBs (wayO [true, true] (stR [.vec 0 5 a (.sym n), .vec 1 5 a' (.sym n'), .bad, .bad, .bad, .sint .i64 (Int.ofNat j)] [⟨[.bool, .int .u32, .int .i64, .int .i64, .int .i64], m, fd, gd, bd, false⟩, ⟨[.bool, .int .u32, .int .i64, .int .i64, .int .i64], m', fd', gd', bd', false⟩]) (Ab.ev Try.prog G6 Try.f15.ntmps 60 (cL (cK (cB (cA (cB (cB (bodyOf Try.f15))))))) (stR [.vec 0 5 a (.sym n), .vec 1 5 a' (.sym n'), .bad, .bad, .bad, .sint .i64 (Int.ofNat j)] [⟨[.bool, .int .u32, .int .i64, .int .i64, .int .i64], m, fd, gd, bd, false⟩, ⟨[.bool, .int .u32, .int .i64, .int .i64, .int .i64], m', fd', gd', bd', false⟩]) Dl.nil)) = [decide (Int.ofNat j < Int.ofNat n), !(elEn (fd (Nat.add a j)) (gd (Nat.add a j)) (bd (Nat.add a j)) (fd' (Nat.add a' j)) (gd' (Nat.add a' j)) (bd' (Nat.add a' j)))] := by kernel_rfl
    rw [e, dec_lt hj, hp]; rfl
  · have e : wNd (wayO [true, true] (stR [.vec 0 5 a (.sym n), .vec 1 5 a' (.sym n'), .bad, .bad, .bad, .sint .i64 (Int.ofNat j)] [⟨[.bool, .int .u32, .int .i64, .int .i64, .int .i64], m, fd, gd, bd, false⟩, ⟨[.bool, .int .u32, .int .i64, .int .i64, .int .i64], m', fd', gd', bd', false⟩]) (Ab.ev Try.prog G6 Try.f15.ntmps 60 (cL (cK (cB (cA (cB (cB (bodyOf Try.f15))))))) (stR [.vec 0 5 a (.sym n), .vec 1 5 a' (.sym n'), .bad, .bad, .bad, .sint .i64 (Int.ofNat j)] [⟨[.bool, .int .u32, .int .i64, .int .i64, .int .i64], m, fd, gd, bd, false⟩, ⟨[.bool, .int .u32, .int .i64, .int .i64, .int .i64], m', fd', gd', bd', false⟩]) Dl.nil)) = (cond (andN (andN (andN (andN true (Nat.ble (j + 1) n)) (Nat.ble (Nat.add a j + 1) m.val)) (Nat.ble (j + 1) n')) (Nat.ble (Nat.add a' j + 1) m'.val)) true false) := by kernel_rfl
    rw [e, c1, c2, c3, c4]; rfl

theorem eqs15end (fd : Nat → Nat → Nat) (gd : Nat → Nat → Int) (bd : Nat → Nat → Bool) (wr : Bool) (m : Num) (fd' : Nat → Nat → Nat) (gd' : Nat → Nat → Int) (bd' : Nat → Nat → Bool) (wr' : Bool) (m' : Num) (a a' n n' : Nat) : Run Try.prog Try.f15.ntmps (cL (cK (cB (cA (cB (cB (bodyOf Try.f15))))))) (stR [.vec 0 5 a (.sym n), .vec 1 5 a' (.sym n'), .bad, .bad, .bad, .sint .i64 (Int.ofNat n)] [⟨[.bool, .int .u32, .int .i64, .int .i64, .int .i64], m, fd, gd, bd, false⟩, ⟨[.bool, .int .u32, .int .i64, .int .i64, .int .i64], m', fd', gd', bd', false⟩]) (.exit 0, (stR [.vec 0 5 a (.sym n), .vec 1 5 a' (.sym n'), .bad, .bad, .bad, .sint .i64 (Int.ofNat n)] [⟨[.bool, .int .u32, .int .i64, .int .i64, .int .i64], m, fd, gd, bd, false⟩, ⟨[.bool, .int .u32, .int .i64, .int .i64, .int .i64], m', fd', gd', bd', false⟩])) := by
  refine Run.to g6 lb.mixed 60 [false] (by kernel_rfl) ?_ (by kernel_rfl) (by kernel_rfl) (by kernel_rfl) ⟨Or.inr (ge_eq (by kernel_rfl)), Or.inr (ge_eq (by kernel_rfl)), Or.inl rfl, Or.inl rfl, Or.inl rfl, Or.inr (ge_eq (by kernel_rfl)), trivial⟩ ⟨⟨⟨[.bool, .int .u32, .int .i64, .int .i64, .int .i64], m, fd, gd, bd, false⟩, by kernel_rfl, VcLe.refl _⟩, ⟨⟨[.bool, .int .u32, .int .i64, .int .i64, .int .i64], m', fd', gd', bd', false⟩, by kernel_rfl, VcLe.refl _⟩, trivial⟩ (by kernel_rfl)
  have e : wBs (wayO [false] (stR [.vec 0 5 a (.sym n), .vec 1 5 a' (.sym n'), .bad, .bad, .bad, .sint .i64 (Int.ofNat n)] [⟨[.bool, .int .u32, .int .i64, .int .i64, .int .i64], m, fd, gd, bd, false⟩, ⟨[.bool, .int .u32, .int .i64, .int .i64, .int .i64], m', fd', gd', bd', false⟩]) (Ab.ev Try.prog G6 Try.f15.ntmps 60 (cL (cK (cB (cA (cB (cB (bodyOf Try.f15))))))) (stR [.vec 0 5 a (.sym n), .vec 1 5 a' (.sym n'), .bad, .bad, .bad, .sint .i64 (Int.ofNat n)] [⟨[.bool, .int .u32, .int .i64, .int .i64, .int .i64], m, fd, gd, bd, false⟩, ⟨[.bool, .int .u32, .int .i64, .int .i64, .int .i64], m', fd', gd', bd', false⟩]) Dl.nil)) = [decide (Int.ofNat n < Int.ofNat n)] := by kernel_rfl
  rw [e, dec_irr]

theorem eqs15 (i i' a a' n n' : Nat) (v v' : Vc) (hs : v.sh = [.bool, .int .u32, .int .i64, .int .i64, .int .i64]) (hs' : v'.sh = [.bool, .int .u32, .int .i64, .int .i64, .int .i64]) (han : a + n ≤ v.n.val) (han' : a' + n' ≤ v'.n.val) (hn : n ≤ 140737488355328) : OnRows Try.prog 15 [⟨i, 5, a, .sym n⟩, ⟨i', 5, a', .sym n'⟩] [] [v, v'] ⟨.sbool (eqRowsB elEn v v' a a' n n'), [], [], [], true, none⟩ := by
  obtain ⟨sh, m, fd, gd, bd, wr⟩ := v
  have hs : sh = [.bool, .int .u32, .int .i64, .int .i64, .int .i64] := hs
  subst hs
  obtain ⟨sh', m', fd', gd', bd', wr'⟩ := v'
  have hs' : sh' = [.bool, .int .u32, .int .i64, .int .i64, .int .i64] := hs'
  subst hs'
  have rr : VecsLe (stR [.vec 0 5 a (.sym n), .vec 1 5 a' (.sym n')] [⟨[.bool, .int .u32, .int .i64, .int .i64, .int .i64], m, fd, gd, bd, false⟩, ⟨[.bool, .int .u32, .int .i64, .int .i64, .int .i64], m', fd', gd', bd', false⟩]) 0 [⟨[.bool, .int .u32, .int .i64, .int .i64, .int .i64], m, fd, gd, bd, false⟩, ⟨[.bool, .int .u32, .int .i64, .int .i64, .int .i64], m', fd', gd', bd', false⟩] := ⟨⟨⟨[.bool, .int .u32, .int .i64, .int .i64, .int .i64], m, fd, gd, bd, false⟩, rfl, VcLe.refl _⟩, ⟨⟨[.bool, .int .u32, .int .i64, .int .i64, .int .i64], m', fd', gd', bd', false⟩, rfl, VcLe.refl _⟩, trivial⟩
  have h0 : Run Try.prog Try.f15.ntmps (cA (bodyOf Try.f15)) ((viewS [⟨[.bool, .int .u32, .int .i64, .int .i64, .int .i64], m, fd, gd, bd, wr⟩, ⟨[.bool, .int .u32, .int .i64, .int .i64, .int .i64], m', fd', gd', bd', wr'⟩]).start Try.f15.ntmps [.vec 0 5 a (.sym n), .vec 1 5 a' (.sym n')]) (.normal, stR [.vec 0 5 a (.sym n), .vec 1 5 a' (.sym n')] [⟨[.bool, .int .u32, .int .i64, .int .i64, .int .i64], m, fd, gd, bd, false⟩, ⟨[.bool, .int .u32, .int .i64, .int .i64, .int .i64], m', fd', gd', bd', false⟩]) :=
    Run.to g6 lb.mixed 60 [] (by kernel_rfl) (by kernel_rfl) (by kernel_rfl) (by kernel_rfl) (by kernel_rfl) ⟨Or.inr (ge_eq (by kernel_rfl)), Or.inr (ge_eq (by kernel_rfl)), trivial⟩ ⟨⟨⟨[.bool, .int .u32, .int .i64, .int .i64, .int .i64], m, fd, gd, bd, false⟩, by kernel_rfl, VcLe.refl _⟩, ⟨⟨[.bool, .int .u32, .int .i64, .int .i64, .int .i64], m', fd', gd', bd', false⟩, by kernel_rfl, VcLe.refl _⟩, trivial⟩ (by kernel_rfl)
  have ebT : wBs (wayO [true] (stR [.vec 0 5 a (.sym n), .vec 1 5 a' (.sym n')] [⟨[.bool, .int .u32, .int .i64, .int .i64, .int .i64], m, fd, gd, bd, false⟩, ⟨[.bool, .int .u32, .int .i64, .int .i64, .int .i64], m', fd', gd', bd', false⟩]) (Ab.ev Try.prog G6 Try.f15.ntmps 60 (cA (cB (bodyOf Try.f15))) (stR [.vec 0 5 a (.sym n), .vec 1 5 a' (.sym n')] [⟨[.bool, .int .u32, .int .i64, .int .i64, .int .i64], m, fd, gd, bd, false⟩, ⟨[.bool, .int .u32, .int .i64, .int .i64, .int .i64], m', fd', gd', bd', false⟩]) Dl.nil)) = [Int.ofNat n != Int.ofNat n'] := by kernel_rfl
  have ebF : wBs (wayO [false] (stR [.vec 0 5 a (.sym n), .vec 1 5 a' (.sym n')] [⟨[.bool, .int .u32, .int .i64, .int .i64, .int .i64], m, fd, gd, bd, false⟩, ⟨[.bool, .int .u32, .int .i64, .int .i64, .int .i64], m', fd', gd', bd', false⟩]) (Ab.ev Try.prog G6 Try.f15.ntmps 60 (cA (cB (bodyOf Try.f15))) (stR [.vec 0 5 a (.sym n), .vec 1 5 a' (.sym n')] [⟨[.bool, .int .u32, .int .i64, .int .i64, .int .i64], m, fd, gd, bd, false⟩, ⟨[.bool, .int .u32, .int .i64, .int .i64, .int .i64], m', fd', gd', bd', false⟩]) Dl.nil)) = [Int.ofNat n != Int.ofNat n'] := by kernel_rfl
  have hr : Run Try.prog Try.f15.ntmps (bodyOf Try.f15) ((viewS [⟨[.bool, .int .u32, .int .i64, .int .i64, .int .i64], m, fd, gd, bd, wr⟩, ⟨[.bool, .int .u32, .int .i64, .int .i64, .int .i64], m', fd', gd', bd', wr'⟩]).start Try.f15.ntmps [.vec 0 5 a (.sym n), .vec 1 5 a' (.sym n')]) (.ret, (stR [.bad, .bad, .bad, .bad, .sbool (eqRowsB elEn ⟨[.bool, .int .u32, .int .i64, .int .i64, .int .i64], m, fd, gd, bd, wr⟩ ⟨[.bool, .int .u32, .int .i64, .int .i64, .int .i64], m', fd', gd', bd', wr'⟩ a a' n n')] [⟨[.bool, .int .u32, .int .i64, .int .i64, .int .i64], m, fd, gd, bd, false⟩, ⟨[.bool, .int .u32, .int .i64, .int .i64, .int .i64], m', fd', gd', bd', false⟩])) := by
    have hB : (bodyOf Try.f15) = .seq (cA (bodyOf Try.f15)) (.seq (cA (cB (bodyOf Try.f15))) (.seq (.seq (cA (cA (cB (cB (bodyOf Try.f15))))) (.block 0 (.loop (cL (cK (cB (cA (cB (cB (bodyOf Try.f15)))))))))) (cB (cB (cB (bodyOf Try.f15)))))) := by kernel_rfl
    rw [hB]
    refine Run.seq h0 (Nat.le_refl _) ?_
    unfold eqRowsB
    by_cases hnn : n = n'
    · have hne : (Int.ofNat n != Int.ofNat n') = false := by rw [hnn]; simp
      have h1 : Run Try.prog Try.f15.ntmps (cA (cB (bodyOf Try.f15))) (stR [.vec 0 5 a (.sym n), .vec 1 5 a' (.sym n')] [⟨[.bool, .int .u32, .int .i64, .int .i64, .int .i64], m, fd, gd, bd, false⟩, ⟨[.bool, .int .u32, .int .i64, .int .i64, .int .i64], m', fd', gd', bd', false⟩]) (.normal, stR [.vec 0 5 a (.sym n), .vec 1 5 a' (.sym n')] [⟨[.bool, .int .u32, .int .i64, .int .i64, .int .i64], m, fd, gd, bd, false⟩, ⟨[.bool, .int .u32, .int .i64, .int .i64, .int .i64], m', fd', gd', bd', false⟩]) := by
        refine Run.to g6 lb.mixed 60 [false] (by kernel_rfl) ?_ (by kernel_rfl) (by kernel_rfl) (by kernel_rfl) ⟨Or.inr (ge_eq (by kernel_rfl)), Or.inr (ge_eq (by kernel_rfl)), trivial⟩ ⟨⟨⟨[.bool, .int .u32, .int .i64, .int .i64, .int .i64], m, fd, gd, bd, false⟩, by kernel_rfl, VcLe.refl _⟩, ⟨⟨[.bool, .int .u32, .int .i64, .int .i64, .int .i64], m', fd', gd', bd', false⟩, by kernel_rfl, VcLe.refl _⟩, trivial⟩ (by kernel_rfl)
        rw [ebF, hne]
      have h2 : Run Try.prog Try.f15.ntmps (cA (cA (cB (cB (bodyOf Try.f15))))) (stR [.vec 0 5 a (.sym n), .vec 1 5 a' (.sym n')] [⟨[.bool, .int .u32, .int .i64, .int .i64, .int .i64], m, fd, gd, bd, false⟩, ⟨[.bool, .int .u32, .int .i64, .int .i64, .int .i64], m', fd', gd', bd', false⟩]) (.normal, (stR [.vec 0 5 a (.sym n), .vec 1 5 a' (.sym n'), .bad, .bad, .bad, .sint .i64 (Int.ofNat 0)] [⟨[.bool, .int .u32, .int .i64, .int .i64, .int .i64], m, fd, gd, bd, false⟩, ⟨[.bool, .int .u32, .int .i64, .int .i64, .int .i64], m', fd', gd', bd', false⟩])) :=
        Run.to g6 lb.mixed 60 [] (by kernel_rfl) (by kernel_rfl) (by kernel_rfl) (by kernel_rfl) (by kernel_rfl) ⟨Or.inr (ge_eq (by kernel_rfl)), Or.inr (ge_eq (by kernel_rfl)), Or.inl rfl, Or.inl rfl, Or.inl rfl, Or.inr (ge_int (by kernel_rfl)), trivial⟩ ⟨⟨⟨[.bool, .int .u32, .int .i64, .int .i64, .int .i64], m, fd, gd, bd, false⟩, by kernel_rfl, VcLe.refl _⟩, ⟨⟨[.bool, .int .u32, .int .i64, .int .i64, .int .i64], m', fd', gd', bd', false⟩, by kernel_rfl, VcLe.refl _⟩, trivial⟩ (by kernel_rfl)
      rw [hne]
      show Run Try.prog Try.f15.ntmps _ _ (.ret, (stR [.bad, .bad, .bad, .bad, .sbool (allB n (fun j => elAtB elEn ⟨[.bool, .int .u32, .int .i64, .int .i64, .int .i64], m, fd, gd, bd, wr⟩ ⟨[.bool, .int .u32, .int .i64, .int .i64, .int .i64], m', fd', gd', bd', wr'⟩ a a' j))] [⟨[.bool, .int .u32, .int .i64, .int .i64, .int .i64], m, fd, gd, bd, false⟩, ⟨[.bool, .int .u32, .int .i64, .int .i64, .int .i64], m', fd', gd', bd', false⟩]))
      refine Run.seq h1 (Nat.le_refl _) ?_
      cases hall : allB n (fun j => elAtB elEn ⟨[.bool, .int .u32, .int .i64, .int .i64, .int .i64], m, fd, gd, bd, wr⟩ ⟨[.bool, .int .u32, .int .i64, .int .i64, .int .i64], m', fd', gd', bd', wr'⟩ a a' j) with
      | true =>
        have hp := allB_true hall
        have h3 : Run Try.prog Try.f15.ntmps (.loop (cL (cK (cB (cA (cB (cB (bodyOf Try.f15)))))))) (stR [.vec 0 5 a (.sym n), .vec 1 5 a' (.sym n'), .bad, .bad, .bad, .sint .i64 (Int.ofNat 0)] [⟨[.bool, .int .u32, .int .i64, .int .i64, .int .i64], m, fd, gd, bd, false⟩, ⟨[.bool, .int .u32, .int .i64, .int .i64, .int .i64], m', fd', gd', bd', false⟩]) (.exit 0, (stR [.vec 0 5 a (.sym n), .vec 1 5 a' (.sym n'), .bad, .bad, .bad, .sint .i64 (Int.ofNat n)] [⟨[.bool, .int .u32, .int .i64, .int .i64, .int .i64], m, fd, gd, bd, false⟩, ⟨[.bool, .int .u32, .int .i64, .int .i64, .int .i64], m', fd', gd', bd', false⟩])) := Run.loop n (fun j => (stR [.vec 0 5 a (.sym n), .vec 1 5 a' (.sym n'), .bad, .bad, .bad, .sint .i64 (Int.ofNat j)] [⟨[.bool, .int .u32, .int .i64, .int .i64, .int .i64], m, fd, gd, bd, false⟩, ⟨[.bool, .int .u32, .int .i64, .int .i64, .int .i64], m', fd', gd', bd', false⟩])) (fun j => rfl) (fun j hj => eqs15step fd gd bd wr m fd' gd' bd' wr' m' a a' n n' j hj hnn hn han han' (hp j hj)) (eqs15end fd gd bd wr m fd' gd' bd' wr' m' a a' n n') (by intro h; cases h)
        have h6 : Run Try.prog Try.f15.ntmps (cB (cB (cB (bodyOf Try.f15)))) (stR [.vec 0 5 a (.sym n), .vec 1 5 a' (.sym n'), .bad, .bad, .bad, .sint .i64 (Int.ofNat n)] [⟨[.bool, .int .u32, .int .i64, .int .i64, .int .i64], m, fd, gd, bd, false⟩, ⟨[.bool, .int .u32, .int .i64, .int .i64, .int .i64], m', fd', gd', bd', false⟩]) (.ret, (stR [.bad, .bad, .bad, .bad, .sbool true] [⟨[.bool, .int .u32, .int .i64, .int .i64, .int .i64], m, fd, gd, bd, false⟩, ⟨[.bool, .int .u32, .int .i64, .int .i64, .int .i64], m', fd', gd', bd', false⟩])) :=
          Run.to g6 lb.mixed 60 [] (by kernel_rfl) (by kernel_rfl) (by kernel_rfl) (by kernel_rfl) (by kernel_rfl) ⟨Or.inl rfl, Or.inl rfl, Or.inl rfl, Or.inl rfl, Or.inr (ge_bool (by kernel_rfl)), trivial⟩ ⟨⟨⟨[.bool, .int .u32, .int .i64, .int .i64, .int .i64], m, fd, gd, bd, false⟩, by kernel_rfl, VcLe.refl _⟩, ⟨⟨[.bool, .int .u32, .int .i64, .int .i64, .int .i64], m', fd', gd', bd', false⟩, by kernel_rfl, VcLe.refl _⟩, trivial⟩ (by kernel_rfl)
        exact Run.seq (Run.seq h2 (Nat.le_refl _) (Run.block h3)) (Nat.le_refl _) h6
      | false =>
        obtain ⟨j, hj, hpj, hpk⟩ := allB_false hall
        have h3 : Run Try.prog Try.f15.ntmps (.loop (cL (cK (cB (cA (cB (cB (bodyOf Try.f15)))))))) (stR [.vec 0 5 a (.sym n), .vec 1 5 a' (.sym n'), .bad, .bad, .bad, .sint .i64 (Int.ofNat 0)] [⟨[.bool, .int .u32, .int .i64, .int .i64, .int .i64], m, fd, gd, bd, false⟩, ⟨[.bool, .int .u32, .int .i64, .int .i64, .int .i64], m', fd', gd', bd', false⟩]) (.ret, (stR [.bad, .bad, .bad, .bad, .sbool false] [⟨[.bool, .int .u32, .int .i64, .int .i64, .int .i64], m, fd, gd, bd, false⟩, ⟨[.bool, .int .u32, .int .i64, .int .i64, .int .i64], m', fd', gd', bd', false⟩])) := Run.loop j (fun j => (stR [.vec 0 5 a (.sym n), .vec 1 5 a' (.sym n'), .bad, .bad, .bad, .sint .i64 (Int.ofNat j)] [⟨[.bool, .int .u32, .int .i64, .int .i64, .int .i64], m, fd, gd, bd, false⟩, ⟨[.bool, .int .u32, .int .i64, .int .i64, .int .i64], m', fd', gd', bd', false⟩])) (fun j => rfl) (fun k hk => eqs15step fd gd bd wr m fd' gd' bd' wr' m' a a' n n' k (by omega) hnn hn han han' (hpk k hk)) (eqs15ret fd gd bd wr m fd' gd' bd' wr' m' a a' n n' j hj hnn hn han han' hpj) (by intro h; cases h)
        exact Run.seq_out (Run.seq h2 (Nat.le_refl _) (Run.block_out h3 (by intro h; cases h))) (by intro h; cases h)
    · have hne : (Int.ofNat n != Int.ofNat n') = true := by
        simp only [bne_iff_ne, ne_eq]
        intro h
        exact hnn (Int.ofNat.inj h)
      rw [hne]
      have h1 : Run Try.prog Try.f15.ntmps (cA (cB (bodyOf Try.f15))) (stR [.vec 0 5 a (.sym n), .vec 1 5 a' (.sym n')] [⟨[.bool, .int .u32, .int .i64, .int .i64, .int .i64], m, fd, gd, bd, false⟩, ⟨[.bool, .int .u32, .int .i64, .int .i64, .int .i64], m', fd', gd', bd', false⟩]) (.ret, (stR [.bad, .bad, .bad, .bad, .sbool false] [⟨[.bool, .int .u32, .int .i64, .int .i64, .int .i64], m, fd, gd, bd, false⟩, ⟨[.bool, .int .u32, .int .i64, .int .i64, .int .i64], m', fd', gd', bd', false⟩])) := by
        refine Run.to g6 lb.mixed 60 [true] (by kernel_rfl) ?_ (by kernel_rfl) (by kernel_rfl) (by kernel_rfl) ⟨Or.inl rfl, Or.inl rfl, Or.inl rfl, Or.inl rfl, Or.inr (ge_bool (by kernel_rfl)), trivial⟩ ⟨⟨⟨[.bool, .int .u32, .int .i64, .int .i64, .int .i64], m, fd, gd, bd, false⟩, by kernel_rfl, VcLe.refl _⟩, ⟨⟨[.bool, .int .u32, .int .i64, .int .i64, .int .i64], m', fd', gd', bd', false⟩, by kernel_rfl, VcLe.refl _⟩, trivial⟩ (by kernel_rfl)
        rw [ebT, hne]
      exact Run.seq_out h1 (by intro h; cases h)
  intro M w0 ρ w vs hM hv
  exact Run.calls (fr := ⟨none, some ⟨.sbool (eqRowsB elEn ⟨[.bool, .int .u32, .int .i64, .int .i64, .int .i64], m, fd, gd, bd, wr⟩ ⟨[.bool, .int .u32, .int .i64, .int .i64, .int .i64], m', fd', gd', bd', wr'⟩ a a' n n'), [], [], []⟩, true⟩) Try.func15 (by kernel_rfl) hr (ahv := []) (avv := []) (by kernel_rfl) rfl rfl ⟨⟨[], rfl⟩, fun i o => rfl, fun i => rfl⟩ (Nat.le_of_ble_eq_true (by kernel_rfl)) hM hv

noncomputable def G7 : List (Nat × Ctr) := (15, eqCB [.bool, .int .u32, .int .i64, .int .i64, .int .i64] elEn) :: G6
theorem g7 : Ab.Good Try.prog G7 := good_cons (sat_eqB Try.call15 (fun i i' a a' n n' v v' hs hs' han han' hn => eqs15 i i' a a' n n' v v' hs hs' han han' hn)) g6
noncomputable def G8 : List (Nat × Ctr) := (12, lmK) :: G7
theorem g8 : Ab.Good Try.prog G8 := good_cons sat12 g7
noncomputable def GG : List (Nat × Ctr) := (14, lmK) :: G8
theorem gg : Ab.Good Try.prog GG := good_cons sat14 g8
end Go.Proofs.Ytnkfeoodbhihcaa.lm
