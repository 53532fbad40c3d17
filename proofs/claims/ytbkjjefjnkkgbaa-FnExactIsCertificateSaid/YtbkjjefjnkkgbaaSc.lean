import Derived.Test.YtbkjjefjnkkgbaaSq2
import Derived.Test.YtbkjjefjnkkgbaaGf


import Derived.Test.YtbkjjefjnkkgbaaGd
import Derived.Test.YtbkjjefjnkkgbaaProg
namespace Go.Proofs.Ytbkjjefjnkkgbaa.sev
open Go Go.Ab Go.Proofs Go.Proofs.Ytbkjjefjnkkgbaa.sea
set_option maxRecDepth 100000
set_option linter.unusedVariables false
theorem mixed : Try.prog.follows .mixedOrders = true := by kernel_rfl
theorem elInt_ne (f : Nat → Nat) (g : Nat → Int) (f' : Nat → Nat) (g' : Nat → Int) : (g 0 != g' 0) = !elInt f g f' g' := by unfold elInt; simp

noncomputable def G0 : List (Nat × Ctr) := []
theorem g0 : Ab.Good Try.prog G0 := good_nil _

/-- spec.l00In -/
noncomputable def G1 : List (Nat × Ctr) := (48, inl Try.prog G0 100 Try.f48) :: G0
theorem g1 : Ab.Good Try.prog G1 := good_cons (inl_sat g0 mixed Try.func48 Try.call48 100) g0

/-- spec.l07Bounded -/
noncomputable def G2 : List (Nat × Ctr) := (59, bndK) :: G1
theorem g2 : Ab.Good Try.prog G2 := good_cons (sat59) g1

/-- spec.l07Ok -/
noncomputable def G3 : List (Nat × Ctr) := (42, inl Try.prog G2 100 Try.f42) :: G2
theorem g3 : Ab.Good Try.prog G3 := good_cons (inl_sat g2 mixed Try.func42 Try.call42 100) g2


theorem eqs46step (fd : Nat → Nat → Nat) (gd : Nat → Nat → Int) (bd : Nat → Nat → Bool) (wr : Bool) (m : Num) (fd' : Nat → Nat → Nat) (gd' : Nat → Nat → Int) (bd' : Nat → Nat → Bool) (wr' : Bool) (m' : Num) (a a' n n' : Nat) (j : Nat) (hj : j < n) (hnn : n = n') (hn : n ≤ 140737488355328) (han : a + n ≤ m.val) (han' : a' + n' ≤ m'.val) (hp : (elInt (fd (Nat.add a j)) (gd (Nat.add a j)) (fd' (Nat.add a' j)) (gd' (Nat.add a' j))) = true) : Run Try.prog Try.f46.ntmps (cL (cK (cB (cA (cB (cB (bodyOf Try.f46))))))) (stR [.vec 0 1 a (.sym n), .vec 1 1 a' (.sym n'), .bad, .bad, .bad, .sint .i64 (Int.ofNat j)] [⟨[.int .i64], m, fd, gd, bd, false⟩, ⟨[.int .i64], m', fd', gd', bd', false⟩]) (.normal, (stR [.vec 0 1 a (.sym n), .vec 1 1 a' (.sym n'), .bad, .bad, .bad, .sint .i64 (Int.ofNat (j + 1))] [⟨[.int .i64], m, fd, gd, bd, false⟩, ⟨[.int .i64], m', fd', gd', bd', false⟩])) := by
  have c1 : Nat.ble (j + 1) n = true := Nat.ble_eq_true_of_le hj
  have c2 : Nat.ble (Nat.add a j + 1) m.val = true := Nat.ble_eq_true_of_le (by show a + j + 1 ≤ m.val; omega)
  have c3 : Nat.ble (j + 1) n' = true := Nat.ble_eq_true_of_le (by omega)
  have c4 : Nat.ble (Nat.add a' j + 1) m'.val = true := Nat.ble_eq_true_of_le (by show a' + j + 1 ≤ m'.val; omega)
  refine Run.to g3 mixed 60 [true, false] (by kernel_rfl) ?_ ?_ (by kernel_rfl) (by kernel_rfl) ?_ ⟨⟨⟨[.int .i64], m, fd, gd, bd, false⟩, by kernel_rfl, VcLe.refl _⟩, ⟨⟨[.int .i64], m', fd', gd', bd', false⟩, by kernel_rfl, VcLe.refl _⟩, trivial⟩ (by kernel_rfl)
  · have e : wBs (wayO [true, false] (stR [.vec 0 1 a (.sym n), .vec 1 1 a' (.sym n'), .bad, .bad, .bad, .sint .i64 (Int.ofNat j)] [⟨[.int .i64], m, fd, gd, bd, false⟩, ⟨[.int .i64], m', fd', gd', bd', false⟩]) (Ab.ev Try.prog G3 Try.f46.ntmps 60 (cL (cK (cB (cA (cB (cB (bodyOf Try.f46))))))) (stR [.vec 0 1 a (.sym n), .vec 1 1 a' (.sym n'), .bad, .bad, .bad, .sint .i64 (Int.ofNat j)] [⟨[.int .i64], m, fd, gd, bd, false⟩, ⟨[.int .i64], m', fd', gd', bd', false⟩]) Dl.nil)) = [decide (Int.ofNat j < Int.ofNat n), (gd (Nat.add a j) 0 != gd' (Nat.add a' j) 0)] := by kernel_rfl
    rw [e, dec_lt hj, elInt_t hp]
  · have e : wNd (wayO [true, false] (stR [.vec 0 1 a (.sym n), .vec 1 1 a' (.sym n'), .bad, .bad, .bad, .sint .i64 (Int.ofNat j)] [⟨[.int .i64], m, fd, gd, bd, false⟩, ⟨[.int .i64], m', fd', gd', bd', false⟩]) (Ab.ev Try.prog G3 Try.f46.ntmps 60 (cL (cK (cB (cA (cB (cB (bodyOf Try.f46))))))) (stR [.vec 0 1 a (.sym n), .vec 1 1 a' (.sym n'), .bad, .bad, .bad, .sint .i64 (Int.ofNat j)] [⟨[.int .i64], m, fd, gd, bd, false⟩, ⟨[.int .i64], m', fd', gd', bd', false⟩]) Dl.nil)) = (cond (andN (andN (andN (andN (true) (Nat.ble (j + 1) n)) (Nat.ble (Nat.add a j + 1) m.val)) (Nat.ble (j + 1) n')) (Nat.ble (Nat.add a' j + 1) m'.val)) (true) false) := by kernel_rfl
    rw [e, c1, c2, c3, c4]; rfl
  · refine ⟨Or.inr (ge_eq (by kernel_rfl)), Or.inr (ge_eq (by kernel_rfl)), Or.inl rfl, Or.inl rfl, Or.inl rfl, Or.inr (ge_eq ?_), trivial⟩
    have e : (wS (wayO [true, false] (stR [.vec 0 1 a (.sym n), .vec 1 1 a' (.sym n'), .bad, .bad, .bad, .sint .i64 (Int.ofNat j)] [⟨[.int .i64], m, fd, gd, bd, false⟩, ⟨[.int .i64], m', fd', gd', bd', false⟩]) (Ab.ev Try.prog G3 Try.f46.ntmps 60 (cL (cK (cB (cA (cB (cB (bodyOf Try.f46))))))) (stR [.vec 0 1 a (.sym n), .vec 1 1 a' (.sym n'), .bad, .bad, .bad, .sint .i64 (Int.ofNat j)] [⟨[.int .i64], m, fd, gd, bd, false⟩, ⟨[.int .i64], m', fd', gd', bd', false⟩]) Dl.nil))).get 5 = .sint .i64 (IntKind.i64.wrap (Int.ofNat j + 1)) := by kernel_rfl
    rw [e, wrap_next hj hn]

theorem eqs46ret (fd : Nat → Nat → Nat) (gd : Nat → Nat → Int) (bd : Nat → Nat → Bool) (wr : Bool) (m : Num) (fd' : Nat → Nat → Nat) (gd' : Nat → Nat → Int) (bd' : Nat → Nat → Bool) (wr' : Bool) (m' : Num) (a a' n n' : Nat) (j : Nat) (hj : j < n) (hnn : n = n') (hn : n ≤ 140737488355328) (han : a + n ≤ m.val) (han' : a' + n' ≤ m'.val) (hp : (elInt (fd (Nat.add a j)) (gd (Nat.add a j)) (fd' (Nat.add a' j)) (gd' (Nat.add a' j))) = false) : Run Try.prog Try.f46.ntmps (cL (cK (cB (cA (cB (cB (bodyOf Try.f46))))))) (stR [.vec 0 1 a (.sym n), .vec 1 1 a' (.sym n'), .bad, .bad, .bad, .sint .i64 (Int.ofNat j)] [⟨[.int .i64], m, fd, gd, bd, false⟩, ⟨[.int .i64], m', fd', gd', bd', false⟩]) (.ret, (stR [.bad, .bad, .bad, .bad, .sbool false] [⟨[.int .i64], m, fd, gd, bd, false⟩, ⟨[.int .i64], m', fd', gd', bd', false⟩])) := by
  have c1 : Nat.ble (j + 1) n = true := Nat.ble_eq_true_of_le hj
  have c2 : Nat.ble (Nat.add a j + 1) m.val = true := Nat.ble_eq_true_of_le (by show a + j + 1 ≤ m.val; omega)
  have c3 : Nat.ble (j + 1) n' = true := Nat.ble_eq_true_of_le (by omega)
  have c4 : Nat.ble (Nat.add a' j + 1) m'.val = true := Nat.ble_eq_true_of_le (by show a' + j + 1 ≤ m'.val; omega)
  refine Run.to g3 mixed 60 [true, true] (by kernel_rfl) ?_ ?_ (by kernel_rfl) (by kernel_rfl) ⟨Or.inl rfl, Or.inl rfl, Or.inl rfl, Or.inl rfl, Or.inr (ge_bool (by kernel_rfl)), trivial⟩ ⟨⟨⟨[.int .i64], m, fd, gd, bd, false⟩, by kernel_rfl, VcLe.refl _⟩, ⟨⟨[.int .i64], m', fd', gd', bd', false⟩, by kernel_rfl, VcLe.refl _⟩, trivial⟩ (by kernel_rfl)
  · have e : wBs (wayO [true, true] (stR [.vec 0 1 a (.sym n), .vec 1 1 a' (.sym n'), .bad, .bad, .bad, .sint .i64 (Int.ofNat j)] [⟨[.int .i64], m, fd, gd, bd, false⟩, ⟨[.int .i64], m', fd', gd', bd', false⟩]) (Ab.ev Try.prog G3 Try.f46.ntmps 60 (cL (cK (cB (cA (cB (cB (bodyOf Try.f46))))))) (stR [.vec 0 1 a (.sym n), .vec 1 1 a' (.sym n'), .bad, .bad, .bad, .sint .i64 (Int.ofNat j)] [⟨[.int .i64], m, fd, gd, bd, false⟩, ⟨[.int .i64], m', fd', gd', bd', false⟩]) Dl.nil)) = [decide (Int.ofNat j < Int.ofNat n), (gd (Nat.add a j) 0 != gd' (Nat.add a' j) 0)] := by kernel_rfl
    rw [e, dec_lt hj, elInt_f hp]
  · have e : wNd (wayO [true, true] (stR [.vec 0 1 a (.sym n), .vec 1 1 a' (.sym n'), .bad, .bad, .bad, .sint .i64 (Int.ofNat j)] [⟨[.int .i64], m, fd, gd, bd, false⟩, ⟨[.int .i64], m', fd', gd', bd', false⟩]) (Ab.ev Try.prog G3 Try.f46.ntmps 60 (cL (cK (cB (cA (cB (cB (bodyOf Try.f46))))))) (stR [.vec 0 1 a (.sym n), .vec 1 1 a' (.sym n'), .bad, .bad, .bad, .sint .i64 (Int.ofNat j)] [⟨[.int .i64], m, fd, gd, bd, false⟩, ⟨[.int .i64], m', fd', gd', bd', false⟩]) Dl.nil)) = (cond (andN (andN (andN (andN (true) (Nat.ble (j + 1) n)) (Nat.ble (Nat.add a j + 1) m.val)) (Nat.ble (j + 1) n')) (Nat.ble (Nat.add a' j + 1) m'.val)) (true) false) := by kernel_rfl
    rw [e, c1, c2, c3, c4]; rfl

theorem eqs46end (fd : Nat → Nat → Nat) (gd : Nat → Nat → Int) (bd : Nat → Nat → Bool) (wr : Bool) (m : Num) (fd' : Nat → Nat → Nat) (gd' : Nat → Nat → Int) (bd' : Nat → Nat → Bool) (wr' : Bool) (m' : Num) (a a' n n' : Nat) : Run Try.prog Try.f46.ntmps (cL (cK (cB (cA (cB (cB (bodyOf Try.f46))))))) (stR [.vec 0 1 a (.sym n), .vec 1 1 a' (.sym n'), .bad, .bad, .bad, .sint .i64 (Int.ofNat n)] [⟨[.int .i64], m, fd, gd, bd, false⟩, ⟨[.int .i64], m', fd', gd', bd', false⟩]) (.exit 0, (stR [.vec 0 1 a (.sym n), .vec 1 1 a' (.sym n'), .bad, .bad, .bad, .sint .i64 (Int.ofNat n)] [⟨[.int .i64], m, fd, gd, bd, false⟩, ⟨[.int .i64], m', fd', gd', bd', false⟩])) := by
  refine Run.to g3 mixed 60 [false] (by kernel_rfl) ?_ (by kernel_rfl) (by kernel_rfl) (by kernel_rfl) ⟨Or.inr (ge_eq (by kernel_rfl)), Or.inr (ge_eq (by kernel_rfl)), Or.inl rfl, Or.inl rfl, Or.inl rfl, Or.inr (ge_eq (by kernel_rfl)), trivial⟩ ⟨⟨⟨[.int .i64], m, fd, gd, bd, false⟩, by kernel_rfl, VcLe.refl _⟩, ⟨⟨[.int .i64], m', fd', gd', bd', false⟩, by kernel_rfl, VcLe.refl _⟩, trivial⟩ (by kernel_rfl)
  have e : wBs (wayO [false] (stR [.vec 0 1 a (.sym n), .vec 1 1 a' (.sym n'), .bad, .bad, .bad, .sint .i64 (Int.ofNat n)] [⟨[.int .i64], m, fd, gd, bd, false⟩, ⟨[.int .i64], m', fd', gd', bd', false⟩]) (Ab.ev Try.prog G3 Try.f46.ntmps 60 (cL (cK (cB (cA (cB (cB (bodyOf Try.f46))))))) (stR [.vec 0 1 a (.sym n), .vec 1 1 a' (.sym n'), .bad, .bad, .bad, .sint .i64 (Int.ofNat n)] [⟨[.int .i64], m, fd, gd, bd, false⟩, ⟨[.int .i64], m', fd', gd', bd', false⟩]) Dl.nil)) = [decide (Int.ofNat n < Int.ofNat n)] := by kernel_rfl
  rw [e, dec_irr]

theorem eqs46 (i i' a a' n n' : Nat) (v v' : Vc) (hs : v.sh = [.int .i64]) (hs' : v'.sh = [.int .i64]) (han : a + n ≤ v.n.val) (han' : a' + n' ≤ v'.n.val) (hn : n ≤ 140737488355328) : OnRows Try.prog 46 [⟨i, 1, a, .sym n⟩, ⟨i', 1, a', .sym n'⟩] [] [v, v'] ⟨.sbool (eqRows elInt v v' a a' n n'), [], [], [], true, none⟩ := by
  obtain ⟨sh, m, fd, gd, bd, wr⟩ := v
  have hs : sh = [.int .i64] := hs
  subst hs
  obtain ⟨sh', m', fd', gd', bd', wr'⟩ := v'
  have hs' : sh' = [.int .i64] := hs'
  subst hs'
  have rr : VecsLe (stR [.vec 0 1 a (.sym n), .vec 1 1 a' (.sym n')] [⟨[.int .i64], m, fd, gd, bd, false⟩, ⟨[.int .i64], m', fd', gd', bd', false⟩]) 0 [⟨[.int .i64], m, fd, gd, bd, false⟩, ⟨[.int .i64], m', fd', gd', bd', false⟩] := ⟨⟨⟨[.int .i64], m, fd, gd, bd, false⟩, rfl, VcLe.refl _⟩, ⟨⟨[.int .i64], m', fd', gd', bd', false⟩, rfl, VcLe.refl _⟩, trivial⟩
  have h0 : Run Try.prog Try.f46.ntmps (cA (bodyOf Try.f46)) ((viewS [⟨[.int .i64], m, fd, gd, bd, wr⟩, ⟨[.int .i64], m', fd', gd', bd', wr'⟩]).start Try.f46.ntmps [.vec 0 1 a (.sym n), .vec 1 1 a' (.sym n')]) (.normal, stR [.vec 0 1 a (.sym n), .vec 1 1 a' (.sym n')] [⟨[.int .i64], m, fd, gd, bd, false⟩, ⟨[.int .i64], m', fd', gd', bd', false⟩]) :=
    Run.to g3 mixed 60 [] (by kernel_rfl) (by kernel_rfl) (by kernel_rfl) (by kernel_rfl) (by kernel_rfl) ⟨Or.inr (ge_eq (by kernel_rfl)), Or.inr (ge_eq (by kernel_rfl)), trivial⟩ ⟨⟨⟨[.int .i64], m, fd, gd, bd, false⟩, by kernel_rfl, VcLe.refl _⟩, ⟨⟨[.int .i64], m', fd', gd', bd', false⟩, by kernel_rfl, VcLe.refl _⟩, trivial⟩ (by kernel_rfl)
  have ebT : wBs (wayO [true] (stR [.vec 0 1 a (.sym n), .vec 1 1 a' (.sym n')] [⟨[.int .i64], m, fd, gd, bd, false⟩, ⟨[.int .i64], m', fd', gd', bd', false⟩]) (Ab.ev Try.prog G3 Try.f46.ntmps 60 (cA (cB (bodyOf Try.f46))) (stR [.vec 0 1 a (.sym n), .vec 1 1 a' (.sym n')] [⟨[.int .i64], m, fd, gd, bd, false⟩, ⟨[.int .i64], m', fd', gd', bd', false⟩]) Dl.nil)) = [Int.ofNat n != Int.ofNat n'] := by kernel_rfl
  have ebF : wBs (wayO [false] (stR [.vec 0 1 a (.sym n), .vec 1 1 a' (.sym n')] [⟨[.int .i64], m, fd, gd, bd, false⟩, ⟨[.int .i64], m', fd', gd', bd', false⟩]) (Ab.ev Try.prog G3 Try.f46.ntmps 60 (cA (cB (bodyOf Try.f46))) (stR [.vec 0 1 a (.sym n), .vec 1 1 a' (.sym n')] [⟨[.int .i64], m, fd, gd, bd, false⟩, ⟨[.int .i64], m', fd', gd', bd', false⟩]) Dl.nil)) = [Int.ofNat n != Int.ofNat n'] := by kernel_rfl
  have hr : Run Try.prog Try.f46.ntmps (bodyOf Try.f46) ((viewS [⟨[.int .i64], m, fd, gd, bd, wr⟩, ⟨[.int .i64], m', fd', gd', bd', wr'⟩]).start Try.f46.ntmps [.vec 0 1 a (.sym n), .vec 1 1 a' (.sym n')]) (.ret, (stR [.bad, .bad, .bad, .bad, .sbool (eqRows elInt ⟨[.int .i64], m, fd, gd, bd, wr⟩ ⟨[.int .i64], m', fd', gd', bd', wr'⟩ a a' n n')] [⟨[.int .i64], m, fd, gd, bd, false⟩, ⟨[.int .i64], m', fd', gd', bd', false⟩])) := by
    have hB : (bodyOf Try.f46) = .seq (cA (bodyOf Try.f46)) (.seq (cA (cB (bodyOf Try.f46))) (.seq (.seq (cA (cA (cB (cB (bodyOf Try.f46))))) (.block 0 (.loop (cL (cK (cB (cA (cB (cB (bodyOf Try.f46)))))))))) (cB (cB (cB (bodyOf Try.f46)))))) := by kernel_rfl
    rw [hB]
    refine Run.seq h0 (Nat.le_refl _) ?_
    unfold eqRows
    by_cases hnn : n = n'
    · have hne : (Int.ofNat n != Int.ofNat n') = false := by rw [hnn]; simp
      have h1 : Run Try.prog Try.f46.ntmps (cA (cB (bodyOf Try.f46))) (stR [.vec 0 1 a (.sym n), .vec 1 1 a' (.sym n')] [⟨[.int .i64], m, fd, gd, bd, false⟩, ⟨[.int .i64], m', fd', gd', bd', false⟩]) (.normal, stR [.vec 0 1 a (.sym n), .vec 1 1 a' (.sym n')] [⟨[.int .i64], m, fd, gd, bd, false⟩, ⟨[.int .i64], m', fd', gd', bd', false⟩]) := by
        refine Run.to g3 mixed 60 [false] (by kernel_rfl) ?_ (by kernel_rfl) (by kernel_rfl) (by kernel_rfl) ⟨Or.inr (ge_eq (by kernel_rfl)), Or.inr (ge_eq (by kernel_rfl)), trivial⟩ ⟨⟨⟨[.int .i64], m, fd, gd, bd, false⟩, by kernel_rfl, VcLe.refl _⟩, ⟨⟨[.int .i64], m', fd', gd', bd', false⟩, by kernel_rfl, VcLe.refl _⟩, trivial⟩ (by kernel_rfl)
        rw [ebF, hne]
      have h2 : Run Try.prog Try.f46.ntmps (cA (cA (cB (cB (bodyOf Try.f46))))) (stR [.vec 0 1 a (.sym n), .vec 1 1 a' (.sym n')] [⟨[.int .i64], m, fd, gd, bd, false⟩, ⟨[.int .i64], m', fd', gd', bd', false⟩]) (.normal, (stR [.vec 0 1 a (.sym n), .vec 1 1 a' (.sym n'), .bad, .bad, .bad, .sint .i64 (Int.ofNat 0)] [⟨[.int .i64], m, fd, gd, bd, false⟩, ⟨[.int .i64], m', fd', gd', bd', false⟩])) :=
        Run.to g3 mixed 60 [] (by kernel_rfl) (by kernel_rfl) (by kernel_rfl) (by kernel_rfl) (by kernel_rfl) ⟨Or.inr (ge_eq (by kernel_rfl)), Or.inr (ge_eq (by kernel_rfl)), Or.inl rfl, Or.inl rfl, Or.inl rfl, Or.inr (ge_int (by kernel_rfl)), trivial⟩ ⟨⟨⟨[.int .i64], m, fd, gd, bd, false⟩, by kernel_rfl, VcLe.refl _⟩, ⟨⟨[.int .i64], m', fd', gd', bd', false⟩, by kernel_rfl, VcLe.refl _⟩, trivial⟩ (by kernel_rfl)
      rw [hne]
      show Run Try.prog Try.f46.ntmps _ _ (.ret, (stR [.bad, .bad, .bad, .bad, .sbool (allB n (fun j => elAt elInt ⟨[.int .i64], m, fd, gd, bd, wr⟩ ⟨[.int .i64], m', fd', gd', bd', wr'⟩ a a' j))] [⟨[.int .i64], m, fd, gd, bd, false⟩, ⟨[.int .i64], m', fd', gd', bd', false⟩]))
      refine Run.seq h1 (Nat.le_refl _) ?_
      cases hall : allB n (fun j => elAt elInt ⟨[.int .i64], m, fd, gd, bd, wr⟩ ⟨[.int .i64], m', fd', gd', bd', wr'⟩ a a' j) with
      | true =>
        have hp := allB_true hall
        have h3 : Run Try.prog Try.f46.ntmps (.loop (cL (cK (cB (cA (cB (cB (bodyOf Try.f46)))))))) (stR [.vec 0 1 a (.sym n), .vec 1 1 a' (.sym n'), .bad, .bad, .bad, .sint .i64 (Int.ofNat 0)] [⟨[.int .i64], m, fd, gd, bd, false⟩, ⟨[.int .i64], m', fd', gd', bd', false⟩]) (.exit 0, (stR [.vec 0 1 a (.sym n), .vec 1 1 a' (.sym n'), .bad, .bad, .bad, .sint .i64 (Int.ofNat n)] [⟨[.int .i64], m, fd, gd, bd, false⟩, ⟨[.int .i64], m', fd', gd', bd', false⟩])) := Run.loop n (fun j => (stR [.vec 0 1 a (.sym n), .vec 1 1 a' (.sym n'), .bad, .bad, .bad, .sint .i64 (Int.ofNat j)] [⟨[.int .i64], m, fd, gd, bd, false⟩, ⟨[.int .i64], m', fd', gd', bd', false⟩])) (fun j => rfl) (fun j hj => eqs46step fd gd bd wr m fd' gd' bd' wr' m' a a' n n' j hj hnn hn han han' (hp j hj)) (eqs46end fd gd bd wr m fd' gd' bd' wr' m' a a' n n') (by intro h; cases h)
        have h6 : Run Try.prog Try.f46.ntmps (cB (cB (cB (bodyOf Try.f46)))) (stR [.vec 0 1 a (.sym n), .vec 1 1 a' (.sym n'), .bad, .bad, .bad, .sint .i64 (Int.ofNat n)] [⟨[.int .i64], m, fd, gd, bd, false⟩, ⟨[.int .i64], m', fd', gd', bd', false⟩]) (.ret, (stR [.bad, .bad, .bad, .bad, .sbool true] [⟨[.int .i64], m, fd, gd, bd, false⟩, ⟨[.int .i64], m', fd', gd', bd', false⟩])) :=
          Run.to g3 mixed 60 [] (by kernel_rfl) (by kernel_rfl) (by kernel_rfl) (by kernel_rfl) (by kernel_rfl) ⟨Or.inl rfl, Or.inl rfl, Or.inl rfl, Or.inl rfl, Or.inr (ge_bool (by kernel_rfl)), trivial⟩ ⟨⟨⟨[.int .i64], m, fd, gd, bd, false⟩, by kernel_rfl, VcLe.refl _⟩, ⟨⟨[.int .i64], m', fd', gd', bd', false⟩, by kernel_rfl, VcLe.refl _⟩, trivial⟩ (by kernel_rfl)
        exact Run.seq (Run.seq h2 (Nat.le_refl _) (Run.block h3)) (Nat.le_refl _) h6
      | false =>
        obtain ⟨j, hj, hpj, hpk⟩ := allB_false hall
        have h3 : Run Try.prog Try.f46.ntmps (.loop (cL (cK (cB (cA (cB (cB (bodyOf Try.f46)))))))) (stR [.vec 0 1 a (.sym n), .vec 1 1 a' (.sym n'), .bad, .bad, .bad, .sint .i64 (Int.ofNat 0)] [⟨[.int .i64], m, fd, gd, bd, false⟩, ⟨[.int .i64], m', fd', gd', bd', false⟩]) (.ret, (stR [.bad, .bad, .bad, .bad, .sbool false] [⟨[.int .i64], m, fd, gd, bd, false⟩, ⟨[.int .i64], m', fd', gd', bd', false⟩])) := Run.loop j (fun j => (stR [.vec 0 1 a (.sym n), .vec 1 1 a' (.sym n'), .bad, .bad, .bad, .sint .i64 (Int.ofNat j)] [⟨[.int .i64], m, fd, gd, bd, false⟩, ⟨[.int .i64], m', fd', gd', bd', false⟩])) (fun j => rfl) (fun k hk => eqs46step fd gd bd wr m fd' gd' bd' wr' m' a a' n n' k (by omega) hnn hn han han' (hpk k hk)) (eqs46ret fd gd bd wr m fd' gd' bd' wr' m' a a' n n' j hj hnn hn han han' hpj) (by intro h; cases h)
        exact Run.seq_out (Run.seq h2 (Nat.le_refl _) (Run.block_out h3 (by intro h; cases h))) (by intro h; cases h)
    · have hne : (Int.ofNat n != Int.ofNat n') = true := by
        simp only [bne_iff_ne, ne_eq]
        intro h
        exact hnn (Int.ofNat.inj h)
      rw [hne]
      have h1 : Run Try.prog Try.f46.ntmps (cA (cB (bodyOf Try.f46))) (stR [.vec 0 1 a (.sym n), .vec 1 1 a' (.sym n')] [⟨[.int .i64], m, fd, gd, bd, false⟩, ⟨[.int .i64], m', fd', gd', bd', false⟩]) (.ret, (stR [.bad, .bad, .bad, .bad, .sbool false] [⟨[.int .i64], m, fd, gd, bd, false⟩, ⟨[.int .i64], m', fd', gd', bd', false⟩])) := by
        refine Run.to g3 mixed 60 [true] (by kernel_rfl) ?_ (by kernel_rfl) (by kernel_rfl) (by kernel_rfl) ⟨Or.inl rfl, Or.inl rfl, Or.inl rfl, Or.inl rfl, Or.inr (ge_bool (by kernel_rfl)), trivial⟩ ⟨⟨⟨[.int .i64], m, fd, gd, bd, false⟩, by kernel_rfl, VcLe.refl _⟩, ⟨⟨[.int .i64], m', fd', gd', bd', false⟩, by kernel_rfl, VcLe.refl _⟩, trivial⟩ (by kernel_rfl)
        rw [ebT, hne]
      exact Run.seq_out h1 (by intro h; cases h)
  intro M w0 ρ w vs hM hv
  exact Run.calls (fr := ⟨none, some ⟨.sbool (eqRows elInt ⟨[.int .i64], m, fd, gd, bd, wr⟩ ⟨[.int .i64], m', fd', gd', bd', wr'⟩ a a' n n'), [], [], []⟩, true⟩) Try.func46 (by kernel_rfl) hr (ahv := []) (avv := []) (by kernel_rfl) rfl rfl ⟨⟨[], rfl⟩, fun i o => rfl, fun i => rfl⟩ (Nat.le_of_ble_eq_true (by kernel_rfl)) hM hv
/-- spec.l00Same -/
noncomputable def G4 : List (Nat × Ctr) := (46, eqC [.int .i64] elInt) :: G3
theorem g4 : Ab.Good Try.prog G4 := good_cons (sat_eq Try.call46 (fun i i' a a' n n' v v' hs hs' han han' hn => eqs46 i i' a a' n n' v v' hs hs' han han' hn)) g3


theorem eqs47step (fd : Nat → Nat → Nat) (gd : Nat → Nat → Int) (bd : Nat → Nat → Bool) (wr : Bool) (m : Num) (fd' : Nat → Nat → Nat) (gd' : Nat → Nat → Int) (bd' : Nat → Nat → Bool) (wr' : Bool) (m' : Num) (a a' n n' : Nat) (j : Nat) (hj : j < n) (hnn : n = n') (hn : n ≤ 140737488355328) (han : a + n ≤ m.val) (han' : a' + n' ≤ m'.val) (hp : (elInt (fd (Nat.add a j)) (gd (Nat.add a j)) (fd' (Nat.add a' j)) (gd' (Nat.add a' j))) = true) : Run Try.prog Try.f47.ntmps (cL (cK (cB (cA (cB (cB (bodyOf Try.f47))))))) (stR [.vec 0 1 a (.sym n), .vec 1 1 a' (.sym n'), .bad, .bad, .bad, .bad, .bad, .bad, .bad, .bad, .bad, .vec 0 1 a (.sym n), .sint .i64 (Int.ofNat n), .sint .i64 (Int.ofNat j)] [⟨[.int .i64], m, fd, gd, bd, false⟩, ⟨[.int .i64], m', fd', gd', bd', false⟩]) (.normal, (stR [.vec 0 1 a (.sym n), .vec 1 1 a' (.sym n'), .bad, .bad, .bad, .bad, .bad, .bad, .bad, .bad, .bad, .vec 0 1 a (.sym n), .sint .i64 (Int.ofNat n), .sint .i64 (Int.ofNat (j + 1))] [⟨[.int .i64], m, fd, gd, bd, false⟩, ⟨[.int .i64], m', fd', gd', bd', false⟩])) := by
  have c1 : Nat.ble (j + 1) n = true := Nat.ble_eq_true_of_le hj
  have c2 : Nat.ble (Nat.add a j + 1) m.val = true := Nat.ble_eq_true_of_le (by show a + j + 1 ≤ m.val; omega)
  have c3 : Nat.ble (j + 1) n' = true := Nat.ble_eq_true_of_le (by omega)
  have c4 : Nat.ble (Nat.add a' j + 1) m'.val = true := Nat.ble_eq_true_of_le (by show a' + j + 1 ≤ m'.val; omega)
  refine Run.toC g4 mixed 60 [true, false] (by intro v h; cases h) (Nat.le_refl _) (by kernel_rfl) ?_ ?_ (by kernel_rfl) (Nat.le_of_ble_eq_true (by kernel_rfl)) ?_ ⟨⟨⟨[.int .i64], m, fd, gd, bd, false⟩, by kernel_rfl, VcLe.refl _⟩, ⟨⟨[.int .i64], m', fd', gd', bd', false⟩, by kernel_rfl, VcLe.refl _⟩, trivial⟩ (by kernel_rfl)
  · have e : wBs (wayO [true, false] (stR [.vec 0 1 a (.sym n), .vec 1 1 a' (.sym n'), .bad, .bad, .bad, .bad, .bad, .bad, .bad, .bad, .bad, .vec 0 1 a (.sym n), .sint .i64 (Int.ofNat n), .sint .i64 (Int.ofNat j)] [⟨[.int .i64], m, fd, gd, bd, false⟩, ⟨[.int .i64], m', fd', gd', bd', false⟩]) (Ab.ev Try.prog G4 Try.f47.ntmps 60 (cL (cK (cB (cA (cB (cB (bodyOf Try.f47))))))) (stR [.vec 0 1 a (.sym n), .vec 1 1 a' (.sym n'), .bad, .bad, .bad, .bad, .bad, .bad, .bad, .bad, .bad, .vec 0 1 a (.sym n), .sint .i64 (Int.ofNat n), .sint .i64 (Int.ofNat j)] [⟨[.int .i64], m, fd, gd, bd, false⟩, ⟨[.int .i64], m', fd', gd', bd', false⟩]) Dl.nil)) = [decide (Int.ofNat j < Int.ofNat n), gd (Nat.add a j) 0 != gd' (Nat.add a' j) 0] := by kernel_rfl
    rw [e, dec_lt hj, elInt_ne (fd (Nat.add a j)) (gd (Nat.add a j)) (fd' (Nat.add a' j)) (gd' (Nat.add a' j)), hp]; rfl
  · have e : wNd (wayO [true, false] (stR [.vec 0 1 a (.sym n), .vec 1 1 a' (.sym n'), .bad, .bad, .bad, .bad, .bad, .bad, .bad, .bad, .bad, .vec 0 1 a (.sym n), .sint .i64 (Int.ofNat n), .sint .i64 (Int.ofNat j)] [⟨[.int .i64], m, fd, gd, bd, false⟩, ⟨[.int .i64], m', fd', gd', bd', false⟩]) (Ab.ev Try.prog G4 Try.f47.ntmps 60 (cL (cK (cB (cA (cB (cB (bodyOf Try.f47))))))) (stR [.vec 0 1 a (.sym n), .vec 1 1 a' (.sym n'), .bad, .bad, .bad, .bad, .bad, .bad, .bad, .bad, .bad, .vec 0 1 a (.sym n), .sint .i64 (Int.ofNat n), .sint .i64 (Int.ofNat j)] [⟨[.int .i64], m, fd, gd, bd, false⟩, ⟨[.int .i64], m', fd', gd', bd', false⟩]) Dl.nil)) = (cond (andN (andN (andN (andN (true) (Nat.ble (j + 1) n)) (Nat.ble (Nat.add a j + 1) m.val)) (Nat.ble (j + 1) n')) (Nat.ble (Nat.add a' j + 1) m'.val)) (true) false) := by kernel_rfl
    rw [e, c1, c2, c3, c4]
    rfl
  · refine ⟨Or.inr ⟨rfl, ge_eq (by kernel_rfl)⟩, Or.inr ⟨rfl, ge_eq (by kernel_rfl)⟩, Or.inl rfl, Or.inl rfl, Or.inl rfl, Or.inl rfl, Or.inl rfl, Or.inl rfl, Or.inl rfl, Or.inl rfl, Or.inl rfl, Or.inr ⟨rfl, ge_eq (by kernel_rfl)⟩, Or.inr ⟨rfl, ge_eq (by kernel_rfl)⟩, Or.inr ⟨rfl, ge_eq ?_⟩, trivial⟩
    have e : (wS (wayO [true, false] (stR [.vec 0 1 a (.sym n), .vec 1 1 a' (.sym n'), .bad, .bad, .bad, .bad, .bad, .bad, .bad, .bad, .bad, .vec 0 1 a (.sym n), .sint .i64 (Int.ofNat n), .sint .i64 (Int.ofNat j)] [⟨[.int .i64], m, fd, gd, bd, false⟩, ⟨[.int .i64], m', fd', gd', bd', false⟩]) (Ab.ev Try.prog G4 Try.f47.ntmps 60 (cL (cK (cB (cA (cB (cB (bodyOf Try.f47))))))) (stR [.vec 0 1 a (.sym n), .vec 1 1 a' (.sym n'), .bad, .bad, .bad, .bad, .bad, .bad, .bad, .bad, .bad, .vec 0 1 a (.sym n), .sint .i64 (Int.ofNat n), .sint .i64 (Int.ofNat j)] [⟨[.int .i64], m, fd, gd, bd, false⟩, ⟨[.int .i64], m', fd', gd', bd', false⟩]) Dl.nil))).get 13 = .sint .i64 (IntKind.i64.wrap (Int.ofNat j + 1)) := by kernel_rfl
    rw [e, wrap_next hj hn]

theorem eqs47ret (fd : Nat → Nat → Nat) (gd : Nat → Nat → Int) (bd : Nat → Nat → Bool) (wr : Bool) (m : Num) (fd' : Nat → Nat → Nat) (gd' : Nat → Nat → Int) (bd' : Nat → Nat → Bool) (wr' : Bool) (m' : Num) (a a' n n' : Nat) (j : Nat) (hj : j < n) (hnn : n = n') (hn : n ≤ 140737488355328) (han : a + n ≤ m.val) (han' : a' + n' ≤ m'.val) (hp : (elInt (fd (Nat.add a j)) (gd (Nat.add a j)) (fd' (Nat.add a' j)) (gd' (Nat.add a' j))) = false) : Run Try.prog Try.f47.ntmps (cL (cK (cB (cA (cB (cB (bodyOf Try.f47))))))) (stR [.vec 0 1 a (.sym n), .vec 1 1 a' (.sym n'), .bad, .bad, .bad, .bad, .bad, .bad, .bad, .bad, .bad, .vec 0 1 a (.sym n), .sint .i64 (Int.ofNat n), .sint .i64 (Int.ofNat j)] [⟨[.int .i64], m, fd, gd, bd, false⟩, ⟨[.int .i64], m', fd', gd', bd', false⟩]) (.ret, (stR [.bad, .bad, .bad, .bad, .sbool false] [⟨[.int .i64], m, fd, gd, bd, false⟩, ⟨[.int .i64], m', fd', gd', bd', false⟩])) := by
  have c1 : Nat.ble (j + 1) n = true := Nat.ble_eq_true_of_le hj
  have c2 : Nat.ble (Nat.add a j + 1) m.val = true := Nat.ble_eq_true_of_le (by show a + j + 1 ≤ m.val; omega)
  have c3 : Nat.ble (j + 1) n' = true := Nat.ble_eq_true_of_le (by omega)
  have c4 : Nat.ble (Nat.add a' j + 1) m'.val = true := Nat.ble_eq_true_of_le (by show a' + j + 1 ≤ m'.val; omega)
  refine Run.toC g4 mixed 60 [true, true] (by intro v h; cases h) (Nat.le_refl _) (by kernel_rfl) ?_ ?_ (by kernel_rfl) (Nat.le_of_ble_eq_true (by kernel_rfl)) ⟨Or.inl rfl, Or.inl rfl, Or.inl rfl, Or.inl rfl, Or.inr ⟨rfl, ge_bool (by kernel_rfl)⟩, trivial⟩ ⟨⟨⟨[.int .i64], m, fd, gd, bd, false⟩, by kernel_rfl, VcLe.refl _⟩, ⟨⟨[.int .i64], m', fd', gd', bd', false⟩, by kernel_rfl, VcLe.refl _⟩, trivial⟩ (by kernel_rfl)
  · have e : wBs (wayO [true, true] (stR [.vec 0 1 a (.sym n), .vec 1 1 a' (.sym n'), .bad, .bad, .bad, .bad, .bad, .bad, .bad, .bad, .bad, .vec 0 1 a (.sym n), .sint .i64 (Int.ofNat n), .sint .i64 (Int.ofNat j)] [⟨[.int .i64], m, fd, gd, bd, false⟩, ⟨[.int .i64], m', fd', gd', bd', false⟩]) (Ab.ev Try.prog G4 Try.f47.ntmps 60 (cL (cK (cB (cA (cB (cB (bodyOf Try.f47))))))) (stR [.vec 0 1 a (.sym n), .vec 1 1 a' (.sym n'), .bad, .bad, .bad, .bad, .bad, .bad, .bad, .bad, .bad, .vec 0 1 a (.sym n), .sint .i64 (Int.ofNat n), .sint .i64 (Int.ofNat j)] [⟨[.int .i64], m, fd, gd, bd, false⟩, ⟨[.int .i64], m', fd', gd', bd', false⟩]) Dl.nil)) = [decide (Int.ofNat j < Int.ofNat n), gd (Nat.add a j) 0 != gd' (Nat.add a' j) 0] := by kernel_rfl
    rw [e, dec_lt hj, elInt_ne (fd (Nat.add a j)) (gd (Nat.add a j)) (fd' (Nat.add a' j)) (gd' (Nat.add a' j)), hp]; rfl
  · have e : wNd (wayO [true, true] (stR [.vec 0 1 a (.sym n), .vec 1 1 a' (.sym n'), .bad, .bad, .bad, .bad, .bad, .bad, .bad, .bad, .bad, .vec 0 1 a (.sym n), .sint .i64 (Int.ofNat n), .sint .i64 (Int.ofNat j)] [⟨[.int .i64], m, fd, gd, bd, false⟩, ⟨[.int .i64], m', fd', gd', bd', false⟩]) (Ab.ev Try.prog G4 Try.f47.ntmps 60 (cL (cK (cB (cA (cB (cB (bodyOf Try.f47))))))) (stR [.vec 0 1 a (.sym n), .vec 1 1 a' (.sym n'), .bad, .bad, .bad, .bad, .bad, .bad, .bad, .bad, .bad, .vec 0 1 a (.sym n), .sint .i64 (Int.ofNat n), .sint .i64 (Int.ofNat j)] [⟨[.int .i64], m, fd, gd, bd, false⟩, ⟨[.int .i64], m', fd', gd', bd', false⟩]) Dl.nil)) = (cond (andN (andN (andN (andN (true) (Nat.ble (j + 1) n)) (Nat.ble (Nat.add a j + 1) m.val)) (Nat.ble (j + 1) n')) (Nat.ble (Nat.add a' j + 1) m'.val)) (true) false) := by kernel_rfl
    rw [e, c1, c2, c3, c4]
    rfl

theorem eqs47end (fd : Nat → Nat → Nat) (gd : Nat → Nat → Int) (bd : Nat → Nat → Bool) (wr : Bool) (m : Num) (fd' : Nat → Nat → Nat) (gd' : Nat → Nat → Int) (bd' : Nat → Nat → Bool) (wr' : Bool) (m' : Num) (a a' n n' : Nat) : Run Try.prog Try.f47.ntmps (cL (cK (cB (cA (cB (cB (bodyOf Try.f47))))))) (stR [.vec 0 1 a (.sym n), .vec 1 1 a' (.sym n'), .bad, .bad, .bad, .bad, .bad, .bad, .bad, .bad, .bad, .vec 0 1 a (.sym n), .sint .i64 (Int.ofNat n), .sint .i64 (Int.ofNat n)] [⟨[.int .i64], m, fd, gd, bd, false⟩, ⟨[.int .i64], m', fd', gd', bd', false⟩]) (.exit 0, (stR [.vec 0 1 a (.sym n), .vec 1 1 a' (.sym n'), .bad, .bad, .bad, .bad, .bad, .bad, .bad, .bad, .bad, .vec 0 1 a (.sym n), .sint .i64 (Int.ofNat n), .sint .i64 (Int.ofNat n)] [⟨[.int .i64], m, fd, gd, bd, false⟩, ⟨[.int .i64], m', fd', gd', bd', false⟩])) := by
  refine Run.to g4 mixed 60 [false] (by kernel_rfl) ?_ (by kernel_rfl) (by kernel_rfl) (by kernel_rfl) ⟨Or.inr (ge_eq (by kernel_rfl)), Or.inr (ge_eq (by kernel_rfl)), Or.inl rfl, Or.inl rfl, Or.inl rfl, Or.inl rfl, Or.inl rfl, Or.inl rfl, Or.inl rfl, Or.inl rfl, Or.inl rfl, Or.inr (ge_eq (by kernel_rfl)), Or.inr (ge_eq (by kernel_rfl)), Or.inr (ge_eq (by kernel_rfl)), trivial⟩ ⟨⟨⟨[.int .i64], m, fd, gd, bd, false⟩, by kernel_rfl, VcLe.refl _⟩, ⟨⟨[.int .i64], m', fd', gd', bd', false⟩, by kernel_rfl, VcLe.refl _⟩, trivial⟩ (by kernel_rfl)
  have e : wBs (wayO [false] (stR [.vec 0 1 a (.sym n), .vec 1 1 a' (.sym n'), .bad, .bad, .bad, .bad, .bad, .bad, .bad, .bad, .bad, .vec 0 1 a (.sym n), .sint .i64 (Int.ofNat n), .sint .i64 (Int.ofNat n)] [⟨[.int .i64], m, fd, gd, bd, false⟩, ⟨[.int .i64], m', fd', gd', bd', false⟩]) (Ab.ev Try.prog G4 Try.f47.ntmps 60 (cL (cK (cB (cA (cB (cB (bodyOf Try.f47))))))) (stR [.vec 0 1 a (.sym n), .vec 1 1 a' (.sym n'), .bad, .bad, .bad, .bad, .bad, .bad, .bad, .bad, .bad, .vec 0 1 a (.sym n), .sint .i64 (Int.ofNat n), .sint .i64 (Int.ofNat n)] [⟨[.int .i64], m, fd, gd, bd, false⟩, ⟨[.int .i64], m', fd', gd', bd', false⟩]) Dl.nil)) = [decide (Int.ofNat n < Int.ofNat n)] := by kernel_rfl
  rw [e, dec_irr]

theorem eqs47 (i i' a a' n n' : Nat) (v v' : Vc) (hs : v.sh = [.int .i64]) (hs' : v'.sh = [.int .i64]) (han : a + n ≤ v.n.val) (han' : a' + n' ≤ v'.n.val) (hn : n ≤ 140737488355328) : OnRows Try.prog 47 [⟨i, 1, a, .sym n⟩, ⟨i', 1, a', .sym n'⟩] [] [v, v'] ⟨.sbool (eqRows elInt v v' a a' n n'), [], [], [], true, none⟩ := by
  obtain ⟨sh, m, fd, gd, bd, wr⟩ := v
  have hs : sh = [.int .i64] := hs
  subst hs
  obtain ⟨sh', m', fd', gd', bd', wr'⟩ := v'
  have hs' : sh' = [.int .i64] := hs'
  subst hs'
  have h0 : Run Try.prog Try.f47.ntmps (cA (bodyOf Try.f47)) ((viewS [⟨[.int .i64], m, fd, gd, bd, wr⟩, ⟨[.int .i64], m', fd', gd', bd', wr'⟩]).start Try.f47.ntmps [.vec 0 1 a (.sym n), .vec 1 1 a' (.sym n')]) (.normal, (stR [.vec 0 1 a (.sym n), .vec 1 1 a' (.sym n')] [⟨[.int .i64], m, fd, gd, bd, false⟩, ⟨[.int .i64], m', fd', gd', bd', false⟩])) :=
    Run.to g4 mixed 60 [] (by kernel_rfl) (by kernel_rfl) (by kernel_rfl) (by kernel_rfl) (by kernel_rfl) ⟨Or.inr (ge_eq (by kernel_rfl)), Or.inr (ge_eq (by kernel_rfl)), trivial⟩ ⟨⟨⟨[.int .i64], m, fd, gd, bd, false⟩, by kernel_rfl, VcLe.refl _⟩, ⟨⟨[.int .i64], m', fd', gd', bd', false⟩, by kernel_rfl, VcLe.refl _⟩, trivial⟩ (by kernel_rfl)
  have ebT : wBs (wayO [true] (stR [.vec 0 1 a (.sym n), .vec 1 1 a' (.sym n')] [⟨[.int .i64], m, fd, gd, bd, false⟩, ⟨[.int .i64], m', fd', gd', bd', false⟩]) (Ab.ev Try.prog G4 Try.f47.ntmps 60 (cA (cB (bodyOf Try.f47))) (stR [.vec 0 1 a (.sym n), .vec 1 1 a' (.sym n')] [⟨[.int .i64], m, fd, gd, bd, false⟩, ⟨[.int .i64], m', fd', gd', bd', false⟩]) Dl.nil)) = [Int.ofNat n != Int.ofNat n'] := by kernel_rfl
  have ebF : wBs (wayO [false] (stR [.vec 0 1 a (.sym n), .vec 1 1 a' (.sym n')] [⟨[.int .i64], m, fd, gd, bd, false⟩, ⟨[.int .i64], m', fd', gd', bd', false⟩]) (Ab.ev Try.prog G4 Try.f47.ntmps 60 (cA (cB (bodyOf Try.f47))) (stR [.vec 0 1 a (.sym n), .vec 1 1 a' (.sym n')] [⟨[.int .i64], m, fd, gd, bd, false⟩, ⟨[.int .i64], m', fd', gd', bd', false⟩]) Dl.nil)) = [Int.ofNat n != Int.ofNat n'] := by kernel_rfl
  have hr : Run Try.prog Try.f47.ntmps (bodyOf Try.f47) ((viewS [⟨[.int .i64], m, fd, gd, bd, wr⟩, ⟨[.int .i64], m', fd', gd', bd', wr'⟩]).start Try.f47.ntmps [.vec 0 1 a (.sym n), .vec 1 1 a' (.sym n')]) (.ret, (stR [.bad, .bad, .bad, .bad, .sbool (eqRows elInt ⟨[.int .i64], m, fd, gd, bd, wr⟩ ⟨[.int .i64], m', fd', gd', bd', wr'⟩ a a' n n')] [⟨[.int .i64], m, fd, gd, bd, false⟩, ⟨[.int .i64], m', fd', gd', bd', false⟩])) := by
    have hB : (bodyOf Try.f47) = .seq (cA (bodyOf Try.f47)) (.seq (cA (cB (bodyOf Try.f47))) (.seq (.seq (cA (cA (cB (cB (bodyOf Try.f47))))) (.block 0 (.loop (cL (cK (cB (cA (cB (cB (bodyOf Try.f47)))))))))) (cB (cB (cB (bodyOf Try.f47)))))) := by kernel_rfl
    rw [hB]
    refine Run.seq h0 (Nat.le_refl _) ?_
    unfold eqRows
    by_cases hnn : n = n'
    · have hne : (Int.ofNat n != Int.ofNat n') = false := by rw [hnn]; simp
      have h1 : Run Try.prog Try.f47.ntmps (cA (cB (bodyOf Try.f47))) (stR [.vec 0 1 a (.sym n), .vec 1 1 a' (.sym n')] [⟨[.int .i64], m, fd, gd, bd, false⟩, ⟨[.int .i64], m', fd', gd', bd', false⟩]) (.normal, (stR [.vec 0 1 a (.sym n), .vec 1 1 a' (.sym n')] [⟨[.int .i64], m, fd, gd, bd, false⟩, ⟨[.int .i64], m', fd', gd', bd', false⟩])) := by
        refine Run.to g4 mixed 60 [false] (by kernel_rfl) ?_ (by kernel_rfl) (by kernel_rfl) (by kernel_rfl) ⟨Or.inr (ge_eq (by kernel_rfl)), Or.inr (ge_eq (by kernel_rfl)), trivial⟩ ⟨⟨⟨[.int .i64], m, fd, gd, bd, false⟩, by kernel_rfl, VcLe.refl _⟩, ⟨⟨[.int .i64], m', fd', gd', bd', false⟩, by kernel_rfl, VcLe.refl _⟩, trivial⟩ (by kernel_rfl)
        rw [ebF, hne]
      have h2 : Run Try.prog Try.f47.ntmps (cA (cA (cB (cB (bodyOf Try.f47))))) (stR [.vec 0 1 a (.sym n), .vec 1 1 a' (.sym n')] [⟨[.int .i64], m, fd, gd, bd, false⟩, ⟨[.int .i64], m', fd', gd', bd', false⟩]) (.normal, (stR [.vec 0 1 a (.sym n), .vec 1 1 a' (.sym n'), .bad, .bad, .bad, .bad, .bad, .bad, .bad, .bad, .bad, .vec 0 1 a (.sym n), .sint .i64 (Int.ofNat n), .sint .i64 (Int.ofNat 0)] [⟨[.int .i64], m, fd, gd, bd, false⟩, ⟨[.int .i64], m', fd', gd', bd', false⟩])) :=
        Run.to g4 mixed 60 [] (by kernel_rfl) (by kernel_rfl) (by kernel_rfl) (by kernel_rfl) (by kernel_rfl) ⟨Or.inr (ge_eq (by kernel_rfl)), Or.inr (ge_eq (by kernel_rfl)), Or.inl rfl, Or.inl rfl, Or.inl rfl, Or.inl rfl, Or.inl rfl, Or.inl rfl, Or.inl rfl, Or.inl rfl, Or.inl rfl, Or.inr (ge_eq (by kernel_rfl)), Or.inr (ge_eq (by kernel_rfl)), Or.inr (ge_int (by kernel_rfl)), trivial⟩ ⟨⟨⟨[.int .i64], m, fd, gd, bd, false⟩, by kernel_rfl, VcLe.refl _⟩, ⟨⟨[.int .i64], m', fd', gd', bd', false⟩, by kernel_rfl, VcLe.refl _⟩, trivial⟩ (by kernel_rfl)
      rw [hne]
      show Run Try.prog Try.f47.ntmps _ _ (.ret, (stR [.bad, .bad, .bad, .bad, .sbool (allB n (fun j => elAt elInt ⟨[.int .i64], m, fd, gd, bd, wr⟩ ⟨[.int .i64], m', fd', gd', bd', wr'⟩ a a' j))] [⟨[.int .i64], m, fd, gd, bd, false⟩, ⟨[.int .i64], m', fd', gd', bd', false⟩]))
      refine Run.seq h1 (Nat.le_refl _) ?_
      cases hall : allB n (fun j => elAt elInt ⟨[.int .i64], m, fd, gd, bd, wr⟩ ⟨[.int .i64], m', fd', gd', bd', wr'⟩ a a' j) with
      | true =>
        have hp := allB_true hall
        have h3 : Run Try.prog Try.f47.ntmps (.loop (cL (cK (cB (cA (cB (cB (bodyOf Try.f47)))))))) (stR [.vec 0 1 a (.sym n), .vec 1 1 a' (.sym n'), .bad, .bad, .bad, .bad, .bad, .bad, .bad, .bad, .bad, .vec 0 1 a (.sym n), .sint .i64 (Int.ofNat n), .sint .i64 (Int.ofNat 0)] [⟨[.int .i64], m, fd, gd, bd, false⟩, ⟨[.int .i64], m', fd', gd', bd', false⟩]) (.exit 0, (stR [.vec 0 1 a (.sym n), .vec 1 1 a' (.sym n'), .bad, .bad, .bad, .bad, .bad, .bad, .bad, .bad, .bad, .vec 0 1 a (.sym n), .sint .i64 (Int.ofNat n), .sint .i64 (Int.ofNat n)] [⟨[.int .i64], m, fd, gd, bd, false⟩, ⟨[.int .i64], m', fd', gd', bd', false⟩])) := Run.loop n (fun j => (stR [.vec 0 1 a (.sym n), .vec 1 1 a' (.sym n'), .bad, .bad, .bad, .bad, .bad, .bad, .bad, .bad, .bad, .vec 0 1 a (.sym n), .sint .i64 (Int.ofNat n), .sint .i64 (Int.ofNat j)] [⟨[.int .i64], m, fd, gd, bd, false⟩, ⟨[.int .i64], m', fd', gd', bd', false⟩])) (fun j => rfl) (fun j hj => eqs47step fd gd bd wr m fd' gd' bd' wr' m' a a' n n' j hj hnn hn han han' (hp j hj)) (eqs47end fd gd bd wr m fd' gd' bd' wr' m' a a' n n') (by intro h; cases h)
        have h6 : Run Try.prog Try.f47.ntmps (cB (cB (cB (bodyOf Try.f47)))) (stR [.vec 0 1 a (.sym n), .vec 1 1 a' (.sym n'), .bad, .bad, .bad, .bad, .bad, .bad, .bad, .bad, .bad, .vec 0 1 a (.sym n), .sint .i64 (Int.ofNat n), .sint .i64 (Int.ofNat n)] [⟨[.int .i64], m, fd, gd, bd, false⟩, ⟨[.int .i64], m', fd', gd', bd', false⟩]) (.ret, (stR [.bad, .bad, .bad, .bad, .sbool true] [⟨[.int .i64], m, fd, gd, bd, false⟩, ⟨[.int .i64], m', fd', gd', bd', false⟩])) :=
          Run.to g4 mixed 60 [] (by kernel_rfl) (by kernel_rfl) (by kernel_rfl) (by kernel_rfl) (by kernel_rfl) ⟨Or.inl rfl, Or.inl rfl, Or.inl rfl, Or.inl rfl, Or.inr (ge_bool (by kernel_rfl)), trivial⟩ ⟨⟨⟨[.int .i64], m, fd, gd, bd, false⟩, by kernel_rfl, VcLe.refl _⟩, ⟨⟨[.int .i64], m', fd', gd', bd', false⟩, by kernel_rfl, VcLe.refl _⟩, trivial⟩ (by kernel_rfl)
        exact Run.seq (Run.seq h2 (Nat.le_refl _) (Run.block h3)) (Nat.le_refl _) h6
      | false =>
        obtain ⟨j, hj, hpj, hpk⟩ := allB_false hall
        have h3 : Run Try.prog Try.f47.ntmps (.loop (cL (cK (cB (cA (cB (cB (bodyOf Try.f47)))))))) (stR [.vec 0 1 a (.sym n), .vec 1 1 a' (.sym n'), .bad, .bad, .bad, .bad, .bad, .bad, .bad, .bad, .bad, .vec 0 1 a (.sym n), .sint .i64 (Int.ofNat n), .sint .i64 (Int.ofNat 0)] [⟨[.int .i64], m, fd, gd, bd, false⟩, ⟨[.int .i64], m', fd', gd', bd', false⟩]) (.ret, (stR [.bad, .bad, .bad, .bad, .sbool false] [⟨[.int .i64], m, fd, gd, bd, false⟩, ⟨[.int .i64], m', fd', gd', bd', false⟩])) := Run.loop j (fun j => (stR [.vec 0 1 a (.sym n), .vec 1 1 a' (.sym n'), .bad, .bad, .bad, .bad, .bad, .bad, .bad, .bad, .bad, .vec 0 1 a (.sym n), .sint .i64 (Int.ofNat n), .sint .i64 (Int.ofNat j)] [⟨[.int .i64], m, fd, gd, bd, false⟩, ⟨[.int .i64], m', fd', gd', bd', false⟩])) (fun j => rfl) (fun k hk => eqs47step fd gd bd wr m fd' gd' bd' wr' m' a a' n n' k (by omega) hnn hn han han' (hpk k hk)) (eqs47ret fd gd bd wr m fd' gd' bd' wr' m' a a' n n' j hj hnn hn han han' hpj) (by intro h; cases h)
        exact Run.seq_out (Run.seq h2 (Nat.le_refl _) (Run.block_out h3 (by intro h; cases h))) (by intro h; cases h)
    · have hne : (Int.ofNat n != Int.ofNat n') = true := by
        simp only [bne_iff_ne, ne_eq]
        intro h
        exact hnn (Int.ofNat.inj h)
      rw [hne]
      have h1 : Run Try.prog Try.f47.ntmps (cA (cB (bodyOf Try.f47))) (stR [.vec 0 1 a (.sym n), .vec 1 1 a' (.sym n')] [⟨[.int .i64], m, fd, gd, bd, false⟩, ⟨[.int .i64], m', fd', gd', bd', false⟩]) (.ret, (stR [.bad, .bad, .bad, .bad, .sbool false] [⟨[.int .i64], m, fd, gd, bd, false⟩, ⟨[.int .i64], m', fd', gd', bd', false⟩])) := by
        refine Run.to g4 mixed 60 [true] (by kernel_rfl) ?_ (by kernel_rfl) (by kernel_rfl) (by kernel_rfl) ⟨Or.inl rfl, Or.inl rfl, Or.inl rfl, Or.inl rfl, Or.inr (ge_bool (by kernel_rfl)), trivial⟩ ⟨⟨⟨[.int .i64], m, fd, gd, bd, false⟩, by kernel_rfl, VcLe.refl _⟩, ⟨⟨[.int .i64], m', fd', gd', bd', false⟩, by kernel_rfl, VcLe.refl _⟩, trivial⟩ (by kernel_rfl)
        rw [ebT, hne]
      exact Run.seq_out h1 (by intro h; cases h)
  intro M w0 ρ w vs hM hv
  exact Run.calls (fr := ⟨none, some ⟨.sbool (eqRows elInt ⟨[.int .i64], m, fd, gd, bd, wr⟩ ⟨[.int .i64], m', fd', gd', bd', wr'⟩ a a' n n'), [], [], []⟩, true⟩) Try.func47 (by kernel_rfl) hr (ahv := []) (avv := []) (by kernel_rfl) rfl rfl ⟨⟨[], rfl⟩, fun i o => rfl, fun i => rfl⟩ (Nat.le_of_ble_eq_true (by kernel_rfl)) hM hv
/-- slices.Equal[[]int64,int64] -/
noncomputable def G5 : List (Nat × Ctr) := (47, eqC [.int .i64] elInt) :: G4
theorem g5 : Ab.Good Try.prog G5 := good_cons (sat_eq Try.call47 (fun i i' a a' n n' v v' hs hs' han han' hn => eqs47 i i' a a' n n' v v' hs hs' han han' hn)) g4

/-- spec.l07Least -/
noncomputable def G6 : List (Nat × Ctr) := (68, inl Try.prog G5 100 Try.f68) :: G5
theorem g6 : Ab.Good Try.prog G6 := good_cons (inl_sat g5 mixed Try.func68 Try.call68 100) g5

/-- spec.l07After -/
noncomputable def G7 : List (Nat × Ctr) := (49, inl Try.prog G6 100 Try.f49) :: G6
theorem g7 : Ab.Good Try.prog G7 := good_cons (inl_sat g6 mixed Try.func49 Try.call49 100) g6

/-- impl.isBetween[int] -/
noncomputable def G8 : List (Nat × Ctr) := (43, inl Try.prog G7 100 Try.f43) :: G7
theorem g8 : Ab.Good Try.prog G8 := good_cons (inl_sat g7 mixed Try.func43 Try.call43 100) g7

/-- impl.areBetween -/
noncomputable def G9 : List (Nat × Ctr) := (44, areK) :: G8
theorem g9 : Ab.Good Try.prog G9 := good_cons (sat44) g8

/-- impl.isBetween[int64] -/
noncomputable def G10 : List (Nat × Ctr) := (45, inl Try.prog G9 100 Try.f45) :: G9
theorem g10 : Ab.Good Try.prog G10 := good_cons (inl_sat g9 mixed Try.func45 Try.call45 100) g9

/-- impl.ValidSeason -/
noncomputable def G11 : List (Nat × Ctr) := (15, inl Try.prog G10 100 Try.f15) :: G10
theorem g11 : Ab.Good Try.prog G11 := good_cons (inl_sat g10 mixed Try.func15 Try.call15 100) g10

/-- (impl.Season).hasSlot -/
noncomputable def G12 : List (Nat × Ctr) := (50, inl Try.prog G11 100 Try.f50) :: G11
theorem g12 : Ab.Good Try.prog G12 := good_cons (inl_sat g11 mixed Try.func50 Try.call50 100) g11

/-- (impl.Season).after -/
noncomputable def G13 : List (Nat × Ctr) := (51, inl Try.prog G12 100 Try.f51) :: G12
theorem g13 : Ab.Good Try.prog G13 := good_cons (inl_sat g12 mixed Try.func51 Try.call51 100) g12

noncomputable def GG : List (Nat × Ctr) := G13
theorem gg : Ab.Good Try.prog GG := g13

end Go.Proofs.Ytbkjjefjnkkgbaa.sev
