import Derived.Test.YtendlfonbfnopaaGf


import Derived.Test.YtendlfonbfnopaaGd
import Derived.Test.YtendlfonbfnopaaProg
namespace Go.Proofs.Ytendlfonbfnopaa.ab
open Go Go.Ab Go.Proofs
set_option maxRecDepth 100000
theorem mixed : Try.prog.follows .mixedOrders = true := by kernel_rfl

noncomputable def G0 : List (Nat × Ctr) := []
theorem g0 : Ab.Good Try.prog G0 := good_nil _

/-- laws.szFlueS -/
noncomputable def G1 : List (Nat × Ctr) := (34, inl Try.prog G0 100 Try.f34) :: G0
theorem g1 : Ab.Good Try.prog G1 := good_cons (inl_sat g0 mixed Try.func34 Try.call34 100) g0

/-- spec.l00In -/
noncomputable def G2 : List (Nat × Ctr) := (64, inl Try.prog G1 100 Try.f64) :: G1
theorem g2 : Ab.Good Try.prog G2 := good_cons (inl_sat g1 mixed Try.func64 Try.call64 100) g1

/-- spec.l01Finite -/
noncomputable def G3 : List (Nat × Ctr) := (108, ctr1 fun a => .sbool (finF a)) :: G2
theorem g3 : Ab.Good Try.prog G3 := good_cons (sat1 (g := fun a => .sbool (finF a)) g2 mixed Try.func108 Try.call108 100 (fun a => .sbool (feqB .f32 (fop .sub .f32 a a) 0)) (fun a => by kernel_rfl) (fun a ha ρ u h => by show V ρ (.sbool (finF a)) u; rw [← fin_sub a]; exact h)) g2

/-- math.Float32bits -/
noncomputable def G4 : List (Nat × Ctr) := (142, extC .f32bits) :: G3
theorem g4 : Ab.Good Try.prog G4 := good_cons (sat_ext .f32bits Try.func142 (by kernel_rfl) (by kernel_rfl) (by kernel_rfl) (by kernel_rfl)) g3

/-- spec.l01Amount -/
noncomputable def G5 : List (Nat × Ctr) := (105, ctr1 fun a => .sbool (amtF a)) :: G4
theorem g5 : Ab.Good Try.prog G5 := good_cons (sat1 (g := fun a => .sbool (amtF a)) g4 mixed Try.func105 Try.call105 100 (fun a => .cbool (cond (finF a) (cond (fltB .f32 0 a) true (!nanB .f32 a && true)) true) (cond (finF a) (cond (fltB .f32 0 a) true (Int.ofNat a == 0)) false)) (fun a => by kernel_rfl) (fun a ha ρ u h => by show V ρ (.sbool (amtF a)) u; rw [← amt_spec ha]; exact cbool_say (amt_cond a) h)) g4

/-- spec.l01Share -/
noncomputable def G6 : List (Nat × Ctr) := (74, ctr1 fun a => .sbool (shO a)) :: G5
theorem g6 : Ab.Good Try.prog G6 := good_cons (sat1 (g := fun a => .sbool (shO a)) g5 mixed Try.func74 Try.call74 100 (fun a => .sbool (shI a)) (fun a => by kernel_rfl) (fun a ha ρ u h => by show V ρ (.sbool (shO a)) u; rw [shO_eq]; exact h)) g5

/-- spec.l03Hot -/
noncomputable def G7 : List (Nat × Ctr) := (125, inl Try.prog G6 100 Try.f125) :: G6
theorem g7 : Ab.Good Try.prog G7 := good_cons (inl_sat g6 mixed Try.func125 Try.call125 100) g6

/-- spec.l03Flue -/
noncomputable def G8 : List (Nat × Ctr) := (118, fluC) :: G7
theorem g8 : Ab.Good Try.prog G8 := good_cons (sat_flu g7 mixed Try.func118 Try.call118 (fun h w t d z => by kernel_rfl)) g7


theorem chim73cI (gd : Nat → Nat → Int) (m : Num) (a n j : Nat) (han : a + n ≤ m.val) (h1 : 0 ≤ (gd (Nat.add a j) 4)) (h2 : (gd (Nat.add a j) 4) < Int.ofNat n) : (decide (0 ≤ (gd (Nat.add a j) 4)) && Nat.ble ((gd (Nat.add a j) 4).toNat + 1) n) = true ∧ Nat.ble (Nat.add a (gd (Nat.add a j) 4).toNat + 1) m.val = true := by
  have e : (gd (Nat.add a j) 4).toNat < n := by
    have h2 : (gd (Nat.add a j) 4) < (n : Int) := h2
    omega
  refine ⟨?_, Nat.ble_eq_true_of_le (by show a + _ + 1 ≤ m.val; omega)⟩
  rw [decide_eq_true h1, Nat.ble_eq_true_of_le (by omega)]; rfl

theorem chim73step (fd : Nat → Nat → Nat) (gd : Nat → Nat → Int) (bd : Nat → Nat → Bool) (wr : Bool) (m : Num) (a n : Nat) (j : Nat) (hj : j < n) (hn : n ≤ 140737488355328) (han : a + n ≤ m.val) (hp : badI (⟨[.f32, .f32, .f32, .f32, .int .i64], m, fd, gd, bd, wr⟩ : Vc) a n j = false) : Run Try.prog Try.f73.ntmps (cL (cK (cB (cA (cB (cB (cB (bodyOf Try.f73)))))))) (stR [.vec 0 5 a (.sym n), .bad, .bad, .sint .i64 (Int.ofNat n), .sint .i64 (Int.ofNat j)] [⟨[.f32, .f32, .f32, .f32, .int .i64], m, fd, gd, bd, false⟩]) (.normal, (stR [.vec 0 5 a (.sym n), .bad, .bad, .sint .i64 (Int.ofNat n), .sint .i64 (Int.ofNat (j + 1))] [⟨[.f32, .f32, .f32, .f32, .int .i64], m, fd, gd, bd, false⟩])) := by
  have c1 : Nat.ble (j + 1) n = true := Nat.ble_eq_true_of_le hj
  have c2 : Nat.ble (Nat.add a j + 1) m.val = true := Nat.ble_eq_true_of_le (by show a + j + 1 ≤ m.val; omega)
  have hd : (ndc (!(cond (decide ((gd (Nat.add a j) 4) ≥ 0)) (decide ((gd (Nat.add a j) 4) ≤ IntKind.i64.wrap (Int.ofNat n - 1))) false)) true (cond (andN (andN (true) (Nat.ble (j + 1) n)) (Nat.ble (Nat.add a j + 1) m.val)) (ndc ((gd (Nat.add a j) 4) == Int.ofNat j) true (andN (andN (andN (andN (true) (Nat.ble (j + 1) n)) (Nat.ble (Nat.add a j + 1) m.val)) ((decide (0 ≤ (gd (Nat.add a j) 4)) && Nat.ble ((gd (Nat.add a j) 4).toNat + 1) n))) (Nat.ble (Nat.add a (gd (Nat.add a j) 4).toNat + 1) m.val))) false)) = true := by
    simp only [ndc_eq]
    rw [c1, c2]
    cases h1 : decide ((gd (Nat.add a j) 4) ≥ 0) with
    | false => rfl
    | true =>
      cases h2 : decide ((gd (Nat.add a j) 4) ≤ IntKind.i64.wrap (Int.ofNat n - 1)) with
      | false => rfl
      | true =>
        have hw : IntKind.i64.wrap (Int.ofNat n - 1) = Int.ofNat n - 1 := IntWalk.i64_in _ (by show _ ≤ (n : Int) - 1 ∧ (n : Int) - 1 ≤ _; omega)
        rw [hw] at h2
        have h2 := of_decide_eq_true h2
        have h1 := of_decide_eq_true h1
        obtain ⟨k1, k2⟩ := chim73cI gd m a n j han h1 (by omega)
        rw [decide_eq_true h1] at k1
        rw [k1, k2]
        cases ((gd (Nat.add a j) 4) == Int.ofNat j) <;> rfl
  have hq := bad_eq (v := (⟨[.f32, .f32, .f32, .f32, .int .i64], m, fd, gd, bd, wr⟩ : Vc)) (a := a) hn hj
  rw [hp] at hq
  have q1 : flV (⟨[.f32, .f32, .f32, .f32, .int .i64], m, fd, gd, bd, wr⟩ : Vc) (Nat.add a j) = true := by
    cases h : flV (⟨[.f32, .f32, .f32, .f32, .int .i64], m, fd, gd, bd, wr⟩ : Vc) (Nat.add a j) with
    | true => rfl
    | false => rw [h] at hq; cases hq
  have q2 : badS (⟨[.f32, .f32, .f32, .f32, .int .i64], m, fd, gd, bd, wr⟩ : Vc) a n j = false := by rw [q1] at hq; exact hq
  refine Run.to g8 mixed 60 [true, false, false] (by kernel_rfl) ?_ ?_ (by kernel_rfl) (by kernel_rfl) ?_ ⟨⟨⟨[.f32, .f32, .f32, .f32, .int .i64], m, fd, gd, bd, false⟩, by kernel_rfl, VcLe.refl _⟩, trivial⟩ (by kernel_rfl)
  · have e : wBs (wayO [true, false, false] (stR [.vec 0 5 a (.sym n), .bad, .bad, .sint .i64 (Int.ofNat n), .sint .i64 (Int.ofNat j)] [⟨[.f32, .f32, .f32, .f32, .int .i64], m, fd, gd, bd, false⟩]) (Ab.ev Try.prog G8 Try.f73.ntmps 60 (cL (cK (cB (cA (cB (cB (cB (bodyOf Try.f73)))))))) (stR [.vec 0 5 a (.sym n), .bad, .bad, .sint .i64 (Int.ofNat n), .sint .i64 (Int.ofNat j)] [⟨[.f32, .f32, .f32, .f32, .int .i64], m, fd, gd, bd, false⟩]) Dl.nil)) = [decide (Int.ofNat j < Int.ofNat n), !flV (⟨[.f32, .f32, .f32, .f32, .int .i64], m, fd, gd, bd, wr⟩ : Vc) (Nat.add a j), badS (⟨[.f32, .f32, .f32, .f32, .int .i64], m, fd, gd, bd, wr⟩ : Vc) a n j] := by kernel_rfl
    rw [e, dec_lt hj, q1, q2]; rfl
  · have e : wNd (wayO [true, false, false] (stR [.vec 0 5 a (.sym n), .bad, .bad, .sint .i64 (Int.ofNat n), .sint .i64 (Int.ofNat j)] [⟨[.f32, .f32, .f32, .f32, .int .i64], m, fd, gd, bd, false⟩]) (Ab.ev Try.prog G8 Try.f73.ntmps 60 (cL (cK (cB (cA (cB (cB (cB (bodyOf Try.f73)))))))) (stR [.vec 0 5 a (.sym n), .bad, .bad, .sint .i64 (Int.ofNat n), .sint .i64 (Int.ofNat j)] [⟨[.f32, .f32, .f32, .f32, .int .i64], m, fd, gd, bd, false⟩]) Dl.nil)) = (cond (andN (andN (true) (Nat.ble (j + 1) n)) (Nat.ble (Nat.add a j + 1) m.val)) (cond (andN (andN (true) (Nat.ble (j + 1) n)) (Nat.ble (Nat.add a j + 1) m.val)) (ndc ((gd (Nat.add a j) 4) == -1) true (cond (cond (andN (andN (true) (Nat.ble (j + 1) n)) (Nat.ble (Nat.add a j + 1) m.val)) (ndc (!(cond (decide ((gd (Nat.add a j) 4) ≥ 0)) (decide ((gd (Nat.add a j) 4) ≤ IntKind.i64.wrap (Int.ofNat n - 1))) false)) true (cond (andN (andN (true) (Nat.ble (j + 1) n)) (Nat.ble (Nat.add a j + 1) m.val)) (ndc ((gd (Nat.add a j) 4) == Int.ofNat j) true (andN (andN (andN (andN (true) (Nat.ble (j + 1) n)) (Nat.ble (Nat.add a j + 1) m.val)) ((decide (0 ≤ (gd (Nat.add a j) 4)) && Nat.ble ((gd (Nat.add a j) 4).toNat + 1) n))) (Nat.ble (Nat.add a (gd (Nat.add a j) 4).toNat + 1) m.val))) false)) false) true false)) false) false) := by kernel_rfl
    rw [e, hd, c1, c2]
    cases ((gd (Nat.add a j) 4) == -1) <;> rfl
  · refine ⟨Or.inr (ge_eq (by kernel_rfl)), Or.inl rfl, Or.inl rfl, Or.inr (ge_eq (by kernel_rfl)), Or.inr (ge_eq ?_), trivial⟩
    have e : (wS (wayO [true, false, false] (stR [.vec 0 5 a (.sym n), .bad, .bad, .sint .i64 (Int.ofNat n), .sint .i64 (Int.ofNat j)] [⟨[.f32, .f32, .f32, .f32, .int .i64], m, fd, gd, bd, false⟩]) (Ab.ev Try.prog G8 Try.f73.ntmps 60 (cL (cK (cB (cA (cB (cB (cB (bodyOf Try.f73)))))))) (stR [.vec 0 5 a (.sym n), .bad, .bad, .sint .i64 (Int.ofNat n), .sint .i64 (Int.ofNat j)] [⟨[.f32, .f32, .f32, .f32, .int .i64], m, fd, gd, bd, false⟩]) Dl.nil))).get 4 = .sint .i64 (IntKind.i64.wrap (Int.ofNat j + 1)) := by kernel_rfl
    rw [e, wrap_next hj hn]

theorem chim73ret (fd : Nat → Nat → Nat) (gd : Nat → Nat → Int) (bd : Nat → Nat → Bool) (wr : Bool) (m : Num) (a n : Nat) (j : Nat) (hj : j < n) (hn : n ≤ 140737488355328) (han : a + n ≤ m.val) (hp : badI (⟨[.f32, .f32, .f32, .f32, .int .i64], m, fd, gd, bd, wr⟩ : Vc) a n j = true) : Run Try.prog Try.f73.ntmps (cL (cK (cB (cA (cB (cB (cB (bodyOf Try.f73)))))))) (stR [.vec 0 5 a (.sym n), .bad, .bad, .sint .i64 (Int.ofNat n), .sint .i64 (Int.ofNat j)] [⟨[.f32, .f32, .f32, .f32, .int .i64], m, fd, gd, bd, false⟩]) (.ret, (stR [.bad, .bad, .sbool false] [⟨[.f32, .f32, .f32, .f32, .int .i64], m, fd, gd, bd, false⟩])) := by
  have c1 : Nat.ble (j + 1) n = true := Nat.ble_eq_true_of_le hj
  have c2 : Nat.ble (Nat.add a j + 1) m.val = true := Nat.ble_eq_true_of_le (by show a + j + 1 ≤ m.val; omega)
  have hd : (ndc (!(cond (decide ((gd (Nat.add a j) 4) ≥ 0)) (decide ((gd (Nat.add a j) 4) ≤ IntKind.i64.wrap (Int.ofNat n - 1))) false)) true (cond (andN (andN (true) (Nat.ble (j + 1) n)) (Nat.ble (Nat.add a j + 1) m.val)) (ndc ((gd (Nat.add a j) 4) == Int.ofNat j) true (andN (andN (andN (andN (true) (Nat.ble (j + 1) n)) (Nat.ble (Nat.add a j + 1) m.val)) ((decide (0 ≤ (gd (Nat.add a j) 4)) && Nat.ble ((gd (Nat.add a j) 4).toNat + 1) n))) (Nat.ble (Nat.add a (gd (Nat.add a j) 4).toNat + 1) m.val))) false)) = true := by
    simp only [ndc_eq]
    rw [c1, c2]
    cases h1 : decide ((gd (Nat.add a j) 4) ≥ 0) with
    | false => rfl
    | true =>
      cases h2 : decide ((gd (Nat.add a j) 4) ≤ IntKind.i64.wrap (Int.ofNat n - 1)) with
      | false => rfl
      | true =>
        have hw : IntKind.i64.wrap (Int.ofNat n - 1) = Int.ofNat n - 1 := IntWalk.i64_in _ (by show _ ≤ (n : Int) - 1 ∧ (n : Int) - 1 ≤ _; omega)
        rw [hw] at h2
        have h2 := of_decide_eq_true h2
        have h1 := of_decide_eq_true h1
        obtain ⟨k1, k2⟩ := chim73cI gd m a n j han h1 (by omega)
        rw [decide_eq_true h1] at k1
        rw [k1, k2]
        cases ((gd (Nat.add a j) 4) == Int.ofNat j) <;> rfl
  have hq := bad_eq (v := (⟨[.f32, .f32, .f32, .f32, .int .i64], m, fd, gd, bd, wr⟩ : Vc)) (a := a) hn hj
  rw [hp] at hq
  cases q1 : flV (⟨[.f32, .f32, .f32, .f32, .int .i64], m, fd, gd, bd, wr⟩ : Vc) (Nat.add a j) with
  | false =>
    refine Run.to g8 mixed 60 [true, true] (by kernel_rfl) ?_ ?_ (by kernel_rfl) (by kernel_rfl) ⟨Or.inl rfl, Or.inl rfl, Or.inr (ge_bool (by kernel_rfl)), trivial⟩ ⟨⟨⟨[.f32, .f32, .f32, .f32, .int .i64], m, fd, gd, bd, false⟩, by kernel_rfl, VcLe.refl _⟩, trivial⟩ (by kernel_rfl)
    · have e : wBs (wayO [true, true] (stR [.vec 0 5 a (.sym n), .bad, .bad, .sint .i64 (Int.ofNat n), .sint .i64 (Int.ofNat j)] [⟨[.f32, .f32, .f32, .f32, .int .i64], m, fd, gd, bd, false⟩]) (Ab.ev Try.prog G8 Try.f73.ntmps 60 (cL (cK (cB (cA (cB (cB (cB (bodyOf Try.f73)))))))) (stR [.vec 0 5 a (.sym n), .bad, .bad, .sint .i64 (Int.ofNat n), .sint .i64 (Int.ofNat j)] [⟨[.f32, .f32, .f32, .f32, .int .i64], m, fd, gd, bd, false⟩]) Dl.nil)) = [decide (Int.ofNat j < Int.ofNat n), !flV (⟨[.f32, .f32, .f32, .f32, .int .i64], m, fd, gd, bd, wr⟩ : Vc) (Nat.add a j)] := by kernel_rfl
      rw [e, dec_lt hj, q1]; rfl
    · have e : wNd (wayO [true, true] (stR [.vec 0 5 a (.sym n), .bad, .bad, .sint .i64 (Int.ofNat n), .sint .i64 (Int.ofNat j)] [⟨[.f32, .f32, .f32, .f32, .int .i64], m, fd, gd, bd, false⟩]) (Ab.ev Try.prog G8 Try.f73.ntmps 60 (cL (cK (cB (cA (cB (cB (cB (bodyOf Try.f73)))))))) (stR [.vec 0 5 a (.sym n), .bad, .bad, .sint .i64 (Int.ofNat n), .sint .i64 (Int.ofNat j)] [⟨[.f32, .f32, .f32, .f32, .int .i64], m, fd, gd, bd, false⟩]) Dl.nil)) = (cond (andN (andN (true) (Nat.ble (j + 1) n)) (Nat.ble (Nat.add a j + 1) m.val)) (true) false) := by kernel_rfl
      rw [e, c1, c2]; rfl
  | true =>
    have q2 : badS (⟨[.f32, .f32, .f32, .f32, .int .i64], m, fd, gd, bd, wr⟩ : Vc) a n j = true := by rw [q1] at hq; exact hq
    refine Run.to g8 mixed 60 [true, false, true] (by kernel_rfl) ?_ ?_ (by kernel_rfl) (by kernel_rfl) ⟨Or.inl rfl, Or.inl rfl, Or.inr (ge_bool (by kernel_rfl)), trivial⟩ ⟨⟨⟨[.f32, .f32, .f32, .f32, .int .i64], m, fd, gd, bd, false⟩, by kernel_rfl, VcLe.refl _⟩, trivial⟩ (by kernel_rfl)
    · have e : wBs (wayO [true, false, true] (stR [.vec 0 5 a (.sym n), .bad, .bad, .sint .i64 (Int.ofNat n), .sint .i64 (Int.ofNat j)] [⟨[.f32, .f32, .f32, .f32, .int .i64], m, fd, gd, bd, false⟩]) (Ab.ev Try.prog G8 Try.f73.ntmps 60 (cL (cK (cB (cA (cB (cB (cB (bodyOf Try.f73)))))))) (stR [.vec 0 5 a (.sym n), .bad, .bad, .sint .i64 (Int.ofNat n), .sint .i64 (Int.ofNat j)] [⟨[.f32, .f32, .f32, .f32, .int .i64], m, fd, gd, bd, false⟩]) Dl.nil)) = [decide (Int.ofNat j < Int.ofNat n), !flV (⟨[.f32, .f32, .f32, .f32, .int .i64], m, fd, gd, bd, wr⟩ : Vc) (Nat.add a j), badS (⟨[.f32, .f32, .f32, .f32, .int .i64], m, fd, gd, bd, wr⟩ : Vc) a n j] := by kernel_rfl
      rw [e, dec_lt hj, q1, q2]; rfl
    · have e : wNd (wayO [true, false, true] (stR [.vec 0 5 a (.sym n), .bad, .bad, .sint .i64 (Int.ofNat n), .sint .i64 (Int.ofNat j)] [⟨[.f32, .f32, .f32, .f32, .int .i64], m, fd, gd, bd, false⟩]) (Ab.ev Try.prog G8 Try.f73.ntmps 60 (cL (cK (cB (cA (cB (cB (cB (bodyOf Try.f73)))))))) (stR [.vec 0 5 a (.sym n), .bad, .bad, .sint .i64 (Int.ofNat n), .sint .i64 (Int.ofNat j)] [⟨[.f32, .f32, .f32, .f32, .int .i64], m, fd, gd, bd, false⟩]) Dl.nil)) = (cond (andN (andN (true) (Nat.ble (j + 1) n)) (Nat.ble (Nat.add a j + 1) m.val)) (cond (andN (andN (true) (Nat.ble (j + 1) n)) (Nat.ble (Nat.add a j + 1) m.val)) (cond (cond (andN (andN (true) (Nat.ble (j + 1) n)) (Nat.ble (Nat.add a j + 1) m.val)) (ndc (!(cond (decide ((gd (Nat.add a j) 4) ≥ 0)) (decide ((gd (Nat.add a j) 4) ≤ IntKind.i64.wrap (Int.ofNat n - 1))) false)) true (cond (andN (andN (true) (Nat.ble (j + 1) n)) (Nat.ble (Nat.add a j + 1) m.val)) (ndc ((gd (Nat.add a j) 4) == Int.ofNat j) true (andN (andN (andN (andN (true) (Nat.ble (j + 1) n)) (Nat.ble (Nat.add a j + 1) m.val)) ((decide (0 ≤ (gd (Nat.add a j) 4)) && Nat.ble ((gd (Nat.add a j) 4).toNat + 1) n))) (Nat.ble (Nat.add a (gd (Nat.add a j) 4).toNat + 1) m.val))) false)) false) true false) false) false) := by kernel_rfl
      rw [e, hd, c1, c2]; rfl

theorem chim73end (fd : Nat → Nat → Nat) (gd : Nat → Nat → Int) (bd : Nat → Nat → Bool) (wr : Bool) (m : Num) (a n : Nat) : Run Try.prog Try.f73.ntmps (cL (cK (cB (cA (cB (cB (cB (bodyOf Try.f73)))))))) (stR [.vec 0 5 a (.sym n), .bad, .bad, .sint .i64 (Int.ofNat n), .sint .i64 (Int.ofNat n)] [⟨[.f32, .f32, .f32, .f32, .int .i64], m, fd, gd, bd, false⟩]) (.exit 0, (stR [.vec 0 5 a (.sym n), .bad, .bad, .sint .i64 (Int.ofNat n), .sint .i64 (Int.ofNat n)] [⟨[.f32, .f32, .f32, .f32, .int .i64], m, fd, gd, bd, false⟩])) := by
  refine Run.to g8 mixed 60 [false] (by kernel_rfl) ?_ (by kernel_rfl) (by kernel_rfl) (by kernel_rfl) ⟨Or.inr (ge_eq (by kernel_rfl)), Or.inl rfl, Or.inl rfl, Or.inr (ge_eq (by kernel_rfl)), Or.inr (ge_eq (by kernel_rfl)), trivial⟩ ⟨⟨⟨[.f32, .f32, .f32, .f32, .int .i64], m, fd, gd, bd, false⟩, by kernel_rfl, VcLe.refl _⟩, trivial⟩ (by kernel_rfl)
  have e : wBs (wayO [false] (stR [.vec 0 5 a (.sym n), .bad, .bad, .sint .i64 (Int.ofNat n), .sint .i64 (Int.ofNat n)] [⟨[.f32, .f32, .f32, .f32, .int .i64], m, fd, gd, bd, false⟩]) (Ab.ev Try.prog G8 Try.f73.ntmps 60 (cL (cK (cB (cA (cB (cB (cB (bodyOf Try.f73)))))))) (stR [.vec 0 5 a (.sym n), .bad, .bad, .sint .i64 (Int.ofNat n), .sint .i64 (Int.ofNat n)] [⟨[.f32, .f32, .f32, .f32, .int .i64], m, fd, gd, bd, false⟩]) Dl.nil)) = [decide (Int.ofNat n < Int.ofNat n)] := by kernel_rfl
  rw [e, dec_irr]

theorem chim73 (i a n : Nat) (v : Vc) (hs : v.sh = flSh) (han : a + n ≤ v.n.val) (hn : n ≤ 140737488355328) : OnRows Try.prog 73 [⟨i, 5, a, .sym n⟩] [] [v] ⟨.sbool (chimV v a n), [], [], [], true, none⟩ := by
  obtain ⟨sh, m, fd, gd, bd, wr⟩ := v
  have hs : sh = [.f32, .f32, .f32, .f32, .int .i64] := hs
  subst hs
  have h0 : Run Try.prog Try.f73.ntmps (cA (bodyOf Try.f73)) ((viewS [(⟨[.f32, .f32, .f32, .f32, .int .i64], m, fd, gd, bd, wr⟩ : Vc)]).start Try.f73.ntmps [.vec 0 5 a (.sym n)]) (.normal, (stR [.vec 0 5 a (.sym n)] [⟨[.f32, .f32, .f32, .f32, .int .i64], m, fd, gd, bd, false⟩])) :=
    Run.to g8 mixed 60 [] (by kernel_rfl) (by kernel_rfl) (by kernel_rfl) (by kernel_rfl) (by kernel_rfl) ⟨Or.inr (ge_eq (by kernel_rfl)), trivial⟩ ⟨⟨⟨[.f32, .f32, .f32, .f32, .int .i64], m, fd, gd, bd, false⟩, by kernel_rfl, VcLe.refl _⟩, trivial⟩ (by kernel_rfl)
  have h01 : Run Try.prog Try.f73.ntmps (cA (cB (bodyOf Try.f73))) (stR [.vec 0 5 a (.sym n)] [⟨[.f32, .f32, .f32, .f32, .int .i64], m, fd, gd, bd, false⟩]) (.normal, (stR [.vec 0 5 a (.sym n), .bad, .bad, .sint .i64 (Int.ofNat n)] [⟨[.f32, .f32, .f32, .f32, .int .i64], m, fd, gd, bd, false⟩])) :=
    Run.to g8 mixed 60 [] (by kernel_rfl) (by kernel_rfl) (by kernel_rfl) (by kernel_rfl) (by kernel_rfl) ⟨Or.inr (ge_eq (by kernel_rfl)), Or.inl rfl, Or.inl rfl, Or.inr (ge_eq (by kernel_rfl)), trivial⟩ ⟨⟨⟨[.f32, .f32, .f32, .f32, .int .i64], m, fd, gd, bd, false⟩, by kernel_rfl, VcLe.refl _⟩, trivial⟩ (by kernel_rfl)
  have ebT : wBs (wayO [true] (stR [.vec 0 5 a (.sym n), .bad, .bad, .sint .i64 (Int.ofNat n)] [⟨[.f32, .f32, .f32, .f32, .int .i64], m, fd, gd, bd, false⟩]) (Ab.ev Try.prog G8 Try.f73.ntmps 60 (cA (cB (cB (bodyOf Try.f73)))) (stR [.vec 0 5 a (.sym n), .bad, .bad, .sint .i64 (Int.ofNat n)] [⟨[.f32, .f32, .f32, .f32, .int .i64], m, fd, gd, bd, false⟩]) Dl.nil)) = [!(cond (decide (Int.ofNat n ≥ 1)) (decide (Int.ofNat n ≤ 6)) false)] := by kernel_rfl
  have ebF : wBs (wayO [false] (stR [.vec 0 5 a (.sym n), .bad, .bad, .sint .i64 (Int.ofNat n)] [⟨[.f32, .f32, .f32, .f32, .int .i64], m, fd, gd, bd, false⟩]) (Ab.ev Try.prog G8 Try.f73.ntmps 60 (cA (cB (cB (bodyOf Try.f73)))) (stR [.vec 0 5 a (.sym n), .bad, .bad, .sint .i64 (Int.ofNat n)] [⟨[.f32, .f32, .f32, .f32, .int .i64], m, fd, gd, bd, false⟩]) Dl.nil)) = [!(cond (decide (Int.ofNat n ≥ 1)) (decide (Int.ofNat n ≤ 6)) false)] := by kernel_rfl
  have hTT : (!(cond (decide (Int.ofNat n ≥ 1)) (decide (Int.ofNat n ≤ 6)) false)) = cond (decide (Int.ofNat n < 1)) true (decide (Int.ofNat n > 6)) := by
    by_cases k1 : Int.ofNat n < 1
    · have : ¬ (Int.ofNat n ≥ 1) := by omega
      rw [decide_eq_true k1, decide_eq_false this]; rfl
    · have k2 : Int.ofNat n ≥ 1 := by omega
      rw [decide_eq_false k1, decide_eq_true k2]
      by_cases k3 : Int.ofNat n > 6
      · have : ¬ (Int.ofNat n ≤ 6) := by omega
        rw [decide_eq_true k3, decide_eq_false this]; rfl
      · have : Int.ofNat n ≤ 6 := by omega
        rw [decide_eq_false k3, decide_eq_true this]; rfl
  have hr : Run Try.prog Try.f73.ntmps (bodyOf Try.f73) ((viewS [(⟨[.f32, .f32, .f32, .f32, .int .i64], m, fd, gd, bd, wr⟩ : Vc)]).start Try.f73.ntmps [.vec 0 5 a (.sym n)]) (.ret, (stR [.bad, .bad, .sbool (chimV (⟨[.f32, .f32, .f32, .f32, .int .i64], m, fd, gd, bd, wr⟩ : Vc) a n)] [⟨[.f32, .f32, .f32, .f32, .int .i64], m, fd, gd, bd, false⟩])) := by
    have hB : (bodyOf Try.f73) = .seq (cA (bodyOf Try.f73)) (.seq (cA (cB (bodyOf Try.f73))) (.seq (cA (cB (cB (bodyOf Try.f73)))) (.seq (.seq (cA (cA (cB (cB (cB (bodyOf Try.f73)))))) (.block 0 (.loop (cL (cK (cB (cA (cB (cB (cB (bodyOf Try.f73))))))))))) (cB (cB (cB (cB (bodyOf Try.f73)))))))) := by kernel_rfl
    rw [hB]
    refine Run.seq h0 (Nat.le_refl _) (Run.seq h01 (Nat.le_refl _) ?_)
    unfold chimV
    cases hT : cond (decide (Int.ofNat n < 1)) true (decide (Int.ofNat n > 6)) with
    | true =>
      have h1 : Run Try.prog Try.f73.ntmps (cA (cB (cB (bodyOf Try.f73)))) (stR [.vec 0 5 a (.sym n), .bad, .bad, .sint .i64 (Int.ofNat n)] [⟨[.f32, .f32, .f32, .f32, .int .i64], m, fd, gd, bd, false⟩]) (.ret, (stR [.bad, .bad, .sbool false] [⟨[.f32, .f32, .f32, .f32, .int .i64], m, fd, gd, bd, false⟩])) := by
        refine Run.to g8 mixed 60 [true] (by kernel_rfl) ?_ (by kernel_rfl) (by kernel_rfl) (by kernel_rfl) ⟨Or.inl rfl, Or.inl rfl, Or.inr (ge_bool (by kernel_rfl)), trivial⟩ ⟨⟨⟨[.f32, .f32, .f32, .f32, .int .i64], m, fd, gd, bd, false⟩, by kernel_rfl, VcLe.refl _⟩, trivial⟩ (by kernel_rfl)
        rw [ebT, hTT, hT]
      exact Run.seq_out h1 (by intro h; cases h)
    | false =>
      have h1 : Run Try.prog Try.f73.ntmps (cA (cB (cB (bodyOf Try.f73)))) (stR [.vec 0 5 a (.sym n), .bad, .bad, .sint .i64 (Int.ofNat n)] [⟨[.f32, .f32, .f32, .f32, .int .i64], m, fd, gd, bd, false⟩]) (.normal, (stR [.vec 0 5 a (.sym n), .bad, .bad, .sint .i64 (Int.ofNat n)] [⟨[.f32, .f32, .f32, .f32, .int .i64], m, fd, gd, bd, false⟩])) := by
        refine Run.to g8 mixed 60 [false] (by kernel_rfl) ?_ (by kernel_rfl) (by kernel_rfl) (by kernel_rfl) ⟨Or.inr (ge_eq (by kernel_rfl)), Or.inl rfl, Or.inl rfl, Or.inr (ge_eq (by kernel_rfl)), trivial⟩ ⟨⟨⟨[.f32, .f32, .f32, .f32, .int .i64], m, fd, gd, bd, false⟩, by kernel_rfl, VcLe.refl _⟩, trivial⟩ (by kernel_rfl)
        rw [ebF, hTT, hT]
      have h2 : Run Try.prog Try.f73.ntmps (cA (cA (cB (cB (cB (bodyOf Try.f73)))))) (stR [.vec 0 5 a (.sym n), .bad, .bad, .sint .i64 (Int.ofNat n)] [⟨[.f32, .f32, .f32, .f32, .int .i64], m, fd, gd, bd, false⟩]) (.normal, (stR [.vec 0 5 a (.sym n), .bad, .bad, .sint .i64 (Int.ofNat n), .sint .i64 (Int.ofNat 0)] [⟨[.f32, .f32, .f32, .f32, .int .i64], m, fd, gd, bd, false⟩])) :=
        Run.to g8 mixed 60 [] (by kernel_rfl) (by kernel_rfl) (by kernel_rfl) (by kernel_rfl) (by kernel_rfl) ⟨Or.inr (ge_eq (by kernel_rfl)), Or.inl rfl, Or.inl rfl, Or.inr (ge_eq (by kernel_rfl)), Or.inr (ge_int (by kernel_rfl)), trivial⟩ ⟨⟨⟨[.f32, .f32, .f32, .f32, .int .i64], m, fd, gd, bd, false⟩, by kernel_rfl, VcLe.refl _⟩, trivial⟩ (by kernel_rfl)
      show Run Try.prog Try.f73.ntmps _ _ (.ret, (stR [.bad, .bad, .sbool (allB n (fun k => !badI (⟨[.f32, .f32, .f32, .f32, .int .i64], m, fd, gd, bd, wr⟩ : Vc) a n k))] [⟨[.f32, .f32, .f32, .f32, .int .i64], m, fd, gd, bd, false⟩]))
      refine Run.seq h1 (Nat.le_refl _) ?_
      cases hall : allB n (fun k => !badI (⟨[.f32, .f32, .f32, .f32, .int .i64], m, fd, gd, bd, wr⟩ : Vc) a n k) with
      | true =>
        have hp := allB_true hall
        have h3 : Run Try.prog Try.f73.ntmps (.loop (cL (cK (cB (cA (cB (cB (cB (bodyOf Try.f73))))))))) (stR [.vec 0 5 a (.sym n), .bad, .bad, .sint .i64 (Int.ofNat n), .sint .i64 (Int.ofNat 0)] [⟨[.f32, .f32, .f32, .f32, .int .i64], m, fd, gd, bd, false⟩]) (.exit 0, (stR [.vec 0 5 a (.sym n), .bad, .bad, .sint .i64 (Int.ofNat n), .sint .i64 (Int.ofNat n)] [⟨[.f32, .f32, .f32, .f32, .int .i64], m, fd, gd, bd, false⟩])) := Run.loop n (fun j => (stR [.vec 0 5 a (.sym n), .bad, .bad, .sint .i64 (Int.ofNat n), .sint .i64 (Int.ofNat j)] [⟨[.f32, .f32, .f32, .f32, .int .i64], m, fd, gd, bd, false⟩])) (fun j => rfl) (fun j hj => chim73step fd gd bd wr m a n j hj hn han (by simpa using hp j hj)) (chim73end fd gd bd wr m a n) (by intro h; cases h)
        have h6 : Run Try.prog Try.f73.ntmps (cB (cB (cB (cB (bodyOf Try.f73))))) (stR [.vec 0 5 a (.sym n), .bad, .bad, .sint .i64 (Int.ofNat n), .sint .i64 (Int.ofNat n)] [⟨[.f32, .f32, .f32, .f32, .int .i64], m, fd, gd, bd, false⟩]) (.ret, (stR [.bad, .bad, .sbool true] [⟨[.f32, .f32, .f32, .f32, .int .i64], m, fd, gd, bd, false⟩])) :=
          Run.to g8 mixed 60 [] (by kernel_rfl) (by kernel_rfl) (by kernel_rfl) (by kernel_rfl) (by kernel_rfl) ⟨Or.inl rfl, Or.inl rfl, Or.inr (ge_bool (by kernel_rfl)), trivial⟩ ⟨⟨⟨[.f32, .f32, .f32, .f32, .int .i64], m, fd, gd, bd, false⟩, by kernel_rfl, VcLe.refl _⟩, trivial⟩ (by kernel_rfl)
        exact Run.seq (Run.seq h2 (Nat.le_refl _) (Run.block h3)) (Nat.le_refl _) h6
      | false =>
        obtain ⟨j, hj, hpj, hpk⟩ := allB_false hall
        have h3 : Run Try.prog Try.f73.ntmps (.loop (cL (cK (cB (cA (cB (cB (cB (bodyOf Try.f73))))))))) (stR [.vec 0 5 a (.sym n), .bad, .bad, .sint .i64 (Int.ofNat n), .sint .i64 (Int.ofNat 0)] [⟨[.f32, .f32, .f32, .f32, .int .i64], m, fd, gd, bd, false⟩]) (.ret, (stR [.bad, .bad, .sbool false] [⟨[.f32, .f32, .f32, .f32, .int .i64], m, fd, gd, bd, false⟩])) := Run.loop j (fun j => (stR [.vec 0 5 a (.sym n), .bad, .bad, .sint .i64 (Int.ofNat n), .sint .i64 (Int.ofNat j)] [⟨[.f32, .f32, .f32, .f32, .int .i64], m, fd, gd, bd, false⟩])) (fun j => rfl) (fun k hk => chim73step fd gd bd wr m a n k (by omega) hn han (by simpa using hpk k hk)) (chim73ret fd gd bd wr m a n j hj hn han (by simpa using hpj)) (by intro h; cases h)
        exact Run.seq_out (Run.seq h2 (Nat.le_refl _) (Run.block_out h3 (by intro h; cases h))) (by intro h; cases h)
  intro M w0 ρ w vs hM hv
  exact Run.calls (fr := ⟨none, some ⟨.sbool (chimV (⟨[.f32, .f32, .f32, .f32, .int .i64], m, fd, gd, bd, wr⟩ : Vc) a n), [], [], []⟩, true⟩) Try.func73 (by kernel_rfl) hr (ahv := []) (avv := []) (by kernel_rfl) rfl rfl ⟨⟨[], rfl⟩, fun i o => rfl, fun i => rfl⟩ (Nat.le_of_ble_eq_true (by kernel_rfl)) hM hv
/-- spec.l03Ok -/
noncomputable def G9 : List (Nat × Ctr) := (73, chimC) :: G8
theorem g9 : Ab.Good Try.prog G9 := good_cons (sat_chim Try.call73 (fun i a n v hs han hn => chim73 i a n v hs han hn)) g8

/-- spec.l03With -/
noncomputable def G10 : List (Nat × Ctr) := (75, inl Try.prog G9 100 Try.f75) :: G9
theorem g10 : Ab.Good Try.prog G10 := good_cons (inl_sat g9 mixed Try.func75 Try.call75 100) g9

/-- spec.SetFlue -/
noncomputable def G11 : List (Nat × Ctr) := (35, inl Try.prog G10 100 Try.f35) :: G10
theorem g11 : Ab.Good Try.prog G11 := good_cons (inl_sat g10 mixed Try.func35 Try.call35 100) g10

/-- laws.toFlue -/
noncomputable def G12 : List (Nat × Ctr) := (76, inl Try.prog G11 100 Try.f76) :: G11
theorem g12 : Ab.Good Try.prog G12 := good_cons (inl_sat g11 mixed Try.func76 Try.call76 100) g11


theorem cpy36step (fd : Nat → Nat → Nat) (gd : Nat → Nat → Int) (bd : Nat → Nat → Bool) (wr : Bool) (m : Num) (a n : Nat) (j : Nat) (hj : j < n) (hn : n ≤ 140737488355328) (han : a + n ≤ m.val) : Run Try.prog Try.f36.ntmps (cL (cK (cB (cA (cB (cB (bodyOf Try.f36))))))) (stR [.vec 0 5 a (.sym n), .bad, .bad, .vec 1 5 0 (.sym n), .sint .i64 (Int.ofNat j)] [⟨[.f32, .f32, .f32, .f32, .int .i64], m, fd, gd, bd, false⟩, rowJ [.f32, .f32, .f32, .f32, .int .i64] n a ⟨[.f32, .f32, .f32, .f32, .int .i64], m, fd, gd, bd, wr⟩ [.flt .f32 0, .flt .f32 0, .flt .f32 0, .flt .f32 0, .int .i64 0] j]) (.normal, (stR [.vec 0 5 a (.sym n), .bad, .bad, .vec 1 5 0 (.sym n), .sint .i64 (Int.ofNat (j + 1))] [⟨[.f32, .f32, .f32, .f32, .int .i64], m, fd, gd, bd, false⟩, rowJ [.f32, .f32, .f32, .f32, .int .i64] n a ⟨[.f32, .f32, .f32, .f32, .int .i64], m, fd, gd, bd, wr⟩ [.flt .f32 0, .flt .f32 0, .flt .f32 0, .flt .f32 0, .int .i64 0] (j + 1)])) := by
  have c1 : Nat.ble (j + 1) n = true := Nat.ble_eq_true_of_le hj
  have c2 : Nat.ble (Nat.add a j + 1) m.val = true := Nat.ble_eq_true_of_le (by show a + j + 1 ≤ m.val; omega)
  have c4 : Nat.ble (Nat.add 0 j + 1) n = true := Nat.ble_eq_true_of_le (by show 0 + j + 1 ≤ n; omega)
  refine Run.to g12 mixed 60 [true] (by kernel_rfl) ?_ ?_ (by kernel_rfl) (by kernel_rfl) ?_ ?_ (by kernel_rfl)
  · have e : wBs (wayO [true] (stR [.vec 0 5 a (.sym n), .bad, .bad, .vec 1 5 0 (.sym n), .sint .i64 (Int.ofNat j)] [⟨[.f32, .f32, .f32, .f32, .int .i64], m, fd, gd, bd, false⟩, rowJ [.f32, .f32, .f32, .f32, .int .i64] n a ⟨[.f32, .f32, .f32, .f32, .int .i64], m, fd, gd, bd, wr⟩ [.flt .f32 0, .flt .f32 0, .flt .f32 0, .flt .f32 0, .int .i64 0] j]) (Ab.ev Try.prog G12 Try.f36.ntmps 60 (cL (cK (cB (cA (cB (cB (bodyOf Try.f36))))))) (stR [.vec 0 5 a (.sym n), .bad, .bad, .vec 1 5 0 (.sym n), .sint .i64 (Int.ofNat j)] [⟨[.f32, .f32, .f32, .f32, .int .i64], m, fd, gd, bd, false⟩, rowJ [.f32, .f32, .f32, .f32, .int .i64] n a ⟨[.f32, .f32, .f32, .f32, .int .i64], m, fd, gd, bd, wr⟩ [.flt .f32 0, .flt .f32 0, .flt .f32 0, .flt .f32 0, .int .i64 0] j]) Dl.nil)) = [decide (Int.ofNat j < Int.ofNat n)] := by kernel_rfl
    rw [e, dec_lt hj]
  · have e : wNd (wayO [true] (stR [.vec 0 5 a (.sym n), .bad, .bad, .vec 1 5 0 (.sym n), .sint .i64 (Int.ofNat j)] [⟨[.f32, .f32, .f32, .f32, .int .i64], m, fd, gd, bd, false⟩, rowJ [.f32, .f32, .f32, .f32, .int .i64] n a ⟨[.f32, .f32, .f32, .f32, .int .i64], m, fd, gd, bd, wr⟩ [.flt .f32 0, .flt .f32 0, .flt .f32 0, .flt .f32 0, .int .i64 0] j]) (Ab.ev Try.prog G12 Try.f36.ntmps 60 (cL (cK (cB (cA (cB (cB (bodyOf Try.f36))))))) (stR [.vec 0 5 a (.sym n), .bad, .bad, .vec 1 5 0 (.sym n), .sint .i64 (Int.ofNat j)] [⟨[.f32, .f32, .f32, .f32, .int .i64], m, fd, gd, bd, false⟩, rowJ [.f32, .f32, .f32, .f32, .int .i64] n a ⟨[.f32, .f32, .f32, .f32, .int .i64], m, fd, gd, bd, wr⟩ [.flt .f32 0, .flt .f32 0, .flt .f32 0, .flt .f32 0, .int .i64 0] j]) Dl.nil)) = (andN (andN (andN (andN (true) (Nat.ble (j + 1) n)) (Nat.ble (Nat.add a j + 1) m.val)) (Nat.ble (j + 1) n)) (Nat.ble (Nat.add 0 j + 1) n)) := by kernel_rfl
    rw [e, c1, c2, c4]; rfl
  · refine ⟨Or.inr (ge_eq (by kernel_rfl)), Or.inl rfl, Or.inl rfl, Or.inr (ge_eq (by kernel_rfl)), Or.inr (ge_eq ?_), trivial⟩
    have e : (wS (wayO [true] (stR [.vec 0 5 a (.sym n), .bad, .bad, .vec 1 5 0 (.sym n), .sint .i64 (Int.ofNat j)] [⟨[.f32, .f32, .f32, .f32, .int .i64], m, fd, gd, bd, false⟩, rowJ [.f32, .f32, .f32, .f32, .int .i64] n a ⟨[.f32, .f32, .f32, .f32, .int .i64], m, fd, gd, bd, wr⟩ [.flt .f32 0, .flt .f32 0, .flt .f32 0, .flt .f32 0, .int .i64 0] j]) (Ab.ev Try.prog G12 Try.f36.ntmps 60 (cL (cK (cB (cA (cB (cB (bodyOf Try.f36))))))) (stR [.vec 0 5 a (.sym n), .bad, .bad, .vec 1 5 0 (.sym n), .sint .i64 (Int.ofNat j)] [⟨[.f32, .f32, .f32, .f32, .int .i64], m, fd, gd, bd, false⟩, rowJ [.f32, .f32, .f32, .f32, .int .i64] n a ⟨[.f32, .f32, .f32, .f32, .int .i64], m, fd, gd, bd, wr⟩ [.flt .f32 0, .flt .f32 0, .flt .f32 0, .flt .f32 0, .int .i64 0] j]) Dl.nil))).get 4 = .sint .i64 (IntKind.i64.wrap (Int.ofNat j + 1)) := by kernel_rfl
    rw [e, wrap_next hj hn]
  · exact ⟨⟨⟨[.f32, .f32, .f32, .f32, .int .i64], m, fd, gd, bd, false⟩, by kernel_rfl, VcLe.refl _⟩, ⟨(rowJ [.f32, .f32, .f32, .f32, .int .i64] n a ⟨[.f32, .f32, .f32, .f32, .int .i64], m, fd, gd, bd, wr⟩ [.flt .f32 0, .flt .f32 0, .flt .f32 0, .flt .f32 0, .int .i64 0] j).put (Nat.add 0 j) 0 (encC (fd (Nat.add a j)) (gd (Nat.add a j)) (bd (Nat.add a j)) 0 [.f32, .f32, .f32, .f32, .int .i64]), by kernel_rfl, rowJ_next [.f32, .f32, .f32, .f32, .int .i64] n a ⟨[.f32, .f32, .f32, .f32, .int .i64], m, fd, gd, bd, wr⟩ [.flt .f32 0, .flt .f32 0, .flt .f32 0, .flt .f32 0, .int .i64 0] j⟩, trivial⟩

theorem cpy36end (fd : Nat → Nat → Nat) (gd : Nat → Nat → Int) (bd : Nat → Nat → Bool) (wr : Bool) (m : Num) (a n : Nat) : Run Try.prog Try.f36.ntmps (cL (cK (cB (cA (cB (cB (bodyOf Try.f36))))))) (stR [.vec 0 5 a (.sym n), .bad, .bad, .vec 1 5 0 (.sym n), .sint .i64 (Int.ofNat n)] [⟨[.f32, .f32, .f32, .f32, .int .i64], m, fd, gd, bd, false⟩, rowJ [.f32, .f32, .f32, .f32, .int .i64] n a ⟨[.f32, .f32, .f32, .f32, .int .i64], m, fd, gd, bd, wr⟩ [.flt .f32 0, .flt .f32 0, .flt .f32 0, .flt .f32 0, .int .i64 0] n]) (.exit 0, (stR [.vec 0 5 a (.sym n), .bad, .bad, .vec 1 5 0 (.sym n), .sint .i64 (Int.ofNat n)] [⟨[.f32, .f32, .f32, .f32, .int .i64], m, fd, gd, bd, false⟩, rowJ [.f32, .f32, .f32, .f32, .int .i64] n a ⟨[.f32, .f32, .f32, .f32, .int .i64], m, fd, gd, bd, wr⟩ [.flt .f32 0, .flt .f32 0, .flt .f32 0, .flt .f32 0, .int .i64 0] n])) := by
  refine Run.to g12 mixed 60 [false] (by kernel_rfl) ?_ (by kernel_rfl) (by kernel_rfl) (by kernel_rfl) ?_ ?_ (by kernel_rfl)
  · have e : wBs (wayO [false] (stR [.vec 0 5 a (.sym n), .bad, .bad, .vec 1 5 0 (.sym n), .sint .i64 (Int.ofNat n)] [⟨[.f32, .f32, .f32, .f32, .int .i64], m, fd, gd, bd, false⟩, rowJ [.f32, .f32, .f32, .f32, .int .i64] n a ⟨[.f32, .f32, .f32, .f32, .int .i64], m, fd, gd, bd, wr⟩ [.flt .f32 0, .flt .f32 0, .flt .f32 0, .flt .f32 0, .int .i64 0] n]) (Ab.ev Try.prog G12 Try.f36.ntmps 60 (cL (cK (cB (cA (cB (cB (bodyOf Try.f36))))))) (stR [.vec 0 5 a (.sym n), .bad, .bad, .vec 1 5 0 (.sym n), .sint .i64 (Int.ofNat n)] [⟨[.f32, .f32, .f32, .f32, .int .i64], m, fd, gd, bd, false⟩, rowJ [.f32, .f32, .f32, .f32, .int .i64] n a ⟨[.f32, .f32, .f32, .f32, .int .i64], m, fd, gd, bd, wr⟩ [.flt .f32 0, .flt .f32 0, .flt .f32 0, .flt .f32 0, .int .i64 0] n]) Dl.nil)) = [decide (Int.ofNat n < Int.ofNat n)] := by kernel_rfl
    rw [e, dec_irr]
  · exact ⟨Or.inr (ge_eq (by kernel_rfl)), Or.inl rfl, Or.inl rfl, Or.inr (ge_eq (by kernel_rfl)), Or.inr (ge_eq (by kernel_rfl)), trivial⟩
  · exact ⟨⟨⟨[.f32, .f32, .f32, .f32, .int .i64], m, fd, gd, bd, false⟩, by kernel_rfl, VcLe.refl _⟩, ⟨rowJ [.f32, .f32, .f32, .f32, .int .i64] n a ⟨[.f32, .f32, .f32, .f32, .int .i64], m, fd, gd, bd, wr⟩ [.flt .f32 0, .flt .f32 0, .flt .f32 0, .flt .f32 0, .int .i64 0] n, by kernel_rfl, VcLe.refl _⟩, trivial⟩

theorem cpy36 (i a n : Nat) (v : Vc) (hs : v.sh = [.f32, .f32, .f32, .f32, .int .i64]) (han : a + n ≤ v.n.val) (hb : n * 24 ≤ 140737488355328) (hn : n ≤ 140737488355328) : OnRows Try.prog 36 [⟨i, 5, a, .sym n⟩] [] [v] ⟨.vec 1 5 0 (.sym n), [], [], [⟨[], false, some (cpyR [.f32, .f32, .f32, .f32, .int .i64] (.sym n) a v)⟩], true, none⟩ := by
  obtain ⟨sh, m, fd, gd, bd, wr⟩ := v
  have hs : sh = [.f32, .f32, .f32, .f32, .int .i64] := hs
  subst hs
  have h0 : Run Try.prog Try.f36.ntmps (cA (bodyOf Try.f36)) ((viewS [⟨[.f32, .f32, .f32, .f32, .int .i64], m, fd, gd, bd, wr⟩]).start Try.f36.ntmps [.vec 0 5 a (.sym n)]) (.normal, stR [.vec 0 5 a (.sym n)] [⟨[.f32, .f32, .f32, .f32, .int .i64], m, fd, gd, bd, false⟩]) :=
    Run.to g12 mixed 60 [] (by kernel_rfl) (by kernel_rfl) (by kernel_rfl) (by kernel_rfl) (by kernel_rfl) ⟨Or.inr (ge_eq (by kernel_rfl)), trivial⟩ ⟨⟨_, rfl, VcLe.refl _⟩, trivial⟩ (by kernel_rfl)
  have b1 : Nat.ble (Nat.mul (Nat.add n 0) 24) 140737488355328 = true := Nat.ble_eq_true_of_le (by show (n + 0) * 24 ≤ _; omega)
  have b2 : Nat.ble (Nat.add n 0) 140737488355328 = true := Nat.ble_eq_true_of_le (by show n + 0 ≤ _; omega)
  have h1 : Run Try.prog Try.f36.ntmps (cA (cB (bodyOf Try.f36))) (stR [.vec 0 5 a (.sym n)] [⟨[.f32, .f32, .f32, .f32, .int .i64], m, fd, gd, bd, false⟩]) (.normal, stR [.vec 0 5 a (.sym n), .bad, .bad, .vec 1 5 0 (.sym n)] [⟨[.f32, .f32, .f32, .f32, .int .i64], m, fd, gd, bd, false⟩, rowJ [.f32, .f32, .f32, .f32, .int .i64] n a ⟨[.f32, .f32, .f32, .f32, .int .i64], m, fd, gd, bd, wr⟩ [.flt .f32 0, .flt .f32 0, .flt .f32 0, .flt .f32 0, .int .i64 0] 0]) := by
    refine Run.to g12 mixed 60 [] (by kernel_rfl) (by kernel_rfl) ?_ (by kernel_rfl) (by kernel_rfl) ⟨Or.inr (ge_eq (by kernel_rfl)), Or.inl rfl, Or.inl rfl, Or.inr (ge_eq (by kernel_rfl)), trivial⟩ ⟨⟨⟨[.f32, .f32, .f32, .f32, .int .i64], m, fd, gd, bd, false⟩, by kernel_rfl, VcLe.refl _⟩, ⟨Vc.all [.f32, .f32, .f32, .f32, .int .i64] (.sym n) [.flt .f32 0, .flt .f32 0, .flt .f32 0, .flt .f32 0, .int .i64 0], by kernel_rfl, rowJ_zero _ _ _ _ _⟩, trivial⟩ (by kernel_rfl)
    have e : wNd (wayO [] (stR [.vec 0 5 a (.sym n)] [⟨[.f32, .f32, .f32, .f32, .int .i64], m, fd, gd, bd, false⟩]) (Ab.ev Try.prog G12 Try.f36.ntmps 60 (cA (cB (bodyOf Try.f36))) (stR [.vec 0 5 a (.sym n)] [⟨[.f32, .f32, .f32, .f32, .int .i64], m, fd, gd, bd, false⟩]) Dl.nil)) = (cond (Nat.ble (Nat.mul (Nat.add n 0) 24) 140737488355328 && Nat.ble (Nat.add n 0) 140737488355328) true false) := by kernel_rfl
    rw [e, b1, b2]; rfl
  have h2 : Run Try.prog Try.f36.ntmps (cA (cA (cB (cB (bodyOf Try.f36))))) (stR [.vec 0 5 a (.sym n), .bad, .bad, .vec 1 5 0 (.sym n)] [⟨[.f32, .f32, .f32, .f32, .int .i64], m, fd, gd, bd, false⟩, rowJ [.f32, .f32, .f32, .f32, .int .i64] n a ⟨[.f32, .f32, .f32, .f32, .int .i64], m, fd, gd, bd, wr⟩ [.flt .f32 0, .flt .f32 0, .flt .f32 0, .flt .f32 0, .int .i64 0] 0]) (.normal, (stR [.vec 0 5 a (.sym n), .bad, .bad, .vec 1 5 0 (.sym n), .sint .i64 (Int.ofNat 0)] [⟨[.f32, .f32, .f32, .f32, .int .i64], m, fd, gd, bd, false⟩, rowJ [.f32, .f32, .f32, .f32, .int .i64] n a ⟨[.f32, .f32, .f32, .f32, .int .i64], m, fd, gd, bd, wr⟩ [.flt .f32 0, .flt .f32 0, .flt .f32 0, .flt .f32 0, .int .i64 0] 0])) :=
    Run.to g12 mixed 60 [] (by kernel_rfl) (by kernel_rfl) (by kernel_rfl) (by kernel_rfl) (by kernel_rfl) ⟨Or.inr (ge_eq (by kernel_rfl)), Or.inl rfl, Or.inl rfl, Or.inr (ge_eq (by kernel_rfl)), Or.inr (ge_int (by kernel_rfl)), trivial⟩ ⟨⟨⟨[.f32, .f32, .f32, .f32, .int .i64], m, fd, gd, bd, false⟩, by kernel_rfl, VcLe.refl _⟩, ⟨rowJ [.f32, .f32, .f32, .f32, .int .i64] n a ⟨[.f32, .f32, .f32, .f32, .int .i64], m, fd, gd, bd, wr⟩ [.flt .f32 0, .flt .f32 0, .flt .f32 0, .flt .f32 0, .int .i64 0] 0, by kernel_rfl, VcLe.refl _⟩, trivial⟩ (by kernel_rfl)
  have h3 : Run Try.prog Try.f36.ntmps (.loop (cL (cK (cB (cA (cB (cB (bodyOf Try.f36)))))))) (stR [.vec 0 5 a (.sym n), .bad, .bad, .vec 1 5 0 (.sym n), .sint .i64 (Int.ofNat 0)] [⟨[.f32, .f32, .f32, .f32, .int .i64], m, fd, gd, bd, false⟩, rowJ [.f32, .f32, .f32, .f32, .int .i64] n a ⟨[.f32, .f32, .f32, .f32, .int .i64], m, fd, gd, bd, wr⟩ [.flt .f32 0, .flt .f32 0, .flt .f32 0, .flt .f32 0, .int .i64 0] 0]) (.exit 0, (stR [.vec 0 5 a (.sym n), .bad, .bad, .vec 1 5 0 (.sym n), .sint .i64 (Int.ofNat n)] [⟨[.f32, .f32, .f32, .f32, .int .i64], m, fd, gd, bd, false⟩, rowJ [.f32, .f32, .f32, .f32, .int .i64] n a ⟨[.f32, .f32, .f32, .f32, .int .i64], m, fd, gd, bd, wr⟩ [.flt .f32 0, .flt .f32 0, .flt .f32 0, .flt .f32 0, .int .i64 0] n])) := Run.loop n (fun j => (stR [.vec 0 5 a (.sym n), .bad, .bad, .vec 1 5 0 (.sym n), .sint .i64 (Int.ofNat j)] [⟨[.f32, .f32, .f32, .f32, .int .i64], m, fd, gd, bd, false⟩, rowJ [.f32, .f32, .f32, .f32, .int .i64] n a ⟨[.f32, .f32, .f32, .f32, .int .i64], m, fd, gd, bd, wr⟩ [.flt .f32 0, .flt .f32 0, .flt .f32 0, .flt .f32 0, .int .i64 0] j])) (fun j => rfl) (fun j hj => cpy36step fd gd bd wr m a n j hj hn han) (cpy36end fd gd bd wr m a n) (by intro h; cases h)
  have h6 : Run Try.prog Try.f36.ntmps (cB (cB (cB (bodyOf Try.f36)))) (stR [.vec 0 5 a (.sym n), .bad, .bad, .vec 1 5 0 (.sym n), .sint .i64 (Int.ofNat n)] [⟨[.f32, .f32, .f32, .f32, .int .i64], m, fd, gd, bd, false⟩, rowJ [.f32, .f32, .f32, .f32, .int .i64] n a ⟨[.f32, .f32, .f32, .f32, .int .i64], m, fd, gd, bd, wr⟩ [.flt .f32 0, .flt .f32 0, .flt .f32 0, .flt .f32 0, .int .i64 0] n]) (.ret, stR [.bad, .bad, .vec 1 5 0 (.sym n)] [⟨[.f32, .f32, .f32, .f32, .int .i64], m, fd, gd, bd, false⟩, cpyR [.f32, .f32, .f32, .f32, .int .i64] (.sym n) a ⟨[.f32, .f32, .f32, .f32, .int .i64], m, fd, gd, bd, wr⟩]) :=
    Run.to g12 mixed 60 [] (by kernel_rfl) (by kernel_rfl) (by kernel_rfl) (by kernel_rfl) (by kernel_rfl) ⟨Or.inl rfl, Or.inl rfl, Or.inr (ge_eq (by kernel_rfl)), trivial⟩ ⟨⟨⟨[.f32, .f32, .f32, .f32, .int .i64], m, fd, gd, bd, false⟩, by kernel_rfl, VcLe.refl _⟩, ⟨rowJ [.f32, .f32, .f32, .f32, .int .i64] n a ⟨[.f32, .f32, .f32, .f32, .int .i64], m, fd, gd, bd, wr⟩ [.flt .f32 0, .flt .f32 0, .flt .f32 0, .flt .f32 0, .int .i64 0] n, by kernel_rfl, rowJ_all _ _ _ _ _⟩, trivial⟩ (by kernel_rfl)
  have hr : Run Try.prog Try.f36.ntmps (bodyOf Try.f36) ((viewS [⟨[.f32, .f32, .f32, .f32, .int .i64], m, fd, gd, bd, wr⟩]).start Try.f36.ntmps [.vec 0 5 a (.sym n)]) (.ret, stR [.bad, .bad, .vec 1 5 0 (.sym n)] [⟨[.f32, .f32, .f32, .f32, .int .i64], m, fd, gd, bd, false⟩, cpyR [.f32, .f32, .f32, .f32, .int .i64] (.sym n) a ⟨[.f32, .f32, .f32, .f32, .int .i64], m, fd, gd, bd, wr⟩]) := by
    have hB : (bodyOf Try.f36) = .seq (cA (bodyOf Try.f36)) (.seq (cA (cB (bodyOf Try.f36))) (.seq (.seq (cA (cA (cB (cB (bodyOf Try.f36))))) (.block 0 (.loop (cL (cK (cB (cA (cB (cB (bodyOf Try.f36)))))))))) (cB (cB (cB (bodyOf Try.f36)))))) := by kernel_rfl
    rw [hB]
    exact Run.seq h0 (Nat.le_refl _) (Run.seq h1 (by show (1 : Nat) ≤ 2; decide) (Run.seq (Run.seq h2 (Nat.le_refl _) (Run.block h3)) (Nat.le_refl _) h6))
  intro M w0 ρ w vs hM hv
  have b3 : Nat.ble (0 + n) n = true := Nat.ble_eq_true_of_le (by omega)
  have key : Calls Try.prog 36 ⟨vs⟩ w (Res M w0 ρ (viewS [⟨[.f32, .f32, .f32, .f32, .int .i64], m, fd, gd, bd, wr⟩]) ⟨.vec 1 5 0 (.sym n), [], [], [⟨[], false, some (shiftV (cpyR [.f32, .f32, .f32, .f32, .int .i64] (.sym n) a ⟨[.f32, .f32, .f32, .f32, .int .i64], m, fd, gd, bd, wr⟩) 0 (.sym n))⟩], Nat.ble (0 + n) n, none⟩) :=
    Run.calls (fr := ⟨none, some ⟨.vec 1 5 0 (.sym n), [shiftV (cpyR [.f32, .f32, .f32, .f32, .int .i64] (.sym n) a ⟨[.f32, .f32, .f32, .f32, .int .i64], m, fd, gd, bd, wr⟩) 0 (.sym n)], [], []⟩, Nat.ble (0 + n) n⟩) Try.func36 (by kernel_rfl) hr (ahv := []) (avv := []) (by kernel_rfl) rfl (by show Nat.ble (0 + n) n = true; exact b3) ⟨⟨[⟨[], false, some (cpyR [.f32, .f32, .f32, .f32, .int .i64] (.sym n) a ⟨[.f32, .f32, .f32, .f32, .int .i64], m, fd, gd, bd, wr⟩)⟩], rfl⟩, fun i o => rfl, fun i => rfl⟩ (Nat.le_of_ble_eq_true (by kernel_rfl)) hM hv
  rw [shift_cpy, b3] at key
  exact key
/-- laws.toFlueS -/
noncomputable def G13 : List (Nat × Ctr) := (36, cpyC [.f32, .f32, .f32, .f32, .int .i64] 24) :: G12
theorem g13 : Ab.Good Try.prog G13 := good_cons (sat_cpy Try.call36 (by decide) (fun i a n v hs han hb hn => cpy36 i a n v hs han hb hn)) g12

/-- impl.isIndex -/
noncomputable def G14 : List (Nat × Ctr) := (78, inl Try.prog G13 100 Try.f78) :: G13
theorem g14 : Ab.Good Try.prog G14 := good_cons (inl_sat g13 mixed Try.func78 Try.call78 100) g13

/-- (impl.Flue).isTrunk -/
noncomputable def G15 : List (Nat × Ctr) := (103, inl Try.prog G14 100 Try.f103) :: G14
theorem g15 : Ab.Good Try.prog G15 := good_cons (inl_sat g14 mixed Try.func103 Try.call103 100) g14

/-- impl.isFinite -/
noncomputable def G16 : List (Nat × Ctr) := (115, ctr1 fun a => .sbool (finF a)) :: G15
theorem g16 : Ab.Good Try.prog G16 := good_cons (sat1 (g := fun a => .sbool (finF a)) g15 mixed Try.func115 Try.call115 100 (fun a => .sbool (cond (fleB .f32 4286578687 a) (fleB .f32 a 2139095039) false)) (fun a => by kernel_rfl) (fun a ha ρ u h => by show V ρ (.sbool (finF a)) u; rw [← fin_between ha]; exact h)) g15

/-- math.Float64bits -/
noncomputable def G17 : List (Nat × Ctr) := (159, extC .f64bits) :: G16
theorem g17 : Ab.Good Try.prog G17 := good_cons (sat_ext .f64bits Try.func159 (by kernel_rfl) (by kernel_rfl) (by kernel_rfl) (by kernel_rfl)) g16

/-- math.Signbit -/
noncomputable def G18 : List (Nat × Ctr) := (148, inl Try.prog G17 100 Try.f148) :: G17
theorem g18 : Ab.Good Try.prog G18 := good_cons (inl_sat g17 mixed Try.func148 Try.call148 100) g17

/-- impl.IsAmount -/
noncomputable def G19 : List (Nat × Ctr) := (121, ctr1 fun a => .sbool (amtF a)) :: G18
theorem g19 : Ab.Good Try.prog G19 := good_cons (sat1 (g := fun a => .sbool (amtF a)) g18 mixed Try.func121 Try.call121 100 (fun a => .cbool (cond (finF a) (!nanB .f64 (wide a) && true) true) (cond (finF a) (!decide (IntKind.i64.wrap (Int.ofNat (wide a)) < 0)) false)) (fun a => by kernel_rfl) (fun a ha ρ u h => by show V ρ (.sbool (amtF a)) u; rw [← wide_neg ha]; exact cbool_say wide_nan h)) g18

/-- impl.IsShare -/
noncomputable def G20 : List (Nat × Ctr) := (79, ctr1 fun a => .sbool (shO a)) :: G19
theorem g20 : Ab.Good Try.prog G20 := good_cons (sat1 (g := fun a => .sbool (shO a)) g19 mixed Try.func79 Try.call79 100 (fun a => .sbool (shI a)) (fun a => by kernel_rfl) (fun a ha ρ u h => by show V ρ (.sbool (shO a)) u; rw [shO_eq]; exact h)) g19

/-- impl.isBetween -/
noncomputable def G21 : List (Nat × Ctr) := (107, inl Try.prog G20 100 Try.f107) :: G20
theorem g21 : Ab.Good Try.prog G21 := good_cons (inl_sat g20 mixed Try.func107 Try.call107 100) g20

/-- impl.isFlue -/
noncomputable def G22 : List (Nat × Ctr) := (119, inl Try.prog G21 100 Try.f119) :: G21
theorem g22 : Ab.Good Try.prog G22 := good_cons (inl_sat g21 mixed Try.func119 Try.call119 100) g21

/-- (impl.Flue).isBranch -/
noncomputable def G23 : List (Nat × Ctr) := (120, inl Try.prog G22 100 Try.f120) :: G22
theorem g23 : Ab.Good Try.prog G23 := good_cons (inl_sat g22 mixed Try.func120 Try.call120 100) g22


theorem chim77cI (gd : Nat → Nat → Int) (m : Num) (a n j : Nat) (han : a + n ≤ m.val) (h1 : 0 ≤ (gd (Nat.add a j) 4)) (h2 : (gd (Nat.add a j) 4) < Int.ofNat n) : (decide (0 ≤ (gd (Nat.add a j) 4)) && Nat.ble ((gd (Nat.add a j) 4).toNat + 1) n) = true ∧ Nat.ble (Nat.add a (gd (Nat.add a j) 4).toNat + 1) m.val = true := by
  have e : (gd (Nat.add a j) 4).toNat < n := by
    have h2 : (gd (Nat.add a j) 4) < (n : Int) := h2
    omega
  refine ⟨?_, Nat.ble_eq_true_of_le (by show a + _ + 1 ≤ m.val; omega)⟩
  rw [decide_eq_true h1, Nat.ble_eq_true_of_le (by omega)]; rfl

theorem chim77step (fd : Nat → Nat → Nat) (gd : Nat → Nat → Int) (bd : Nat → Nat → Bool) (wr : Bool) (m : Num) (a n : Nat) (j : Nat) (hj : j < n) (hn : n ≤ 140737488355328) (han : a + n ≤ m.val) (hp : badI (⟨[.f32, .f32, .f32, .f32, .int .i64], m, fd, gd, bd, wr⟩ : Vc) a n j = false) : Run Try.prog Try.f77.ntmps (cL (cK (cB (cA (cB (cB (bodyOf Try.f77))))))) (stR [.vec 0 5 a (.sym n), .bad, .bad, .bad, .bad, .bad, .bad, .bad, .bad, .bad, .bad, .bad, .bad, .vec 0 5 a (.sym n), .sint .i64 (Int.ofNat n), .sint .i64 (Int.ofNat j)] [⟨[.f32, .f32, .f32, .f32, .int .i64], m, fd, gd, bd, false⟩]) (.normal, (stR [.vec 0 5 a (.sym n), .bad, .bad, .bad, .bad, .bad, .bad, .bad, .bad, .bad, .bad, .bad, .bad, .vec 0 5 a (.sym n), .sint .i64 (Int.ofNat n), .sint .i64 (Int.ofNat (j + 1))] [⟨[.f32, .f32, .f32, .f32, .int .i64], m, fd, gd, bd, false⟩])) := by
  have c1 : Nat.ble (j + 1) n = true := Nat.ble_eq_true_of_le hj
  have c2 : Nat.ble (Nat.add a j + 1) m.val = true := Nat.ble_eq_true_of_le (by show a + j + 1 ≤ m.val; omega)
  refine Run.toC g23 mixed 60 [true, false] (by intro v h; cases h) (Nat.le_refl _) (by kernel_rfl) ?_ ?_ (by kernel_rfl) (Nat.le_of_ble_eq_true (by kernel_rfl)) ?_ ⟨⟨⟨[.f32, .f32, .f32, .f32, .int .i64], m, fd, gd, bd, false⟩, by kernel_rfl, VcLe.refl _⟩, trivial⟩ (by kernel_rfl)
  · have e : wBs (wayO [true, false] (stR [.vec 0 5 a (.sym n), .bad, .bad, .bad, .bad, .bad, .bad, .bad, .bad, .bad, .bad, .bad, .bad, .vec 0 5 a (.sym n), .sint .i64 (Int.ofNat n), .sint .i64 (Int.ofNat j)] [⟨[.f32, .f32, .f32, .f32, .int .i64], m, fd, gd, bd, false⟩]) (Ab.ev Try.prog G23 Try.f77.ntmps 60 (cL (cK (cB (cA (cB (cB (bodyOf Try.f77))))))) (stR [.vec 0 5 a (.sym n), .bad, .bad, .bad, .bad, .bad, .bad, .bad, .bad, .bad, .bad, .bad, .bad, .vec 0 5 a (.sym n), .sint .i64 (Int.ofNat n), .sint .i64 (Int.ofNat j)] [⟨[.f32, .f32, .f32, .f32, .int .i64], m, fd, gd, bd, false⟩]) Dl.nil)) = [decide (Int.ofNat j < Int.ofNat n), badI (⟨[.f32, .f32, .f32, .f32, .int .i64], m, fd, gd, bd, wr⟩ : Vc) a n j] := by kernel_rfl
    rw [e, dec_lt hj, hp]
  · have e : wNd (wayO [true, false] (stR [.vec 0 5 a (.sym n), .bad, .bad, .bad, .bad, .bad, .bad, .bad, .bad, .bad, .bad, .bad, .bad, .vec 0 5 a (.sym n), .sint .i64 (Int.ofNat n), .sint .i64 (Int.ofNat j)] [⟨[.f32, .f32, .f32, .f32, .int .i64], m, fd, gd, bd, false⟩]) (Ab.ev Try.prog G23 Try.f77.ntmps 60 (cL (cK (cB (cA (cB (cB (bodyOf Try.f77))))))) (stR [.vec 0 5 a (.sym n), .bad, .bad, .bad, .bad, .bad, .bad, .bad, .bad, .bad, .bad, .bad, .bad, .vec 0 5 a (.sym n), .sint .i64 (Int.ofNat n), .sint .i64 (Int.ofNat j)] [⟨[.f32, .f32, .f32, .f32, .int .i64], m, fd, gd, bd, false⟩]) Dl.nil)) = (cond (cond (andN (andN (true) (Nat.ble (j + 1) n)) (Nat.ble (Nat.add a j + 1) m.val)) (ndc (!flV (⟨[.f32, .f32, .f32, .f32, .int .i64], m, fd, gd, bd, wr⟩ : Vc) (Nat.add a j)) true (ndc (!((gd (Nat.add a j) 4) == -1)) (ndc (cond (decide (0 ≤ (gd (Nat.add a j) 4))) (decide ((gd (Nat.add a j) 4) < Int.ofNat n)) false) (andN (andN (true) ((decide (0 ≤ (gd (Nat.add a j) 4)) && Nat.ble ((gd (Nat.add a j) 4).toNat + 1) n))) (Nat.ble (Nat.add a (gd (Nat.add a j) 4).toNat + 1) m.val)) true) true)) false) true false) := by kernel_rfl
    have hd : (ndc (!flV (⟨[.f32, .f32, .f32, .f32, .int .i64], m, fd, gd, bd, wr⟩ : Vc) (Nat.add a j)) true (ndc (!((gd (Nat.add a j) 4) == -1)) (ndc (cond (decide (0 ≤ (gd (Nat.add a j) 4))) (decide ((gd (Nat.add a j) 4) < Int.ofNat n)) false) (andN (andN (true) ((decide (0 ≤ (gd (Nat.add a j) 4)) && Nat.ble ((gd (Nat.add a j) 4).toNat + 1) n))) (Nat.ble (Nat.add a (gd (Nat.add a j) 4).toNat + 1) m.val)) true) true)) = true := by
      simp only [ndc_eq]
      cases flV (⟨[.f32, .f32, .f32, .f32, .int .i64], m, fd, gd, bd, wr⟩ : Vc) (Nat.add a j) with
      | false => rfl
      | true =>
        cases hz : ((gd (Nat.add a j) 4) == -1) with
        | true => rfl
        | false =>
          cases h1 : decide (0 ≤ (gd (Nat.add a j) 4)) with
          | false => rfl
          | true =>
            cases h2 : decide ((gd (Nat.add a j) 4) < Int.ofNat n) with
            | false => rfl
            | true =>
              obtain ⟨k1, k2⟩ := chim77cI gd m a n j han (of_decide_eq_true h1) (of_decide_eq_true h2)
              rw [h1] at k1
              rw [k1, k2]; rfl
    rw [e, c1, c2, hd]; rfl
  · refine ⟨Or.inr ⟨rfl, ge_eq (by kernel_rfl)⟩, Or.inl rfl, Or.inl rfl, Or.inl rfl, Or.inl rfl, Or.inl rfl, Or.inl rfl, Or.inl rfl, Or.inl rfl, Or.inl rfl, Or.inl rfl, Or.inl rfl, Or.inl rfl, Or.inr ⟨rfl, ge_eq (by kernel_rfl)⟩, Or.inr ⟨rfl, ge_eq (by kernel_rfl)⟩, Or.inr ⟨rfl, ge_eq ?_⟩, trivial⟩
    have e : (wS (wayO [true, false] (stR [.vec 0 5 a (.sym n), .bad, .bad, .bad, .bad, .bad, .bad, .bad, .bad, .bad, .bad, .bad, .bad, .vec 0 5 a (.sym n), .sint .i64 (Int.ofNat n), .sint .i64 (Int.ofNat j)] [⟨[.f32, .f32, .f32, .f32, .int .i64], m, fd, gd, bd, false⟩]) (Ab.ev Try.prog G23 Try.f77.ntmps 60 (cL (cK (cB (cA (cB (cB (bodyOf Try.f77))))))) (stR [.vec 0 5 a (.sym n), .bad, .bad, .bad, .bad, .bad, .bad, .bad, .bad, .bad, .bad, .bad, .bad, .vec 0 5 a (.sym n), .sint .i64 (Int.ofNat n), .sint .i64 (Int.ofNat j)] [⟨[.f32, .f32, .f32, .f32, .int .i64], m, fd, gd, bd, false⟩]) Dl.nil))).get 15 = .sint .i64 (IntKind.i64.wrap (Int.ofNat j + 1)) := by kernel_rfl
    rw [e, wrap_next hj hn]

theorem chim77ret (fd : Nat → Nat → Nat) (gd : Nat → Nat → Int) (bd : Nat → Nat → Bool) (wr : Bool) (m : Num) (a n : Nat) (j : Nat) (hj : j < n) (hn : n ≤ 140737488355328) (han : a + n ≤ m.val) (hp : badI (⟨[.f32, .f32, .f32, .f32, .int .i64], m, fd, gd, bd, wr⟩ : Vc) a n j = true) : Run Try.prog Try.f77.ntmps (cL (cK (cB (cA (cB (cB (bodyOf Try.f77))))))) (stR [.vec 0 5 a (.sym n), .bad, .bad, .bad, .bad, .bad, .bad, .bad, .bad, .bad, .bad, .bad, .bad, .vec 0 5 a (.sym n), .sint .i64 (Int.ofNat n), .sint .i64 (Int.ofNat j)] [⟨[.f32, .f32, .f32, .f32, .int .i64], m, fd, gd, bd, false⟩]) (.ret, (stR [.bad, .bad, .sbool false] [⟨[.f32, .f32, .f32, .f32, .int .i64], m, fd, gd, bd, false⟩])) := by
  have c1 : Nat.ble (j + 1) n = true := Nat.ble_eq_true_of_le hj
  have c2 : Nat.ble (Nat.add a j + 1) m.val = true := Nat.ble_eq_true_of_le (by show a + j + 1 ≤ m.val; omega)
  refine Run.toC g23 mixed 60 [true, true] (by intro v h; cases h) (Nat.le_refl _) (by kernel_rfl) ?_ ?_ (by kernel_rfl) (Nat.le_of_ble_eq_true (by kernel_rfl)) ⟨Or.inl rfl, Or.inl rfl, Or.inr ⟨rfl, ge_bool (by kernel_rfl)⟩, trivial⟩ ⟨⟨⟨[.f32, .f32, .f32, .f32, .int .i64], m, fd, gd, bd, false⟩, by kernel_rfl, VcLe.refl _⟩, trivial⟩ (by kernel_rfl)
  · have e : wBs (wayO [true, true] (stR [.vec 0 5 a (.sym n), .bad, .bad, .bad, .bad, .bad, .bad, .bad, .bad, .bad, .bad, .bad, .bad, .vec 0 5 a (.sym n), .sint .i64 (Int.ofNat n), .sint .i64 (Int.ofNat j)] [⟨[.f32, .f32, .f32, .f32, .int .i64], m, fd, gd, bd, false⟩]) (Ab.ev Try.prog G23 Try.f77.ntmps 60 (cL (cK (cB (cA (cB (cB (bodyOf Try.f77))))))) (stR [.vec 0 5 a (.sym n), .bad, .bad, .bad, .bad, .bad, .bad, .bad, .bad, .bad, .bad, .bad, .bad, .vec 0 5 a (.sym n), .sint .i64 (Int.ofNat n), .sint .i64 (Int.ofNat j)] [⟨[.f32, .f32, .f32, .f32, .int .i64], m, fd, gd, bd, false⟩]) Dl.nil)) = [decide (Int.ofNat j < Int.ofNat n), badI (⟨[.f32, .f32, .f32, .f32, .int .i64], m, fd, gd, bd, wr⟩ : Vc) a n j] := by kernel_rfl
    rw [e, dec_lt hj, hp]
  · have e : wNd (wayO [true, true] (stR [.vec 0 5 a (.sym n), .bad, .bad, .bad, .bad, .bad, .bad, .bad, .bad, .bad, .bad, .bad, .bad, .vec 0 5 a (.sym n), .sint .i64 (Int.ofNat n), .sint .i64 (Int.ofNat j)] [⟨[.f32, .f32, .f32, .f32, .int .i64], m, fd, gd, bd, false⟩]) (Ab.ev Try.prog G23 Try.f77.ntmps 60 (cL (cK (cB (cA (cB (cB (bodyOf Try.f77))))))) (stR [.vec 0 5 a (.sym n), .bad, .bad, .bad, .bad, .bad, .bad, .bad, .bad, .bad, .bad, .bad, .bad, .vec 0 5 a (.sym n), .sint .i64 (Int.ofNat n), .sint .i64 (Int.ofNat j)] [⟨[.f32, .f32, .f32, .f32, .int .i64], m, fd, gd, bd, false⟩]) Dl.nil)) = (cond (cond (andN (andN (true) (Nat.ble (j + 1) n)) (Nat.ble (Nat.add a j + 1) m.val)) (ndc (!flV (⟨[.f32, .f32, .f32, .f32, .int .i64], m, fd, gd, bd, wr⟩ : Vc) (Nat.add a j)) true (ndc (!((gd (Nat.add a j) 4) == -1)) (ndc (cond (decide (0 ≤ (gd (Nat.add a j) 4))) (decide ((gd (Nat.add a j) 4) < Int.ofNat n)) false) (andN (andN (true) ((decide (0 ≤ (gd (Nat.add a j) 4)) && Nat.ble ((gd (Nat.add a j) 4).toNat + 1) n))) (Nat.ble (Nat.add a (gd (Nat.add a j) 4).toNat + 1) m.val)) true) true)) false) true false) := by kernel_rfl
    have hd : (ndc (!flV (⟨[.f32, .f32, .f32, .f32, .int .i64], m, fd, gd, bd, wr⟩ : Vc) (Nat.add a j)) true (ndc (!((gd (Nat.add a j) 4) == -1)) (ndc (cond (decide (0 ≤ (gd (Nat.add a j) 4))) (decide ((gd (Nat.add a j) 4) < Int.ofNat n)) false) (andN (andN (true) ((decide (0 ≤ (gd (Nat.add a j) 4)) && Nat.ble ((gd (Nat.add a j) 4).toNat + 1) n))) (Nat.ble (Nat.add a (gd (Nat.add a j) 4).toNat + 1) m.val)) true) true)) = true := by
      simp only [ndc_eq]
      cases flV (⟨[.f32, .f32, .f32, .f32, .int .i64], m, fd, gd, bd, wr⟩ : Vc) (Nat.add a j) with
      | false => rfl
      | true =>
        cases hz : ((gd (Nat.add a j) 4) == -1) with
        | true => rfl
        | false =>
          cases h1 : decide (0 ≤ (gd (Nat.add a j) 4)) with
          | false => rfl
          | true =>
            cases h2 : decide ((gd (Nat.add a j) 4) < Int.ofNat n) with
            | false => rfl
            | true =>
              obtain ⟨k1, k2⟩ := chim77cI gd m a n j han (of_decide_eq_true h1) (of_decide_eq_true h2)
              rw [h1] at k1
              rw [k1, k2]; rfl
    rw [e, c1, c2, hd]; rfl

theorem chim77end (fd : Nat → Nat → Nat) (gd : Nat → Nat → Int) (bd : Nat → Nat → Bool) (wr : Bool) (m : Num) (a n : Nat) : Run Try.prog Try.f77.ntmps (cL (cK (cB (cA (cB (cB (bodyOf Try.f77))))))) (stR [.vec 0 5 a (.sym n), .bad, .bad, .bad, .bad, .bad, .bad, .bad, .bad, .bad, .bad, .bad, .bad, .vec 0 5 a (.sym n), .sint .i64 (Int.ofNat n), .sint .i64 (Int.ofNat n)] [⟨[.f32, .f32, .f32, .f32, .int .i64], m, fd, gd, bd, false⟩]) (.exit 0, (stR [.vec 0 5 a (.sym n), .bad, .bad, .bad, .bad, .bad, .bad, .bad, .bad, .bad, .bad, .bad, .bad, .vec 0 5 a (.sym n), .sint .i64 (Int.ofNat n), .sint .i64 (Int.ofNat n)] [⟨[.f32, .f32, .f32, .f32, .int .i64], m, fd, gd, bd, false⟩])) := by
  refine Run.to g23 mixed 60 [false] (by kernel_rfl) ?_ (by kernel_rfl) (by kernel_rfl) (by kernel_rfl) ⟨Or.inr (ge_eq (by kernel_rfl)), Or.inl rfl, Or.inl rfl, Or.inl rfl, Or.inl rfl, Or.inl rfl, Or.inl rfl, Or.inl rfl, Or.inl rfl, Or.inl rfl, Or.inl rfl, Or.inl rfl, Or.inl rfl, Or.inr (ge_eq (by kernel_rfl)), Or.inr (ge_eq (by kernel_rfl)), Or.inr (ge_eq (by kernel_rfl)), trivial⟩ ⟨⟨⟨[.f32, .f32, .f32, .f32, .int .i64], m, fd, gd, bd, false⟩, by kernel_rfl, VcLe.refl _⟩, trivial⟩ (by kernel_rfl)
  have e : wBs (wayO [false] (stR [.vec 0 5 a (.sym n), .bad, .bad, .bad, .bad, .bad, .bad, .bad, .bad, .bad, .bad, .bad, .bad, .vec 0 5 a (.sym n), .sint .i64 (Int.ofNat n), .sint .i64 (Int.ofNat n)] [⟨[.f32, .f32, .f32, .f32, .int .i64], m, fd, gd, bd, false⟩]) (Ab.ev Try.prog G23 Try.f77.ntmps 60 (cL (cK (cB (cA (cB (cB (bodyOf Try.f77))))))) (stR [.vec 0 5 a (.sym n), .bad, .bad, .bad, .bad, .bad, .bad, .bad, .bad, .bad, .bad, .bad, .bad, .vec 0 5 a (.sym n), .sint .i64 (Int.ofNat n), .sint .i64 (Int.ofNat n)] [⟨[.f32, .f32, .f32, .f32, .int .i64], m, fd, gd, bd, false⟩]) Dl.nil)) = [decide (Int.ofNat n < Int.ofNat n)] := by kernel_rfl
  rw [e, dec_irr]

theorem chim77 (i a n : Nat) (v : Vc) (hs : v.sh = flSh) (han : a + n ≤ v.n.val) (hn : n ≤ 140737488355328) : OnRows Try.prog 77 [⟨i, 5, a, .sym n⟩] [] [v] ⟨.sbool (chimV v a n), [], [], [], true, none⟩ := by
  obtain ⟨sh, m, fd, gd, bd, wr⟩ := v
  have hs : sh = [.f32, .f32, .f32, .f32, .int .i64] := hs
  subst hs
  have h0 : Run Try.prog Try.f77.ntmps (cA (bodyOf Try.f77)) ((viewS [(⟨[.f32, .f32, .f32, .f32, .int .i64], m, fd, gd, bd, wr⟩ : Vc)]).start Try.f77.ntmps [.vec 0 5 a (.sym n)]) (.normal, (stR [.vec 0 5 a (.sym n)] [⟨[.f32, .f32, .f32, .f32, .int .i64], m, fd, gd, bd, false⟩])) :=
    Run.to g23 mixed 60 [] (by kernel_rfl) (by kernel_rfl) (by kernel_rfl) (by kernel_rfl) (by kernel_rfl) ⟨Or.inr (ge_eq (by kernel_rfl)), trivial⟩ ⟨⟨⟨[.f32, .f32, .f32, .f32, .int .i64], m, fd, gd, bd, false⟩, by kernel_rfl, VcLe.refl _⟩, trivial⟩ (by kernel_rfl)
  have ebT : wBs (wayO [true] (stR [.vec 0 5 a (.sym n)] [⟨[.f32, .f32, .f32, .f32, .int .i64], m, fd, gd, bd, false⟩]) (Ab.ev Try.prog G23 Try.f77.ntmps 60 (cA (cB (bodyOf Try.f77))) (stR [.vec 0 5 a (.sym n)] [⟨[.f32, .f32, .f32, .f32, .int .i64], m, fd, gd, bd, false⟩]) Dl.nil)) = [cond (decide (Int.ofNat n < 1)) true (decide (Int.ofNat n > 6))] := by kernel_rfl
  have ebF : wBs (wayO [false] (stR [.vec 0 5 a (.sym n)] [⟨[.f32, .f32, .f32, .f32, .int .i64], m, fd, gd, bd, false⟩]) (Ab.ev Try.prog G23 Try.f77.ntmps 60 (cA (cB (bodyOf Try.f77))) (stR [.vec 0 5 a (.sym n)] [⟨[.f32, .f32, .f32, .f32, .int .i64], m, fd, gd, bd, false⟩]) Dl.nil)) = [cond (decide (Int.ofNat n < 1)) true (decide (Int.ofNat n > 6))] := by kernel_rfl
  have hr : Run Try.prog Try.f77.ntmps (bodyOf Try.f77) ((viewS [(⟨[.f32, .f32, .f32, .f32, .int .i64], m, fd, gd, bd, wr⟩ : Vc)]).start Try.f77.ntmps [.vec 0 5 a (.sym n)]) (.ret, (stR [.bad, .bad, .sbool (chimV (⟨[.f32, .f32, .f32, .f32, .int .i64], m, fd, gd, bd, wr⟩ : Vc) a n)] [⟨[.f32, .f32, .f32, .f32, .int .i64], m, fd, gd, bd, false⟩])) := by
    have hB : (bodyOf Try.f77) = .seq (cA (bodyOf Try.f77)) (.seq (cA (cB (bodyOf Try.f77))) (.seq (.seq (cA (cA (cB (cB (bodyOf Try.f77))))) (.block 0 (.loop (cL (cK (cB (cA (cB (cB (bodyOf Try.f77)))))))))) (cB (cB (cB (bodyOf Try.f77)))))) := by kernel_rfl
    rw [hB]
    refine Run.seq h0 (Nat.le_refl _) ?_
    unfold chimV
    cases hT : (cond (decide (Int.ofNat n < 1)) true (decide (Int.ofNat n > 6))) with
    | true =>
      have h1 : Run Try.prog Try.f77.ntmps (cA (cB (bodyOf Try.f77))) (stR [.vec 0 5 a (.sym n)] [⟨[.f32, .f32, .f32, .f32, .int .i64], m, fd, gd, bd, false⟩]) (.ret, (stR [.bad, .bad, .sbool false] [⟨[.f32, .f32, .f32, .f32, .int .i64], m, fd, gd, bd, false⟩])) := by
        refine Run.to g23 mixed 60 [true] (by kernel_rfl) ?_ (by kernel_rfl) (by kernel_rfl) (by kernel_rfl) ⟨Or.inl rfl, Or.inl rfl, Or.inr (ge_bool (by kernel_rfl)), trivial⟩ ⟨⟨⟨[.f32, .f32, .f32, .f32, .int .i64], m, fd, gd, bd, false⟩, by kernel_rfl, VcLe.refl _⟩, trivial⟩ (by kernel_rfl)
        rw [ebT, hT]
      exact Run.seq_out h1 (by intro h; cases h)
    | false =>
      have h1 : Run Try.prog Try.f77.ntmps (cA (cB (bodyOf Try.f77))) (stR [.vec 0 5 a (.sym n)] [⟨[.f32, .f32, .f32, .f32, .int .i64], m, fd, gd, bd, false⟩]) (.normal, (stR [.vec 0 5 a (.sym n)] [⟨[.f32, .f32, .f32, .f32, .int .i64], m, fd, gd, bd, false⟩])) := by
        refine Run.to g23 mixed 60 [false] (by kernel_rfl) ?_ (by kernel_rfl) (by kernel_rfl) (by kernel_rfl) ⟨Or.inr (ge_eq (by kernel_rfl)), trivial⟩ ⟨⟨⟨[.f32, .f32, .f32, .f32, .int .i64], m, fd, gd, bd, false⟩, by kernel_rfl, VcLe.refl _⟩, trivial⟩ (by kernel_rfl)
        rw [ebF, hT]
      have h2 : Run Try.prog Try.f77.ntmps (cA (cA (cB (cB (bodyOf Try.f77))))) (stR [.vec 0 5 a (.sym n)] [⟨[.f32, .f32, .f32, .f32, .int .i64], m, fd, gd, bd, false⟩]) (.normal, (stR [.vec 0 5 a (.sym n), .bad, .bad, .bad, .bad, .bad, .bad, .bad, .bad, .bad, .bad, .bad, .bad, .vec 0 5 a (.sym n), .sint .i64 (Int.ofNat n), .sint .i64 (Int.ofNat 0)] [⟨[.f32, .f32, .f32, .f32, .int .i64], m, fd, gd, bd, false⟩])) :=
        Run.to g23 mixed 60 [] (by kernel_rfl) (by kernel_rfl) (by kernel_rfl) (by kernel_rfl) (by kernel_rfl) ⟨Or.inr (ge_eq (by kernel_rfl)), Or.inl rfl, Or.inl rfl, Or.inl rfl, Or.inl rfl, Or.inl rfl, Or.inl rfl, Or.inl rfl, Or.inl rfl, Or.inl rfl, Or.inl rfl, Or.inl rfl, Or.inl rfl, Or.inr (ge_eq (by kernel_rfl)), Or.inr (ge_eq (by kernel_rfl)), Or.inr (ge_int (by kernel_rfl)), trivial⟩ ⟨⟨⟨[.f32, .f32, .f32, .f32, .int .i64], m, fd, gd, bd, false⟩, by kernel_rfl, VcLe.refl _⟩, trivial⟩ (by kernel_rfl)
      show Run Try.prog Try.f77.ntmps _ _ (.ret, (stR [.bad, .bad, .sbool (allB n (fun k => !badI (⟨[.f32, .f32, .f32, .f32, .int .i64], m, fd, gd, bd, wr⟩ : Vc) a n k))] [⟨[.f32, .f32, .f32, .f32, .int .i64], m, fd, gd, bd, false⟩]))
      refine Run.seq h1 (Nat.le_refl _) ?_
      cases hall : allB n (fun k => !badI (⟨[.f32, .f32, .f32, .f32, .int .i64], m, fd, gd, bd, wr⟩ : Vc) a n k) with
      | true =>
        have hp := allB_true hall
        have h3 : Run Try.prog Try.f77.ntmps (.loop (cL (cK (cB (cA (cB (cB (bodyOf Try.f77)))))))) (stR [.vec 0 5 a (.sym n), .bad, .bad, .bad, .bad, .bad, .bad, .bad, .bad, .bad, .bad, .bad, .bad, .vec 0 5 a (.sym n), .sint .i64 (Int.ofNat n), .sint .i64 (Int.ofNat 0)] [⟨[.f32, .f32, .f32, .f32, .int .i64], m, fd, gd, bd, false⟩]) (.exit 0, (stR [.vec 0 5 a (.sym n), .bad, .bad, .bad, .bad, .bad, .bad, .bad, .bad, .bad, .bad, .bad, .bad, .vec 0 5 a (.sym n), .sint .i64 (Int.ofNat n), .sint .i64 (Int.ofNat n)] [⟨[.f32, .f32, .f32, .f32, .int .i64], m, fd, gd, bd, false⟩])) := Run.loop n (fun j => (stR [.vec 0 5 a (.sym n), .bad, .bad, .bad, .bad, .bad, .bad, .bad, .bad, .bad, .bad, .bad, .bad, .vec 0 5 a (.sym n), .sint .i64 (Int.ofNat n), .sint .i64 (Int.ofNat j)] [⟨[.f32, .f32, .f32, .f32, .int .i64], m, fd, gd, bd, false⟩])) (fun j => rfl) (fun j hj => chim77step fd gd bd wr m a n j hj hn han (by simpa using hp j hj)) (chim77end fd gd bd wr m a n) (by intro h; cases h)
        have h6 : Run Try.prog Try.f77.ntmps (cB (cB (cB (bodyOf Try.f77)))) (stR [.vec 0 5 a (.sym n), .bad, .bad, .bad, .bad, .bad, .bad, .bad, .bad, .bad, .bad, .bad, .bad, .vec 0 5 a (.sym n), .sint .i64 (Int.ofNat n), .sint .i64 (Int.ofNat n)] [⟨[.f32, .f32, .f32, .f32, .int .i64], m, fd, gd, bd, false⟩]) (.ret, (stR [.bad, .bad, .sbool true] [⟨[.f32, .f32, .f32, .f32, .int .i64], m, fd, gd, bd, false⟩])) :=
          Run.to g23 mixed 60 [] (by kernel_rfl) (by kernel_rfl) (by kernel_rfl) (by kernel_rfl) (by kernel_rfl) ⟨Or.inl rfl, Or.inl rfl, Or.inr (ge_bool (by kernel_rfl)), trivial⟩ ⟨⟨⟨[.f32, .f32, .f32, .f32, .int .i64], m, fd, gd, bd, false⟩, by kernel_rfl, VcLe.refl _⟩, trivial⟩ (by kernel_rfl)
        exact Run.seq (Run.seq h2 (Nat.le_refl _) (Run.block h3)) (Nat.le_refl _) h6
      | false =>
        obtain ⟨j, hj, hpj, hpk⟩ := allB_false hall
        have h3 : Run Try.prog Try.f77.ntmps (.loop (cL (cK (cB (cA (cB (cB (bodyOf Try.f77)))))))) (stR [.vec 0 5 a (.sym n), .bad, .bad, .bad, .bad, .bad, .bad, .bad, .bad, .bad, .bad, .bad, .bad, .vec 0 5 a (.sym n), .sint .i64 (Int.ofNat n), .sint .i64 (Int.ofNat 0)] [⟨[.f32, .f32, .f32, .f32, .int .i64], m, fd, gd, bd, false⟩]) (.ret, (stR [.bad, .bad, .sbool false] [⟨[.f32, .f32, .f32, .f32, .int .i64], m, fd, gd, bd, false⟩])) := Run.loop j (fun j => (stR [.vec 0 5 a (.sym n), .bad, .bad, .bad, .bad, .bad, .bad, .bad, .bad, .bad, .bad, .bad, .bad, .vec 0 5 a (.sym n), .sint .i64 (Int.ofNat n), .sint .i64 (Int.ofNat j)] [⟨[.f32, .f32, .f32, .f32, .int .i64], m, fd, gd, bd, false⟩])) (fun j => rfl) (fun k hk => chim77step fd gd bd wr m a n k (by omega) hn han (by simpa using hpk k hk)) (chim77ret fd gd bd wr m a n j hj hn han (by simpa using hpj)) (by intro h; cases h)
        exact Run.seq_out (Run.seq h2 (Nat.le_refl _) (Run.block_out h3 (by intro h; cases h))) (by intro h; cases h)
  intro M w0 ρ w vs hM hv
  exact Run.calls (fr := ⟨none, some ⟨.sbool (chimV (⟨[.f32, .f32, .f32, .f32, .int .i64], m, fd, gd, bd, wr⟩ : Vc) a n), [], [], []⟩, true⟩) Try.func77 (by kernel_rfl) hr (ahv := []) (avv := []) (by kernel_rfl) rfl rfl ⟨⟨[], rfl⟩, fun i o => rfl, fun i => rfl⟩ (Nat.le_of_ble_eq_true (by kernel_rfl)) hM hv
/-- impl.ValidChimney -/
noncomputable def G24 : List (Nat × Ctr) := (77, chimC) :: G23
theorem g24 : Ab.Good Try.prog G24 := good_cons (sat_chim Try.call77 (fun i a n v hs han hn => chim77 i a n v hs han hn)) g23

/-- slices.Clone[[]impl.Flue,impl.Flue] -/
noncomputable def G25 : List (Nat × Ctr) := (122, inl Try.prog G24 100 Try.f122) :: G24
theorem g25 : Ab.Good Try.prog G25 := good_cons (inl_sat g24 mixed Try.func122 Try.call122 100) g24

/-- impl.withDamper -/
noncomputable def G26 : List (Nat × Ctr) := (80, inl Try.prog G25 100 Try.f80) :: G25
theorem g26 : Ab.Good Try.prog G26 := good_cons (inl_sat g25 mixed Try.func80 Try.call80 100) g25

/-- impl.SetFlue -/
noncomputable def G27 : List (Nat × Ctr) := (37, inl Try.prog G26 100 Try.f37) :: G26
theorem g27 : Ab.Good Try.prog G27 := good_cons (inl_sat g26 mixed Try.func37 Try.call37 100) g26

/-- laws.sameFloat -/
noncomputable def G28 : List (Nat × Ctr) := (31, ctrD2 fun a b => .sbool (sO a b)) :: G27
theorem g28 : Ab.Good Try.prog G28 := good_cons (satD2 (g := fun a b => .sbool (sO a b)) g27 mixed Try.func31 Try.call31 100 (fun a b => .sbool (same64 a b)) (fun a b => by kernel_rfl) (fun a b _ _ ρ u h => by show V ρ (.sbool (sO a b)) u; rw [sO_eq]; exact h)) g27

/-- laws.eqFlue -/
noncomputable def G29 : List (Nat × Ctr) := (81, inl Try.prog G28 100 Try.f81) :: G28
theorem g29 : Ab.Good Try.prog G29 := good_cons (inl_sat g28 mixed Try.func81 Try.call81 100) g28

noncomputable def elFlue : ElQ := fun f g f' g' => cond (!sO (wide (f 0)) (wide (f' 0))) false (cond (!sO (wide (f 1)) (wide (f' 1))) false (cond (!sO (wide (f 2)) (wide (f' 2))) false (cond (!sO (wide (f 3)) (wide (f' 3))) false (cond (g 4 != g' 4) false (true)))))
theorem elFlue_self (f : Nat → Nat) (g : Nat → Int) : elFlue f g f g = true := by
  unfold elFlue; simp [sO_self]

theorem eqs38step (fd : Nat → Nat → Nat) (gd : Nat → Nat → Int) (bd : Nat → Nat → Bool) (wr : Bool) (m : Num) (fd' : Nat → Nat → Nat) (gd' : Nat → Nat → Int) (bd' : Nat → Nat → Bool) (wr' : Bool) (m' : Num) (a a' n n' : Nat) (j : Nat) (hj : j < n) (hnn : n = n') (hn : n ≤ 140737488355328) (han : a + n ≤ m.val) (han' : a' + n' ≤ m'.val) (hp : (elFlue (fd (Nat.add a j)) (gd (Nat.add a j)) (fd' (Nat.add a' j)) (gd' (Nat.add a' j))) = true) : Run Try.prog Try.f38.ntmps (cL (cK (cB (cA (cB (cB (bodyOf Try.f38))))))) (stR [.vec 0 5 a (.sym n), .vec 1 5 a' (.sym n'), .bad, .bad, .bad, .sint .i64 (Int.ofNat j)] [⟨[.f32, .f32, .f32, .f32, .int .i64], m, fd, gd, bd, false⟩, ⟨[.f32, .f32, .f32, .f32, .int .i64], m', fd', gd', bd', false⟩]) (.normal, (stR [.vec 0 5 a (.sym n), .vec 1 5 a' (.sym n'), .bad, .bad, .bad, .sint .i64 (Int.ofNat (j + 1))] [⟨[.f32, .f32, .f32, .f32, .int .i64], m, fd, gd, bd, false⟩, ⟨[.f32, .f32, .f32, .f32, .int .i64], m', fd', gd', bd', false⟩])) := by
  have c1 : Nat.ble (j + 1) n = true := Nat.ble_eq_true_of_le hj
  have c2 : Nat.ble (Nat.add a j + 1) m.val = true := Nat.ble_eq_true_of_le (by show a + j + 1 ≤ m.val; omega)
  have c3 : Nat.ble (j + 1) n' = true := Nat.ble_eq_true_of_le (by omega)
  have c4 : Nat.ble (Nat.add a' j + 1) m'.val = true := Nat.ble_eq_true_of_le (by show a' + j + 1 ≤ m'.val; omega)
  refine Run.to g29 mixed 60 [true, false] (by kernel_rfl) ?_ ?_ (by kernel_rfl) (by kernel_rfl) ?_ ⟨⟨⟨[.f32, .f32, .f32, .f32, .int .i64], m, fd, gd, bd, false⟩, by kernel_rfl, VcLe.refl _⟩, ⟨⟨[.f32, .f32, .f32, .f32, .int .i64], m', fd', gd', bd', false⟩, by kernel_rfl, VcLe.refl _⟩, trivial⟩ (by kernel_rfl)
  · have e : wBs (wayO [true, false] (stR [.vec 0 5 a (.sym n), .vec 1 5 a' (.sym n'), .bad, .bad, .bad, .sint .i64 (Int.ofNat j)] [⟨[.f32, .f32, .f32, .f32, .int .i64], m, fd, gd, bd, false⟩, ⟨[.f32, .f32, .f32, .f32, .int .i64], m', fd', gd', bd', false⟩]) (Ab.ev Try.prog G29 Try.f38.ntmps 60 (cL (cK (cB (cA (cB (cB (bodyOf Try.f38))))))) (stR [.vec 0 5 a (.sym n), .vec 1 5 a' (.sym n'), .bad, .bad, .bad, .sint .i64 (Int.ofNat j)] [⟨[.f32, .f32, .f32, .f32, .int .i64], m, fd, gd, bd, false⟩, ⟨[.f32, .f32, .f32, .f32, .int .i64], m', fd', gd', bd', false⟩]) Dl.nil)) = [decide (Int.ofNat j < Int.ofNat n), !(elFlue (fd (Nat.add a j)) (gd (Nat.add a j)) (fd' (Nat.add a' j)) (gd' (Nat.add a' j)))] := by kernel_rfl
    rw [e, dec_lt hj, hp]; rfl
  · have e : wNd (wayO [true, false] (stR [.vec 0 5 a (.sym n), .vec 1 5 a' (.sym n'), .bad, .bad, .bad, .sint .i64 (Int.ofNat j)] [⟨[.f32, .f32, .f32, .f32, .int .i64], m, fd, gd, bd, false⟩, ⟨[.f32, .f32, .f32, .f32, .int .i64], m', fd', gd', bd', false⟩]) (Ab.ev Try.prog G29 Try.f38.ntmps 60 (cL (cK (cB (cA (cB (cB (bodyOf Try.f38))))))) (stR [.vec 0 5 a (.sym n), .vec 1 5 a' (.sym n'), .bad, .bad, .bad, .sint .i64 (Int.ofNat j)] [⟨[.f32, .f32, .f32, .f32, .int .i64], m, fd, gd, bd, false⟩, ⟨[.f32, .f32, .f32, .f32, .int .i64], m', fd', gd', bd', false⟩]) Dl.nil)) = (cond (andN (andN (andN (andN (true) (Nat.ble (j + 1) n)) (Nat.ble (Nat.add a j + 1) m.val)) (Nat.ble (j + 1) n')) (Nat.ble (Nat.add a' j + 1) m'.val)) (true) false) := by kernel_rfl
    rw [e, c1, c2, c3, c4]; rfl
  · refine ⟨Or.inr (ge_eq (by kernel_rfl)), Or.inr (ge_eq (by kernel_rfl)), Or.inl rfl, Or.inl rfl, Or.inl rfl, Or.inr (ge_eq ?_), trivial⟩
    have e : (wS (wayO [true, false] (stR [.vec 0 5 a (.sym n), .vec 1 5 a' (.sym n'), .bad, .bad, .bad, .sint .i64 (Int.ofNat j)] [⟨[.f32, .f32, .f32, .f32, .int .i64], m, fd, gd, bd, false⟩, ⟨[.f32, .f32, .f32, .f32, .int .i64], m', fd', gd', bd', false⟩]) (Ab.ev Try.prog G29 Try.f38.ntmps 60 (cL (cK (cB (cA (cB (cB (bodyOf Try.f38))))))) (stR [.vec 0 5 a (.sym n), .vec 1 5 a' (.sym n'), .bad, .bad, .bad, .sint .i64 (Int.ofNat j)] [⟨[.f32, .f32, .f32, .f32, .int .i64], m, fd, gd, bd, false⟩, ⟨[.f32, .f32, .f32, .f32, .int .i64], m', fd', gd', bd', false⟩]) Dl.nil))).get 5 = .sint .i64 (IntKind.i64.wrap (Int.ofNat j + 1)) := by kernel_rfl
    rw [e, wrap_next hj hn]

theorem eqs38ret (fd : Nat → Nat → Nat) (gd : Nat → Nat → Int) (bd : Nat → Nat → Bool) (wr : Bool) (m : Num) (fd' : Nat → Nat → Nat) (gd' : Nat → Nat → Int) (bd' : Nat → Nat → Bool) (wr' : Bool) (m' : Num) (a a' n n' : Nat) (j : Nat) (hj : j < n) (hnn : n = n') (hn : n ≤ 140737488355328) (han : a + n ≤ m.val) (han' : a' + n' ≤ m'.val) (hp : (elFlue (fd (Nat.add a j)) (gd (Nat.add a j)) (fd' (Nat.add a' j)) (gd' (Nat.add a' j))) = false) : Run Try.prog Try.f38.ntmps (cL (cK (cB (cA (cB (cB (bodyOf Try.f38))))))) (stR [.vec 0 5 a (.sym n), .vec 1 5 a' (.sym n'), .bad, .bad, .bad, .sint .i64 (Int.ofNat j)] [⟨[.f32, .f32, .f32, .f32, .int .i64], m, fd, gd, bd, false⟩, ⟨[.f32, .f32, .f32, .f32, .int .i64], m', fd', gd', bd', false⟩]) (.ret, (stR [.bad, .bad, .bad, .bad, .sbool false] [⟨[.f32, .f32, .f32, .f32, .int .i64], m, fd, gd, bd, false⟩, ⟨[.f32, .f32, .f32, .f32, .int .i64], m', fd', gd', bd', false⟩])) := by
  have c1 : Nat.ble (j + 1) n = true := Nat.ble_eq_true_of_le hj
  have c2 : Nat.ble (Nat.add a j + 1) m.val = true := Nat.ble_eq_true_of_le (by show a + j + 1 ≤ m.val; omega)
  have c3 : Nat.ble (j + 1) n' = true := Nat.ble_eq_true_of_le (by omega)
  have c4 : Nat.ble (Nat.add a' j + 1) m'.val = true := Nat.ble_eq_true_of_le (by show a' + j + 1 ≤ m'.val; omega)
  refine Run.to g29 mixed 60 [true, true] (by kernel_rfl) ?_ ?_ (by kernel_rfl) (by kernel_rfl) ⟨Or.inl rfl, Or.inl rfl, Or.inl rfl, Or.inl rfl, Or.inr (ge_bool (by kernel_rfl)), trivial⟩ ⟨⟨⟨[.f32, .f32, .f32, .f32, .int .i64], m, fd, gd, bd, false⟩, by kernel_rfl, VcLe.refl _⟩, ⟨⟨[.f32, .f32, .f32, .f32, .int .i64], m', fd', gd', bd', false⟩, by kernel_rfl, VcLe.refl _⟩, trivial⟩ (by kernel_rfl)
  · have e : wBs (wayO [true, true] (stR [.vec 0 5 a (.sym n), .vec 1 5 a' (.sym n'), .bad, .bad, .bad, .sint .i64 (Int.ofNat j)] [⟨[.f32, .f32, .f32, .f32, .int .i64], m, fd, gd, bd, false⟩, ⟨[.f32, .f32, .f32, .f32, .int .i64], m', fd', gd', bd', false⟩]) (Ab.ev Try.prog G29 Try.f38.ntmps 60 (cL (cK (cB (cA (cB (cB (bodyOf Try.f38))))))) (stR [.vec 0 5 a (.sym n), .vec 1 5 a' (.sym n'), .bad, .bad, .bad, .sint .i64 (Int.ofNat j)] [⟨[.f32, .f32, .f32, .f32, .int .i64], m, fd, gd, bd, false⟩, ⟨[.f32, .f32, .f32, .f32, .int .i64], m', fd', gd', bd', false⟩]) Dl.nil)) = [decide (Int.ofNat j < Int.ofNat n), !(elFlue (fd (Nat.add a j)) (gd (Nat.add a j)) (fd' (Nat.add a' j)) (gd' (Nat.add a' j)))] := by kernel_rfl
    rw [e, dec_lt hj, hp]; rfl
  · have e : wNd (wayO [true, true] (stR [.vec 0 5 a (.sym n), .vec 1 5 a' (.sym n'), .bad, .bad, .bad, .sint .i64 (Int.ofNat j)] [⟨[.f32, .f32, .f32, .f32, .int .i64], m, fd, gd, bd, false⟩, ⟨[.f32, .f32, .f32, .f32, .int .i64], m', fd', gd', bd', false⟩]) (Ab.ev Try.prog G29 Try.f38.ntmps 60 (cL (cK (cB (cA (cB (cB (bodyOf Try.f38))))))) (stR [.vec 0 5 a (.sym n), .vec 1 5 a' (.sym n'), .bad, .bad, .bad, .sint .i64 (Int.ofNat j)] [⟨[.f32, .f32, .f32, .f32, .int .i64], m, fd, gd, bd, false⟩, ⟨[.f32, .f32, .f32, .f32, .int .i64], m', fd', gd', bd', false⟩]) Dl.nil)) = (cond (andN (andN (andN (andN (true) (Nat.ble (j + 1) n)) (Nat.ble (Nat.add a j + 1) m.val)) (Nat.ble (j + 1) n')) (Nat.ble (Nat.add a' j + 1) m'.val)) (true) false) := by kernel_rfl
    rw [e, c1, c2, c3, c4]; rfl

theorem eqs38end (fd : Nat → Nat → Nat) (gd : Nat → Nat → Int) (bd : Nat → Nat → Bool) (wr : Bool) (m : Num) (fd' : Nat → Nat → Nat) (gd' : Nat → Nat → Int) (bd' : Nat → Nat → Bool) (wr' : Bool) (m' : Num) (a a' n n' : Nat) : Run Try.prog Try.f38.ntmps (cL (cK (cB (cA (cB (cB (bodyOf Try.f38))))))) (stR [.vec 0 5 a (.sym n), .vec 1 5 a' (.sym n'), .bad, .bad, .bad, .sint .i64 (Int.ofNat n)] [⟨[.f32, .f32, .f32, .f32, .int .i64], m, fd, gd, bd, false⟩, ⟨[.f32, .f32, .f32, .f32, .int .i64], m', fd', gd', bd', false⟩]) (.exit 0, (stR [.vec 0 5 a (.sym n), .vec 1 5 a' (.sym n'), .bad, .bad, .bad, .sint .i64 (Int.ofNat n)] [⟨[.f32, .f32, .f32, .f32, .int .i64], m, fd, gd, bd, false⟩, ⟨[.f32, .f32, .f32, .f32, .int .i64], m', fd', gd', bd', false⟩])) := by
  refine Run.to g29 mixed 60 [false] (by kernel_rfl) ?_ (by kernel_rfl) (by kernel_rfl) (by kernel_rfl) ⟨Or.inr (ge_eq (by kernel_rfl)), Or.inr (ge_eq (by kernel_rfl)), Or.inl rfl, Or.inl rfl, Or.inl rfl, Or.inr (ge_eq (by kernel_rfl)), trivial⟩ ⟨⟨⟨[.f32, .f32, .f32, .f32, .int .i64], m, fd, gd, bd, false⟩, by kernel_rfl, VcLe.refl _⟩, ⟨⟨[.f32, .f32, .f32, .f32, .int .i64], m', fd', gd', bd', false⟩, by kernel_rfl, VcLe.refl _⟩, trivial⟩ (by kernel_rfl)
  have e : wBs (wayO [false] (stR [.vec 0 5 a (.sym n), .vec 1 5 a' (.sym n'), .bad, .bad, .bad, .sint .i64 (Int.ofNat n)] [⟨[.f32, .f32, .f32, .f32, .int .i64], m, fd, gd, bd, false⟩, ⟨[.f32, .f32, .f32, .f32, .int .i64], m', fd', gd', bd', false⟩]) (Ab.ev Try.prog G29 Try.f38.ntmps 60 (cL (cK (cB (cA (cB (cB (bodyOf Try.f38))))))) (stR [.vec 0 5 a (.sym n), .vec 1 5 a' (.sym n'), .bad, .bad, .bad, .sint .i64 (Int.ofNat n)] [⟨[.f32, .f32, .f32, .f32, .int .i64], m, fd, gd, bd, false⟩, ⟨[.f32, .f32, .f32, .f32, .int .i64], m', fd', gd', bd', false⟩]) Dl.nil)) = [decide (Int.ofNat n < Int.ofNat n)] := by kernel_rfl
  rw [e, dec_irr]

theorem eqs38 (i i' a a' n n' : Nat) (v v' : Vc) (hs : v.sh = [.f32, .f32, .f32, .f32, .int .i64]) (hs' : v'.sh = [.f32, .f32, .f32, .f32, .int .i64]) (han : a + n ≤ v.n.val) (han' : a' + n' ≤ v'.n.val) (hn : n ≤ 140737488355328) : OnRows Try.prog 38 [⟨i, 5, a, .sym n⟩, ⟨i', 5, a', .sym n'⟩] [] [v, v'] ⟨.sbool (eqRows elFlue v v' a a' n n'), [], [], [], true, none⟩ := by
  obtain ⟨sh, m, fd, gd, bd, wr⟩ := v
  have hs : sh = [.f32, .f32, .f32, .f32, .int .i64] := hs
  subst hs
  obtain ⟨sh', m', fd', gd', bd', wr'⟩ := v'
  have hs' : sh' = [.f32, .f32, .f32, .f32, .int .i64] := hs'
  subst hs'
  have rr : VecsLe (stR [.vec 0 5 a (.sym n), .vec 1 5 a' (.sym n')] [⟨[.f32, .f32, .f32, .f32, .int .i64], m, fd, gd, bd, false⟩, ⟨[.f32, .f32, .f32, .f32, .int .i64], m', fd', gd', bd', false⟩]) 0 [⟨[.f32, .f32, .f32, .f32, .int .i64], m, fd, gd, bd, false⟩, ⟨[.f32, .f32, .f32, .f32, .int .i64], m', fd', gd', bd', false⟩] := ⟨⟨⟨[.f32, .f32, .f32, .f32, .int .i64], m, fd, gd, bd, false⟩, rfl, VcLe.refl _⟩, ⟨⟨[.f32, .f32, .f32, .f32, .int .i64], m', fd', gd', bd', false⟩, rfl, VcLe.refl _⟩, trivial⟩
  have h0 : Run Try.prog Try.f38.ntmps (cA (bodyOf Try.f38)) ((viewS [⟨[.f32, .f32, .f32, .f32, .int .i64], m, fd, gd, bd, wr⟩, ⟨[.f32, .f32, .f32, .f32, .int .i64], m', fd', gd', bd', wr'⟩]).start Try.f38.ntmps [.vec 0 5 a (.sym n), .vec 1 5 a' (.sym n')]) (.normal, stR [.vec 0 5 a (.sym n), .vec 1 5 a' (.sym n')] [⟨[.f32, .f32, .f32, .f32, .int .i64], m, fd, gd, bd, false⟩, ⟨[.f32, .f32, .f32, .f32, .int .i64], m', fd', gd', bd', false⟩]) :=
    Run.to g29 mixed 60 [] (by kernel_rfl) (by kernel_rfl) (by kernel_rfl) (by kernel_rfl) (by kernel_rfl) ⟨Or.inr (ge_eq (by kernel_rfl)), Or.inr (ge_eq (by kernel_rfl)), trivial⟩ ⟨⟨⟨[.f32, .f32, .f32, .f32, .int .i64], m, fd, gd, bd, false⟩, by kernel_rfl, VcLe.refl _⟩, ⟨⟨[.f32, .f32, .f32, .f32, .int .i64], m', fd', gd', bd', false⟩, by kernel_rfl, VcLe.refl _⟩, trivial⟩ (by kernel_rfl)
  have ebT : wBs (wayO [true] (stR [.vec 0 5 a (.sym n), .vec 1 5 a' (.sym n')] [⟨[.f32, .f32, .f32, .f32, .int .i64], m, fd, gd, bd, false⟩, ⟨[.f32, .f32, .f32, .f32, .int .i64], m', fd', gd', bd', false⟩]) (Ab.ev Try.prog G29 Try.f38.ntmps 60 (cA (cB (bodyOf Try.f38))) (stR [.vec 0 5 a (.sym n), .vec 1 5 a' (.sym n')] [⟨[.f32, .f32, .f32, .f32, .int .i64], m, fd, gd, bd, false⟩, ⟨[.f32, .f32, .f32, .f32, .int .i64], m', fd', gd', bd', false⟩]) Dl.nil)) = [Int.ofNat n != Int.ofNat n'] := by kernel_rfl
  have ebF : wBs (wayO [false] (stR [.vec 0 5 a (.sym n), .vec 1 5 a' (.sym n')] [⟨[.f32, .f32, .f32, .f32, .int .i64], m, fd, gd, bd, false⟩, ⟨[.f32, .f32, .f32, .f32, .int .i64], m', fd', gd', bd', false⟩]) (Ab.ev Try.prog G29 Try.f38.ntmps 60 (cA (cB (bodyOf Try.f38))) (stR [.vec 0 5 a (.sym n), .vec 1 5 a' (.sym n')] [⟨[.f32, .f32, .f32, .f32, .int .i64], m, fd, gd, bd, false⟩, ⟨[.f32, .f32, .f32, .f32, .int .i64], m', fd', gd', bd', false⟩]) Dl.nil)) = [Int.ofNat n != Int.ofNat n'] := by kernel_rfl
  have hr : Run Try.prog Try.f38.ntmps (bodyOf Try.f38) ((viewS [⟨[.f32, .f32, .f32, .f32, .int .i64], m, fd, gd, bd, wr⟩, ⟨[.f32, .f32, .f32, .f32, .int .i64], m', fd', gd', bd', wr'⟩]).start Try.f38.ntmps [.vec 0 5 a (.sym n), .vec 1 5 a' (.sym n')]) (.ret, (stR [.bad, .bad, .bad, .bad, .sbool (eqRows elFlue ⟨[.f32, .f32, .f32, .f32, .int .i64], m, fd, gd, bd, wr⟩ ⟨[.f32, .f32, .f32, .f32, .int .i64], m', fd', gd', bd', wr'⟩ a a' n n')] [⟨[.f32, .f32, .f32, .f32, .int .i64], m, fd, gd, bd, false⟩, ⟨[.f32, .f32, .f32, .f32, .int .i64], m', fd', gd', bd', false⟩])) := by
    have hB : (bodyOf Try.f38) = .seq (cA (bodyOf Try.f38)) (.seq (cA (cB (bodyOf Try.f38))) (.seq (.seq (cA (cA (cB (cB (bodyOf Try.f38))))) (.block 0 (.loop (cL (cK (cB (cA (cB (cB (bodyOf Try.f38)))))))))) (cB (cB (cB (bodyOf Try.f38)))))) := by kernel_rfl
    rw [hB]
    refine Run.seq h0 (Nat.le_refl _) ?_
    unfold eqRows
    by_cases hnn : n = n'
    · have hne : (Int.ofNat n != Int.ofNat n') = false := by rw [hnn]; simp
      have h1 : Run Try.prog Try.f38.ntmps (cA (cB (bodyOf Try.f38))) (stR [.vec 0 5 a (.sym n), .vec 1 5 a' (.sym n')] [⟨[.f32, .f32, .f32, .f32, .int .i64], m, fd, gd, bd, false⟩, ⟨[.f32, .f32, .f32, .f32, .int .i64], m', fd', gd', bd', false⟩]) (.normal, stR [.vec 0 5 a (.sym n), .vec 1 5 a' (.sym n')] [⟨[.f32, .f32, .f32, .f32, .int .i64], m, fd, gd, bd, false⟩, ⟨[.f32, .f32, .f32, .f32, .int .i64], m', fd', gd', bd', false⟩]) := by
        refine Run.to g29 mixed 60 [false] (by kernel_rfl) ?_ (by kernel_rfl) (by kernel_rfl) (by kernel_rfl) ⟨Or.inr (ge_eq (by kernel_rfl)), Or.inr (ge_eq (by kernel_rfl)), trivial⟩ ⟨⟨⟨[.f32, .f32, .f32, .f32, .int .i64], m, fd, gd, bd, false⟩, by kernel_rfl, VcLe.refl _⟩, ⟨⟨[.f32, .f32, .f32, .f32, .int .i64], m', fd', gd', bd', false⟩, by kernel_rfl, VcLe.refl _⟩, trivial⟩ (by kernel_rfl)
        rw [ebF, hne]
      have h2 : Run Try.prog Try.f38.ntmps (cA (cA (cB (cB (bodyOf Try.f38))))) (stR [.vec 0 5 a (.sym n), .vec 1 5 a' (.sym n')] [⟨[.f32, .f32, .f32, .f32, .int .i64], m, fd, gd, bd, false⟩, ⟨[.f32, .f32, .f32, .f32, .int .i64], m', fd', gd', bd', false⟩]) (.normal, (stR [.vec 0 5 a (.sym n), .vec 1 5 a' (.sym n'), .bad, .bad, .bad, .sint .i64 (Int.ofNat 0)] [⟨[.f32, .f32, .f32, .f32, .int .i64], m, fd, gd, bd, false⟩, ⟨[.f32, .f32, .f32, .f32, .int .i64], m', fd', gd', bd', false⟩])) :=
        Run.to g29 mixed 60 [] (by kernel_rfl) (by kernel_rfl) (by kernel_rfl) (by kernel_rfl) (by kernel_rfl) ⟨Or.inr (ge_eq (by kernel_rfl)), Or.inr (ge_eq (by kernel_rfl)), Or.inl rfl, Or.inl rfl, Or.inl rfl, Or.inr (ge_int (by kernel_rfl)), trivial⟩ ⟨⟨⟨[.f32, .f32, .f32, .f32, .int .i64], m, fd, gd, bd, false⟩, by kernel_rfl, VcLe.refl _⟩, ⟨⟨[.f32, .f32, .f32, .f32, .int .i64], m', fd', gd', bd', false⟩, by kernel_rfl, VcLe.refl _⟩, trivial⟩ (by kernel_rfl)
      rw [hne]
      show Run Try.prog Try.f38.ntmps _ _ (.ret, (stR [.bad, .bad, .bad, .bad, .sbool (allB n (fun j => elAt elFlue ⟨[.f32, .f32, .f32, .f32, .int .i64], m, fd, gd, bd, wr⟩ ⟨[.f32, .f32, .f32, .f32, .int .i64], m', fd', gd', bd', wr'⟩ a a' j))] [⟨[.f32, .f32, .f32, .f32, .int .i64], m, fd, gd, bd, false⟩, ⟨[.f32, .f32, .f32, .f32, .int .i64], m', fd', gd', bd', false⟩]))
      refine Run.seq h1 (Nat.le_refl _) ?_
      cases hall : allB n (fun j => elAt elFlue ⟨[.f32, .f32, .f32, .f32, .int .i64], m, fd, gd, bd, wr⟩ ⟨[.f32, .f32, .f32, .f32, .int .i64], m', fd', gd', bd', wr'⟩ a a' j) with
      | true =>
        have hp := allB_true hall
        have h3 : Run Try.prog Try.f38.ntmps (.loop (cL (cK (cB (cA (cB (cB (bodyOf Try.f38)))))))) (stR [.vec 0 5 a (.sym n), .vec 1 5 a' (.sym n'), .bad, .bad, .bad, .sint .i64 (Int.ofNat 0)] [⟨[.f32, .f32, .f32, .f32, .int .i64], m, fd, gd, bd, false⟩, ⟨[.f32, .f32, .f32, .f32, .int .i64], m', fd', gd', bd', false⟩]) (.exit 0, (stR [.vec 0 5 a (.sym n), .vec 1 5 a' (.sym n'), .bad, .bad, .bad, .sint .i64 (Int.ofNat n)] [⟨[.f32, .f32, .f32, .f32, .int .i64], m, fd, gd, bd, false⟩, ⟨[.f32, .f32, .f32, .f32, .int .i64], m', fd', gd', bd', false⟩])) := Run.loop n (fun j => (stR [.vec 0 5 a (.sym n), .vec 1 5 a' (.sym n'), .bad, .bad, .bad, .sint .i64 (Int.ofNat j)] [⟨[.f32, .f32, .f32, .f32, .int .i64], m, fd, gd, bd, false⟩, ⟨[.f32, .f32, .f32, .f32, .int .i64], m', fd', gd', bd', false⟩])) (fun j => rfl) (fun j hj => eqs38step fd gd bd wr m fd' gd' bd' wr' m' a a' n n' j hj hnn hn han han' (hp j hj)) (eqs38end fd gd bd wr m fd' gd' bd' wr' m' a a' n n') (by intro h; cases h)
        have h6 : Run Try.prog Try.f38.ntmps (cB (cB (cB (bodyOf Try.f38)))) (stR [.vec 0 5 a (.sym n), .vec 1 5 a' (.sym n'), .bad, .bad, .bad, .sint .i64 (Int.ofNat n)] [⟨[.f32, .f32, .f32, .f32, .int .i64], m, fd, gd, bd, false⟩, ⟨[.f32, .f32, .f32, .f32, .int .i64], m', fd', gd', bd', false⟩]) (.ret, (stR [.bad, .bad, .bad, .bad, .sbool true] [⟨[.f32, .f32, .f32, .f32, .int .i64], m, fd, gd, bd, false⟩, ⟨[.f32, .f32, .f32, .f32, .int .i64], m', fd', gd', bd', false⟩])) :=
          Run.to g29 mixed 60 [] (by kernel_rfl) (by kernel_rfl) (by kernel_rfl) (by kernel_rfl) (by kernel_rfl) ⟨Or.inl rfl, Or.inl rfl, Or.inl rfl, Or.inl rfl, Or.inr (ge_bool (by kernel_rfl)), trivial⟩ ⟨⟨⟨[.f32, .f32, .f32, .f32, .int .i64], m, fd, gd, bd, false⟩, by kernel_rfl, VcLe.refl _⟩, ⟨⟨[.f32, .f32, .f32, .f32, .int .i64], m', fd', gd', bd', false⟩, by kernel_rfl, VcLe.refl _⟩, trivial⟩ (by kernel_rfl)
        exact Run.seq (Run.seq h2 (Nat.le_refl _) (Run.block h3)) (Nat.le_refl _) h6
      | false =>
        obtain ⟨j, hj, hpj, hpk⟩ := allB_false hall
        have h3 : Run Try.prog Try.f38.ntmps (.loop (cL (cK (cB (cA (cB (cB (bodyOf Try.f38)))))))) (stR [.vec 0 5 a (.sym n), .vec 1 5 a' (.sym n'), .bad, .bad, .bad, .sint .i64 (Int.ofNat 0)] [⟨[.f32, .f32, .f32, .f32, .int .i64], m, fd, gd, bd, false⟩, ⟨[.f32, .f32, .f32, .f32, .int .i64], m', fd', gd', bd', false⟩]) (.ret, (stR [.bad, .bad, .bad, .bad, .sbool false] [⟨[.f32, .f32, .f32, .f32, .int .i64], m, fd, gd, bd, false⟩, ⟨[.f32, .f32, .f32, .f32, .int .i64], m', fd', gd', bd', false⟩])) := Run.loop j (fun j => (stR [.vec 0 5 a (.sym n), .vec 1 5 a' (.sym n'), .bad, .bad, .bad, .sint .i64 (Int.ofNat j)] [⟨[.f32, .f32, .f32, .f32, .int .i64], m, fd, gd, bd, false⟩, ⟨[.f32, .f32, .f32, .f32, .int .i64], m', fd', gd', bd', false⟩])) (fun j => rfl) (fun k hk => eqs38step fd gd bd wr m fd' gd' bd' wr' m' a a' n n' k (by omega) hnn hn han han' (hpk k hk)) (eqs38ret fd gd bd wr m fd' gd' bd' wr' m' a a' n n' j hj hnn hn han han' hpj) (by intro h; cases h)
        exact Run.seq_out (Run.seq h2 (Nat.le_refl _) (Run.block_out h3 (by intro h; cases h))) (by intro h; cases h)
    · have hne : (Int.ofNat n != Int.ofNat n') = true := by
        simp only [bne_iff_ne, ne_eq]
        intro h
        exact hnn (Int.ofNat.inj h)
      rw [hne]
      have h1 : Run Try.prog Try.f38.ntmps (cA (cB (bodyOf Try.f38))) (stR [.vec 0 5 a (.sym n), .vec 1 5 a' (.sym n')] [⟨[.f32, .f32, .f32, .f32, .int .i64], m, fd, gd, bd, false⟩, ⟨[.f32, .f32, .f32, .f32, .int .i64], m', fd', gd', bd', false⟩]) (.ret, (stR [.bad, .bad, .bad, .bad, .sbool false] [⟨[.f32, .f32, .f32, .f32, .int .i64], m, fd, gd, bd, false⟩, ⟨[.f32, .f32, .f32, .f32, .int .i64], m', fd', gd', bd', false⟩])) := by
        refine Run.to g29 mixed 60 [true] (by kernel_rfl) ?_ (by kernel_rfl) (by kernel_rfl) (by kernel_rfl) ⟨Or.inl rfl, Or.inl rfl, Or.inl rfl, Or.inl rfl, Or.inr (ge_bool (by kernel_rfl)), trivial⟩ ⟨⟨⟨[.f32, .f32, .f32, .f32, .int .i64], m, fd, gd, bd, false⟩, by kernel_rfl, VcLe.refl _⟩, ⟨⟨[.f32, .f32, .f32, .f32, .int .i64], m', fd', gd', bd', false⟩, by kernel_rfl, VcLe.refl _⟩, trivial⟩ (by kernel_rfl)
        rw [ebT, hne]
      exact Run.seq_out h1 (by intro h; cases h)
  intro M w0 ρ w vs hM hv
  exact Run.calls (fr := ⟨none, some ⟨.sbool (eqRows elFlue ⟨[.f32, .f32, .f32, .f32, .int .i64], m, fd, gd, bd, wr⟩ ⟨[.f32, .f32, .f32, .f32, .int .i64], m', fd', gd', bd', wr'⟩ a a' n n'), [], [], []⟩, true⟩) Try.func38 (by kernel_rfl) hr (ahv := []) (avv := []) (by kernel_rfl) rfl rfl ⟨⟨[], rfl⟩, fun i o => rfl, fun i => rfl⟩ (Nat.le_of_ble_eq_true (by kernel_rfl)) hM hv
/-- laws.eqFlueS -/
noncomputable def G30 : List (Nat × Ctr) := (38, orC (eqC [.f32, .f32, .f32, .f32, .int .i64] elFlue) (inl Try.prog G29 100 Try.f38)) :: G29
theorem g30 : Ab.Good Try.prog G30 := good_cons (sat_or (sat_eq Try.call38 (fun i i' a a' n n' v v' hs hs' han han' hn => eqs38 i i' a a' n n' v v' hs hs' han han' hn)) (inl_sat g29 mixed Try.func38 Try.call38 100) rfl rfl) g29


set_option maxHeartbeats 4000000 in
set_option maxRecDepth 1000000 in
theorem mrk39step (fd : Nat → Nat → Nat) (gd : Nat → Nat → Int) (bd : Nat → Nat → Bool) (m : Num) (a n : Nat) (K : Int) (j : Nat) (hj : j < n) (hn : n ≤ 140737488355328) (han : a + n ≤ m.val) (h0 : 0 ≤ K) (hK : K ≤ 4611686018427387904) : Run Try.prog Try.f39.ntmps (cL (cK (cB (cA (cB (bodyOf Try.f39)))))) (stR [.vec 0 5 a (.sym n), .sint .i64 (K + (j * 5 : Nat)), .bad, .bad, .bad, .sint .i64 (Int.ofNat j)] [mrkJ (⟨[.f32, .f32, .f32, .f32, .int .i64], m, fd, gd, bd, true⟩ : Vc) a K j]) (.normal, (stR [.vec 0 5 a (.sym n), .sint .i64 (K + ((j + 1) * 5 : Nat)), .bad, .bad, .bad, .sint .i64 (Int.ofNat (j + 1))] [mrkJ (⟨[.f32, .f32, .f32, .f32, .int .i64], m, fd, gd, bd, true⟩ : Vc) a K (j + 1)])) := by
  have c1 : Nat.ble (j + 1) n = true := Nat.ble_eq_true_of_le hj
  have c2 : Nat.ble (Nat.add a j + 1) m.val = true := Nat.ble_eq_true_of_le (by show a + j + 1 ≤ m.val; omega)
  have hr : K + ((j + 1) * 5 : Nat) ≤ 9223372036854775807 := by omega
  refine Run.to g30 mixed 150 [true] (by kernel_rfl) ?_ ?_ (by kernel_rfl) (by kernel_rfl) ⟨Or.inr (ge_eq (by kernel_rfl)), Or.inr (ge_eq ?_), Or.inl rfl, Or.inl rfl, Or.inl rfl, Or.inr (ge_eq ?_), trivial⟩ ⟨⟨((((((mrkJ (⟨[.f32, .f32, .f32, .f32, .int .i64], m, fd, gd, bd, true⟩ : Vc) a K j).put (Nat.add a j) 0 [.flt .f32 (ofInt .f32 (incW 0 (K + (j * 5 : Nat))))]).put (Nat.add a j) 1 [.flt .f32 (ofInt .f32 (incW 1 (K + (j * 5 : Nat))))]).put (Nat.add a j) 2 [.flt .f32 (ofInt .f32 (incW 2 (K + (j * 5 : Nat))))]).put (Nat.add a j) 3 [.flt .f32 (ofInt .f32 (incW 3 (K + (j * 5 : Nat))))]).put (Nat.add a j) 4 [.sint .i64 (incW 4 (K + (j * 5 : Nat)))]), by kernel_rfl, mrkF_next a K j h0 hr⟩, trivial⟩ (by kernel_rfl)
  · have e : wBs (wayO [true] (stR [.vec 0 5 a (.sym n), .sint .i64 (K + (j * 5 : Nat)), .bad, .bad, .bad, .sint .i64 (Int.ofNat j)] [mrkJ (⟨[.f32, .f32, .f32, .f32, .int .i64], m, fd, gd, bd, true⟩ : Vc) a K j]) (Ab.ev Try.prog G30 Try.f39.ntmps 150 (cL (cK (cB (cA (cB (bodyOf Try.f39)))))) (stR [.vec 0 5 a (.sym n), .sint .i64 (K + (j * 5 : Nat)), .bad, .bad, .bad, .sint .i64 (Int.ofNat j)] [mrkJ (⟨[.f32, .f32, .f32, .f32, .int .i64], m, fd, gd, bd, true⟩ : Vc) a K j]) Dl.nil)) = [decide (Int.ofNat j < Int.ofNat n)] := by kernel_rfl
    rw [e, dec_lt hj]
  · have e : wNd (wayO [true] (stR [.vec 0 5 a (.sym n), .sint .i64 (K + (j * 5 : Nat)), .bad, .bad, .bad, .sint .i64 (Int.ofNat j)] [mrkJ (⟨[.f32, .f32, .f32, .f32, .int .i64], m, fd, gd, bd, true⟩ : Vc) a K j]) (Ab.ev Try.prog G30 Try.f39.ntmps 150 (cL (cK (cB (cA (cB (bodyOf Try.f39)))))) (stR [.vec 0 5 a (.sym n), .sint .i64 (K + (j * 5 : Nat)), .bad, .bad, .bad, .sint .i64 (Int.ofNat j)] [mrkJ (⟨[.f32, .f32, .f32, .f32, .int .i64], m, fd, gd, bd, true⟩ : Vc) a K j]) Dl.nil)) = (andN (andN (andN (andN (andN (andN (andN (andN (andN (andN (true) (Nat.ble (j + 1) n)) (Nat.ble (Nat.add a j + 1) m.val)) (Nat.ble (j + 1) n)) (Nat.ble (Nat.add a j + 1) m.val)) (Nat.ble (j + 1) n)) (Nat.ble (Nat.add a j + 1) m.val)) (Nat.ble (j + 1) n)) (Nat.ble (Nat.add a j + 1) m.val)) (Nat.ble (j + 1) n)) (Nat.ble (Nat.add a j + 1) m.val)) := by kernel_rfl
    rw [e, c1, c2]; rfl
  · have e : (wS (wayO [true] (stR [.vec 0 5 a (.sym n), .sint .i64 (K + (j * 5 : Nat)), .bad, .bad, .bad, .sint .i64 (Int.ofNat j)] [mrkJ (⟨[.f32, .f32, .f32, .f32, .int .i64], m, fd, gd, bd, true⟩ : Vc) a K j]) (Ab.ev Try.prog G30 Try.f39.ntmps 150 (cL (cK (cB (cA (cB (bodyOf Try.f39)))))) (stR [.vec 0 5 a (.sym n), .sint .i64 (K + (j * 5 : Nat)), .bad, .bad, .bad, .sint .i64 (Int.ofNat j)] [mrkJ (⟨[.f32, .f32, .f32, .f32, .int .i64], m, fd, gd, bd, true⟩ : Vc) a K j]) Dl.nil))).get 1 = .sint .i64 (incW 5 (K + (j * 5 : Nat))) := by kernel_rfl
    rw [e, incW_eq _ _ (by omega) (by omega)]
    congr 1; omega
  · have e : (wS (wayO [true] (stR [.vec 0 5 a (.sym n), .sint .i64 (K + (j * 5 : Nat)), .bad, .bad, .bad, .sint .i64 (Int.ofNat j)] [mrkJ (⟨[.f32, .f32, .f32, .f32, .int .i64], m, fd, gd, bd, true⟩ : Vc) a K j]) (Ab.ev Try.prog G30 Try.f39.ntmps 150 (cL (cK (cB (cA (cB (bodyOf Try.f39)))))) (stR [.vec 0 5 a (.sym n), .sint .i64 (K + (j * 5 : Nat)), .bad, .bad, .bad, .sint .i64 (Int.ofNat j)] [mrkJ (⟨[.f32, .f32, .f32, .f32, .int .i64], m, fd, gd, bd, true⟩ : Vc) a K j]) Dl.nil))).get 5 = .sint .i64 (IntKind.i64.wrap (Int.ofNat j + 1)) := by kernel_rfl
    rw [e, wrap_next hj hn]

theorem mrk39end (fd : Nat → Nat → Nat) (gd : Nat → Nat → Int) (bd : Nat → Nat → Bool) (m : Num) (a n : Nat) (K : Int) : Run Try.prog Try.f39.ntmps (cL (cK (cB (cA (cB (bodyOf Try.f39)))))) (stR [.vec 0 5 a (.sym n), .sint .i64 (K + (n * 5 : Nat)), .bad, .bad, .bad, .sint .i64 (Int.ofNat n)] [mrkJ (⟨[.f32, .f32, .f32, .f32, .int .i64], m, fd, gd, bd, true⟩ : Vc) a K n]) (.exit 0, (stR [.vec 0 5 a (.sym n), .sint .i64 (K + (n * 5 : Nat)), .bad, .bad, .bad, .sint .i64 (Int.ofNat n)] [mrkJ (⟨[.f32, .f32, .f32, .f32, .int .i64], m, fd, gd, bd, true⟩ : Vc) a K n])) := by
  refine Run.to g30 mixed 150 [false] (by kernel_rfl) ?_ (by kernel_rfl) (by kernel_rfl) (by kernel_rfl) ⟨Or.inr (ge_eq (by kernel_rfl)), Or.inr (ge_eq (by kernel_rfl)), Or.inl rfl, Or.inl rfl, Or.inl rfl, Or.inr (ge_eq (by kernel_rfl)), trivial⟩ ⟨⟨mrkJ (⟨[.f32, .f32, .f32, .f32, .int .i64], m, fd, gd, bd, true⟩ : Vc) a K n, by kernel_rfl, VcLe.refl _⟩, trivial⟩ (by kernel_rfl)
  have e : wBs (wayO [false] (stR [.vec 0 5 a (.sym n), .sint .i64 (K + (n * 5 : Nat)), .bad, .bad, .bad, .sint .i64 (Int.ofNat n)] [mrkJ (⟨[.f32, .f32, .f32, .f32, .int .i64], m, fd, gd, bd, true⟩ : Vc) a K n]) (Ab.ev Try.prog G30 Try.f39.ntmps 150 (cL (cK (cB (cA (cB (bodyOf Try.f39)))))) (stR [.vec 0 5 a (.sym n), .sint .i64 (K + (n * 5 : Nat)), .bad, .bad, .bad, .sint .i64 (Int.ofNat n)] [mrkJ (⟨[.f32, .f32, .f32, .f32, .int .i64], m, fd, gd, bd, true⟩ : Vc) a K n]) Dl.nil)) = [decide (Int.ofNat n < Int.ofNat n)] := by kernel_rfl
  rw [e, dec_irr]

theorem mrk39 (i a n : Nat) (K : Int) (v : Vc) (hs : v.sh = [.f32, .f32, .f32, .f32, .int .i64]) (hw : v.wr = true) (han : a + n ≤ v.n.val) (hn : n ≤ 140737488355328) (h0 : 0 ≤ K) (hK : K ≤ 4611686018427387904) : OnRowW Try.prog 39 ⟨i, 5, a, .sym n⟩ [.sint .i64 K] v ⟨.sint .i64 (K + (n * 5 : Nat)), [], [(0, mrkJ v a K n)], [], true, none⟩ := by
  obtain ⟨sh, m, fd, gd, bd, wr⟩ := v
  have hs : sh = [.f32, .f32, .f32, .f32, .int .i64] := hs
  subst hs
  have hw : wr = true := hw
  subst hw
  have h1 : Run Try.prog Try.f39.ntmps (cA (bodyOf Try.f39)) ((stR [] [(⟨[.f32, .f32, .f32, .f32, .int .i64], m, fd, gd, bd, true⟩ : Vc)]).start Try.f39.ntmps [.vec 0 5 a (.sym n), .sint .i64 K]) (.normal, stR [.vec 0 5 a (.sym n), .sint .i64 K] [(⟨[.f32, .f32, .f32, .f32, .int .i64], m, fd, gd, bd, true⟩ : Vc)]) :=
    Run.to g30 mixed 150 [] (by kernel_rfl) (by kernel_rfl) (by kernel_rfl) (by kernel_rfl) (by kernel_rfl) ⟨Or.inr (ge_eq (by kernel_rfl)), Or.inr (ge_eq (by kernel_rfl)), trivial⟩ ⟨⟨(⟨[.f32, .f32, .f32, .f32, .int .i64], m, fd, gd, bd, true⟩ : Vc), by kernel_rfl, VcLe.refl _⟩, trivial⟩ (by kernel_rfl)
  have e0 : K = K + (0 * 5 : Nat) := by omega
  have h2 : Run Try.prog Try.f39.ntmps (cA (cA (cB (bodyOf Try.f39)))) (stR [.vec 0 5 a (.sym n), .sint .i64 K] [(⟨[.f32, .f32, .f32, .f32, .int .i64], m, fd, gd, bd, true⟩ : Vc)]) (.normal, (stR [.vec 0 5 a (.sym n), .sint .i64 (K + (0 * 5 : Nat)), .bad, .bad, .bad, .sint .i64 (Int.ofNat 0)] [mrkJ (⟨[.f32, .f32, .f32, .f32, .int .i64], m, fd, gd, bd, true⟩ : Vc) a K 0])) := by
    refine Run.to g30 mixed 150 [] (by kernel_rfl) (by kernel_rfl) (by kernel_rfl) (by kernel_rfl) (by kernel_rfl) ⟨Or.inr (ge_eq (by kernel_rfl)), Or.inr (ge_eq ?_), Or.inl rfl, Or.inl rfl, Or.inl rfl, Or.inr (ge_int (by kernel_rfl)), trivial⟩ ⟨⟨(⟨[.f32, .f32, .f32, .f32, .int .i64], m, fd, gd, bd, true⟩ : Vc), by kernel_rfl, mrkJ_zero _ _ _⟩, trivial⟩ (by kernel_rfl)
    rw [← e0]; kernel_rfl
  have h3 : Run Try.prog Try.f39.ntmps (.loop (cL (cK (cB (cA (cB (bodyOf Try.f39))))))) (stR [.vec 0 5 a (.sym n), .sint .i64 (K + (0 * 5 : Nat)), .bad, .bad, .bad, .sint .i64 (Int.ofNat 0)] [mrkJ (⟨[.f32, .f32, .f32, .f32, .int .i64], m, fd, gd, bd, true⟩ : Vc) a K 0]) (.exit 0, (stR [.vec 0 5 a (.sym n), .sint .i64 (K + (n * 5 : Nat)), .bad, .bad, .bad, .sint .i64 (Int.ofNat n)] [mrkJ (⟨[.f32, .f32, .f32, .f32, .int .i64], m, fd, gd, bd, true⟩ : Vc) a K n])) := Run.loop n (fun j => (stR [.vec 0 5 a (.sym n), .sint .i64 (K + (j * 5 : Nat)), .bad, .bad, .bad, .sint .i64 (Int.ofNat j)] [mrkJ (⟨[.f32, .f32, .f32, .f32, .int .i64], m, fd, gd, bd, true⟩ : Vc) a K j])) (fun j => rfl) (fun j hj => mrk39step fd gd bd m a n K j hj hn han h0 hK) (mrk39end fd gd bd m a n K) (by intro h; cases h)
  have h6 : Run Try.prog Try.f39.ntmps (cB (cB (bodyOf Try.f39))) (stR [.vec 0 5 a (.sym n), .sint .i64 (K + (n * 5 : Nat)), .bad, .bad, .bad, .sint .i64 (Int.ofNat n)] [mrkJ (⟨[.f32, .f32, .f32, .f32, .int .i64], m, fd, gd, bd, true⟩ : Vc) a K n]) (.ret, (stR [.bad, .bad, .bad, .bad, .sint .i64 (K + (n * 5 : Nat))] [mrkJ (⟨[.f32, .f32, .f32, .f32, .int .i64], m, fd, gd, bd, true⟩ : Vc) a K n])) :=
    Run.to g30 mixed 150 [] (by kernel_rfl) (by kernel_rfl) (by kernel_rfl) (by kernel_rfl) (by kernel_rfl) ⟨Or.inl rfl, Or.inl rfl, Or.inl rfl, Or.inl rfl, Or.inr (ge_eq (by kernel_rfl)), trivial⟩ ⟨⟨mrkJ (⟨[.f32, .f32, .f32, .f32, .int .i64], m, fd, gd, bd, true⟩ : Vc) a K n, by kernel_rfl, VcLe.refl _⟩, trivial⟩ (by kernel_rfl)
  have hr : Run Try.prog Try.f39.ntmps (bodyOf Try.f39) ((stR [] [(⟨[.f32, .f32, .f32, .f32, .int .i64], m, fd, gd, bd, true⟩ : Vc)]).start Try.f39.ntmps [.vec 0 5 a (.sym n), .sint .i64 K]) (.ret, (stR [.bad, .bad, .bad, .bad, .sint .i64 (K + (n * 5 : Nat))] [mrkJ (⟨[.f32, .f32, .f32, .f32, .int .i64], m, fd, gd, bd, true⟩ : Vc) a K n])) := by
    have hB : (bodyOf Try.f39) = .seq (cA (bodyOf Try.f39)) (.seq (.seq (cA (cA (cB (bodyOf Try.f39)))) (.block 0 (.loop (cL (cK (cB (cA (cB (bodyOf Try.f39))))))))) (cB (cB (bodyOf Try.f39)))) := by kernel_rfl
    rw [hB]
    exact Run.seq h1 (Nat.le_refl _) (Run.seq (Run.seq h2 (Nat.le_refl _) (Run.block h3)) (Nat.le_refl _) h6)
  intro M w0 ρ w vs hM hv
  have hr' : Run Try.prog Try.f39.ntmps (bodyOf Try.f39) ((stR [] [(⟨[.f32, .f32, .f32, .f32, .int .i64], m, fd, gd, bd, true⟩ : Vc)]).start Try.f39.ntmps [.vec 0 5 a (.sym n), .sint .i64 K]) (.ret, stV [.bad, .bad, .bad, .bad, .sint .i64 (K + (n * 5 : Nat))] (⟨[.f32, .f32, .f32, .f32, .int .i64], m, fd, gd, bd, true⟩ : Vc) (mrkJ (⟨[.f32, .f32, .f32, .f32, .int .i64], m, fd, gd, bd, true⟩ : Vc) a K n)) := hr.weak (Wk.refl _) (Nat.le_refl _) rfl wk_stV
  exact Run.calls (fr := ⟨none, some ⟨.sint .i64 (K + (n * 5 : Nat)), [], [], [(0, mrkJ (⟨[.f32, .f32, .f32, .f32, .int .i64], m, fd, gd, bd, true⟩ : Vc) a K n)]⟩, true⟩) Try.func39 (by kernel_rfl) hr' (ahv := []) (avv := [(0, mrkJ (⟨[.f32, .f32, .f32, .f32, .int .i64], m, fd, gd, bd, true⟩ : Vc) a K n)]) (by kernel_rfl) rfl rfl acc_stV (Nat.le_of_ble_eq_true (by kernel_rfl)) hM hv
/-- laws.markFlueS -/
noncomputable def G31 : List (Nat × Ctr) := (39, orC (mrkC [.f32, .f32, .f32, .f32, .int .i64]) (inl Try.prog G30 100 Try.f39)) :: G30
theorem g31 : Ab.Good Try.prog G31 := good_cons (sat_or (sat_mrk Try.call39 (fun i a n K v hs hw han hn h0 hK => mrk39 i a n K v hs hw han hn h0 hK)) (inl_sat g30 mixed Try.func39 Try.call39 100) rfl rfl) g30


set_option maxHeartbeats 4000000 in
set_option maxRecDepth 1000000 in
theorem hld40step (fd : Nat → Nat → Nat) (gd : Nat → Nat → Int) (bd : Nat → Nat → Bool) (m : Num) (a n : Nat) (K : Int) (j : Nat) (hj : j < n) (hn : n ≤ 140737488355328) (han : a + n ≤ m.val) (h0 : 0 ≤ K) (hK : K ≤ 4611686018427387904) (hh : noneB (hldT (K + (j * 5 : Nat)) (fd (Nat.add a j)) (gd (Nat.add a j)) 0 [.f32, .f32, .f32, .f32, .int .i64]) = true) : Run Try.prog Try.f40.ntmps (cL (cK (cB (cA (cB (bodyOf Try.f40)))))) (stR [.vec 0 5 a (.sym n), .sint .i64 (K + (j * 5 : Nat)), .bad, .bad, .bad, .sint .i64 (Int.ofNat j)] [(⟨[.f32, .f32, .f32, .f32, .int .i64], m, fd, gd, bd, false⟩ : Vc)]) (.normal, (stR [.vec 0 5 a (.sym n), .sint .i64 (K + ((j + 1) * 5 : Nat)), .bad, .bad, .bad, .sint .i64 (Int.ofNat (j + 1))] [(⟨[.f32, .f32, .f32, .f32, .int .i64], m, fd, gd, bd, false⟩ : Vc)])) := by
  have c1 : Nat.ble (j + 1) n = true := Nat.ble_eq_true_of_le hj
  have c2 : Nat.ble (Nat.add a j + 1) m.val = true := Nat.ble_eq_true_of_le (by show a + j + 1 ≤ m.val; clear hh; omega)
  have q0 : (0 : Int) ≤ K + (j * 5 : Nat) := by clear hh; omega
  have q1 : K + (j * 5 : Nat) + (5 : Nat) ≤ 9223372036854775807 := by clear hh; omega
  have q2 : K + (j * 5 : Nat) + (5 : Nat) = K + ((j + 1) * 5 : Nat) := by clear hh; omega
  refine Run.to g31 mixed 150 (true :: falses 5) (by kernel_rfl) ?_ ?_ (by kernel_rfl) (by kernel_rfl) ⟨Or.inr (ge_eq (by kernel_rfl)), Or.inr (ge_eq ?_), Or.inl rfl, Or.inl rfl, Or.inl rfl, Or.inr (ge_eq ?_), trivial⟩ ⟨⟨(⟨[.f32, .f32, .f32, .f32, .int .i64], m, fd, gd, bd, false⟩ : Vc), by kernel_rfl, VcLe.refl _⟩, trivial⟩ (by kernel_rfl)
  · have e : wBs (wayO (true :: falses 5) (stR [.vec 0 5 a (.sym n), .sint .i64 (K + (j * 5 : Nat)), .bad, .bad, .bad, .sint .i64 (Int.ofNat j)] [(⟨[.f32, .f32, .f32, .f32, .int .i64], m, fd, gd, bd, false⟩ : Vc)]) (Ab.ev Try.prog G31 Try.f40.ntmps 150 (cL (cK (cB (cA (cB (bodyOf Try.f40)))))) (stR [.vec 0 5 a (.sym n), .sint .i64 (K + (j * 5 : Nat)), .bad, .bad, .bad, .sint .i64 (Int.ofNat j)] [(⟨[.f32, .f32, .f32, .f32, .int .i64], m, fd, gd, bd, false⟩ : Vc)]) Dl.nil)) = [decide (Int.ofNat j < Int.ofNat n), !feqB .f32 ((fd (Nat.add a j)) 0) (ofInt .f32 (incW 0 (K + (j * 5 : Nat)))), !feqB .f32 ((fd (Nat.add a j)) 1) (ofInt .f32 (incW 1 (K + (j * 5 : Nat)))), !feqB .f32 ((fd (Nat.add a j)) 2) (ofInt .f32 (incW 2 (K + (j * 5 : Nat)))), !feqB .f32 ((fd (Nat.add a j)) 3) (ofInt .f32 (incW 3 (K + (j * 5 : Nat)))), (gd (Nat.add a j)) 4 != incW 4 (K + (j * 5 : Nat))] := by kernel_rfl
    rw [e, hldF_eq q0 q1 (fd (Nat.add a j)) (gd (Nat.add a j)), dec_lt hj, hldT_false hh]; rfl
  · have e : wNd (wayO (true :: falses 5) (stR [.vec 0 5 a (.sym n), .sint .i64 (K + (j * 5 : Nat)), .bad, .bad, .bad, .sint .i64 (Int.ofNat j)] [(⟨[.f32, .f32, .f32, .f32, .int .i64], m, fd, gd, bd, false⟩ : Vc)]) (Ab.ev Try.prog G31 Try.f40.ntmps 150 (cL (cK (cB (cA (cB (bodyOf Try.f40)))))) (stR [.vec 0 5 a (.sym n), .sint .i64 (K + (j * 5 : Nat)), .bad, .bad, .bad, .sint .i64 (Int.ofNat j)] [(⟨[.f32, .f32, .f32, .f32, .int .i64], m, fd, gd, bd, false⟩ : Vc)]) Dl.nil)) = (cond (andN (andN (true) (Nat.ble (j + 1) n)) (Nat.ble (Nat.add a j + 1) m.val)) (cond (andN (andN (true) (Nat.ble (j + 1) n)) (Nat.ble (Nat.add a j + 1) m.val)) (cond (andN (andN (true) (Nat.ble (j + 1) n)) (Nat.ble (Nat.add a j + 1) m.val)) (cond (andN (andN (true) (Nat.ble (j + 1) n)) (Nat.ble (Nat.add a j + 1) m.val)) (cond (andN (andN (true) (Nat.ble (j + 1) n)) (Nat.ble (Nat.add a j + 1) m.val)) (true) false) false) false) false) false) := by kernel_rfl
    rw [e, c1, c2]; rfl
  · have e : (wS (wayO (true :: falses 5) (stR [.vec 0 5 a (.sym n), .sint .i64 (K + (j * 5 : Nat)), .bad, .bad, .bad, .sint .i64 (Int.ofNat j)] [(⟨[.f32, .f32, .f32, .f32, .int .i64], m, fd, gd, bd, false⟩ : Vc)]) (Ab.ev Try.prog G31 Try.f40.ntmps 150 (cL (cK (cB (cA (cB (bodyOf Try.f40)))))) (stR [.vec 0 5 a (.sym n), .sint .i64 (K + (j * 5 : Nat)), .bad, .bad, .bad, .sint .i64 (Int.ofNat j)] [(⟨[.f32, .f32, .f32, .f32, .int .i64], m, fd, gd, bd, false⟩ : Vc)]) Dl.nil))).get 1 = .sint .i64 (incW 5 (K + (j * 5 : Nat))) := by kernel_rfl
    rw [e, incW_eq _ _ q0 q1, q2]
  · have e : (wS (wayO (true :: falses 5) (stR [.vec 0 5 a (.sym n), .sint .i64 (K + (j * 5 : Nat)), .bad, .bad, .bad, .sint .i64 (Int.ofNat j)] [(⟨[.f32, .f32, .f32, .f32, .int .i64], m, fd, gd, bd, false⟩ : Vc)]) (Ab.ev Try.prog G31 Try.f40.ntmps 150 (cL (cK (cB (cA (cB (bodyOf Try.f40)))))) (stR [.vec 0 5 a (.sym n), .sint .i64 (K + (j * 5 : Nat)), .bad, .bad, .bad, .sint .i64 (Int.ofNat j)] [(⟨[.f32, .f32, .f32, .f32, .int .i64], m, fd, gd, bd, false⟩ : Vc)]) Dl.nil))).get 5 = .sint .i64 (IntKind.i64.wrap (Int.ofNat j + 1)) := by kernel_rfl
    rw [e, wrap_next hj hn]

theorem hld40end (fd : Nat → Nat → Nat) (gd : Nat → Nat → Int) (bd : Nat → Nat → Bool) (m : Num) (a n : Nat) (K : Int) : Run Try.prog Try.f40.ntmps (cL (cK (cB (cA (cB (bodyOf Try.f40)))))) (stR [.vec 0 5 a (.sym n), .sint .i64 (K + (n * 5 : Nat)), .bad, .bad, .bad, .sint .i64 (Int.ofNat n)] [(⟨[.f32, .f32, .f32, .f32, .int .i64], m, fd, gd, bd, false⟩ : Vc)]) (.exit 0, (stR [.vec 0 5 a (.sym n), .sint .i64 (K + (n * 5 : Nat)), .bad, .bad, .bad, .sint .i64 (Int.ofNat n)] [(⟨[.f32, .f32, .f32, .f32, .int .i64], m, fd, gd, bd, false⟩ : Vc)])) := by
  refine Run.to g31 mixed 150 [false] (by kernel_rfl) ?_ (by kernel_rfl) (by kernel_rfl) (by kernel_rfl) ⟨Or.inr (ge_eq (by kernel_rfl)), Or.inr (ge_eq (by kernel_rfl)), Or.inl rfl, Or.inl rfl, Or.inl rfl, Or.inr (ge_eq (by kernel_rfl)), trivial⟩ ⟨⟨(⟨[.f32, .f32, .f32, .f32, .int .i64], m, fd, gd, bd, false⟩ : Vc), by kernel_rfl, VcLe.refl _⟩, trivial⟩ (by kernel_rfl)
  have e : wBs (wayO [false] (stR [.vec 0 5 a (.sym n), .sint .i64 (K + (n * 5 : Nat)), .bad, .bad, .bad, .sint .i64 (Int.ofNat n)] [(⟨[.f32, .f32, .f32, .f32, .int .i64], m, fd, gd, bd, false⟩ : Vc)]) (Ab.ev Try.prog G31 Try.f40.ntmps 150 (cL (cK (cB (cA (cB (bodyOf Try.f40)))))) (stR [.vec 0 5 a (.sym n), .sint .i64 (K + (n * 5 : Nat)), .bad, .bad, .bad, .sint .i64 (Int.ofNat n)] [(⟨[.f32, .f32, .f32, .f32, .int .i64], m, fd, gd, bd, false⟩ : Vc)]) Dl.nil)) = [decide (Int.ofNat n < Int.ofNat n)] := by kernel_rfl
  rw [e, dec_irr]

theorem hld40 (i a n : Nat) (K : Int) (v : Vc) (hs : v.sh = [.f32, .f32, .f32, .f32, .int .i64]) (han : a + n ≤ v.n.val) (hn : n ≤ 140737488355328) (h0 : 0 ≤ K) (hK : K ≤ 4611686018427387904) (hh : hldB [.f32, .f32, .f32, .f32, .int .i64] v a n K = true) : OnRows Try.prog 40 [⟨i, 5, a, .sym n⟩] [.sint .i64 K] [v] ⟨.sint .i64 (K + (n * 5 : Nat)), [], [], [], true, none⟩ := by
  obtain ⟨sh, m, fd, gd, bd, wr⟩ := v
  have hs : sh = [.f32, .f32, .f32, .f32, .int .i64] := hs
  subst hs
  have hp := allB_true hh
  have h1 : Run Try.prog Try.f40.ntmps (cA (bodyOf Try.f40)) ((viewS [(⟨[.f32, .f32, .f32, .f32, .int .i64], m, fd, gd, bd, wr⟩ : Vc)]).start Try.f40.ntmps [.vec 0 5 a (.sym n), .sint .i64 K]) (.normal, stR [.vec 0 5 a (.sym n), .sint .i64 K] [(⟨[.f32, .f32, .f32, .f32, .int .i64], m, fd, gd, bd, false⟩ : Vc)]) :=
    Run.to g31 mixed 150 [] (by kernel_rfl) (by kernel_rfl) (by kernel_rfl) (by kernel_rfl) (by kernel_rfl) ⟨Or.inr (ge_eq (by kernel_rfl)), Or.inr (ge_eq (by kernel_rfl)), trivial⟩ ⟨⟨(⟨[.f32, .f32, .f32, .f32, .int .i64], m, fd, gd, bd, false⟩ : Vc), by kernel_rfl, VcLe.refl _⟩, trivial⟩ (by kernel_rfl)
  have e0 : K = K + (0 * 5 : Nat) := by omega
  have h2 : Run Try.prog Try.f40.ntmps (cA (cA (cB (bodyOf Try.f40)))) (stR [.vec 0 5 a (.sym n), .sint .i64 K] [(⟨[.f32, .f32, .f32, .f32, .int .i64], m, fd, gd, bd, false⟩ : Vc)]) (.normal, (stR [.vec 0 5 a (.sym n), .sint .i64 (K + (0 * 5 : Nat)), .bad, .bad, .bad, .sint .i64 (Int.ofNat 0)] [(⟨[.f32, .f32, .f32, .f32, .int .i64], m, fd, gd, bd, false⟩ : Vc)])) := by
    refine Run.to g31 mixed 150 [] (by kernel_rfl) (by kernel_rfl) (by kernel_rfl) (by kernel_rfl) (by kernel_rfl) ⟨Or.inr (ge_eq (by kernel_rfl)), Or.inr (ge_eq ?_), Or.inl rfl, Or.inl rfl, Or.inl rfl, Or.inr (ge_int (by kernel_rfl)), trivial⟩ ⟨⟨(⟨[.f32, .f32, .f32, .f32, .int .i64], m, fd, gd, bd, false⟩ : Vc), by kernel_rfl, VcLe.refl _⟩, trivial⟩ (by kernel_rfl)
    rw [← e0]; kernel_rfl
  have h3 : Run Try.prog Try.f40.ntmps (.loop (cL (cK (cB (cA (cB (bodyOf Try.f40))))))) (stR [.vec 0 5 a (.sym n), .sint .i64 (K + (0 * 5 : Nat)), .bad, .bad, .bad, .sint .i64 (Int.ofNat 0)] [(⟨[.f32, .f32, .f32, .f32, .int .i64], m, fd, gd, bd, false⟩ : Vc)]) (.exit 0, (stR [.vec 0 5 a (.sym n), .sint .i64 (K + (n * 5 : Nat)), .bad, .bad, .bad, .sint .i64 (Int.ofNat n)] [(⟨[.f32, .f32, .f32, .f32, .int .i64], m, fd, gd, bd, false⟩ : Vc)])) := Run.loop n (fun j => (stR [.vec 0 5 a (.sym n), .sint .i64 (K + (j * 5 : Nat)), .bad, .bad, .bad, .sint .i64 (Int.ofNat j)] [(⟨[.f32, .f32, .f32, .f32, .int .i64], m, fd, gd, bd, false⟩ : Vc)])) (fun j => rfl) (fun j hj => hld40step fd gd bd m a n K j hj hn han h0 hK (hp j hj)) (hld40end fd gd bd m a n K) (by intro h; cases h)
  have h6 : Run Try.prog Try.f40.ntmps (cB (cB (bodyOf Try.f40))) (stR [.vec 0 5 a (.sym n), .sint .i64 (K + (n * 5 : Nat)), .bad, .bad, .bad, .sint .i64 (Int.ofNat n)] [(⟨[.f32, .f32, .f32, .f32, .int .i64], m, fd, gd, bd, false⟩ : Vc)]) (.ret, (stR [.bad, .bad, .bad, .bad, .sint .i64 (K + (n * 5 : Nat))] [(⟨[.f32, .f32, .f32, .f32, .int .i64], m, fd, gd, bd, false⟩ : Vc)])) :=
    Run.to g31 mixed 150 [] (by kernel_rfl) (by kernel_rfl) (by kernel_rfl) (by kernel_rfl) (by kernel_rfl) ⟨Or.inl rfl, Or.inl rfl, Or.inl rfl, Or.inl rfl, Or.inr (ge_eq (by kernel_rfl)), trivial⟩ ⟨⟨(⟨[.f32, .f32, .f32, .f32, .int .i64], m, fd, gd, bd, false⟩ : Vc), by kernel_rfl, VcLe.refl _⟩, trivial⟩ (by kernel_rfl)
  have hr : Run Try.prog Try.f40.ntmps (bodyOf Try.f40) ((viewS [(⟨[.f32, .f32, .f32, .f32, .int .i64], m, fd, gd, bd, wr⟩ : Vc)]).start Try.f40.ntmps [.vec 0 5 a (.sym n), .sint .i64 K]) (.ret, (stR [.bad, .bad, .bad, .bad, .sint .i64 (K + (n * 5 : Nat))] [(⟨[.f32, .f32, .f32, .f32, .int .i64], m, fd, gd, bd, false⟩ : Vc)])) := by
    have hB : (bodyOf Try.f40) = .seq (cA (bodyOf Try.f40)) (.seq (.seq (cA (cA (cB (bodyOf Try.f40)))) (.block 0 (.loop (cL (cK (cB (cA (cB (bodyOf Try.f40))))))))) (cB (cB (bodyOf Try.f40)))) := by kernel_rfl
    rw [hB]
    exact Run.seq h1 (Nat.le_refl _) (Run.seq (Run.seq h2 (Nat.le_refl _) (Run.block h3)) (Nat.le_refl _) h6)
  intro M w0 ρ w vs hM hv
  exact Run.calls (fr := ⟨none, some ⟨.sint .i64 (K + (n * 5 : Nat)), [], [], []⟩, true⟩) Try.func40 (by kernel_rfl) hr (ahv := []) (avv := []) (by kernel_rfl) rfl rfl ⟨⟨[], rfl⟩, fun i o => rfl, fun i => rfl⟩ (Nat.le_of_ble_eq_true (by kernel_rfl)) hM hv
/-- laws.heldFlueS -/
noncomputable def G32 : List (Nat × Ctr) := (40, orC (hldC [.f32, .f32, .f32, .f32, .int .i64]) (inl Try.prog G31 100 Try.f40)) :: G31
theorem g32 : Ab.Good Try.prog G32 := good_cons (sat_or (sat_hld Try.call40 (fun i a n K v hs han hn h0 hK hh => hld40 i a n K v hs han hn h0 hK hh)) (inl_sat g31 mixed Try.func40 Try.call40 100) rfl rfl) g31

noncomputable def GG : List (Nat × Ctr) := G32
theorem gg : Ab.Good Try.prog GG := g32

end Go.Proofs.Ytendlfonbfnopaa.ab
