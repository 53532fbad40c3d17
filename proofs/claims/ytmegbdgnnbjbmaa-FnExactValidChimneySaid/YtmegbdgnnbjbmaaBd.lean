import Derived.Test.YtmegbdgnnbjbmaaAbW
import Derived.Test.YtmegbdgnnbjbmaaProg
namespace Go.Proofs.Ytmegbdgnnbjbmaa.ab
open Go Go.Ab Go.Proofs
set_option maxRecDepth 100000
theorem mixed : Try.prog.follows .mixedOrders = true := by kernel_rfl

noncomputable def G0 : List (Nat × Ctr) := []
theorem g0 : Ab.Good Try.prog G0 := good_nil _

/-- laws.szFlueS -/
noncomputable def G1 : List (Nat × Ctr) := (30, inl Try.prog G0 100 Try.f30) :: G0
theorem g1 : Ab.Good Try.prog G1 := good_cons (inl_sat g0 mixed Try.func30 Try.call30 100) g0

/-- spec.l00In -/
noncomputable def G2 : List (Nat × Ctr) := (64, inl Try.prog G1 100 Try.f64) :: G1
theorem g2 : Ab.Good Try.prog G2 := good_cons (inl_sat g1 mixed Try.func64 Try.call64 100) g1

/-- math.Float32bits -/
noncomputable def G3 : List (Nat × Ctr) := (102, extC .f32bits) :: G2
theorem g3 : Ab.Good Try.prog G3 := good_cons (sat_ext .f32bits Try.func102 (by kernel_rfl) (by kernel_rfl) (by kernel_rfl) (by kernel_rfl)) g2

/-- spec.l01Finite -/
noncomputable def G4 : List (Nat × Ctr) := (109, ctr1 fun a => .sbool (finF a)) :: G3
theorem g4 : Ab.Good Try.prog G4 := good_cons (sat1 (g := fun a => .sbool (finF a)) g3 mixed Try.func109 Try.call109 100 (fun a => .sbool (feqB .f32 (fop .sub .f32 a a) 0)) (fun a => by kernel_rfl) (fun a ha ρ u h => by show V ρ (.sbool (finF a)) u; rw [← fin_sub a]; exact h)) g3

/-- spec.l01Amount -/
noncomputable def G5 : List (Nat × Ctr) := (75, ctr1 fun a => .sbool (amtF a)) :: G4
theorem g5 : Ab.Good Try.prog G5 := good_cons (sat1 (g := fun a => .sbool (amtF a)) g4 mixed Try.func75 Try.call75 100 (fun a => .cbool (cond (finF a) (cond (fltB .f32 0 a) true (!nanB .f32 a && true)) true) (cond (finF a) (cond (fltB .f32 0 a) true (Int.ofNat a == 0)) false)) (fun a => by kernel_rfl) (fun a ha ρ u h => by show V ρ (.sbool (amtF a)) u; rw [← amt_spec ha]; exact cbool_say (amt_cond a) h)) g4

/-- spec.l01Share -/
noncomputable def G6 : List (Nat × Ctr) := (70, ctr1 fun a => .sbool (shO a)) :: G5
theorem g6 : Ab.Good Try.prog G6 := good_cons (sat1 (g := fun a => .sbool (shO a)) g5 mixed Try.func70 Try.call70 100 (fun a => .sbool (shI a)) (fun a => by kernel_rfl) (fun a ha ρ u h => by show V ρ (.sbool (shO a)) u; rw [shO_eq]; exact h)) g5

/-- spec.l03Hot -/
noncomputable def G7 : List (Nat × Ctr) := (82, inl Try.prog G6 100 Try.f82) :: G6
theorem g7 : Ab.Good Try.prog G7 := good_cons (inl_sat g6 mixed Try.func82 Try.call82 100) g6

/-- spec.l03Flue -/
noncomputable def G8 : List (Nat × Ctr) := (86, fluC) :: G7
theorem g8 : Ab.Good Try.prog G8 := good_cons (sat_flu g7 mixed Try.func86 Try.call86 (fun h w t d z => by kernel_rfl)) g7


theorem chim69cI (gd : Nat → Nat → Int) (m : Num) (a n j : Nat) (han : a + n ≤ m.val) (h1 : 0 ≤ (gd (Nat.add a j) 4)) (h2 : (gd (Nat.add a j) 4) < Int.ofNat n) : (decide (0 ≤ (gd (Nat.add a j) 4)) && Nat.ble ((gd (Nat.add a j) 4).toNat + 1) n) = true ∧ Nat.ble (Nat.add a (gd (Nat.add a j) 4).toNat + 1) m.val = true := by
  have e : (gd (Nat.add a j) 4).toNat < n := by
    have h2 : (gd (Nat.add a j) 4) < (n : Int) := h2
    omega
  refine ⟨?_, Nat.ble_eq_true_of_le (by show a + _ + 1 ≤ m.val; omega)⟩
  rw [decide_eq_true h1, Nat.ble_eq_true_of_le (by omega)]; rfl

theorem chim69step (fd : Nat → Nat → Nat) (gd : Nat → Nat → Int) (bd : Nat → Nat → Bool) (wr : Bool) (m : Num) (a n : Nat) (j : Nat) (hj : j < n) (hn : n ≤ 140737488355328) (han : a + n ≤ m.val) (hp : badI (⟨[.f32, .f32, .f32, .f32, .int .i64], m, fd, gd, bd, wr⟩ : Vc) a n j = false) : Run Try.prog Try.f69.ntmps (cL (cK (cB (cA (cB (cB (cB (bodyOf Try.f69)))))))) (stR [.vec 0 5 a (.sym n), .bad, .bad, .sint .i64 (Int.ofNat n), .sint .i64 (Int.ofNat j)] [⟨[.f32, .f32, .f32, .f32, .int .i64], m, fd, gd, bd, false⟩]) (.normal, (stR [.vec 0 5 a (.sym n), .bad, .bad, .sint .i64 (Int.ofNat n), .sint .i64 (Int.ofNat (j + 1))] [⟨[.f32, .f32, .f32, .f32, .int .i64], m, fd, gd, bd, false⟩])) := by
  have c1 : Nat.ble (j + 1) n = true := Nat.ble_eq_true_of_le hj
  have c2 : Nat.ble (Nat.add a j + 1) m.val = true := Nat.ble_eq_true_of_le (by show a + j + 1 ≤ m.val; omega)
  have hd : (ndc (!(cond (decide ((gd (Nat.add a j) 4) ≥ 0)) (decide ((gd (Nat.add a j) 4) ≤ IntKind.i64.wrap (Int.ofNat n - 1))) false)) true (cond (cond (cond (cond (cond (cond (cond (cond (true) (Nat.ble (j + 1) n) false) (true) false) (Nat.ble (Nat.add a j + 1) m.val) false) (true) false) (true) false) (true) false) (true) false) (ndc ((gd (Nat.add a j) 4) == Int.ofNat j) true (cond (cond (cond (cond (cond (cond (cond (cond (true) (Nat.ble (j + 1) n) false) (true) false) (Nat.ble (Nat.add a j + 1) m.val) false) ((decide (0 ≤ (gd (Nat.add a j) 4)) && Nat.ble ((gd (Nat.add a j) 4).toNat + 1) n)) false) (true) false) (Nat.ble (Nat.add a (gd (Nat.add a j) 4).toNat + 1) m.val) false) (true) false) (true) false)) false)) = true := by
    simp only [ndc_eq]
    rw [c1, c2]
    cases h1 : decide ((gd (Nat.add a j) 4) ≥ 0) with
    | false => rfl
    | true =>
      cases h2 : decide ((gd (Nat.add a j) 4) ≤ IntKind.i64.wrap (Int.ofNat n - 1)) with
      | false => rfl
      | true =>
        have hw : IntKind.i64.wrap (Int.ofNat n - 1) = Int.ofNat n - 1 := IntWalk.i64_in _ (by show _ ≤ (n : Int) - 1 ∧ (n : Int) - 1 ≤ _; omega)
        rw [hw] at h2
        have h2 := of_decide_eq_true h2
        have h1 := of_decide_eq_true h1
        obtain ⟨k1, k2⟩ := chim69cI gd m a n j han h1 (by omega)
        rw [decide_eq_true h1] at k1
        rw [k1, k2]
        cases ((gd (Nat.add a j) 4) == Int.ofNat j) <;> rfl
  have hq := bad_eq (v := (⟨[.f32, .f32, .f32, .f32, .int .i64], m, fd, gd, bd, wr⟩ : Vc)) (a := a) hn hj
  rw [hp] at hq
  have q1 : flV (⟨[.f32, .f32, .f32, .f32, .int .i64], m, fd, gd, bd, wr⟩ : Vc) (Nat.add a j) = true := by
    cases h : flV (⟨[.f32, .f32, .f32, .f32, .int .i64], m, fd, gd, bd, wr⟩ : Vc) (Nat.add a j) with
    | true => rfl
    | false => rw [h] at hq; cases hq
  have q2 : badS (⟨[.f32, .f32, .f32, .f32, .int .i64], m, fd, gd, bd, wr⟩ : Vc) a n j = false := by rw [q1] at hq; exact hq
  refine Run.to g8 mixed 60 [true, false, false] (by kernel_rfl) ?_ ?_ (by kernel_rfl) (by kernel_rfl) ?_ ⟨⟨⟨[.f32, .f32, .f32, .f32, .int .i64], m, fd, gd, bd, false⟩, by kernel_rfl, VcLe.refl _⟩, trivial⟩ (by kernel_rfl)
  · have e : wBs (wayO [true, false, false] (stR [.vec 0 5 a (.sym n), .bad, .bad, .sint .i64 (Int.ofNat n), .sint .i64 (Int.ofNat j)] [⟨[.f32, .f32, .f32, .f32, .int .i64], m, fd, gd, bd, false⟩]) (Ab.ev Try.prog G8 Try.f69.ntmps 60 (cL (cK (cB (cA (cB (cB (cB (bodyOf Try.f69)))))))) (stR [.vec 0 5 a (.sym n), .bad, .bad, .sint .i64 (Int.ofNat n), .sint .i64 (Int.ofNat j)] [⟨[.f32, .f32, .f32, .f32, .int .i64], m, fd, gd, bd, false⟩]) Dl.nil)) = [decide (Int.ofNat j < Int.ofNat n), !flV (⟨[.f32, .f32, .f32, .f32, .int .i64], m, fd, gd, bd, wr⟩ : Vc) (Nat.add a j), badS (⟨[.f32, .f32, .f32, .f32, .int .i64], m, fd, gd, bd, wr⟩ : Vc) a n j] := by kernel_rfl
    rw [e, dec_lt hj, q1, q2]; rfl
  · have e : wNd (wayO [true, false, false] (stR [.vec 0 5 a (.sym n), .bad, .bad, .sint .i64 (Int.ofNat n), .sint .i64 (Int.ofNat j)] [⟨[.f32, .f32, .f32, .f32, .int .i64], m, fd, gd, bd, false⟩]) (Ab.ev Try.prog G8 Try.f69.ntmps 60 (cL (cK (cB (cA (cB (cB (cB (bodyOf Try.f69)))))))) (stR [.vec 0 5 a (.sym n), .bad, .bad, .sint .i64 (Int.ofNat n), .sint .i64 (Int.ofNat j)] [⟨[.f32, .f32, .f32, .f32, .int .i64], m, fd, gd, bd, false⟩]) Dl.nil)) = (cond (cond (cond (cond (true) (Nat.ble (j + 1) n) false) (Nat.ble (Nat.add a j + 1) m.val) false) (true) false) (cond (cond (cond (cond (cond (true) (Nat.ble (j + 1) n) false) (true) false) (Nat.ble (Nat.add a j + 1) m.val) false) (true) false) (cond (cond (cond (ndc ((gd (Nat.add a j) 4) == -1) true (cond (cond (cond (cond (cond (cond (cond (cond (cond (cond (true) (Nat.ble (j + 1) n) false) (true) false) (Nat.ble (Nat.add a j + 1) m.val) false) (true) false) (true) false) (true) false) (true) false) (true) false) (ndc (!(cond (decide ((gd (Nat.add a j) 4) ≥ 0)) (decide ((gd (Nat.add a j) 4) ≤ IntKind.i64.wrap (Int.ofNat n - 1))) false)) true (cond (cond (cond (cond (cond (cond (cond (cond (true) (Nat.ble (j + 1) n) false) (true) false) (Nat.ble (Nat.add a j + 1) m.val) false) (true) false) (true) false) (true) false) (true) false) (ndc ((gd (Nat.add a j) 4) == Int.ofNat j) true (cond (cond (cond (cond (cond (cond (cond (cond (true) (Nat.ble (j + 1) n) false) (true) false) (Nat.ble (Nat.add a j + 1) m.val) false) ((decide (0 ≤ (gd (Nat.add a j) 4)) && Nat.ble ((gd (Nat.add a j) 4).toNat + 1) n)) false) (true) false) (Nat.ble (Nat.add a (gd (Nat.add a j) 4).toNat + 1) m.val) false) (true) false) (true) false)) false)) false) true false)) (true) false) (true) false) (true) false) false) false) := by kernel_rfl
    rw [e, hd, c1, c2]
    cases ((gd (Nat.add a j) 4) == -1) <;> rfl
  · refine ⟨Or.inr (ge_eq (by kernel_rfl)), Or.inl rfl, Or.inl rfl, Or.inr (ge_eq (by kernel_rfl)), Or.inr (ge_eq ?_), trivial⟩
    have e : (wS (wayO [true, false, false] (stR [.vec 0 5 a (.sym n), .bad, .bad, .sint .i64 (Int.ofNat n), .sint .i64 (Int.ofNat j)] [⟨[.f32, .f32, .f32, .f32, .int .i64], m, fd, gd, bd, false⟩]) (Ab.ev Try.prog G8 Try.f69.ntmps 60 (cL (cK (cB (cA (cB (cB (cB (bodyOf Try.f69)))))))) (stR [.vec 0 5 a (.sym n), .bad, .bad, .sint .i64 (Int.ofNat n), .sint .i64 (Int.ofNat j)] [⟨[.f32, .f32, .f32, .f32, .int .i64], m, fd, gd, bd, false⟩]) Dl.nil))).get 4 = .sint .i64 (IntKind.i64.wrap (Int.ofNat j + 1)) := by kernel_rfl
    rw [e, wrap_next hj hn]

theorem chim69ret (fd : Nat → Nat → Nat) (gd : Nat → Nat → Int) (bd : Nat → Nat → Bool) (wr : Bool) (m : Num) (a n : Nat) (j : Nat) (hj : j < n) (hn : n ≤ 140737488355328) (han : a + n ≤ m.val) (hp : badI (⟨[.f32, .f32, .f32, .f32, .int .i64], m, fd, gd, bd, wr⟩ : Vc) a n j = true) : Run Try.prog Try.f69.ntmps (cL (cK (cB (cA (cB (cB (cB (bodyOf Try.f69)))))))) (stR [.vec 0 5 a (.sym n), .bad, .bad, .sint .i64 (Int.ofNat n), .sint .i64 (Int.ofNat j)] [⟨[.f32, .f32, .f32, .f32, .int .i64], m, fd, gd, bd, false⟩]) (.ret, (stR [.bad, .bad, .sbool false] [⟨[.f32, .f32, .f32, .f32, .int .i64], m, fd, gd, bd, false⟩])) := by
  have c1 : Nat.ble (j + 1) n = true := Nat.ble_eq_true_of_le hj
  have c2 : Nat.ble (Nat.add a j + 1) m.val = true := Nat.ble_eq_true_of_le (by show a + j + 1 ≤ m.val; omega)
  have hd : (ndc (!(cond (decide ((gd (Nat.add a j) 4) ≥ 0)) (decide ((gd (Nat.add a j) 4) ≤ IntKind.i64.wrap (Int.ofNat n - 1))) false)) true (cond (cond (cond (cond (cond (cond (cond (cond (true) (Nat.ble (j + 1) n) false) (true) false) (Nat.ble (Nat.add a j + 1) m.val) false) (true) false) (true) false) (true) false) (true) false) (ndc ((gd (Nat.add a j) 4) == Int.ofNat j) true (cond (cond (cond (cond (cond (cond (cond (cond (true) (Nat.ble (j + 1) n) false) (true) false) (Nat.ble (Nat.add a j + 1) m.val) false) ((decide (0 ≤ (gd (Nat.add a j) 4)) && Nat.ble ((gd (Nat.add a j) 4).toNat + 1) n)) false) (true) false) (Nat.ble (Nat.add a (gd (Nat.add a j) 4).toNat + 1) m.val) false) (true) false) (true) false)) false)) = true := by
    simp only [ndc_eq]
    rw [c1, c2]
    cases h1 : decide ((gd (Nat.add a j) 4) ≥ 0) with
    | false => rfl
    | true =>
      cases h2 : decide ((gd (Nat.add a j) 4) ≤ IntKind.i64.wrap (Int.ofNat n - 1)) with
      | false => rfl
      | true =>
        have hw : IntKind.i64.wrap (Int.ofNat n - 1) = Int.ofNat n - 1 := IntWalk.i64_in _ (by show _ ≤ (n : Int) - 1 ∧ (n : Int) - 1 ≤ _; omega)
        rw [hw] at h2
        have h2 := of_decide_eq_true h2
        have h1 := of_decide_eq_true h1
        obtain ⟨k1, k2⟩ := chim69cI gd m a n j han h1 (by omega)
        rw [decide_eq_true h1] at k1
        rw [k1, k2]
        cases ((gd (Nat.add a j) 4) == Int.ofNat j) <;> rfl
  have hq := bad_eq (v := (⟨[.f32, .f32, .f32, .f32, .int .i64], m, fd, gd, bd, wr⟩ : Vc)) (a := a) hn hj
  rw [hp] at hq
  cases q1 : flV (⟨[.f32, .f32, .f32, .f32, .int .i64], m, fd, gd, bd, wr⟩ : Vc) (Nat.add a j) with
  | false =>
    refine Run.to g8 mixed 60 [true, true] (by kernel_rfl) ?_ ?_ (by kernel_rfl) (by kernel_rfl) ⟨Or.inl rfl, Or.inl rfl, Or.inr (ge_bool (by kernel_rfl)), trivial⟩ ⟨⟨⟨[.f32, .f32, .f32, .f32, .int .i64], m, fd, gd, bd, false⟩, by kernel_rfl, VcLe.refl _⟩, trivial⟩ (by kernel_rfl)
    · have e : wBs (wayO [true, true] (stR [.vec 0 5 a (.sym n), .bad, .bad, .sint .i64 (Int.ofNat n), .sint .i64 (Int.ofNat j)] [⟨[.f32, .f32, .f32, .f32, .int .i64], m, fd, gd, bd, false⟩]) (Ab.ev Try.prog G8 Try.f69.ntmps 60 (cL (cK (cB (cA (cB (cB (cB (bodyOf Try.f69)))))))) (stR [.vec 0 5 a (.sym n), .bad, .bad, .sint .i64 (Int.ofNat n), .sint .i64 (Int.ofNat j)] [⟨[.f32, .f32, .f32, .f32, .int .i64], m, fd, gd, bd, false⟩]) Dl.nil)) = [decide (Int.ofNat j < Int.ofNat n), !flV (⟨[.f32, .f32, .f32, .f32, .int .i64], m, fd, gd, bd, wr⟩ : Vc) (Nat.add a j)] := by kernel_rfl
      rw [e, dec_lt hj, q1]; rfl
    · have e : wNd (wayO [true, true] (stR [.vec 0 5 a (.sym n), .bad, .bad, .sint .i64 (Int.ofNat n), .sint .i64 (Int.ofNat j)] [⟨[.f32, .f32, .f32, .f32, .int .i64], m, fd, gd, bd, false⟩]) (Ab.ev Try.prog G8 Try.f69.ntmps 60 (cL (cK (cB (cA (cB (cB (cB (bodyOf Try.f69)))))))) (stR [.vec 0 5 a (.sym n), .bad, .bad, .sint .i64 (Int.ofNat n), .sint .i64 (Int.ofNat j)] [⟨[.f32, .f32, .f32, .f32, .int .i64], m, fd, gd, bd, false⟩]) Dl.nil)) = (cond (cond (cond (cond (true) (Nat.ble (j + 1) n) false) (Nat.ble (Nat.add a j + 1) m.val) false) (true) false) (true) false) := by kernel_rfl
      rw [e, c1, c2]; rfl
  | true =>
    have q2 : badS (⟨[.f32, .f32, .f32, .f32, .int .i64], m, fd, gd, bd, wr⟩ : Vc) a n j = true := by rw [q1] at hq; exact hq
    refine Run.to g8 mixed 60 [true, false, true] (by kernel_rfl) ?_ ?_ (by kernel_rfl) (by kernel_rfl) ⟨Or.inl rfl, Or.inl rfl, Or.inr (ge_bool (by kernel_rfl)), trivial⟩ ⟨⟨⟨[.f32, .f32, .f32, .f32, .int .i64], m, fd, gd, bd, false⟩, by kernel_rfl, VcLe.refl _⟩, trivial⟩ (by kernel_rfl)
    · have e : wBs (wayO [true, false, true] (stR [.vec 0 5 a (.sym n), .bad, .bad, .sint .i64 (Int.ofNat n), .sint .i64 (Int.ofNat j)] [⟨[.f32, .f32, .f32, .f32, .int .i64], m, fd, gd, bd, false⟩]) (Ab.ev Try.prog G8 Try.f69.ntmps 60 (cL (cK (cB (cA (cB (cB (cB (bodyOf Try.f69)))))))) (stR [.vec 0 5 a (.sym n), .bad, .bad, .sint .i64 (Int.ofNat n), .sint .i64 (Int.ofNat j)] [⟨[.f32, .f32, .f32, .f32, .int .i64], m, fd, gd, bd, false⟩]) Dl.nil)) = [decide (Int.ofNat j < Int.ofNat n), !flV (⟨[.f32, .f32, .f32, .f32, .int .i64], m, fd, gd, bd, wr⟩ : Vc) (Nat.add a j), badS (⟨[.f32, .f32, .f32, .f32, .int .i64], m, fd, gd, bd, wr⟩ : Vc) a n j] := by kernel_rfl
      rw [e, dec_lt hj, q1, q2]; rfl
    · have e : wNd (wayO [true, false, true] (stR [.vec 0 5 a (.sym n), .bad, .bad, .sint .i64 (Int.ofNat n), .sint .i64 (Int.ofNat j)] [⟨[.f32, .f32, .f32, .f32, .int .i64], m, fd, gd, bd, false⟩]) (Ab.ev Try.prog G8 Try.f69.ntmps 60 (cL (cK (cB (cA (cB (cB (cB (bodyOf Try.f69)))))))) (stR [.vec 0 5 a (.sym n), .bad, .bad, .sint .i64 (Int.ofNat n), .sint .i64 (Int.ofNat j)] [⟨[.f32, .f32, .f32, .f32, .int .i64], m, fd, gd, bd, false⟩]) Dl.nil)) = (cond (cond (cond (cond (true) (Nat.ble (j + 1) n) false) (Nat.ble (Nat.add a j + 1) m.val) false) (true) false) (cond (cond (cond (cond (cond (true) (Nat.ble (j + 1) n) false) (true) false) (Nat.ble (Nat.add a j + 1) m.val) false) (true) false) (cond (cond (cond (cond (cond (cond (cond (cond (cond (cond (true) (Nat.ble (j + 1) n) false) (true) false) (Nat.ble (Nat.add a j + 1) m.val) false) (true) false) (true) false) (true) false) (true) false) (true) false) (ndc (!(cond (decide ((gd (Nat.add a j) 4) ≥ 0)) (decide ((gd (Nat.add a j) 4) ≤ IntKind.i64.wrap (Int.ofNat n - 1))) false)) true (cond (cond (cond (cond (cond (cond (cond (cond (true) (Nat.ble (j + 1) n) false) (true) false) (Nat.ble (Nat.add a j + 1) m.val) false) (true) false) (true) false) (true) false) (true) false) (ndc ((gd (Nat.add a j) 4) == Int.ofNat j) true (cond (cond (cond (cond (cond (cond (cond (cond (true) (Nat.ble (j + 1) n) false) (true) false) (Nat.ble (Nat.add a j + 1) m.val) false) ((decide (0 ≤ (gd (Nat.add a j) 4)) && Nat.ble ((gd (Nat.add a j) 4).toNat + 1) n)) false) (true) false) (Nat.ble (Nat.add a (gd (Nat.add a j) 4).toNat + 1) m.val) false) (true) false) (true) false)) false)) false) true false) false) false) := by kernel_rfl
      rw [e, hd, c1, c2]; rfl

theorem chim69end (fd : Nat → Nat → Nat) (gd : Nat → Nat → Int) (bd : Nat → Nat → Bool) (wr : Bool) (m : Num) (a n : Nat) : Run Try.prog Try.f69.ntmps (cL (cK (cB (cA (cB (cB (cB (bodyOf Try.f69)))))))) (stR [.vec 0 5 a (.sym n), .bad, .bad, .sint .i64 (Int.ofNat n), .sint .i64 (Int.ofNat n)] [⟨[.f32, .f32, .f32, .f32, .int .i64], m, fd, gd, bd, false⟩]) (.exit 0, (stR [.vec 0 5 a (.sym n), .bad, .bad, .sint .i64 (Int.ofNat n), .sint .i64 (Int.ofNat n)] [⟨[.f32, .f32, .f32, .f32, .int .i64], m, fd, gd, bd, false⟩])) := by
  refine Run.to g8 mixed 60 [false] (by kernel_rfl) ?_ (by kernel_rfl) (by kernel_rfl) (by kernel_rfl) ⟨Or.inr (ge_eq (by kernel_rfl)), Or.inl rfl, Or.inl rfl, Or.inr (ge_eq (by kernel_rfl)), Or.inr (ge_eq (by kernel_rfl)), trivial⟩ ⟨⟨⟨[.f32, .f32, .f32, .f32, .int .i64], m, fd, gd, bd, false⟩, by kernel_rfl, VcLe.refl _⟩, trivial⟩ (by kernel_rfl)
  have e : wBs (wayO [false] (stR [.vec 0 5 a (.sym n), .bad, .bad, .sint .i64 (Int.ofNat n), .sint .i64 (Int.ofNat n)] [⟨[.f32, .f32, .f32, .f32, .int .i64], m, fd, gd, bd, false⟩]) (Ab.ev Try.prog G8 Try.f69.ntmps 60 (cL (cK (cB (cA (cB (cB (cB (bodyOf Try.f69)))))))) (stR [.vec 0 5 a (.sym n), .bad, .bad, .sint .i64 (Int.ofNat n), .sint .i64 (Int.ofNat n)] [⟨[.f32, .f32, .f32, .f32, .int .i64], m, fd, gd, bd, false⟩]) Dl.nil)) = [decide (Int.ofNat n < Int.ofNat n)] := by kernel_rfl
  rw [e, dec_irr]

theorem chim69 (i a n : Nat) (v : Vc) (hs : v.sh = flSh) (han : a + n ≤ v.n.val) (hn : n ≤ 140737488355328) : OnRows Try.prog 69 [⟨i, 5, a, .sym n⟩] [] [v] ⟨.sbool (chimV v a n), [], [], [], true, none⟩ := by
  obtain ⟨sh, m, fd, gd, bd, wr⟩ := v
  have hs : sh = [.f32, .f32, .f32, .f32, .int .i64] := hs
  subst hs
  have h0 : Run Try.prog Try.f69.ntmps (cA (bodyOf Try.f69)) ((viewS [(⟨[.f32, .f32, .f32, .f32, .int .i64], m, fd, gd, bd, wr⟩ : Vc)]).start Try.f69.ntmps [.vec 0 5 a (.sym n)]) (.normal, (stR [.vec 0 5 a (.sym n)] [⟨[.f32, .f32, .f32, .f32, .int .i64], m, fd, gd, bd, false⟩])) :=
    Run.to g8 mixed 60 [] (by kernel_rfl) (by kernel_rfl) (by kernel_rfl) (by kernel_rfl) (by kernel_rfl) ⟨Or.inr (ge_eq (by kernel_rfl)), trivial⟩ ⟨⟨⟨[.f32, .f32, .f32, .f32, .int .i64], m, fd, gd, bd, false⟩, by kernel_rfl, VcLe.refl _⟩, trivial⟩ (by kernel_rfl)
  have h01 : Run Try.prog Try.f69.ntmps (cA (cB (bodyOf Try.f69))) (stR [.vec 0 5 a (.sym n)] [⟨[.f32, .f32, .f32, .f32, .int .i64], m, fd, gd, bd, false⟩]) (.normal, (stR [.vec 0 5 a (.sym n), .bad, .bad, .sint .i64 (Int.ofNat n)] [⟨[.f32, .f32, .f32, .f32, .int .i64], m, fd, gd, bd, false⟩])) :=
    Run.to g8 mixed 60 [] (by kernel_rfl) (by kernel_rfl) (by kernel_rfl) (by kernel_rfl) (by kernel_rfl) ⟨Or.inr (ge_eq (by kernel_rfl)), Or.inl rfl, Or.inl rfl, Or.inr (ge_eq (by kernel_rfl)), trivial⟩ ⟨⟨⟨[.f32, .f32, .f32, .f32, .int .i64], m, fd, gd, bd, false⟩, by kernel_rfl, VcLe.refl _⟩, trivial⟩ (by kernel_rfl)
  have ebT : wBs (wayO [true] (stR [.vec 0 5 a (.sym n), .bad, .bad, .sint .i64 (Int.ofNat n)] [⟨[.f32, .f32, .f32, .f32, .int .i64], m, fd, gd, bd, false⟩]) (Ab.ev Try.prog G8 Try.f69.ntmps 60 (cA (cB (cB (bodyOf Try.f69)))) (stR [.vec 0 5 a (.sym n), .bad, .bad, .sint .i64 (Int.ofNat n)] [⟨[.f32, .f32, .f32, .f32, .int .i64], m, fd, gd, bd, false⟩]) Dl.nil)) = [!(cond (decide (Int.ofNat n ≥ 1)) (decide (Int.ofNat n ≤ 6)) false)] := by kernel_rfl
  have ebF : wBs (wayO [false] (stR [.vec 0 5 a (.sym n), .bad, .bad, .sint .i64 (Int.ofNat n)] [⟨[.f32, .f32, .f32, .f32, .int .i64], m, fd, gd, bd, false⟩]) (Ab.ev Try.prog G8 Try.f69.ntmps 60 (cA (cB (cB (bodyOf Try.f69)))) (stR [.vec 0 5 a (.sym n), .bad, .bad, .sint .i64 (Int.ofNat n)] [⟨[.f32, .f32, .f32, .f32, .int .i64], m, fd, gd, bd, false⟩]) Dl.nil)) = [!(cond (decide (Int.ofNat n ≥ 1)) (decide (Int.ofNat n ≤ 6)) false)] := by kernel_rfl
  have hTT : (!(cond (decide (Int.ofNat n ≥ 1)) (decide (Int.ofNat n ≤ 6)) false)) = cond (decide (Int.ofNat n < 1)) true (decide (Int.ofNat n > 6)) := by
    by_cases k1 : Int.ofNat n < 1
    · have : ¬ (Int.ofNat n ≥ 1) := by omega
      rw [decide_eq_true k1, decide_eq_false this]; rfl
    · have k2 : Int.ofNat n ≥ 1 := by omega
      rw [decide_eq_false k1, decide_eq_true k2]
      by_cases k3 : Int.ofNat n > 6
      · have : ¬ (Int.ofNat n ≤ 6) := by omega
        rw [decide_eq_true k3, decide_eq_false this]; rfl
      · have : Int.ofNat n ≤ 6 := by omega
        rw [decide_eq_false k3, decide_eq_true this]; rfl
  have hr : Run Try.prog Try.f69.ntmps (bodyOf Try.f69) ((viewS [(⟨[.f32, .f32, .f32, .f32, .int .i64], m, fd, gd, bd, wr⟩ : Vc)]).start Try.f69.ntmps [.vec 0 5 a (.sym n)]) (.ret, (stR [.bad, .bad, .sbool (chimV (⟨[.f32, .f32, .f32, .f32, .int .i64], m, fd, gd, bd, wr⟩ : Vc) a n)] [⟨[.f32, .f32, .f32, .f32, .int .i64], m, fd, gd, bd, false⟩])) := by
    have hB : (bodyOf Try.f69) = .seq (cA (bodyOf Try.f69)) (.seq (cA (cB (bodyOf Try.f69))) (.seq (cA (cB (cB (bodyOf Try.f69)))) (.seq (.seq (cA (cA (cB (cB (cB (bodyOf Try.f69)))))) (.block 0 (.loop (cL (cK (cB (cA (cB (cB (cB (bodyOf Try.f69))))))))))) (cB (cB (cB (cB (bodyOf Try.f69)))))))) := by kernel_rfl
    rw [hB]
    refine Run.seq h0 (Nat.le_refl _) (Run.seq h01 (Nat.le_refl _) ?_)
    unfold chimV
    cases hT : cond (decide (Int.ofNat n < 1)) true (decide (Int.ofNat n > 6)) with
    | true =>
      have h1 : Run Try.prog Try.f69.ntmps (cA (cB (cB (bodyOf Try.f69)))) (stR [.vec 0 5 a (.sym n), .bad, .bad, .sint .i64 (Int.ofNat n)] [⟨[.f32, .f32, .f32, .f32, .int .i64], m, fd, gd, bd, false⟩]) (.ret, (stR [.bad, .bad, .sbool false] [⟨[.f32, .f32, .f32, .f32, .int .i64], m, fd, gd, bd, false⟩])) := by
        refine Run.to g8 mixed 60 [true] (by kernel_rfl) ?_ (by kernel_rfl) (by kernel_rfl) (by kernel_rfl) ⟨Or.inl rfl, Or.inl rfl, Or.inr (ge_bool (by kernel_rfl)), trivial⟩ ⟨⟨⟨[.f32, .f32, .f32, .f32, .int .i64], m, fd, gd, bd, false⟩, by kernel_rfl, VcLe.refl _⟩, trivial⟩ (by kernel_rfl)
        rw [ebT, hTT, hT]
      exact Run.seq_out h1 (by intro h; cases h)
    | false =>
      have h1 : Run Try.prog Try.f69.ntmps (cA (cB (cB (bodyOf Try.f69)))) (stR [.vec 0 5 a (.sym n), .bad, .bad, .sint .i64 (Int.ofNat n)] [⟨[.f32, .f32, .f32, .f32, .int .i64], m, fd, gd, bd, false⟩]) (.normal, (stR [.vec 0 5 a (.sym n), .bad, .bad, .sint .i64 (Int.ofNat n)] [⟨[.f32, .f32, .f32, .f32, .int .i64], m, fd, gd, bd, false⟩])) := by
        refine Run.to g8 mixed 60 [false] (by kernel_rfl) ?_ (by kernel_rfl) (by kernel_rfl) (by kernel_rfl) ⟨Or.inr (ge_eq (by kernel_rfl)), Or.inl rfl, Or.inl rfl, Or.inr (ge_eq (by kernel_rfl)), trivial⟩ ⟨⟨⟨[.f32, .f32, .f32, .f32, .int .i64], m, fd, gd, bd, false⟩, by kernel_rfl, VcLe.refl _⟩, trivial⟩ (by kernel_rfl)
        rw [ebF, hTT, hT]
      have h2 : Run Try.prog Try.f69.ntmps (cA (cA (cB (cB (cB (bodyOf Try.f69)))))) (stR [.vec 0 5 a (.sym n), .bad, .bad, .sint .i64 (Int.ofNat n)] [⟨[.f32, .f32, .f32, .f32, .int .i64], m, fd, gd, bd, false⟩]) (.normal, (stR [.vec 0 5 a (.sym n), .bad, .bad, .sint .i64 (Int.ofNat n), .sint .i64 (Int.ofNat 0)] [⟨[.f32, .f32, .f32, .f32, .int .i64], m, fd, gd, bd, false⟩])) :=
        Run.to g8 mixed 60 [] (by kernel_rfl) (by kernel_rfl) (by kernel_rfl) (by kernel_rfl) (by kernel_rfl) ⟨Or.inr (ge_eq (by kernel_rfl)), Or.inl rfl, Or.inl rfl, Or.inr (ge_eq (by kernel_rfl)), Or.inr (ge_int (by kernel_rfl)), trivial⟩ ⟨⟨⟨[.f32, .f32, .f32, .f32, .int .i64], m, fd, gd, bd, false⟩, by kernel_rfl, VcLe.refl _⟩, trivial⟩ (by kernel_rfl)
      show Run Try.prog Try.f69.ntmps _ _ (.ret, (stR [.bad, .bad, .sbool (allB n (fun k => !badI (⟨[.f32, .f32, .f32, .f32, .int .i64], m, fd, gd, bd, wr⟩ : Vc) a n k))] [⟨[.f32, .f32, .f32, .f32, .int .i64], m, fd, gd, bd, false⟩]))
      refine Run.seq h1 (Nat.le_refl _) ?_
      cases hall : allB n (fun k => !badI (⟨[.f32, .f32, .f32, .f32, .int .i64], m, fd, gd, bd, wr⟩ : Vc) a n k) with
      | true =>
        have hp := allB_true hall
        have h3 : Run Try.prog Try.f69.ntmps (.loop (cL (cK (cB (cA (cB (cB (cB (bodyOf Try.f69))))))))) (stR [.vec 0 5 a (.sym n), .bad, .bad, .sint .i64 (Int.ofNat n), .sint .i64 (Int.ofNat 0)] [⟨[.f32, .f32, .f32, .f32, .int .i64], m, fd, gd, bd, false⟩]) (.exit 0, (stR [.vec 0 5 a (.sym n), .bad, .bad, .sint .i64 (Int.ofNat n), .sint .i64 (Int.ofNat n)] [⟨[.f32, .f32, .f32, .f32, .int .i64], m, fd, gd, bd, false⟩])) := Run.loop n (fun j => (stR [.vec 0 5 a (.sym n), .bad, .bad, .sint .i64 (Int.ofNat n), .sint .i64 (Int.ofNat j)] [⟨[.f32, .f32, .f32, .f32, .int .i64], m, fd, gd, bd, false⟩])) (fun j => rfl) (fun j hj => chim69step fd gd bd wr m a n j hj hn han (by simpa using hp j hj)) (chim69end fd gd bd wr m a n) (by intro h; cases h)
        have h6 : Run Try.prog Try.f69.ntmps (cB (cB (cB (cB (bodyOf Try.f69))))) (stR [.vec 0 5 a (.sym n), .bad, .bad, .sint .i64 (Int.ofNat n), .sint .i64 (Int.ofNat n)] [⟨[.f32, .f32, .f32, .f32, .int .i64], m, fd, gd, bd, false⟩]) (.ret, (stR [.bad, .bad, .sbool true] [⟨[.f32, .f32, .f32, .f32, .int .i64], m, fd, gd, bd, false⟩])) :=
          Run.to g8 mixed 60 [] (by kernel_rfl) (by kernel_rfl) (by kernel_rfl) (by kernel_rfl) (by kernel_rfl) ⟨Or.inl rfl, Or.inl rfl, Or.inr (ge_bool (by kernel_rfl)), trivial⟩ ⟨⟨⟨[.f32, .f32, .f32, .f32, .int .i64], m, fd, gd, bd, false⟩, by kernel_rfl, VcLe.refl _⟩, trivial⟩ (by kernel_rfl)
        exact Run.seq (Run.seq h2 (Nat.le_refl _) (Run.block h3)) (Nat.le_refl _) h6
      | false =>
        obtain ⟨j, hj, hpj, hpk⟩ := allB_false hall
        have h3 : Run Try.prog Try.f69.ntmps (.loop (cL (cK (cB (cA (cB (cB (cB (bodyOf Try.f69))))))))) (stR [.vec 0 5 a (.sym n), .bad, .bad, .sint .i64 (Int.ofNat n), .sint .i64 (Int.ofNat 0)] [⟨[.f32, .f32, .f32, .f32, .int .i64], m, fd, gd, bd, false⟩]) (.ret, (stR [.bad, .bad, .sbool false] [⟨[.f32, .f32, .f32, .f32, .int .i64], m, fd, gd, bd, false⟩])) := Run.loop j (fun j => (stR [.vec 0 5 a (.sym n), .bad, .bad, .sint .i64 (Int.ofNat n), .sint .i64 (Int.ofNat j)] [⟨[.f32, .f32, .f32, .f32, .int .i64], m, fd, gd, bd, false⟩])) (fun j => rfl) (fun k hk => chim69step fd gd bd wr m a n k (by omega) hn han (by simpa using hpk k hk)) (chim69ret fd gd bd wr m a n j hj hn han (by simpa using hpj)) (by intro h; cases h)
        exact Run.seq_out (Run.seq h2 (Nat.le_refl _) (Run.block_out h3 (by intro h; cases h))) (by intro h; cases h)
  intro M w0 ρ w vs hM hv
  exact Run.calls (fr := ⟨none, some ⟨.sbool (chimV (⟨[.f32, .f32, .f32, .f32, .int .i64], m, fd, gd, bd, wr⟩ : Vc) a n), [], [], []⟩, true⟩) Try.func69 (by kernel_rfl) hr (ahv := []) (avv := []) (by kernel_rfl) rfl rfl ⟨⟨[], rfl⟩, fun i o => rfl, fun i => rfl⟩ (Nat.le_of_ble_eq_true (by kernel_rfl)) hM hv
/-- spec.l03Ok -/
noncomputable def G9 : List (Nat × Ctr) := (69, chimC) :: G8
theorem g9 : Ab.Good Try.prog G9 := good_cons (sat_chim Try.call69 (fun i a n v hs han hn => chim69 i a n v hs han hn)) g8

/-- spec.ValidChimney -/
noncomputable def G10 : List (Nat × Ctr) := (31, inl Try.prog G9 100 Try.f31) :: G9
theorem g10 : Ab.Good Try.prog G10 := good_cons (inl_sat g9 mixed Try.func31 Try.call31 100) g9

/-- laws.toFlue -/
noncomputable def G11 : List (Nat × Ctr) := (40, inl Try.prog G10 100 Try.f40) :: G10
theorem g11 : Ab.Good Try.prog G11 := good_cons (inl_sat g10 mixed Try.func40 Try.call40 100) g10


theorem cpy32step (fd : Nat → Nat → Nat) (gd : Nat → Nat → Int) (bd : Nat → Nat → Bool) (wr : Bool) (m : Num) (a n : Nat) (j : Nat) (hj : j < n) (hn : n ≤ 140737488355328) (han : a + n ≤ m.val) : Run Try.prog Try.f32.ntmps (cL (cK (cB (cA (cB (cB (bodyOf Try.f32))))))) (stR [.vec 0 5 a (.sym n), .bad, .bad, .vec 1 5 0 (.sym n), .sint .i64 (Int.ofNat j)] [⟨[.f32, .f32, .f32, .f32, .int .i64], m, fd, gd, bd, false⟩, rowJ [.f32, .f32, .f32, .f32, .int .i64] n a ⟨[.f32, .f32, .f32, .f32, .int .i64], m, fd, gd, bd, wr⟩ [.flt .f32 0, .flt .f32 0, .flt .f32 0, .flt .f32 0, .int .i64 0] j]) (.normal, (stR [.vec 0 5 a (.sym n), .bad, .bad, .vec 1 5 0 (.sym n), .sint .i64 (Int.ofNat (j + 1))] [⟨[.f32, .f32, .f32, .f32, .int .i64], m, fd, gd, bd, false⟩, rowJ [.f32, .f32, .f32, .f32, .int .i64] n a ⟨[.f32, .f32, .f32, .f32, .int .i64], m, fd, gd, bd, wr⟩ [.flt .f32 0, .flt .f32 0, .flt .f32 0, .flt .f32 0, .int .i64 0] (j + 1)])) := by
  have c1 : Nat.ble (j + 1) n = true := Nat.ble_eq_true_of_le hj
  have c2 : Nat.ble (Nat.add a j + 1) m.val = true := Nat.ble_eq_true_of_le (by show a + j + 1 ≤ m.val; omega)
  have c4 : Nat.ble (Nat.add 0 j + 1) n = true := Nat.ble_eq_true_of_le (by show 0 + j + 1 ≤ n; omega)
  refine Run.to g11 mixed 60 [true] (by kernel_rfl) ?_ ?_ (by kernel_rfl) (by kernel_rfl) ?_ ?_ (by kernel_rfl)
  · have e : wBs (wayO [true] (stR [.vec 0 5 a (.sym n), .bad, .bad, .vec 1 5 0 (.sym n), .sint .i64 (Int.ofNat j)] [⟨[.f32, .f32, .f32, .f32, .int .i64], m, fd, gd, bd, false⟩, rowJ [.f32, .f32, .f32, .f32, .int .i64] n a ⟨[.f32, .f32, .f32, .f32, .int .i64], m, fd, gd, bd, wr⟩ [.flt .f32 0, .flt .f32 0, .flt .f32 0, .flt .f32 0, .int .i64 0] j]) (Ab.ev Try.prog G11 Try.f32.ntmps 60 (cL (cK (cB (cA (cB (cB (bodyOf Try.f32))))))) (stR [.vec 0 5 a (.sym n), .bad, .bad, .vec 1 5 0 (.sym n), .sint .i64 (Int.ofNat j)] [⟨[.f32, .f32, .f32, .f32, .int .i64], m, fd, gd, bd, false⟩, rowJ [.f32, .f32, .f32, .f32, .int .i64] n a ⟨[.f32, .f32, .f32, .f32, .int .i64], m, fd, gd, bd, wr⟩ [.flt .f32 0, .flt .f32 0, .flt .f32 0, .flt .f32 0, .int .i64 0] j]) Dl.nil)) = [decide (Int.ofNat j < Int.ofNat n)] := by kernel_rfl
    rw [e, dec_lt hj]
  · have e : wNd (wayO [true] (stR [.vec 0 5 a (.sym n), .bad, .bad, .vec 1 5 0 (.sym n), .sint .i64 (Int.ofNat j)] [⟨[.f32, .f32, .f32, .f32, .int .i64], m, fd, gd, bd, false⟩, rowJ [.f32, .f32, .f32, .f32, .int .i64] n a ⟨[.f32, .f32, .f32, .f32, .int .i64], m, fd, gd, bd, wr⟩ [.flt .f32 0, .flt .f32 0, .flt .f32 0, .flt .f32 0, .int .i64 0] j]) (Ab.ev Try.prog G11 Try.f32.ntmps 60 (cL (cK (cB (cA (cB (cB (bodyOf Try.f32))))))) (stR [.vec 0 5 a (.sym n), .bad, .bad, .vec 1 5 0 (.sym n), .sint .i64 (Int.ofNat j)] [⟨[.f32, .f32, .f32, .f32, .int .i64], m, fd, gd, bd, false⟩, rowJ [.f32, .f32, .f32, .f32, .int .i64] n a ⟨[.f32, .f32, .f32, .f32, .int .i64], m, fd, gd, bd, wr⟩ [.flt .f32 0, .flt .f32 0, .flt .f32 0, .flt .f32 0, .int .i64 0] j]) Dl.nil)) = (cond (cond (cond (cond (cond (cond (cond (cond (true) (Nat.ble (j + 1) n) false) (Nat.ble (Nat.add a j + 1) m.val) false) (true) false) (Nat.ble (j + 1) n) false) (Nat.ble (Nat.add 0 j + 1) n) false) (true) false) (true) false) (true) false) := by kernel_rfl
    rw [e, c1, c2, c4]; rfl
  · refine ⟨Or.inr (ge_eq (by kernel_rfl)), Or.inl rfl, Or.inl rfl, Or.inr (ge_eq (by kernel_rfl)), Or.inr (ge_eq ?_), trivial⟩
    have e : (wS (wayO [true] (stR [.vec 0 5 a (.sym n), .bad, .bad, .vec 1 5 0 (.sym n), .sint .i64 (Int.ofNat j)] [⟨[.f32, .f32, .f32, .f32, .int .i64], m, fd, gd, bd, false⟩, rowJ [.f32, .f32, .f32, .f32, .int .i64] n a ⟨[.f32, .f32, .f32, .f32, .int .i64], m, fd, gd, bd, wr⟩ [.flt .f32 0, .flt .f32 0, .flt .f32 0, .flt .f32 0, .int .i64 0] j]) (Ab.ev Try.prog G11 Try.f32.ntmps 60 (cL (cK (cB (cA (cB (cB (bodyOf Try.f32))))))) (stR [.vec 0 5 a (.sym n), .bad, .bad, .vec 1 5 0 (.sym n), .sint .i64 (Int.ofNat j)] [⟨[.f32, .f32, .f32, .f32, .int .i64], m, fd, gd, bd, false⟩, rowJ [.f32, .f32, .f32, .f32, .int .i64] n a ⟨[.f32, .f32, .f32, .f32, .int .i64], m, fd, gd, bd, wr⟩ [.flt .f32 0, .flt .f32 0, .flt .f32 0, .flt .f32 0, .int .i64 0] j]) Dl.nil))).get 4 = .sint .i64 (IntKind.i64.wrap (Int.ofNat j + 1)) := by kernel_rfl
    rw [e, wrap_next hj hn]
  · exact ⟨⟨⟨[.f32, .f32, .f32, .f32, .int .i64], m, fd, gd, bd, false⟩, by kernel_rfl, VcLe.refl _⟩, ⟨(rowJ [.f32, .f32, .f32, .f32, .int .i64] n a ⟨[.f32, .f32, .f32, .f32, .int .i64], m, fd, gd, bd, wr⟩ [.flt .f32 0, .flt .f32 0, .flt .f32 0, .flt .f32 0, .int .i64 0] j).put (Nat.add 0 j) 0 (encC (fd (Nat.add a j)) (gd (Nat.add a j)) (bd (Nat.add a j)) 0 [.f32, .f32, .f32, .f32, .int .i64]), by kernel_rfl, rowJ_next [.f32, .f32, .f32, .f32, .int .i64] n a ⟨[.f32, .f32, .f32, .f32, .int .i64], m, fd, gd, bd, wr⟩ [.flt .f32 0, .flt .f32 0, .flt .f32 0, .flt .f32 0, .int .i64 0] j⟩, trivial⟩

theorem cpy32end (fd : Nat → Nat → Nat) (gd : Nat → Nat → Int) (bd : Nat → Nat → Bool) (wr : Bool) (m : Num) (a n : Nat) : Run Try.prog Try.f32.ntmps (cL (cK (cB (cA (cB (cB (bodyOf Try.f32))))))) (stR [.vec 0 5 a (.sym n), .bad, .bad, .vec 1 5 0 (.sym n), .sint .i64 (Int.ofNat n)] [⟨[.f32, .f32, .f32, .f32, .int .i64], m, fd, gd, bd, false⟩, rowJ [.f32, .f32, .f32, .f32, .int .i64] n a ⟨[.f32, .f32, .f32, .f32, .int .i64], m, fd, gd, bd, wr⟩ [.flt .f32 0, .flt .f32 0, .flt .f32 0, .flt .f32 0, .int .i64 0] n]) (.exit 0, (stR [.vec 0 5 a (.sym n), .bad, .bad, .vec 1 5 0 (.sym n), .sint .i64 (Int.ofNat n)] [⟨[.f32, .f32, .f32, .f32, .int .i64], m, fd, gd, bd, false⟩, rowJ [.f32, .f32, .f32, .f32, .int .i64] n a ⟨[.f32, .f32, .f32, .f32, .int .i64], m, fd, gd, bd, wr⟩ [.flt .f32 0, .flt .f32 0, .flt .f32 0, .flt .f32 0, .int .i64 0] n])) := by
  refine Run.to g11 mixed 60 [false] (by kernel_rfl) ?_ (by kernel_rfl) (by kernel_rfl) (by kernel_rfl) ?_ ?_ (by kernel_rfl)
  · have e : wBs (wayO [false] (stR [.vec 0 5 a (.sym n), .bad, .bad, .vec 1 5 0 (.sym n), .sint .i64 (Int.ofNat n)] [⟨[.f32, .f32, .f32, .f32, .int .i64], m, fd, gd, bd, false⟩, rowJ [.f32, .f32, .f32, .f32, .int .i64] n a ⟨[.f32, .f32, .f32, .f32, .int .i64], m, fd, gd, bd, wr⟩ [.flt .f32 0, .flt .f32 0, .flt .f32 0, .flt .f32 0, .int .i64 0] n]) (Ab.ev Try.prog G11 Try.f32.ntmps 60 (cL (cK (cB (cA (cB (cB (bodyOf Try.f32))))))) (stR [.vec 0 5 a (.sym n), .bad, .bad, .vec 1 5 0 (.sym n), .sint .i64 (Int.ofNat n)] [⟨[.f32, .f32, .f32, .f32, .int .i64], m, fd, gd, bd, false⟩, rowJ [.f32, .f32, .f32, .f32, .int .i64] n a ⟨[.f32, .f32, .f32, .f32, .int .i64], m, fd, gd, bd, wr⟩ [.flt .f32 0, .flt .f32 0, .flt .f32 0, .flt .f32 0, .int .i64 0] n]) Dl.nil)) = [decide (Int.ofNat n < Int.ofNat n)] := by kernel_rfl
    rw [e, dec_irr]
  · exact ⟨Or.inr (ge_eq (by kernel_rfl)), Or.inl rfl, Or.inl rfl, Or.inr (ge_eq (by kernel_rfl)), Or.inr (ge_eq (by kernel_rfl)), trivial⟩
  · exact ⟨⟨⟨[.f32, .f32, .f32, .f32, .int .i64], m, fd, gd, bd, false⟩, by kernel_rfl, VcLe.refl _⟩, ⟨rowJ [.f32, .f32, .f32, .f32, .int .i64] n a ⟨[.f32, .f32, .f32, .f32, .int .i64], m, fd, gd, bd, wr⟩ [.flt .f32 0, .flt .f32 0, .flt .f32 0, .flt .f32 0, .int .i64 0] n, by kernel_rfl, VcLe.refl _⟩, trivial⟩

theorem cpy32 (i a n : Nat) (v : Vc) (hs : v.sh = [.f32, .f32, .f32, .f32, .int .i64]) (han : a + n ≤ v.n.val) (hb : n * 24 ≤ 140737488355328) (hn : n ≤ 140737488355328) : OnRows Try.prog 32 [⟨i, 5, a, .sym n⟩] [] [v] ⟨.vec 1 5 0 (.sym n), [], [], [⟨[], false, some (cpyR [.f32, .f32, .f32, .f32, .int .i64] (.sym n) a v)⟩], true, none⟩ := by
  obtain ⟨sh, m, fd, gd, bd, wr⟩ := v
  have hs : sh = [.f32, .f32, .f32, .f32, .int .i64] := hs
  subst hs
  have h0 : Run Try.prog Try.f32.ntmps (cA (bodyOf Try.f32)) ((viewS [⟨[.f32, .f32, .f32, .f32, .int .i64], m, fd, gd, bd, wr⟩]).start Try.f32.ntmps [.vec 0 5 a (.sym n)]) (.normal, stR [.vec 0 5 a (.sym n)] [⟨[.f32, .f32, .f32, .f32, .int .i64], m, fd, gd, bd, false⟩]) :=
    Run.to g11 mixed 60 [] (by kernel_rfl) (by kernel_rfl) (by kernel_rfl) (by kernel_rfl) (by kernel_rfl) ⟨Or.inr (ge_eq (by kernel_rfl)), trivial⟩ ⟨⟨_, rfl, VcLe.refl _⟩, trivial⟩ (by kernel_rfl)
  have b1 : Nat.ble (Nat.mul (Nat.add n 0) 24) 140737488355328 = true := Nat.ble_eq_true_of_le (by show (n + 0) * 24 ≤ _; omega)
  have b2 : Nat.ble (Nat.add n 0) 140737488355328 = true := Nat.ble_eq_true_of_le (by show n + 0 ≤ _; omega)
  have h1 : Run Try.prog Try.f32.ntmps (cA (cB (bodyOf Try.f32))) (stR [.vec 0 5 a (.sym n)] [⟨[.f32, .f32, .f32, .f32, .int .i64], m, fd, gd, bd, false⟩]) (.normal, stR [.vec 0 5 a (.sym n), .bad, .bad, .vec 1 5 0 (.sym n)] [⟨[.f32, .f32, .f32, .f32, .int .i64], m, fd, gd, bd, false⟩, rowJ [.f32, .f32, .f32, .f32, .int .i64] n a ⟨[.f32, .f32, .f32, .f32, .int .i64], m, fd, gd, bd, wr⟩ [.flt .f32 0, .flt .f32 0, .flt .f32 0, .flt .f32 0, .int .i64 0] 0]) := by
    refine Run.to g11 mixed 60 [] (by kernel_rfl) (by kernel_rfl) ?_ (by kernel_rfl) (by kernel_rfl) ⟨Or.inr (ge_eq (by kernel_rfl)), Or.inl rfl, Or.inl rfl, Or.inr (ge_eq (by kernel_rfl)), trivial⟩ ⟨⟨⟨[.f32, .f32, .f32, .f32, .int .i64], m, fd, gd, bd, false⟩, by kernel_rfl, VcLe.refl _⟩, ⟨Vc.all [.f32, .f32, .f32, .f32, .int .i64] (.sym n) [.flt .f32 0, .flt .f32 0, .flt .f32 0, .flt .f32 0, .int .i64 0], by kernel_rfl, rowJ_zero _ _ _ _ _⟩, trivial⟩ (by kernel_rfl)
    have e : wNd (wayO [] (stR [.vec 0 5 a (.sym n)] [⟨[.f32, .f32, .f32, .f32, .int .i64], m, fd, gd, bd, false⟩]) (Ab.ev Try.prog G11 Try.f32.ntmps 60 (cA (cB (bodyOf Try.f32))) (stR [.vec 0 5 a (.sym n)] [⟨[.f32, .f32, .f32, .f32, .int .i64], m, fd, gd, bd, false⟩]) Dl.nil)) = (cond (Nat.ble (Nat.mul (Nat.add n 0) 24) 140737488355328 && Nat.ble (Nat.add n 0) 140737488355328) true false) := by kernel_rfl
    rw [e, b1, b2]; rfl
  have h2 : Run Try.prog Try.f32.ntmps (cA (cA (cB (cB (bodyOf Try.f32))))) (stR [.vec 0 5 a (.sym n), .bad, .bad, .vec 1 5 0 (.sym n)] [⟨[.f32, .f32, .f32, .f32, .int .i64], m, fd, gd, bd, false⟩, rowJ [.f32, .f32, .f32, .f32, .int .i64] n a ⟨[.f32, .f32, .f32, .f32, .int .i64], m, fd, gd, bd, wr⟩ [.flt .f32 0, .flt .f32 0, .flt .f32 0, .flt .f32 0, .int .i64 0] 0]) (.normal, (stR [.vec 0 5 a (.sym n), .bad, .bad, .vec 1 5 0 (.sym n), .sint .i64 (Int.ofNat 0)] [⟨[.f32, .f32, .f32, .f32, .int .i64], m, fd, gd, bd, false⟩, rowJ [.f32, .f32, .f32, .f32, .int .i64] n a ⟨[.f32, .f32, .f32, .f32, .int .i64], m, fd, gd, bd, wr⟩ [.flt .f32 0, .flt .f32 0, .flt .f32 0, .flt .f32 0, .int .i64 0] 0])) :=
    Run.to g11 mixed 60 [] (by kernel_rfl) (by kernel_rfl) (by kernel_rfl) (by kernel_rfl) (by kernel_rfl) ⟨Or.inr (ge_eq (by kernel_rfl)), Or.inl rfl, Or.inl rfl, Or.inr (ge_eq (by kernel_rfl)), Or.inr (ge_int (by kernel_rfl)), trivial⟩ ⟨⟨⟨[.f32, .f32, .f32, .f32, .int .i64], m, fd, gd, bd, false⟩, by kernel_rfl, VcLe.refl _⟩, ⟨rowJ [.f32, .f32, .f32, .f32, .int .i64] n a ⟨[.f32, .f32, .f32, .f32, .int .i64], m, fd, gd, bd, wr⟩ [.flt .f32 0, .flt .f32 0, .flt .f32 0, .flt .f32 0, .int .i64 0] 0, by kernel_rfl, VcLe.refl _⟩, trivial⟩ (by kernel_rfl)
  have h3 : Run Try.prog Try.f32.ntmps (.loop (cL (cK (cB (cA (cB (cB (bodyOf Try.f32)))))))) (stR [.vec 0 5 a (.sym n), .bad, .bad, .vec 1 5 0 (.sym n), .sint .i64 (Int.ofNat 0)] [⟨[.f32, .f32, .f32, .f32, .int .i64], m, fd, gd, bd, false⟩, rowJ [.f32, .f32, .f32, .f32, .int .i64] n a ⟨[.f32, .f32, .f32, .f32, .int .i64], m, fd, gd, bd, wr⟩ [.flt .f32 0, .flt .f32 0, .flt .f32 0, .flt .f32 0, .int .i64 0] 0]) (.exit 0, (stR [.vec 0 5 a (.sym n), .bad, .bad, .vec 1 5 0 (.sym n), .sint .i64 (Int.ofNat n)] [⟨[.f32, .f32, .f32, .f32, .int .i64], m, fd, gd, bd, false⟩, rowJ [.f32, .f32, .f32, .f32, .int .i64] n a ⟨[.f32, .f32, .f32, .f32, .int .i64], m, fd, gd, bd, wr⟩ [.flt .f32 0, .flt .f32 0, .flt .f32 0, .flt .f32 0, .int .i64 0] n])) := Run.loop n (fun j => (stR [.vec 0 5 a (.sym n), .bad, .bad, .vec 1 5 0 (.sym n), .sint .i64 (Int.ofNat j)] [⟨[.f32, .f32, .f32, .f32, .int .i64], m, fd, gd, bd, false⟩, rowJ [.f32, .f32, .f32, .f32, .int .i64] n a ⟨[.f32, .f32, .f32, .f32, .int .i64], m, fd, gd, bd, wr⟩ [.flt .f32 0, .flt .f32 0, .flt .f32 0, .flt .f32 0, .int .i64 0] j])) (fun j => rfl) (fun j hj => cpy32step fd gd bd wr m a n j hj hn han) (cpy32end fd gd bd wr m a n) (by intro h; cases h)
  have h6 : Run Try.prog Try.f32.ntmps (cB (cB (cB (bodyOf Try.f32)))) (stR [.vec 0 5 a (.sym n), .bad, .bad, .vec 1 5 0 (.sym n), .sint .i64 (Int.ofNat n)] [⟨[.f32, .f32, .f32, .f32, .int .i64], m, fd, gd, bd, false⟩, rowJ [.f32, .f32, .f32, .f32, .int .i64] n a ⟨[.f32, .f32, .f32, .f32, .int .i64], m, fd, gd, bd, wr⟩ [.flt .f32 0, .flt .f32 0, .flt .f32 0, .flt .f32 0, .int .i64 0] n]) (.ret, stR [.bad, .bad, .vec 1 5 0 (.sym n)] [⟨[.f32, .f32, .f32, .f32, .int .i64], m, fd, gd, bd, false⟩, cpyR [.f32, .f32, .f32, .f32, .int .i64] (.sym n) a ⟨[.f32, .f32, .f32, .f32, .int .i64], m, fd, gd, bd, wr⟩]) :=
    Run.to g11 mixed 60 [] (by kernel_rfl) (by kernel_rfl) (by kernel_rfl) (by kernel_rfl) (by kernel_rfl) ⟨Or.inl rfl, Or.inl rfl, Or.inr (ge_eq (by kernel_rfl)), trivial⟩ ⟨⟨⟨[.f32, .f32, .f32, .f32, .int .i64], m, fd, gd, bd, false⟩, by kernel_rfl, VcLe.refl _⟩, ⟨rowJ [.f32, .f32, .f32, .f32, .int .i64] n a ⟨[.f32, .f32, .f32, .f32, .int .i64], m, fd, gd, bd, wr⟩ [.flt .f32 0, .flt .f32 0, .flt .f32 0, .flt .f32 0, .int .i64 0] n, by kernel_rfl, rowJ_all _ _ _ _ _⟩, trivial⟩ (by kernel_rfl)
  have hr : Run Try.prog Try.f32.ntmps (bodyOf Try.f32) ((viewS [⟨[.f32, .f32, .f32, .f32, .int .i64], m, fd, gd, bd, wr⟩]).start Try.f32.ntmps [.vec 0 5 a (.sym n)]) (.ret, stR [.bad, .bad, .vec 1 5 0 (.sym n)] [⟨[.f32, .f32, .f32, .f32, .int .i64], m, fd, gd, bd, false⟩, cpyR [.f32, .f32, .f32, .f32, .int .i64] (.sym n) a ⟨[.f32, .f32, .f32, .f32, .int .i64], m, fd, gd, bd, wr⟩]) := by
    have hB : (bodyOf Try.f32) = .seq (cA (bodyOf Try.f32)) (.seq (cA (cB (bodyOf Try.f32))) (.seq (.seq (cA (cA (cB (cB (bodyOf Try.f32))))) (.block 0 (.loop (cL (cK (cB (cA (cB (cB (bodyOf Try.f32)))))))))) (cB (cB (cB (bodyOf Try.f32)))))) := by kernel_rfl
    rw [hB]
    exact Run.seq h0 (Nat.le_refl _) (Run.seq h1 (by show (1 : Nat) ≤ 2; decide) (Run.seq (Run.seq h2 (Nat.le_refl _) (Run.block h3)) (Nat.le_refl _) h6))
  intro M w0 ρ w vs hM hv
  have b3 : Nat.ble (0 + n) n = true := Nat.ble_eq_true_of_le (by omega)
  have key : Calls Try.prog 32 ⟨vs⟩ w (Res M w0 ρ (viewS [⟨[.f32, .f32, .f32, .f32, .int .i64], m, fd, gd, bd, wr⟩]) ⟨.vec 1 5 0 (.sym n), [], [], [⟨[], false, some (shiftV (cpyR [.f32, .f32, .f32, .f32, .int .i64] (.sym n) a ⟨[.f32, .f32, .f32, .f32, .int .i64], m, fd, gd, bd, wr⟩) 0 (.sym n))⟩], Nat.ble (0 + n) n, none⟩) :=
    Run.calls (fr := ⟨none, some ⟨.vec 1 5 0 (.sym n), [shiftV (cpyR [.f32, .f32, .f32, .f32, .int .i64] (.sym n) a ⟨[.f32, .f32, .f32, .f32, .int .i64], m, fd, gd, bd, wr⟩) 0 (.sym n)], [], []⟩, Nat.ble (0 + n) n⟩) Try.func32 (by kernel_rfl) hr (ahv := []) (avv := []) (by kernel_rfl) rfl (by show Nat.ble (0 + n) n = true; exact b3) ⟨⟨[⟨[], false, some (cpyR [.f32, .f32, .f32, .f32, .int .i64] (.sym n) a ⟨[.f32, .f32, .f32, .f32, .int .i64], m, fd, gd, bd, wr⟩)⟩], rfl⟩, fun i o => rfl, fun i => rfl⟩ (Nat.le_of_ble_eq_true (by kernel_rfl)) hM hv
  rw [shift_cpy, b3] at key
  exact key
/-- laws.toFlueS -/
noncomputable def G12 : List (Nat × Ctr) := (32, cpyC [.f32, .f32, .f32, .f32, .int .i64] 24) :: G11
theorem g12 : Ab.Good Try.prog G12 := good_cons (sat_cpy Try.call32 (by decide) (fun i a n v hs han hb hn => cpy32 i a n v hs han hb hn)) g11

/-- impl.isIndex -/
noncomputable def G13 : List (Nat × Ctr) := (61, inl Try.prog G12 100 Try.f61) :: G12
theorem g13 : Ab.Good Try.prog G13 := good_cons (inl_sat g12 mixed Try.func61 Try.call61 100) g12

/-- (impl.Flue).isTrunk -/
noncomputable def G14 : List (Nat × Ctr) := (62, inl Try.prog G13 100 Try.f62) :: G13
theorem g14 : Ab.Good Try.prog G14 := good_cons (inl_sat g13 mixed Try.func62 Try.call62 100) g13

/-- impl.isFinite -/
noncomputable def G15 : List (Nat × Ctr) := (94, ctr1 fun a => .sbool (finF a)) :: G14
theorem g15 : Ab.Good Try.prog G15 := good_cons (sat1 (g := fun a => .sbool (finF a)) g14 mixed Try.func94 Try.call94 100 (fun a => .sbool (cond (fleB .f32 4286578687 a) (fleB .f32 a 2139095039) false)) (fun a => by kernel_rfl) (fun a ha ρ u h => by show V ρ (.sbool (finF a)) u; rw [← fin_between ha]; exact h)) g14

/-- math.Float64bits -/
noncomputable def G16 : List (Nat × Ctr) := (115, extC .f64bits) :: G15
theorem g16 : Ab.Good Try.prog G16 := good_cons (sat_ext .f64bits Try.func115 (by kernel_rfl) (by kernel_rfl) (by kernel_rfl) (by kernel_rfl)) g15

/-- math.Signbit -/
noncomputable def G17 : List (Nat × Ctr) := (107, inl Try.prog G16 100 Try.f107) :: G16
theorem g17 : Ab.Good Try.prog G17 := good_cons (inl_sat g16 mixed Try.func107 Try.call107 100) g16

/-- impl.IsAmount -/
noncomputable def G18 : List (Nat × Ctr) := (73, ctr1 fun a => .sbool (amtF a)) :: G17
theorem g18 : Ab.Good Try.prog G18 := good_cons (sat1 (g := fun a => .sbool (amtF a)) g17 mixed Try.func73 Try.call73 100 (fun a => .cbool (cond (finF a) (!nanB .f64 (wide a) && true) true) (cond (finF a) (!decide (IntKind.i64.wrap (Int.ofNat (wide a)) < 0)) false)) (fun a => by kernel_rfl) (fun a ha ρ u h => by show V ρ (.sbool (amtF a)) u; rw [← wide_neg ha]; exact cbool_say wide_nan h)) g17

/-- impl.IsShare -/
noncomputable def G19 : List (Nat × Ctr) := (67, ctr1 fun a => .sbool (shO a)) :: G18
theorem g19 : Ab.Good Try.prog G19 := good_cons (sat1 (g := fun a => .sbool (shO a)) g18 mixed Try.func67 Try.call67 100 (fun a => .sbool (shI a)) (fun a => by kernel_rfl) (fun a ha ρ u h => by show V ρ (.sbool (shO a)) u; rw [shO_eq]; exact h)) g18

/-- impl.isBetween -/
noncomputable def G20 : List (Nat × Ctr) := (84, inl Try.prog G19 100 Try.f84) :: G19
theorem g20 : Ab.Good Try.prog G20 := good_cons (inl_sat g19 mixed Try.func84 Try.call84 100) g19

/-- impl.isFlue -/
noncomputable def G21 : List (Nat × Ctr) := (76, inl Try.prog G20 100 Try.f76) :: G20
theorem g21 : Ab.Good Try.prog G21 := good_cons (inl_sat g20 mixed Try.func76 Try.call76 100) g20

/-- (impl.Flue).isBranch -/
noncomputable def G22 : List (Nat × Ctr) := (77, inl Try.prog G21 100 Try.f77) :: G21
theorem g22 : Ab.Good Try.prog G22 := good_cons (inl_sat g21 mixed Try.func77 Try.call77 100) g21


theorem chim33cI (gd : Nat → Nat → Int) (m : Num) (a n j : Nat) (han : a + n ≤ m.val) (h1 : 0 ≤ (gd (Nat.add a j) 4)) (h2 : (gd (Nat.add a j) 4) < Int.ofNat n) : (decide (0 ≤ (gd (Nat.add a j) 4)) && Nat.ble ((gd (Nat.add a j) 4).toNat + 1) n) = true ∧ Nat.ble (Nat.add a (gd (Nat.add a j) 4).toNat + 1) m.val = true := by
  have e : (gd (Nat.add a j) 4).toNat < n := by
    have h2 : (gd (Nat.add a j) 4) < (n : Int) := h2
    omega
  refine ⟨?_, Nat.ble_eq_true_of_le (by show a + _ + 1 ≤ m.val; omega)⟩
  rw [decide_eq_true h1, Nat.ble_eq_true_of_le (by omega)]; rfl

theorem chim33step (fd : Nat → Nat → Nat) (gd : Nat → Nat → Int) (bd : Nat → Nat → Bool) (wr : Bool) (m : Num) (a n : Nat) (j : Nat) (hj : j < n) (hn : n ≤ 140737488355328) (han : a + n ≤ m.val) (hp : badI (⟨[.f32, .f32, .f32, .f32, .int .i64], m, fd, gd, bd, wr⟩ : Vc) a n j = false) : Run Try.prog Try.f33.ntmps (cL (cK (cB (cA (cB (cB (bodyOf Try.f33))))))) (stR [.vec 0 5 a (.sym n), .bad, .bad, .bad, .bad, .bad, .bad, .bad, .bad, .bad, .bad, .bad, .bad, .vec 0 5 a (.sym n), .sint .i64 (Int.ofNat n), .sint .i64 (Int.ofNat j)] [⟨[.f32, .f32, .f32, .f32, .int .i64], m, fd, gd, bd, false⟩]) (.normal, (stR [.vec 0 5 a (.sym n), .bad, .bad, .bad, .bad, .bad, .bad, .bad, .bad, .bad, .bad, .bad, .bad, .vec 0 5 a (.sym n), .sint .i64 (Int.ofNat n), .sint .i64 (Int.ofNat (j + 1))] [⟨[.f32, .f32, .f32, .f32, .int .i64], m, fd, gd, bd, false⟩])) := by
  have c1 : Nat.ble (j + 1) n = true := Nat.ble_eq_true_of_le hj
  have c2 : Nat.ble (Nat.add a j + 1) m.val = true := Nat.ble_eq_true_of_le (by show a + j + 1 ≤ m.val; omega)
  refine Run.toC g22 mixed 60 [true, false] (by intro v h; cases h) (Nat.le_refl _) (by kernel_rfl) ?_ ?_ (by kernel_rfl) (Nat.le_of_ble_eq_true (by kernel_rfl)) ?_ ⟨⟨⟨[.f32, .f32, .f32, .f32, .int .i64], m, fd, gd, bd, false⟩, by kernel_rfl, VcLe.refl _⟩, trivial⟩ (by kernel_rfl)
  · have e : wBs (wayO [true, false] (stR [.vec 0 5 a (.sym n), .bad, .bad, .bad, .bad, .bad, .bad, .bad, .bad, .bad, .bad, .bad, .bad, .vec 0 5 a (.sym n), .sint .i64 (Int.ofNat n), .sint .i64 (Int.ofNat j)] [⟨[.f32, .f32, .f32, .f32, .int .i64], m, fd, gd, bd, false⟩]) (Ab.ev Try.prog G22 Try.f33.ntmps 60 (cL (cK (cB (cA (cB (cB (bodyOf Try.f33))))))) (stR [.vec 0 5 a (.sym n), .bad, .bad, .bad, .bad, .bad, .bad, .bad, .bad, .bad, .bad, .bad, .bad, .vec 0 5 a (.sym n), .sint .i64 (Int.ofNat n), .sint .i64 (Int.ofNat j)] [⟨[.f32, .f32, .f32, .f32, .int .i64], m, fd, gd, bd, false⟩]) Dl.nil)) = [decide (Int.ofNat j < Int.ofNat n), badI (⟨[.f32, .f32, .f32, .f32, .int .i64], m, fd, gd, bd, wr⟩ : Vc) a n j] := by kernel_rfl
    rw [e, dec_lt hj, hp]
  · have e : wNd (wayO [true, false] (stR [.vec 0 5 a (.sym n), .bad, .bad, .bad, .bad, .bad, .bad, .bad, .bad, .bad, .bad, .bad, .bad, .vec 0 5 a (.sym n), .sint .i64 (Int.ofNat n), .sint .i64 (Int.ofNat j)] [⟨[.f32, .f32, .f32, .f32, .int .i64], m, fd, gd, bd, false⟩]) (Ab.ev Try.prog G22 Try.f33.ntmps 60 (cL (cK (cB (cA (cB (cB (bodyOf Try.f33))))))) (stR [.vec 0 5 a (.sym n), .bad, .bad, .bad, .bad, .bad, .bad, .bad, .bad, .bad, .bad, .bad, .bad, .vec 0 5 a (.sym n), .sint .i64 (Int.ofNat n), .sint .i64 (Int.ofNat j)] [⟨[.f32, .f32, .f32, .f32, .int .i64], m, fd, gd, bd, false⟩]) Dl.nil)) = (cond (cond (cond (cond (cond (cond (cond (cond (cond (cond (true) (Nat.ble (j + 1) n) false) (Nat.ble (Nat.add a j + 1) m.val) false) (true) false) (true) false) (true) false) (true) false) (true) false) (true) false) (ndc (!flV (⟨[.f32, .f32, .f32, .f32, .int .i64], m, fd, gd, bd, wr⟩ : Vc) (Nat.add a j)) true (ndc (!((gd (Nat.add a j) 4) == -1)) (ndc (cond (decide (0 ≤ (gd (Nat.add a j) 4))) (decide ((gd (Nat.add a j) 4) < Int.ofNat n)) false) (cond (cond (cond (cond (cond (cond (cond (true) ((decide (0 ≤ (gd (Nat.add a j) 4)) && Nat.ble ((gd (Nat.add a j) 4).toNat + 1) n)) false) (Nat.ble (Nat.add a (gd (Nat.add a j) 4).toNat + 1) m.val) false) (true) false) (true) false) (true) false) (true) false) (true) false) true) true)) false) (true) false) := by kernel_rfl
    have hd : (ndc (!flV (⟨[.f32, .f32, .f32, .f32, .int .i64], m, fd, gd, bd, wr⟩ : Vc) (Nat.add a j)) true (ndc (!((gd (Nat.add a j) 4) == -1)) (ndc (cond (decide (0 ≤ (gd (Nat.add a j) 4))) (decide ((gd (Nat.add a j) 4) < Int.ofNat n)) false) (cond (cond (cond (cond (cond (cond (cond (true) ((decide (0 ≤ (gd (Nat.add a j) 4)) && Nat.ble ((gd (Nat.add a j) 4).toNat + 1) n)) false) (Nat.ble (Nat.add a (gd (Nat.add a j) 4).toNat + 1) m.val) false) (true) false) (true) false) (true) false) (true) false) (true) false) true) true)) = true := by
      simp only [ndc_eq]
      cases flV (⟨[.f32, .f32, .f32, .f32, .int .i64], m, fd, gd, bd, wr⟩ : Vc) (Nat.add a j) with
      | false => rfl
      | true =>
        cases hz : ((gd (Nat.add a j) 4) == -1) with
        | true => rfl
        | false =>
          cases h1 : decide (0 ≤ (gd (Nat.add a j) 4)) with
          | false => rfl
          | true =>
            cases h2 : decide ((gd (Nat.add a j) 4) < Int.ofNat n) with
            | false => rfl
            | true =>
              obtain ⟨k1, k2⟩ := chim33cI gd m a n j han (of_decide_eq_true h1) (of_decide_eq_true h2)
              rw [h1] at k1
              rw [k1, k2]; rfl
    rw [e, c1, c2, hd]; rfl
  · refine ⟨Or.inr ⟨rfl, ge_eq (by kernel_rfl)⟩, Or.inl rfl, Or.inl rfl, Or.inl rfl, Or.inl rfl, Or.inl rfl, Or.inl rfl, Or.inl rfl, Or.inl rfl, Or.inl rfl, Or.inl rfl, Or.inl rfl, Or.inl rfl, Or.inr ⟨rfl, ge_eq (by kernel_rfl)⟩, Or.inr ⟨rfl, ge_eq (by kernel_rfl)⟩, Or.inr ⟨rfl, ge_eq ?_⟩, trivial⟩
    have e : (wS (wayO [true, false] (stR [.vec 0 5 a (.sym n), .bad, .bad, .bad, .bad, .bad, .bad, .bad, .bad, .bad, .bad, .bad, .bad, .vec 0 5 a (.sym n), .sint .i64 (Int.ofNat n), .sint .i64 (Int.ofNat j)] [⟨[.f32, .f32, .f32, .f32, .int .i64], m, fd, gd, bd, false⟩]) (Ab.ev Try.prog G22 Try.f33.ntmps 60 (cL (cK (cB (cA (cB (cB (bodyOf Try.f33))))))) (stR [.vec 0 5 a (.sym n), .bad, .bad, .bad, .bad, .bad, .bad, .bad, .bad, .bad, .bad, .bad, .bad, .vec 0 5 a (.sym n), .sint .i64 (Int.ofNat n), .sint .i64 (Int.ofNat j)] [⟨[.f32, .f32, .f32, .f32, .int .i64], m, fd, gd, bd, false⟩]) Dl.nil))).get 15 = .sint .i64 (IntKind.i64.wrap (Int.ofNat j + 1)) := by kernel_rfl
    rw [e, wrap_next hj hn]

theorem chim33ret (fd : Nat → Nat → Nat) (gd : Nat → Nat → Int) (bd : Nat → Nat → Bool) (wr : Bool) (m : Num) (a n : Nat) (j : Nat) (hj : j < n) (hn : n ≤ 140737488355328) (han : a + n ≤ m.val) (hp : badI (⟨[.f32, .f32, .f32, .f32, .int .i64], m, fd, gd, bd, wr⟩ : Vc) a n j = true) : Run Try.prog Try.f33.ntmps (cL (cK (cB (cA (cB (cB (bodyOf Try.f33))))))) (stR [.vec 0 5 a (.sym n), .bad, .bad, .bad, .bad, .bad, .bad, .bad, .bad, .bad, .bad, .bad, .bad, .vec 0 5 a (.sym n), .sint .i64 (Int.ofNat n), .sint .i64 (Int.ofNat j)] [⟨[.f32, .f32, .f32, .f32, .int .i64], m, fd, gd, bd, false⟩]) (.ret, (stR [.bad, .bad, .sbool false] [⟨[.f32, .f32, .f32, .f32, .int .i64], m, fd, gd, bd, false⟩])) := by
  have c1 : Nat.ble (j + 1) n = true := Nat.ble_eq_true_of_le hj
  have c2 : Nat.ble (Nat.add a j + 1) m.val = true := Nat.ble_eq_true_of_le (by show a + j + 1 ≤ m.val; omega)
  refine Run.toC g22 mixed 60 [true, true] (by intro v h; cases h) (Nat.le_refl _) (by kernel_rfl) ?_ ?_ (by kernel_rfl) (Nat.le_of_ble_eq_true (by kernel_rfl)) ⟨Or.inl rfl, Or.inl rfl, Or.inr ⟨rfl, ge_bool (by kernel_rfl)⟩, trivial⟩ ⟨⟨⟨[.f32, .f32, .f32, .f32, .int .i64], m, fd, gd, bd, false⟩, by kernel_rfl, VcLe.refl _⟩, trivial⟩ (by kernel_rfl)
  · have e : wBs (wayO [true, true] (stR [.vec 0 5 a (.sym n), .bad, .bad, .bad, .bad, .bad, .bad, .bad, .bad, .bad, .bad, .bad, .bad, .vec 0 5 a (.sym n), .sint .i64 (Int.ofNat n), .sint .i64 (Int.ofNat j)] [⟨[.f32, .f32, .f32, .f32, .int .i64], m, fd, gd, bd, false⟩]) (Ab.ev Try.prog G22 Try.f33.ntmps 60 (cL (cK (cB (cA (cB (cB (bodyOf Try.f33))))))) (stR [.vec 0 5 a (.sym n), .bad, .bad, .bad, .bad, .bad, .bad, .bad, .bad, .bad, .bad, .bad, .bad, .vec 0 5 a (.sym n), .sint .i64 (Int.ofNat n), .sint .i64 (Int.ofNat j)] [⟨[.f32, .f32, .f32, .f32, .int .i64], m, fd, gd, bd, false⟩]) Dl.nil)) = [decide (Int.ofNat j < Int.ofNat n), badI (⟨[.f32, .f32, .f32, .f32, .int .i64], m, fd, gd, bd, wr⟩ : Vc) a n j] := by kernel_rfl
    rw [e, dec_lt hj, hp]
  · have e : wNd (wayO [true, true] (stR [.vec 0 5 a (.sym n), .bad, .bad, .bad, .bad, .bad, .bad, .bad, .bad, .bad, .bad, .bad, .bad, .vec 0 5 a (.sym n), .sint .i64 (Int.ofNat n), .sint .i64 (Int.ofNat j)] [⟨[.f32, .f32, .f32, .f32, .int .i64], m, fd, gd, bd, false⟩]) (Ab.ev Try.prog G22 Try.f33.ntmps 60 (cL (cK (cB (cA (cB (cB (bodyOf Try.f33))))))) (stR [.vec 0 5 a (.sym n), .bad, .bad, .bad, .bad, .bad, .bad, .bad, .bad, .bad, .bad, .bad, .bad, .vec 0 5 a (.sym n), .sint .i64 (Int.ofNat n), .sint .i64 (Int.ofNat j)] [⟨[.f32, .f32, .f32, .f32, .int .i64], m, fd, gd, bd, false⟩]) Dl.nil)) = (cond (cond (cond (cond (cond (cond (cond (cond (cond (cond (true) (Nat.ble (j + 1) n) false) (Nat.ble (Nat.add a j + 1) m.val) false) (true) false) (true) false) (true) false) (true) false) (true) false) (true) false) (ndc (!flV (⟨[.f32, .f32, .f32, .f32, .int .i64], m, fd, gd, bd, wr⟩ : Vc) (Nat.add a j)) true (ndc (!((gd (Nat.add a j) 4) == -1)) (ndc (cond (decide (0 ≤ (gd (Nat.add a j) 4))) (decide ((gd (Nat.add a j) 4) < Int.ofNat n)) false) (cond (cond (cond (cond (cond (cond (cond (true) ((decide (0 ≤ (gd (Nat.add a j) 4)) && Nat.ble ((gd (Nat.add a j) 4).toNat + 1) n)) false) (Nat.ble (Nat.add a (gd (Nat.add a j) 4).toNat + 1) m.val) false) (true) false) (true) false) (true) false) (true) false) (true) false) true) true)) false) (true) false) := by kernel_rfl
    have hd : (ndc (!flV (⟨[.f32, .f32, .f32, .f32, .int .i64], m, fd, gd, bd, wr⟩ : Vc) (Nat.add a j)) true (ndc (!((gd (Nat.add a j) 4) == -1)) (ndc (cond (decide (0 ≤ (gd (Nat.add a j) 4))) (decide ((gd (Nat.add a j) 4) < Int.ofNat n)) false) (cond (cond (cond (cond (cond (cond (cond (true) ((decide (0 ≤ (gd (Nat.add a j) 4)) && Nat.ble ((gd (Nat.add a j) 4).toNat + 1) n)) false) (Nat.ble (Nat.add a (gd (Nat.add a j) 4).toNat + 1) m.val) false) (true) false) (true) false) (true) false) (true) false) (true) false) true) true)) = true := by
      simp only [ndc_eq]
      cases flV (⟨[.f32, .f32, .f32, .f32, .int .i64], m, fd, gd, bd, wr⟩ : Vc) (Nat.add a j) with
      | false => rfl
      | true =>
        cases hz : ((gd (Nat.add a j) 4) == -1) with
        | true => rfl
        | false =>
          cases h1 : decide (0 ≤ (gd (Nat.add a j) 4)) with
          | false => rfl
          | true =>
            cases h2 : decide ((gd (Nat.add a j) 4) < Int.ofNat n) with
            | false => rfl
            | true =>
              obtain ⟨k1, k2⟩ := chim33cI gd m a n j han (of_decide_eq_true h1) (of_decide_eq_true h2)
              rw [h1] at k1
              rw [k1, k2]; rfl
    rw [e, c1, c2, hd]; rfl

theorem chim33end (fd : Nat → Nat → Nat) (gd : Nat → Nat → Int) (bd : Nat → Nat → Bool) (wr : Bool) (m : Num) (a n : Nat) : Run Try.prog Try.f33.ntmps (cL (cK (cB (cA (cB (cB (bodyOf Try.f33))))))) (stR [.vec 0 5 a (.sym n), .bad, .bad, .bad, .bad, .bad, .bad, .bad, .bad, .bad, .bad, .bad, .bad, .vec 0 5 a (.sym n), .sint .i64 (Int.ofNat n), .sint .i64 (Int.ofNat n)] [⟨[.f32, .f32, .f32, .f32, .int .i64], m, fd, gd, bd, false⟩]) (.exit 0, (stR [.vec 0 5 a (.sym n), .bad, .bad, .bad, .bad, .bad, .bad, .bad, .bad, .bad, .bad, .bad, .bad, .vec 0 5 a (.sym n), .sint .i64 (Int.ofNat n), .sint .i64 (Int.ofNat n)] [⟨[.f32, .f32, .f32, .f32, .int .i64], m, fd, gd, bd, false⟩])) := by
  refine Run.to g22 mixed 60 [false] (by kernel_rfl) ?_ (by kernel_rfl) (by kernel_rfl) (by kernel_rfl) ⟨Or.inr (ge_eq (by kernel_rfl)), Or.inl rfl, Or.inl rfl, Or.inl rfl, Or.inl rfl, Or.inl rfl, Or.inl rfl, Or.inl rfl, Or.inl rfl, Or.inl rfl, Or.inl rfl, Or.inl rfl, Or.inl rfl, Or.inr (ge_eq (by kernel_rfl)), Or.inr (ge_eq (by kernel_rfl)), Or.inr (ge_eq (by kernel_rfl)), trivial⟩ ⟨⟨⟨[.f32, .f32, .f32, .f32, .int .i64], m, fd, gd, bd, false⟩, by kernel_rfl, VcLe.refl _⟩, trivial⟩ (by kernel_rfl)
  have e : wBs (wayO [false] (stR [.vec 0 5 a (.sym n), .bad, .bad, .bad, .bad, .bad, .bad, .bad, .bad, .bad, .bad, .bad, .bad, .vec 0 5 a (.sym n), .sint .i64 (Int.ofNat n), .sint .i64 (Int.ofNat n)] [⟨[.f32, .f32, .f32, .f32, .int .i64], m, fd, gd, bd, false⟩]) (Ab.ev Try.prog G22 Try.f33.ntmps 60 (cL (cK (cB (cA (cB (cB (bodyOf Try.f33))))))) (stR [.vec 0 5 a (.sym n), .bad, .bad, .bad, .bad, .bad, .bad, .bad, .bad, .bad, .bad, .bad, .bad, .vec 0 5 a (.sym n), .sint .i64 (Int.ofNat n), .sint .i64 (Int.ofNat n)] [⟨[.f32, .f32, .f32, .f32, .int .i64], m, fd, gd, bd, false⟩]) Dl.nil)) = [decide (Int.ofNat n < Int.ofNat n)] := by kernel_rfl
  rw [e, dec_irr]

theorem chim33 (i a n : Nat) (v : Vc) (hs : v.sh = flSh) (han : a + n ≤ v.n.val) (hn : n ≤ 140737488355328) : OnRows Try.prog 33 [⟨i, 5, a, .sym n⟩] [] [v] ⟨.sbool (chimV v a n), [], [], [], true, none⟩ := by
  obtain ⟨sh, m, fd, gd, bd, wr⟩ := v
  have hs : sh = [.f32, .f32, .f32, .f32, .int .i64] := hs
  subst hs
  have h0 : Run Try.prog Try.f33.ntmps (cA (bodyOf Try.f33)) ((viewS [(⟨[.f32, .f32, .f32, .f32, .int .i64], m, fd, gd, bd, wr⟩ : Vc)]).start Try.f33.ntmps [.vec 0 5 a (.sym n)]) (.normal, (stR [.vec 0 5 a (.sym n)] [⟨[.f32, .f32, .f32, .f32, .int .i64], m, fd, gd, bd, false⟩])) :=
    Run.to g22 mixed 60 [] (by kernel_rfl) (by kernel_rfl) (by kernel_rfl) (by kernel_rfl) (by kernel_rfl) ⟨Or.inr (ge_eq (by kernel_rfl)), trivial⟩ ⟨⟨⟨[.f32, .f32, .f32, .f32, .int .i64], m, fd, gd, bd, false⟩, by kernel_rfl, VcLe.refl _⟩, trivial⟩ (by kernel_rfl)
  have ebT : wBs (wayO [true] (stR [.vec 0 5 a (.sym n)] [⟨[.f32, .f32, .f32, .f32, .int .i64], m, fd, gd, bd, false⟩]) (Ab.ev Try.prog G22 Try.f33.ntmps 60 (cA (cB (bodyOf Try.f33))) (stR [.vec 0 5 a (.sym n)] [⟨[.f32, .f32, .f32, .f32, .int .i64], m, fd, gd, bd, false⟩]) Dl.nil)) = [cond (decide (Int.ofNat n < 1)) true (decide (Int.ofNat n > 6))] := by kernel_rfl
  have ebF : wBs (wayO [false] (stR [.vec 0 5 a (.sym n)] [⟨[.f32, .f32, .f32, .f32, .int .i64], m, fd, gd, bd, false⟩]) (Ab.ev Try.prog G22 Try.f33.ntmps 60 (cA (cB (bodyOf Try.f33))) (stR [.vec 0 5 a (.sym n)] [⟨[.f32, .f32, .f32, .f32, .int .i64], m, fd, gd, bd, false⟩]) Dl.nil)) = [cond (decide (Int.ofNat n < 1)) true (decide (Int.ofNat n > 6))] := by kernel_rfl
  have hr : Run Try.prog Try.f33.ntmps (bodyOf Try.f33) ((viewS [(⟨[.f32, .f32, .f32, .f32, .int .i64], m, fd, gd, bd, wr⟩ : Vc)]).start Try.f33.ntmps [.vec 0 5 a (.sym n)]) (.ret, (stR [.bad, .bad, .sbool (chimV (⟨[.f32, .f32, .f32, .f32, .int .i64], m, fd, gd, bd, wr⟩ : Vc) a n)] [⟨[.f32, .f32, .f32, .f32, .int .i64], m, fd, gd, bd, false⟩])) := by
    have hB : (bodyOf Try.f33) = .seq (cA (bodyOf Try.f33)) (.seq (cA (cB (bodyOf Try.f33))) (.seq (.seq (cA (cA (cB (cB (bodyOf Try.f33))))) (.block 0 (.loop (cL (cK (cB (cA (cB (cB (bodyOf Try.f33)))))))))) (cB (cB (cB (bodyOf Try.f33)))))) := by kernel_rfl
    rw [hB]
    refine Run.seq h0 (Nat.le_refl _) ?_
    unfold chimV
    cases hT : (cond (decide (Int.ofNat n < 1)) true (decide (Int.ofNat n > 6))) with
    | true =>
      have h1 : Run Try.prog Try.f33.ntmps (cA (cB (bodyOf Try.f33))) (stR [.vec 0 5 a (.sym n)] [⟨[.f32, .f32, .f32, .f32, .int .i64], m, fd, gd, bd, false⟩]) (.ret, (stR [.bad, .bad, .sbool false] [⟨[.f32, .f32, .f32, .f32, .int .i64], m, fd, gd, bd, false⟩])) := by
        refine Run.to g22 mixed 60 [true] (by kernel_rfl) ?_ (by kernel_rfl) (by kernel_rfl) (by kernel_rfl) ⟨Or.inl rfl, Or.inl rfl, Or.inr (ge_bool (by kernel_rfl)), trivial⟩ ⟨⟨⟨[.f32, .f32, .f32, .f32, .int .i64], m, fd, gd, bd, false⟩, by kernel_rfl, VcLe.refl _⟩, trivial⟩ (by kernel_rfl)
        rw [ebT, hT]
      exact Run.seq_out h1 (by intro h; cases h)
    | false =>
      have h1 : Run Try.prog Try.f33.ntmps (cA (cB (bodyOf Try.f33))) (stR [.vec 0 5 a (.sym n)] [⟨[.f32, .f32, .f32, .f32, .int .i64], m, fd, gd, bd, false⟩]) (.normal, (stR [.vec 0 5 a (.sym n)] [⟨[.f32, .f32, .f32, .f32, .int .i64], m, fd, gd, bd, false⟩])) := by
        refine Run.to g22 mixed 60 [false] (by kernel_rfl) ?_ (by kernel_rfl) (by kernel_rfl) (by kernel_rfl) ⟨Or.inr (ge_eq (by kernel_rfl)), trivial⟩ ⟨⟨⟨[.f32, .f32, .f32, .f32, .int .i64], m, fd, gd, bd, false⟩, by kernel_rfl, VcLe.refl _⟩, trivial⟩ (by kernel_rfl)
        rw [ebF, hT]
      have h2 : Run Try.prog Try.f33.ntmps (cA (cA (cB (cB (bodyOf Try.f33))))) (stR [.vec 0 5 a (.sym n)] [⟨[.f32, .f32, .f32, .f32, .int .i64], m, fd, gd, bd, false⟩]) (.normal, (stR [.vec 0 5 a (.sym n), .bad, .bad, .bad, .bad, .bad, .bad, .bad, .bad, .bad, .bad, .bad, .bad, .vec 0 5 a (.sym n), .sint .i64 (Int.ofNat n), .sint .i64 (Int.ofNat 0)] [⟨[.f32, .f32, .f32, .f32, .int .i64], m, fd, gd, bd, false⟩])) :=
        Run.to g22 mixed 60 [] (by kernel_rfl) (by kernel_rfl) (by kernel_rfl) (by kernel_rfl) (by kernel_rfl) ⟨Or.inr (ge_eq (by kernel_rfl)), Or.inl rfl, Or.inl rfl, Or.inl rfl, Or.inl rfl, Or.inl rfl, Or.inl rfl, Or.inl rfl, Or.inl rfl, Or.inl rfl, Or.inl rfl, Or.inl rfl, Or.inl rfl, Or.inr (ge_eq (by kernel_rfl)), Or.inr (ge_eq (by kernel_rfl)), Or.inr (ge_int (by kernel_rfl)), trivial⟩ ⟨⟨⟨[.f32, .f32, .f32, .f32, .int .i64], m, fd, gd, bd, false⟩, by kernel_rfl, VcLe.refl _⟩, trivial⟩ (by kernel_rfl)
      show Run Try.prog Try.f33.ntmps _ _ (.ret, (stR [.bad, .bad, .sbool (allB n (fun k => !badI (⟨[.f32, .f32, .f32, .f32, .int .i64], m, fd, gd, bd, wr⟩ : Vc) a n k))] [⟨[.f32, .f32, .f32, .f32, .int .i64], m, fd, gd, bd, false⟩]))
      refine Run.seq h1 (Nat.le_refl _) ?_
      cases hall : allB n (fun k => !badI (⟨[.f32, .f32, .f32, .f32, .int .i64], m, fd, gd, bd, wr⟩ : Vc) a n k) with
      | true =>
        have hp := allB_true hall
        have h3 : Run Try.prog Try.f33.ntmps (.loop (cL (cK (cB (cA (cB (cB (bodyOf Try.f33)))))))) (stR [.vec 0 5 a (.sym n), .bad, .bad, .bad, .bad, .bad, .bad, .bad, .bad, .bad, .bad, .bad, .bad, .vec 0 5 a (.sym n), .sint .i64 (Int.ofNat n), .sint .i64 (Int.ofNat 0)] [⟨[.f32, .f32, .f32, .f32, .int .i64], m, fd, gd, bd, false⟩]) (.exit 0, (stR [.vec 0 5 a (.sym n), .bad, .bad, .bad, .bad, .bad, .bad, .bad, .bad, .bad, .bad, .bad, .bad, .vec 0 5 a (.sym n), .sint .i64 (Int.ofNat n), .sint .i64 (Int.ofNat n)] [⟨[.f32, .f32, .f32, .f32, .int .i64], m, fd, gd, bd, false⟩])) := Run.loop n (fun j => (stR [.vec 0 5 a (.sym n), .bad, .bad, .bad, .bad, .bad, .bad, .bad, .bad, .bad, .bad, .bad, .bad, .vec 0 5 a (.sym n), .sint .i64 (Int.ofNat n), .sint .i64 (Int.ofNat j)] [⟨[.f32, .f32, .f32, .f32, .int .i64], m, fd, gd, bd, false⟩])) (fun j => rfl) (fun j hj => chim33step fd gd bd wr m a n j hj hn han (by simpa using hp j hj)) (chim33end fd gd bd wr m a n) (by intro h; cases h)
        have h6 : Run Try.prog Try.f33.ntmps (cB (cB (cB (bodyOf Try.f33)))) (stR [.vec 0 5 a (.sym n), .bad, .bad, .bad, .bad, .bad, .bad, .bad, .bad, .bad, .bad, .bad, .bad, .vec 0 5 a (.sym n), .sint .i64 (Int.ofNat n), .sint .i64 (Int.ofNat n)] [⟨[.f32, .f32, .f32, .f32, .int .i64], m, fd, gd, bd, false⟩]) (.ret, (stR [.bad, .bad, .sbool true] [⟨[.f32, .f32, .f32, .f32, .int .i64], m, fd, gd, bd, false⟩])) :=
          Run.to g22 mixed 60 [] (by kernel_rfl) (by kernel_rfl) (by kernel_rfl) (by kernel_rfl) (by kernel_rfl) ⟨Or.inl rfl, Or.inl rfl, Or.inr (ge_bool (by kernel_rfl)), trivial⟩ ⟨⟨⟨[.f32, .f32, .f32, .f32, .int .i64], m, fd, gd, bd, false⟩, by kernel_rfl, VcLe.refl _⟩, trivial⟩ (by kernel_rfl)
        exact Run.seq (Run.seq h2 (Nat.le_refl _) (Run.block h3)) (Nat.le_refl _) h6
      | false =>
        obtain ⟨j, hj, hpj, hpk⟩ := allB_false hall
        have h3 : Run Try.prog Try.f33.ntmps (.loop (cL (cK (cB (cA (cB (cB (bodyOf Try.f33)))))))) (stR [.vec 0 5 a (.sym n), .bad, .bad, .bad, .bad, .bad, .bad, .bad, .bad, .bad, .bad, .bad, .bad, .vec 0 5 a (.sym n), .sint .i64 (Int.ofNat n), .sint .i64 (Int.ofNat 0)] [⟨[.f32, .f32, .f32, .f32, .int .i64], m, fd, gd, bd, false⟩]) (.ret, (stR [.bad, .bad, .sbool false] [⟨[.f32, .f32, .f32, .f32, .int .i64], m, fd, gd, bd, false⟩])) := Run.loop j (fun j => (stR [.vec 0 5 a (.sym n), .bad, .bad, .bad, .bad, .bad, .bad, .bad, .bad, .bad, .bad, .bad, .bad, .vec 0 5 a (.sym n), .sint .i64 (Int.ofNat n), .sint .i64 (Int.ofNat j)] [⟨[.f32, .f32, .f32, .f32, .int .i64], m, fd, gd, bd, false⟩])) (fun j => rfl) (fun k hk => chim33step fd gd bd wr m a n k (by omega) hn han (by simpa using hpk k hk)) (chim33ret fd gd bd wr m a n j hj hn han (by simpa using hpj)) (by intro h; cases h)
        exact Run.seq_out (Run.seq h2 (Nat.le_refl _) (Run.block_out h3 (by intro h; cases h))) (by intro h; cases h)
  intro M w0 ρ w vs hM hv
  exact Run.calls (fr := ⟨none, some ⟨.sbool (chimV (⟨[.f32, .f32, .f32, .f32, .int .i64], m, fd, gd, bd, wr⟩ : Vc) a n), [], [], []⟩, true⟩) Try.func33 (by kernel_rfl) hr (ahv := []) (avv := []) (by kernel_rfl) rfl rfl ⟨⟨[], rfl⟩, fun i o => rfl, fun i => rfl⟩ (Nat.le_of_ble_eq_true (by kernel_rfl)) hM hv
/-- impl.ValidChimney -/
noncomputable def G23 : List (Nat × Ctr) := (33, chimC) :: G22
theorem g23 : Ab.Good Try.prog G23 := good_cons (sat_chim Try.call33 (fun i a n v hs han hn => chim33 i a n v hs han hn)) g22

/-- laws.sameFloat -/
noncomputable def G24 : List (Nat × Ctr) := (38, ctrD2 fun a b => .sbool (sO a b)) :: G23
theorem g24 : Ab.Good Try.prog G24 := good_cons (satD2 (g := fun a b => .sbool (sO a b)) g23 mixed Try.func38 Try.call38 100 (fun a b => .sbool (same64 a b)) (fun a b => by kernel_rfl) (fun a b _ _ ρ u h => by show V ρ (.sbool (sO a b)) u; rw [sO_eq]; exact h)) g23

/-- laws.eqFlue -/
noncomputable def G25 : List (Nat × Ctr) := (78, inl Try.prog G24 100 Try.f78) :: G24
theorem g25 : Ab.Good Try.prog G25 := good_cons (inl_sat g24 mixed Try.func78 Try.call78 100) g24

noncomputable def elFlue : ElQ := fun f g f' g' => cond (!sO (wide (f 0)) (wide (f' 0))) false (cond (!sO (wide (f 1)) (wide (f' 1))) false (cond (!sO (wide (f 2)) (wide (f' 2))) false (cond (!sO (wide (f 3)) (wide (f' 3))) false (cond (g 4 != g' 4) false (true)))))
theorem elFlue_self (f : Nat → Nat) (g : Nat → Int) : elFlue f g f g = true := by
  unfold elFlue; simp [sO_self]

theorem eqs34step (fd : Nat → Nat → Nat) (gd : Nat → Nat → Int) (bd : Nat → Nat → Bool) (wr : Bool) (m : Num) (fd' : Nat → Nat → Nat) (gd' : Nat → Nat → Int) (bd' : Nat → Nat → Bool) (wr' : Bool) (m' : Num) (a a' n n' : Nat) (j : Nat) (hj : j < n) (hnn : n = n') (hn : n ≤ 140737488355328) (han : a + n ≤ m.val) (han' : a' + n' ≤ m'.val) (hp : (elFlue (fd (Nat.add a j)) (gd (Nat.add a j)) (fd' (Nat.add a' j)) (gd' (Nat.add a' j))) = true) : Run Try.prog Try.f34.ntmps (cL (cK (cB (cA (cB (cB (bodyOf Try.f34))))))) (stR [.vec 0 5 a (.sym n), .vec 1 5 a' (.sym n'), .bad, .bad, .bad, .sint .i64 (Int.ofNat j)] [⟨[.f32, .f32, .f32, .f32, .int .i64], m, fd, gd, bd, false⟩, ⟨[.f32, .f32, .f32, .f32, .int .i64], m', fd', gd', bd', false⟩]) (.normal, (stR [.vec 0 5 a (.sym n), .vec 1 5 a' (.sym n'), .bad, .bad, .bad, .sint .i64 (Int.ofNat (j + 1))] [⟨[.f32, .f32, .f32, .f32, .int .i64], m, fd, gd, bd, false⟩, ⟨[.f32, .f32, .f32, .f32, .int .i64], m', fd', gd', bd', false⟩])) := by
  have c1 : Nat.ble (j + 1) n = true := Nat.ble_eq_true_of_le hj
  have c2 : Nat.ble (Nat.add a j + 1) m.val = true := Nat.ble_eq_true_of_le (by show a + j + 1 ≤ m.val; omega)
  have c3 : Nat.ble (j + 1) n' = true := Nat.ble_eq_true_of_le (by omega)
  have c4 : Nat.ble (Nat.add a' j + 1) m'.val = true := Nat.ble_eq_true_of_le (by show a' + j + 1 ≤ m'.val; omega)
  refine Run.to g25 mixed 60 [true, false] (by kernel_rfl) ?_ ?_ (by kernel_rfl) (by kernel_rfl) ?_ ⟨⟨⟨[.f32, .f32, .f32, .f32, .int .i64], m, fd, gd, bd, false⟩, by kernel_rfl, VcLe.refl _⟩, ⟨⟨[.f32, .f32, .f32, .f32, .int .i64], m', fd', gd', bd', false⟩, by kernel_rfl, VcLe.refl _⟩, trivial⟩ (by kernel_rfl)
  · have e : wBs (wayO [true, false] (stR [.vec 0 5 a (.sym n), .vec 1 5 a' (.sym n'), .bad, .bad, .bad, .sint .i64 (Int.ofNat j)] [⟨[.f32, .f32, .f32, .f32, .int .i64], m, fd, gd, bd, false⟩, ⟨[.f32, .f32, .f32, .f32, .int .i64], m', fd', gd', bd', false⟩]) (Ab.ev Try.prog G25 Try.f34.ntmps 60 (cL (cK (cB (cA (cB (cB (bodyOf Try.f34))))))) (stR [.vec 0 5 a (.sym n), .vec 1 5 a' (.sym n'), .bad, .bad, .bad, .sint .i64 (Int.ofNat j)] [⟨[.f32, .f32, .f32, .f32, .int .i64], m, fd, gd, bd, false⟩, ⟨[.f32, .f32, .f32, .f32, .int .i64], m', fd', gd', bd', false⟩]) Dl.nil)) = [decide (Int.ofNat j < Int.ofNat n), !(elFlue (fd (Nat.add a j)) (gd (Nat.add a j)) (fd' (Nat.add a' j)) (gd' (Nat.add a' j)))] := by kernel_rfl
    rw [e, dec_lt hj, hp]; rfl
  · have e : wNd (wayO [true, false] (stR [.vec 0 5 a (.sym n), .vec 1 5 a' (.sym n'), .bad, .bad, .bad, .sint .i64 (Int.ofNat j)] [⟨[.f32, .f32, .f32, .f32, .int .i64], m, fd, gd, bd, false⟩, ⟨[.f32, .f32, .f32, .f32, .int .i64], m', fd', gd', bd', false⟩]) (Ab.ev Try.prog G25 Try.f34.ntmps 60 (cL (cK (cB (cA (cB (cB (bodyOf Try.f34))))))) (stR [.vec 0 5 a (.sym n), .vec 1 5 a' (.sym n'), .bad, .bad, .bad, .sint .i64 (Int.ofNat j)] [⟨[.f32, .f32, .f32, .f32, .int .i64], m, fd, gd, bd, false⟩, ⟨[.f32, .f32, .f32, .f32, .int .i64], m', fd', gd', bd', false⟩]) Dl.nil)) = (cond (cond (cond (cond (cond (cond (cond (cond (cond (true) (Nat.ble (j + 1) n) false) (Nat.ble (Nat.add a j + 1) m.val) false) (true) false) (true) false) (Nat.ble (j + 1) n') false) (Nat.ble (Nat.add a' j + 1) m'.val) false) (true) false) (true) false) (true) false) := by kernel_rfl
    rw [e, c1, c2, c3, c4]; rfl
  · refine ⟨Or.inr (ge_eq (by kernel_rfl)), Or.inr (ge_eq (by kernel_rfl)), Or.inl rfl, Or.inl rfl, Or.inl rfl, Or.inr (ge_eq ?_), trivial⟩
    have e : (wS (wayO [true, false] (stR [.vec 0 5 a (.sym n), .vec 1 5 a' (.sym n'), .bad, .bad, .bad, .sint .i64 (Int.ofNat j)] [⟨[.f32, .f32, .f32, .f32, .int .i64], m, fd, gd, bd, false⟩, ⟨[.f32, .f32, .f32, .f32, .int .i64], m', fd', gd', bd', false⟩]) (Ab.ev Try.prog G25 Try.f34.ntmps 60 (cL (cK (cB (cA (cB (cB (bodyOf Try.f34))))))) (stR [.vec 0 5 a (.sym n), .vec 1 5 a' (.sym n'), .bad, .bad, .bad, .sint .i64 (Int.ofNat j)] [⟨[.f32, .f32, .f32, .f32, .int .i64], m, fd, gd, bd, false⟩, ⟨[.f32, .f32, .f32, .f32, .int .i64], m', fd', gd', bd', false⟩]) Dl.nil))).get 5 = .sint .i64 (IntKind.i64.wrap (Int.ofNat j + 1)) := by kernel_rfl
    rw [e, wrap_next hj hn]

theorem eqs34ret (fd : Nat → Nat → Nat) (gd : Nat → Nat → Int) (bd : Nat → Nat → Bool) (wr : Bool) (m : Num) (fd' : Nat → Nat → Nat) (gd' : Nat → Nat → Int) (bd' : Nat → Nat → Bool) (wr' : Bool) (m' : Num) (a a' n n' : Nat) (j : Nat) (hj : j < n) (hnn : n = n') (hn : n ≤ 140737488355328) (han : a + n ≤ m.val) (han' : a' + n' ≤ m'.val) (hp : (elFlue (fd (Nat.add a j)) (gd (Nat.add a j)) (fd' (Nat.add a' j)) (gd' (Nat.add a' j))) = false) : Run Try.prog Try.f34.ntmps (cL (cK (cB (cA (cB (cB (bodyOf Try.f34))))))) (stR [.vec 0 5 a (.sym n), .vec 1 5 a' (.sym n'), .bad, .bad, .bad, .sint .i64 (Int.ofNat j)] [⟨[.f32, .f32, .f32, .f32, .int .i64], m, fd, gd, bd, false⟩, ⟨[.f32, .f32, .f32, .f32, .int .i64], m', fd', gd', bd', false⟩]) (.ret, (stR [.bad, .bad, .bad, .bad, .sbool false] [⟨[.f32, .f32, .f32, .f32, .int .i64], m, fd, gd, bd, false⟩, ⟨[.f32, .f32, .f32, .f32, .int .i64], m', fd', gd', bd', false⟩])) := by
  have c1 : Nat.ble (j + 1) n = true := Nat.ble_eq_true_of_le hj
  have c2 : Nat.ble (Nat.add a j + 1) m.val = true := Nat.ble_eq_true_of_le (by show a + j + 1 ≤ m.val; omega)
  have c3 : Nat.ble (j + 1) n' = true := Nat.ble_eq_true_of_le (by omega)
  have c4 : Nat.ble (Nat.add a' j + 1) m'.val = true := Nat.ble_eq_true_of_le (by show a' + j + 1 ≤ m'.val; omega)
  refine Run.to g25 mixed 60 [true, true] (by kernel_rfl) ?_ ?_ (by kernel_rfl) (by kernel_rfl) ⟨Or.inl rfl, Or.inl rfl, Or.inl rfl, Or.inl rfl, Or.inr (ge_bool (by kernel_rfl)), trivial⟩ ⟨⟨⟨[.f32, .f32, .f32, .f32, .int .i64], m, fd, gd, bd, false⟩, by kernel_rfl, VcLe.refl _⟩, ⟨⟨[.f32, .f32, .f32, .f32, .int .i64], m', fd', gd', bd', false⟩, by kernel_rfl, VcLe.refl _⟩, trivial⟩ (by kernel_rfl)
  · have e : wBs (wayO [true, true] (stR [.vec 0 5 a (.sym n), .vec 1 5 a' (.sym n'), .bad, .bad, .bad, .sint .i64 (Int.ofNat j)] [⟨[.f32, .f32, .f32, .f32, .int .i64], m, fd, gd, bd, false⟩, ⟨[.f32, .f32, .f32, .f32, .int .i64], m', fd', gd', bd', false⟩]) (Ab.ev Try.prog G25 Try.f34.ntmps 60 (cL (cK (cB (cA (cB (cB (bodyOf Try.f34))))))) (stR [.vec 0 5 a (.sym n), .vec 1 5 a' (.sym n'), .bad, .bad, .bad, .sint .i64 (Int.ofNat j)] [⟨[.f32, .f32, .f32, .f32, .int .i64], m, fd, gd, bd, false⟩, ⟨[.f32, .f32, .f32, .f32, .int .i64], m', fd', gd', bd', false⟩]) Dl.nil)) = [decide (Int.ofNat j < Int.ofNat n), !(elFlue (fd (Nat.add a j)) (gd (Nat.add a j)) (fd' (Nat.add a' j)) (gd' (Nat.add a' j)))] := by kernel_rfl
    rw [e, dec_lt hj, hp]; rfl
  · have e : wNd (wayO [true, true] (stR [.vec 0 5 a (.sym n), .vec 1 5 a' (.sym n'), .bad, .bad, .bad, .sint .i64 (Int.ofNat j)] [⟨[.f32, .f32, .f32, .f32, .int .i64], m, fd, gd, bd, false⟩, ⟨[.f32, .f32, .f32, .f32, .int .i64], m', fd', gd', bd', false⟩]) (Ab.ev Try.prog G25 Try.f34.ntmps 60 (cL (cK (cB (cA (cB (cB (bodyOf Try.f34))))))) (stR [.vec 0 5 a (.sym n), .vec 1 5 a' (.sym n'), .bad, .bad, .bad, .sint .i64 (Int.ofNat j)] [⟨[.f32, .f32, .f32, .f32, .int .i64], m, fd, gd, bd, false⟩, ⟨[.f32, .f32, .f32, .f32, .int .i64], m', fd', gd', bd', false⟩]) Dl.nil)) = (cond (cond (cond (cond (cond (cond (cond (cond (cond (true) (Nat.ble (j + 1) n) false) (Nat.ble (Nat.add a j + 1) m.val) false) (true) false) (true) false) (Nat.ble (j + 1) n') false) (Nat.ble (Nat.add a' j + 1) m'.val) false) (true) false) (true) false) (true) false) := by kernel_rfl
    rw [e, c1, c2, c3, c4]; rfl

theorem eqs34end (fd : Nat → Nat → Nat) (gd : Nat → Nat → Int) (bd : Nat → Nat → Bool) (wr : Bool) (m : Num) (fd' : Nat → Nat → Nat) (gd' : Nat → Nat → Int) (bd' : Nat → Nat → Bool) (wr' : Bool) (m' : Num) (a a' n n' : Nat) : Run Try.prog Try.f34.ntmps (cL (cK (cB (cA (cB (cB (bodyOf Try.f34))))))) (stR [.vec 0 5 a (.sym n), .vec 1 5 a' (.sym n'), .bad, .bad, .bad, .sint .i64 (Int.ofNat n)] [⟨[.f32, .f32, .f32, .f32, .int .i64], m, fd, gd, bd, false⟩, ⟨[.f32, .f32, .f32, .f32, .int .i64], m', fd', gd', bd', false⟩]) (.exit 0, (stR [.vec 0 5 a (.sym n), .vec 1 5 a' (.sym n'), .bad, .bad, .bad, .sint .i64 (Int.ofNat n)] [⟨[.f32, .f32, .f32, .f32, .int .i64], m, fd, gd, bd, false⟩, ⟨[.f32, .f32, .f32, .f32, .int .i64], m', fd', gd', bd', false⟩])) := by
  refine Run.to g25 mixed 60 [false] (by kernel_rfl) ?_ (by kernel_rfl) (by kernel_rfl) (by kernel_rfl) ⟨Or.inr (ge_eq (by kernel_rfl)), Or.inr (ge_eq (by kernel_rfl)), Or.inl rfl, Or.inl rfl, Or.inl rfl, Or.inr (ge_eq (by kernel_rfl)), trivial⟩ ⟨⟨⟨[.f32, .f32, .f32, .f32, .int .i64], m, fd, gd, bd, false⟩, by kernel_rfl, VcLe.refl _⟩, ⟨⟨[.f32, .f32, .f32, .f32, .int .i64], m', fd', gd', bd', false⟩, by kernel_rfl, VcLe.refl _⟩, trivial⟩ (by kernel_rfl)
  have e : wBs (wayO [false] (stR [.vec 0 5 a (.sym n), .vec 1 5 a' (.sym n'), .bad, .bad, .bad, .sint .i64 (Int.ofNat n)] [⟨[.f32, .f32, .f32, .f32, .int .i64], m, fd, gd, bd, false⟩, ⟨[.f32, .f32, .f32, .f32, .int .i64], m', fd', gd', bd', false⟩]) (Ab.ev Try.prog G25 Try.f34.ntmps 60 (cL (cK (cB (cA (cB (cB (bodyOf Try.f34))))))) (stR [.vec 0 5 a (.sym n), .vec 1 5 a' (.sym n'), .bad, .bad, .bad, .sint .i64 (Int.ofNat n)] [⟨[.f32, .f32, .f32, .f32, .int .i64], m, fd, gd, bd, false⟩, ⟨[.f32, .f32, .f32, .f32, .int .i64], m', fd', gd', bd', false⟩]) Dl.nil)) = [decide (Int.ofNat n < Int.ofNat n)] := by kernel_rfl
  rw [e, dec_irr]

theorem eqs34 (i i' a a' n n' : Nat) (v v' : Vc) (hs : v.sh = [.f32, .f32, .f32, .f32, .int .i64]) (hs' : v'.sh = [.f32, .f32, .f32, .f32, .int .i64]) (han : a + n ≤ v.n.val) (han' : a' + n' ≤ v'.n.val) (hn : n ≤ 140737488355328) : OnRows Try.prog 34 [⟨i, 5, a, .sym n⟩, ⟨i', 5, a', .sym n'⟩] [] [v, v'] ⟨.sbool (eqRows elFlue v v' a a' n n'), [], [], [], true, none⟩ := by
  obtain ⟨sh, m, fd, gd, bd, wr⟩ := v
  have hs : sh = [.f32, .f32, .f32, .f32, .int .i64] := hs
  subst hs
  obtain ⟨sh', m', fd', gd', bd', wr'⟩ := v'
  have hs' : sh' = [.f32, .f32, .f32, .f32, .int .i64] := hs'
  subst hs'
  have rr : VecsLe (stR [.vec 0 5 a (.sym n), .vec 1 5 a' (.sym n')] [⟨[.f32, .f32, .f32, .f32, .int .i64], m, fd, gd, bd, false⟩, ⟨[.f32, .f32, .f32, .f32, .int .i64], m', fd', gd', bd', false⟩]) 0 [⟨[.f32, .f32, .f32, .f32, .int .i64], m, fd, gd, bd, false⟩, ⟨[.f32, .f32, .f32, .f32, .int .i64], m', fd', gd', bd', false⟩] := ⟨⟨⟨[.f32, .f32, .f32, .f32, .int .i64], m, fd, gd, bd, false⟩, rfl, VcLe.refl _⟩, ⟨⟨[.f32, .f32, .f32, .f32, .int .i64], m', fd', gd', bd', false⟩, rfl, VcLe.refl _⟩, trivial⟩
  have h0 : Run Try.prog Try.f34.ntmps (cA (bodyOf Try.f34)) ((viewS [⟨[.f32, .f32, .f32, .f32, .int .i64], m, fd, gd, bd, wr⟩, ⟨[.f32, .f32, .f32, .f32, .int .i64], m', fd', gd', bd', wr'⟩]).start Try.f34.ntmps [.vec 0 5 a (.sym n), .vec 1 5 a' (.sym n')]) (.normal, stR [.vec 0 5 a (.sym n), .vec 1 5 a' (.sym n')] [⟨[.f32, .f32, .f32, .f32, .int .i64], m, fd, gd, bd, false⟩, ⟨[.f32, .f32, .f32, .f32, .int .i64], m', fd', gd', bd', false⟩]) :=
    Run.to g25 mixed 60 [] (by kernel_rfl) (by kernel_rfl) (by kernel_rfl) (by kernel_rfl) (by kernel_rfl) ⟨Or.inr (ge_eq (by kernel_rfl)), Or.inr (ge_eq (by kernel_rfl)), trivial⟩ ⟨⟨⟨[.f32, .f32, .f32, .f32, .int .i64], m, fd, gd, bd, false⟩, by kernel_rfl, VcLe.refl _⟩, ⟨⟨[.f32, .f32, .f32, .f32, .int .i64], m', fd', gd', bd', false⟩, by kernel_rfl, VcLe.refl _⟩, trivial⟩ (by kernel_rfl)
  have ebT : wBs (wayO [true] (stR [.vec 0 5 a (.sym n), .vec 1 5 a' (.sym n')] [⟨[.f32, .f32, .f32, .f32, .int .i64], m, fd, gd, bd, false⟩, ⟨[.f32, .f32, .f32, .f32, .int .i64], m', fd', gd', bd', false⟩]) (Ab.ev Try.prog G25 Try.f34.ntmps 60 (cA (cB (bodyOf Try.f34))) (stR [.vec 0 5 a (.sym n), .vec 1 5 a' (.sym n')] [⟨[.f32, .f32, .f32, .f32, .int .i64], m, fd, gd, bd, false⟩, ⟨[.f32, .f32, .f32, .f32, .int .i64], m', fd', gd', bd', false⟩]) Dl.nil)) = [Int.ofNat n != Int.ofNat n'] := by kernel_rfl
  have ebF : wBs (wayO [false] (stR [.vec 0 5 a (.sym n), .vec 1 5 a' (.sym n')] [⟨[.f32, .f32, .f32, .f32, .int .i64], m, fd, gd, bd, false⟩, ⟨[.f32, .f32, .f32, .f32, .int .i64], m', fd', gd', bd', false⟩]) (Ab.ev Try.prog G25 Try.f34.ntmps 60 (cA (cB (bodyOf Try.f34))) (stR [.vec 0 5 a (.sym n), .vec 1 5 a' (.sym n')] [⟨[.f32, .f32, .f32, .f32, .int .i64], m, fd, gd, bd, false⟩, ⟨[.f32, .f32, .f32, .f32, .int .i64], m', fd', gd', bd', false⟩]) Dl.nil)) = [Int.ofNat n != Int.ofNat n'] := by kernel_rfl
  have hr : Run Try.prog Try.f34.ntmps (bodyOf Try.f34) ((viewS [⟨[.f32, .f32, .f32, .f32, .int .i64], m, fd, gd, bd, wr⟩, ⟨[.f32, .f32, .f32, .f32, .int .i64], m', fd', gd', bd', wr'⟩]).start Try.f34.ntmps [.vec 0 5 a (.sym n), .vec 1 5 a' (.sym n')]) (.ret, (stR [.bad, .bad, .bad, .bad, .sbool (eqRows elFlue ⟨[.f32, .f32, .f32, .f32, .int .i64], m, fd, gd, bd, wr⟩ ⟨[.f32, .f32, .f32, .f32, .int .i64], m', fd', gd', bd', wr'⟩ a a' n n')] [⟨[.f32, .f32, .f32, .f32, .int .i64], m, fd, gd, bd, false⟩, ⟨[.f32, .f32, .f32, .f32, .int .i64], m', fd', gd', bd', false⟩])) := by
    have hB : (bodyOf Try.f34) = .seq (cA (bodyOf Try.f34)) (.seq (cA (cB (bodyOf Try.f34))) (.seq (.seq (cA (cA (cB (cB (bodyOf Try.f34))))) (.block 0 (.loop (cL (cK (cB (cA (cB (cB (bodyOf Try.f34)))))))))) (cB (cB (cB (bodyOf Try.f34)))))) := by kernel_rfl
    rw [hB]
    refine Run.seq h0 (Nat.le_refl _) ?_
    unfold eqRows
    by_cases hnn : n = n'
    · have hne : (Int.ofNat n != Int.ofNat n') = false := by rw [hnn]; simp
      have h1 : Run Try.prog Try.f34.ntmps (cA (cB (bodyOf Try.f34))) (stR [.vec 0 5 a (.sym n), .vec 1 5 a' (.sym n')] [⟨[.f32, .f32, .f32, .f32, .int .i64], m, fd, gd, bd, false⟩, ⟨[.f32, .f32, .f32, .f32, .int .i64], m', fd', gd', bd', false⟩]) (.normal, stR [.vec 0 5 a (.sym n), .vec 1 5 a' (.sym n')] [⟨[.f32, .f32, .f32, .f32, .int .i64], m, fd, gd, bd, false⟩, ⟨[.f32, .f32, .f32, .f32, .int .i64], m', fd', gd', bd', false⟩]) := by
        refine Run.to g25 mixed 60 [false] (by kernel_rfl) ?_ (by kernel_rfl) (by kernel_rfl) (by kernel_rfl) ⟨Or.inr (ge_eq (by kernel_rfl)), Or.inr (ge_eq (by kernel_rfl)), trivial⟩ ⟨⟨⟨[.f32, .f32, .f32, .f32, .int .i64], m, fd, gd, bd, false⟩, by kernel_rfl, VcLe.refl _⟩, ⟨⟨[.f32, .f32, .f32, .f32, .int .i64], m', fd', gd', bd', false⟩, by kernel_rfl, VcLe.refl _⟩, trivial⟩ (by kernel_rfl)
        rw [ebF, hne]
      have h2 : Run Try.prog Try.f34.ntmps (cA (cA (cB (cB (bodyOf Try.f34))))) (stR [.vec 0 5 a (.sym n), .vec 1 5 a' (.sym n')] [⟨[.f32, .f32, .f32, .f32, .int .i64], m, fd, gd, bd, false⟩, ⟨[.f32, .f32, .f32, .f32, .int .i64], m', fd', gd', bd', false⟩]) (.normal, (stR [.vec 0 5 a (.sym n), .vec 1 5 a' (.sym n'), .bad, .bad, .bad, .sint .i64 (Int.ofNat 0)] [⟨[.f32, .f32, .f32, .f32, .int .i64], m, fd, gd, bd, false⟩, ⟨[.f32, .f32, .f32, .f32, .int .i64], m', fd', gd', bd', false⟩])) :=
        Run.to g25 mixed 60 [] (by kernel_rfl) (by kernel_rfl) (by kernel_rfl) (by kernel_rfl) (by kernel_rfl) ⟨Or.inr (ge_eq (by kernel_rfl)), Or.inr (ge_eq (by kernel_rfl)), Or.inl rfl, Or.inl rfl, Or.inl rfl, Or.inr (ge_int (by kernel_rfl)), trivial⟩ ⟨⟨⟨[.f32, .f32, .f32, .f32, .int .i64], m, fd, gd, bd, false⟩, by kernel_rfl, VcLe.refl _⟩, ⟨⟨[.f32, .f32, .f32, .f32, .int .i64], m', fd', gd', bd', false⟩, by kernel_rfl, VcLe.refl _⟩, trivial⟩ (by kernel_rfl)
      rw [hne]
      show Run Try.prog Try.f34.ntmps _ _ (.ret, (stR [.bad, .bad, .bad, .bad, .sbool (allB n (fun j => elAt elFlue ⟨[.f32, .f32, .f32, .f32, .int .i64], m, fd, gd, bd, wr⟩ ⟨[.f32, .f32, .f32, .f32, .int .i64], m', fd', gd', bd', wr'⟩ a a' j))] [⟨[.f32, .f32, .f32, .f32, .int .i64], m, fd, gd, bd, false⟩, ⟨[.f32, .f32, .f32, .f32, .int .i64], m', fd', gd', bd', false⟩]))
      refine Run.seq h1 (Nat.le_refl _) ?_
      cases hall : allB n (fun j => elAt elFlue ⟨[.f32, .f32, .f32, .f32, .int .i64], m, fd, gd, bd, wr⟩ ⟨[.f32, .f32, .f32, .f32, .int .i64], m', fd', gd', bd', wr'⟩ a a' j) with
      | true =>
        have hp := allB_true hall
        have h3 : Run Try.prog Try.f34.ntmps (.loop (cL (cK (cB (cA (cB (cB (bodyOf Try.f34)))))))) (stR [.vec 0 5 a (.sym n), .vec 1 5 a' (.sym n'), .bad, .bad, .bad, .sint .i64 (Int.ofNat 0)] [⟨[.f32, .f32, .f32, .f32, .int .i64], m, fd, gd, bd, false⟩, ⟨[.f32, .f32, .f32, .f32, .int .i64], m', fd', gd', bd', false⟩]) (.exit 0, (stR [.vec 0 5 a (.sym n), .vec 1 5 a' (.sym n'), .bad, .bad, .bad, .sint .i64 (Int.ofNat n)] [⟨[.f32, .f32, .f32, .f32, .int .i64], m, fd, gd, bd, false⟩, ⟨[.f32, .f32, .f32, .f32, .int .i64], m', fd', gd', bd', false⟩])) := Run.loop n (fun j => (stR [.vec 0 5 a (.sym n), .vec 1 5 a' (.sym n'), .bad, .bad, .bad, .sint .i64 (Int.ofNat j)] [⟨[.f32, .f32, .f32, .f32, .int .i64], m, fd, gd, bd, false⟩, ⟨[.f32, .f32, .f32, .f32, .int .i64], m', fd', gd', bd', false⟩])) (fun j => rfl) (fun j hj => eqs34step fd gd bd wr m fd' gd' bd' wr' m' a a' n n' j hj hnn hn han han' (hp j hj)) (eqs34end fd gd bd wr m fd' gd' bd' wr' m' a a' n n') (by intro h; cases h)
        have h6 : Run Try.prog Try.f34.ntmps (cB (cB (cB (bodyOf Try.f34)))) (stR [.vec 0 5 a (.sym n), .vec 1 5 a' (.sym n'), .bad, .bad, .bad, .sint .i64 (Int.ofNat n)] [⟨[.f32, .f32, .f32, .f32, .int .i64], m, fd, gd, bd, false⟩, ⟨[.f32, .f32, .f32, .f32, .int .i64], m', fd', gd', bd', false⟩]) (.ret, (stR [.bad, .bad, .bad, .bad, .sbool true] [⟨[.f32, .f32, .f32, .f32, .int .i64], m, fd, gd, bd, false⟩, ⟨[.f32, .f32, .f32, .f32, .int .i64], m', fd', gd', bd', false⟩])) :=
          Run.to g25 mixed 60 [] (by kernel_rfl) (by kernel_rfl) (by kernel_rfl) (by kernel_rfl) (by kernel_rfl) ⟨Or.inl rfl, Or.inl rfl, Or.inl rfl, Or.inl rfl, Or.inr (ge_bool (by kernel_rfl)), trivial⟩ ⟨⟨⟨[.f32, .f32, .f32, .f32, .int .i64], m, fd, gd, bd, false⟩, by kernel_rfl, VcLe.refl _⟩, ⟨⟨[.f32, .f32, .f32, .f32, .int .i64], m', fd', gd', bd', false⟩, by kernel_rfl, VcLe.refl _⟩, trivial⟩ (by kernel_rfl)
        exact Run.seq (Run.seq h2 (Nat.le_refl _) (Run.block h3)) (Nat.le_refl _) h6
      | false =>
        obtain ⟨j, hj, hpj, hpk⟩ := allB_false hall
        have h3 : Run Try.prog Try.f34.ntmps (.loop (cL (cK (cB (cA (cB (cB (bodyOf Try.f34)))))))) (stR [.vec 0 5 a (.sym n), .vec 1 5 a' (.sym n'), .bad, .bad, .bad, .sint .i64 (Int.ofNat 0)] [⟨[.f32, .f32, .f32, .f32, .int .i64], m, fd, gd, bd, false⟩, ⟨[.f32, .f32, .f32, .f32, .int .i64], m', fd', gd', bd', false⟩]) (.ret, (stR [.bad, .bad, .bad, .bad, .sbool false] [⟨[.f32, .f32, .f32, .f32, .int .i64], m, fd, gd, bd, false⟩, ⟨[.f32, .f32, .f32, .f32, .int .i64], m', fd', gd', bd', false⟩])) := Run.loop j (fun j => (stR [.vec 0 5 a (.sym n), .vec 1 5 a' (.sym n'), .bad, .bad, .bad, .sint .i64 (Int.ofNat j)] [⟨[.f32, .f32, .f32, .f32, .int .i64], m, fd, gd, bd, false⟩, ⟨[.f32, .f32, .f32, .f32, .int .i64], m', fd', gd', bd', false⟩])) (fun j => rfl) (fun k hk => eqs34step fd gd bd wr m fd' gd' bd' wr' m' a a' n n' k (by omega) hnn hn han han' (hpk k hk)) (eqs34ret fd gd bd wr m fd' gd' bd' wr' m' a a' n n' j hj hnn hn han han' hpj) (by intro h; cases h)
        exact Run.seq_out (Run.seq h2 (Nat.le_refl _) (Run.block_out h3 (by intro h; cases h))) (by intro h; cases h)
    · have hne : (Int.ofNat n != Int.ofNat n') = true := by
        simp only [bne_iff_ne, ne_eq]
        intro h
        exact hnn (Int.ofNat.inj h)
      rw [hne]
      have h1 : Run Try.prog Try.f34.ntmps (cA (cB (bodyOf Try.f34))) (stR [.vec 0 5 a (.sym n), .vec 1 5 a' (.sym n')] [⟨[.f32, .f32, .f32, .f32, .int .i64], m, fd, gd, bd, false⟩, ⟨[.f32, .f32, .f32, .f32, .int .i64], m', fd', gd', bd', false⟩]) (.ret, (stR [.bad, .bad, .bad, .bad, .sbool false] [⟨[.f32, .f32, .f32, .f32, .int .i64], m, fd, gd, bd, false⟩, ⟨[.f32, .f32, .f32, .f32, .int .i64], m', fd', gd', bd', false⟩])) := by
        refine Run.to g25 mixed 60 [true] (by kernel_rfl) ?_ (by kernel_rfl) (by kernel_rfl) (by kernel_rfl) ⟨Or.inl rfl, Or.inl rfl, Or.inl rfl, Or.inl rfl, Or.inr (ge_bool (by kernel_rfl)), trivial⟩ ⟨⟨⟨[.f32, .f32, .f32, .f32, .int .i64], m, fd, gd, bd, false⟩, by kernel_rfl, VcLe.refl _⟩, ⟨⟨[.f32, .f32, .f32, .f32, .int .i64], m', fd', gd', bd', false⟩, by kernel_rfl, VcLe.refl _⟩, trivial⟩ (by kernel_rfl)
        rw [ebT, hne]
      exact Run.seq_out h1 (by intro h; cases h)
  intro M w0 ρ w vs hM hv
  exact Run.calls (fr := ⟨none, some ⟨.sbool (eqRows elFlue ⟨[.f32, .f32, .f32, .f32, .int .i64], m, fd, gd, bd, wr⟩ ⟨[.f32, .f32, .f32, .f32, .int .i64], m', fd', gd', bd', wr'⟩ a a' n n'), [], [], []⟩, true⟩) Try.func34 (by kernel_rfl) hr (ahv := []) (avv := []) (by kernel_rfl) rfl rfl ⟨⟨[], rfl⟩, fun i o => rfl, fun i => rfl⟩ (Nat.le_of_ble_eq_true (by kernel_rfl)) hM hv
/-- laws.eqFlueS -/
noncomputable def G26 : List (Nat × Ctr) := (34, eqC [.f32, .f32, .f32, .f32, .int .i64] elFlue) :: G25
theorem g26 : Ab.Good Try.prog G26 := good_cons (sat_eq Try.call34 (fun i i' a a' n n' v v' hs hs' han han' hn => eqs34 i i' a a' n n' v v' hs hs' han han' hn)) g25

noncomputable def GG : List (Nat × Ctr) := G26
theorem gg : Ab.Good Try.prog GG := g26

end Go.Proofs.Ytmegbdgnnbjbmaa.ab
