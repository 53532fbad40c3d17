import Derived.Test.YtendlfonbfnopaaGf


import Derived.Test.YtendlfonbfnopaaGd
import Derived.Test.YtendlfonbfnopaaProg
namespace Go.Proofs.Ytendlfonbfnopaa.ab
open Go Go.Ab Go.Proofs
set_option maxRecDepth 100000
theorem mixed : Try.prog.follows .mixedOrders = true := by kernel_rfl

noncomputable def G0 : List (Nat × Ctr) := []
theorem g0 : Ab.Good Try.prog G0 := good_nil _

/-- laws.toFloat32A6 -/
noncomputable def G1 : List (Nat × Ctr) := (59, inl Try.prog G0 100 Try.f59) :: G0
theorem g1 : Ab.Good Try.prog G1 := good_cons (inl_sat g0 mixed Try.func59 Try.call59 100) g0

/-- laws.toWood -/
noncomputable def G2 : List (Nat × Ctr) := (16, inl Try.prog G1 100 Try.f16) :: G1
theorem g2 : Ab.Good Try.prog G2 := good_cons (inl_sat g1 mixed Try.func16 Try.call16 100) g1

/-- spec.l01Finite -/
noncomputable def G3 : List (Nat × Ctr) := (108, ctr1 fun a => .sbool (finF a)) :: G2
theorem g3 : Ab.Good Try.prog G3 := good_cons (sat1 (g := fun a => .sbool (finF a)) g2 mixed Try.func108 Try.call108 100 (fun a => .sbool (feqB .f32 (fop .sub .f32 a a) 0)) (fun a => by kernel_rfl) (fun a ha ρ u h => by show V ρ (.sbool (finF a)) u; rw [← fin_sub a]; exact h)) g2

/-- math.Float32bits -/
noncomputable def G4 : List (Nat × Ctr) := (142, extC .f32bits) :: G3
theorem g4 : Ab.Good Try.prog G4 := good_cons (sat_ext .f32bits Try.func142 (by kernel_rfl) (by kernel_rfl) (by kernel_rfl) (by kernel_rfl)) g3

/-- spec.l01Amount -/
noncomputable def G5 : List (Nat × Ctr) := (105, ctr1 fun a => .sbool (amtF a)) :: G4
theorem g5 : Ab.Good Try.prog G5 := good_cons (sat1 (g := fun a => .sbool (amtF a)) g4 mixed Try.func105 Try.call105 100 (fun a => .cbool (cond (finF a) (cond (fltB .f32 0 a) true (!nanB .f32 a && true)) true) (cond (finF a) (cond (fltB .f32 0 a) true (Int.ofNat a == 0)) false)) (fun a => by kernel_rfl) (fun a ha ρ u h => by show V ρ (.sbool (amtF a)) u; rw [← amt_spec ha]; exact cbool_say (amt_cond a) h)) g4

/-- spec.l01Ok -/
noncomputable def G6 : List (Nat × Ctr) := (57, orC (ctrWp fun ns => .sbool (vOp ns)) (ctrWv fun ns => .sbool (vOp ns))) :: G5
theorem g6 : Ab.Good Try.prog G6 := good_cons (sat_or (satWp (g := fun ns => .sbool (vOp ns)) g5 mixed Try.func57 Try.call57 100 (fun ns => .sbool (validS ns)) (fun ns hl => by obtain ⟨a0, a1, a2, a3, a4, a5, b0, b1, b2, b3, b4, b5, c0, c1, c2, c3, c4, c5, rfl⟩ := len18 hl; kernel_rfl) (fun ns _ ρ u h => by show V ρ (.sbool (vOp ns)) u; rw [vOp_eq, ← validS_eq]; exact h)) (satWv (g := fun ns => .sbool (vOp ns)) g5 mixed Try.func57 Try.call57 100 (fun ns => .sbool (validS ns)) (fun ns hl => by obtain ⟨a0, a1, a2, a3, a4, a5, b0, b1, b2, b3, b4, b5, c0, c1, c2, c3, c4, c5, rfl⟩ := len18 hl; kernel_rfl) (fun ns _ ρ u h => by show V ρ (.sbool (vOp ns)) u; rw [vOp_eq, ← validS_eq]; exact h)) rfl rfl) g5

/-- spec.BurningLayers -/
noncomputable def G7 : List (Nat × Ctr) := (19, inl Try.prog G6 100 Try.f19) :: G6
theorem g7 : Ab.Good Try.prog G7 := good_cons (inl_sat g6 mixed Try.func19 Try.call19 100) g6

/-- impl.isFinite -/
noncomputable def G8 : List (Nat × Ctr) := (115, ctr1 fun a => .sbool (finF a)) :: G7
theorem g8 : Ab.Good Try.prog G8 := good_cons (sat1 (g := fun a => .sbool (finF a)) g7 mixed Try.func115 Try.call115 100 (fun a => .sbool (cond (fleB .f32 4286578687 a) (fleB .f32 a 2139095039) false)) (fun a => by kernel_rfl) (fun a ha ρ u h => by show V ρ (.sbool (finF a)) u; rw [← fin_between ha]; exact h)) g7

/-- math.Float64bits -/
noncomputable def G9 : List (Nat × Ctr) := (159, extC .f64bits) :: G8
theorem g9 : Ab.Good Try.prog G9 := good_cons (sat_ext .f64bits Try.func159 (by kernel_rfl) (by kernel_rfl) (by kernel_rfl) (by kernel_rfl)) g8

/-- math.Signbit -/
noncomputable def G10 : List (Nat × Ctr) := (148, inl Try.prog G9 100 Try.f148) :: G9
theorem g10 : Ab.Good Try.prog G10 := good_cons (inl_sat g9 mixed Try.func148 Try.call148 100) g9

/-- impl.IsAmount -/
noncomputable def G11 : List (Nat × Ctr) := (121, ctr1 fun a => .sbool (amtF a)) :: G10
theorem g11 : Ab.Good Try.prog G11 := good_cons (sat1 (g := fun a => .sbool (amtF a)) g10 mixed Try.func121 Try.call121 100 (fun a => .cbool (cond (finF a) (!nanB .f64 (wide a) && true) true) (cond (finF a) (!decide (IntKind.i64.wrap (Int.ofNat (wide a)) < 0)) false)) (fun a => by kernel_rfl) (fun a ha ρ u h => by show V ρ (.sbool (amtF a)) u; rw [← wide_neg ha]; exact cbool_say wide_nan h)) g10

/-- impl.isKilos -/
noncomputable def G12 : List (Nat × Ctr) := (106, ctr1 fun a => .sbool (kilF a)) :: G11
theorem g12 : Ab.Good Try.prog G12 := good_cons (sat1 (g := fun a => .sbool (kilF a)) g11 mixed Try.func106 Try.call106 100 (fun a => .sbool (cond (amtF a) (fleB .f32 a 1092616192) false)) (fun a => by kernel_rfl) (fun a ha ρ u h => by show V ρ (.sbool (kilF a)) u; rw [← kil_impl a]; exact h)) g11

/-- impl.isBetween -/
noncomputable def G13 : List (Nat × Ctr) := (107, inl Try.prog G12 100 Try.f107) :: G12
theorem g13 : Ab.Good Try.prog G13 := good_cons (inl_sat g12 mixed Try.func107 Try.call107 100) g12

/-- impl.ValidWood -/
noncomputable def G14 : List (Nat × Ctr) := (60, ctrW fun ns => .sbool (vOp ns)) :: G13
theorem g14 : Ab.Good Try.prog G14 := good_cons (satW (g := fun ns => .sbool (vOp ns)) g13 mixed Try.func60 Try.call60 100 (fun ns => .sbool (validI ns)) (fun ns hl => by obtain ⟨a0, a1, a2, a3, a4, a5, b0, b1, b2, b3, b4, b5, c0, c1, c2, c3, c4, c5, rfl⟩ := len18 hl; kernel_rfl) (fun ns _ ρ u h => by show V ρ (.sbool (vOp ns)) u; rw [vOp_eq]; exact h)) g13

/-- impl.isDry -/
noncomputable def G15 : List (Nat × Ctr) := (63, inl Try.prog G14 100 Try.f63) :: G14
theorem g15 : Ab.Good Try.prog G15 := good_cons (inl_sat g14 mixed Try.func63 Try.call63 100) g14

/-- impl.BurningLayers -/
noncomputable def G16 : List (Nat × Ctr) := (20, inl Try.prog G15 100 Try.f20) :: G15
theorem g16 : Ab.Good Try.prog G16 := good_cons (inl_sat g15 mixed Try.func20 Try.call20 100) g15


theorem eqs21step (fd : Nat → Nat → Nat) (gd : Nat → Nat → Int) (bd : Nat → Nat → Bool) (wr : Bool) (m : Num) (fd' : Nat → Nat → Nat) (gd' : Nat → Nat → Int) (bd' : Nat → Nat → Bool) (wr' : Bool) (m' : Num) (a a' n n' : Nat) (j : Nat) (hj : j < n) (hnn : n = n') (hn : n ≤ 140737488355328) (han : a + n ≤ m.val) (han' : a' + n' ≤ m'.val) (hp : (elInt (fd (Nat.add a j)) (gd (Nat.add a j)) (fd' (Nat.add a' j)) (gd' (Nat.add a' j))) = true) : Run Try.prog Try.f21.ntmps (cL (cK (cB (cA (cB (cB (bodyOf Try.f21))))))) (stR [.vec 0 1 a (.sym n), .vec 1 1 a' (.sym n'), .bad, .bad, .bad, .sint .i64 (Int.ofNat j)] [⟨[.int .i64], m, fd, gd, bd, false⟩, ⟨[.int .i64], m', fd', gd', bd', false⟩]) (.normal, (stR [.vec 0 1 a (.sym n), .vec 1 1 a' (.sym n'), .bad, .bad, .bad, .sint .i64 (Int.ofNat (j + 1))] [⟨[.int .i64], m, fd, gd, bd, false⟩, ⟨[.int .i64], m', fd', gd', bd', false⟩])) := by
  have c1 : Nat.ble (j + 1) n = true := Nat.ble_eq_true_of_le hj
  have c2 : Nat.ble (Nat.add a j + 1) m.val = true := Nat.ble_eq_true_of_le (by show a + j + 1 ≤ m.val; omega)
  have c3 : Nat.ble (j + 1) n' = true := Nat.ble_eq_true_of_le (by omega)
  have c4 : Nat.ble (Nat.add a' j + 1) m'.val = true := Nat.ble_eq_true_of_le (by show a' + j + 1 ≤ m'.val; omega)
  refine Run.to g16 mixed 60 [true, false] (by kernel_rfl) ?_ ?_ (by kernel_rfl) (by kernel_rfl) ?_ ⟨⟨⟨[.int .i64], m, fd, gd, bd, false⟩, by kernel_rfl, VcLe.refl _⟩, ⟨⟨[.int .i64], m', fd', gd', bd', false⟩, by kernel_rfl, VcLe.refl _⟩, trivial⟩ (by kernel_rfl)
  · have e : wBs (wayO [true, false] (stR [.vec 0 1 a (.sym n), .vec 1 1 a' (.sym n'), .bad, .bad, .bad, .sint .i64 (Int.ofNat j)] [⟨[.int .i64], m, fd, gd, bd, false⟩, ⟨[.int .i64], m', fd', gd', bd', false⟩]) (Ab.ev Try.prog G16 Try.f21.ntmps 60 (cL (cK (cB (cA (cB (cB (bodyOf Try.f21))))))) (stR [.vec 0 1 a (.sym n), .vec 1 1 a' (.sym n'), .bad, .bad, .bad, .sint .i64 (Int.ofNat j)] [⟨[.int .i64], m, fd, gd, bd, false⟩, ⟨[.int .i64], m', fd', gd', bd', false⟩]) Dl.nil)) = [decide (Int.ofNat j < Int.ofNat n), (gd (Nat.add a j) 0 != gd' (Nat.add a' j) 0)] := by kernel_rfl
    rw [e, dec_lt hj, elInt_t hp]
  · have e : wNd (wayO [true, false] (stR [.vec 0 1 a (.sym n), .vec 1 1 a' (.sym n'), .bad, .bad, .bad, .sint .i64 (Int.ofNat j)] [⟨[.int .i64], m, fd, gd, bd, false⟩, ⟨[.int .i64], m', fd', gd', bd', false⟩]) (Ab.ev Try.prog G16 Try.f21.ntmps 60 (cL (cK (cB (cA (cB (cB (bodyOf Try.f21))))))) (stR [.vec 0 1 a (.sym n), .vec 1 1 a' (.sym n'), .bad, .bad, .bad, .sint .i64 (Int.ofNat j)] [⟨[.int .i64], m, fd, gd, bd, false⟩, ⟨[.int .i64], m', fd', gd', bd', false⟩]) Dl.nil)) = (cond (andN (andN (andN (andN (true) (Nat.ble (j + 1) n)) (Nat.ble (Nat.add a j + 1) m.val)) (Nat.ble (j + 1) n')) (Nat.ble (Nat.add a' j + 1) m'.val)) (true) false) := by kernel_rfl
    rw [e, c1, c2, c3, c4]; rfl
  · refine ⟨Or.inr (ge_eq (by kernel_rfl)), Or.inr (ge_eq (by kernel_rfl)), Or.inl rfl, Or.inl rfl, Or.inl rfl, Or.inr (ge_eq ?_), trivial⟩
    have e : (wS (wayO [true, false] (stR [.vec 0 1 a (.sym n), .vec 1 1 a' (.sym n'), .bad, .bad, .bad, .sint .i64 (Int.ofNat j)] [⟨[.int .i64], m, fd, gd, bd, false⟩, ⟨[.int .i64], m', fd', gd', bd', false⟩]) (Ab.ev Try.prog G16 Try.f21.ntmps 60 (cL (cK (cB (cA (cB (cB (bodyOf Try.f21))))))) (stR [.vec 0 1 a (.sym n), .vec 1 1 a' (.sym n'), .bad, .bad, .bad, .sint .i64 (Int.ofNat j)] [⟨[.int .i64], m, fd, gd, bd, false⟩, ⟨[.int .i64], m', fd', gd', bd', false⟩]) Dl.nil))).get 5 = .sint .i64 (IntKind.i64.wrap (Int.ofNat j + 1)) := by kernel_rfl
    rw [e, wrap_next hj hn]

theorem eqs21ret (fd : Nat → Nat → Nat) (gd : Nat → Nat → Int) (bd : Nat → Nat → Bool) (wr : Bool) (m : Num) (fd' : Nat → Nat → Nat) (gd' : Nat → Nat → Int) (bd' : Nat → Nat → Bool) (wr' : Bool) (m' : Num) (a a' n n' : Nat) (j : Nat) (hj : j < n) (hnn : n = n') (hn : n ≤ 140737488355328) (han : a + n ≤ m.val) (han' : a' + n' ≤ m'.val) (hp : (elInt (fd (Nat.add a j)) (gd (Nat.add a j)) (fd' (Nat.add a' j)) (gd' (Nat.add a' j))) = false) : Run Try.prog Try.f21.ntmps (cL (cK (cB (cA (cB (cB (bodyOf Try.f21))))))) (stR [.vec 0 1 a (.sym n), .vec 1 1 a' (.sym n'), .bad, .bad, .bad, .sint .i64 (Int.ofNat j)] [⟨[.int .i64], m, fd, gd, bd, false⟩, ⟨[.int .i64], m', fd', gd', bd', false⟩]) (.ret, (stR [.bad, .bad, .bad, .bad, .sbool false] [⟨[.int .i64], m, fd, gd, bd, false⟩, ⟨[.int .i64], m', fd', gd', bd', false⟩])) := by
  have c1 : Nat.ble (j + 1) n = true := Nat.ble_eq_true_of_le hj
  have c2 : Nat.ble (Nat.add a j + 1) m.val = true := Nat.ble_eq_true_of_le (by show a + j + 1 ≤ m.val; omega)
  have c3 : Nat.ble (j + 1) n' = true := Nat.ble_eq_true_of_le (by omega)
  have c4 : Nat.ble (Nat.add a' j + 1) m'.val = true := Nat.ble_eq_true_of_le (by show a' + j + 1 ≤ m'.val; omega)
  refine Run.to g16 mixed 60 [true, true] (by kernel_rfl) ?_ ?_ (by kernel_rfl) (by kernel_rfl) ⟨Or.inl rfl, Or.inl rfl, Or.inl rfl, Or.inl rfl, Or.inr (ge_bool (by kernel_rfl)), trivial⟩ ⟨⟨⟨[.int .i64], m, fd, gd, bd, false⟩, by kernel_rfl, VcLe.refl _⟩, ⟨⟨[.int .i64], m', fd', gd', bd', false⟩, by kernel_rfl, VcLe.refl _⟩, trivial⟩ (by kernel_rfl)
  · have e : wBs (wayO [true, true] (stR [.vec 0 1 a (.sym n), .vec 1 1 a' (.sym n'), .bad, .bad, .bad, .sint .i64 (Int.ofNat j)] [⟨[.int .i64], m, fd, gd, bd, false⟩, ⟨[.int .i64], m', fd', gd', bd', false⟩]) (Ab.ev Try.prog G16 Try.f21.ntmps 60 (cL (cK (cB (cA (cB (cB (bodyOf Try.f21))))))) (stR [.vec 0 1 a (.sym n), .vec 1 1 a' (.sym n'), .bad, .bad, .bad, .sint .i64 (Int.ofNat j)] [⟨[.int .i64], m, fd, gd, bd, false⟩, ⟨[.int .i64], m', fd', gd', bd', false⟩]) Dl.nil)) = [decide (Int.ofNat j < Int.ofNat n), (gd (Nat.add a j) 0 != gd' (Nat.add a' j) 0)] := by kernel_rfl
    rw [e, dec_lt hj, elInt_f hp]
  · have e : wNd (wayO [true, true] (stR [.vec 0 1 a (.sym n), .vec 1 1 a' (.sym n'), .bad, .bad, .bad, .sint .i64 (Int.ofNat j)] [⟨[.int .i64], m, fd, gd, bd, false⟩, ⟨[.int .i64], m', fd', gd', bd', false⟩]) (Ab.ev Try.prog G16 Try.f21.ntmps 60 (cL (cK (cB (cA (cB (cB (bodyOf Try.f21))))))) (stR [.vec 0 1 a (.sym n), .vec 1 1 a' (.sym n'), .bad, .bad, .bad, .sint .i64 (Int.ofNat j)] [⟨[.int .i64], m, fd, gd, bd, false⟩, ⟨[.int .i64], m', fd', gd', bd', false⟩]) Dl.nil)) = (cond (andN (andN (andN (andN (true) (Nat.ble (j + 1) n)) (Nat.ble (Nat.add a j + 1) m.val)) (Nat.ble (j + 1) n')) (Nat.ble (Nat.add a' j + 1) m'.val)) (true) false) := by kernel_rfl
    rw [e, c1, c2, c3, c4]; rfl

theorem eqs21end (fd : Nat → Nat → Nat) (gd : Nat → Nat → Int) (bd : Nat → Nat → Bool) (wr : Bool) (m : Num) (fd' : Nat → Nat → Nat) (gd' : Nat → Nat → Int) (bd' : Nat → Nat → Bool) (wr' : Bool) (m' : Num) (a a' n n' : Nat) : Run Try.prog Try.f21.ntmps (cL (cK (cB (cA (cB (cB (bodyOf Try.f21))))))) (stR [.vec 0 1 a (.sym n), .vec 1 1 a' (.sym n'), .bad, .bad, .bad, .sint .i64 (Int.ofNat n)] [⟨[.int .i64], m, fd, gd, bd, false⟩, ⟨[.int .i64], m', fd', gd', bd', false⟩]) (.exit 0, (stR [.vec 0 1 a (.sym n), .vec 1 1 a' (.sym n'), .bad, .bad, .bad, .sint .i64 (Int.ofNat n)] [⟨[.int .i64], m, fd, gd, bd, false⟩, ⟨[.int .i64], m', fd', gd', bd', false⟩])) := by
  refine Run.to g16 mixed 60 [false] (by kernel_rfl) ?_ (by kernel_rfl) (by kernel_rfl) (by kernel_rfl) ⟨Or.inr (ge_eq (by kernel_rfl)), Or.inr (ge_eq (by kernel_rfl)), Or.inl rfl, Or.inl rfl, Or.inl rfl, Or.inr (ge_eq (by kernel_rfl)), trivial⟩ ⟨⟨⟨[.int .i64], m, fd, gd, bd, false⟩, by kernel_rfl, VcLe.refl _⟩, ⟨⟨[.int .i64], m', fd', gd', bd', false⟩, by kernel_rfl, VcLe.refl _⟩, trivial⟩ (by kernel_rfl)
  have e : wBs (wayO [false] (stR [.vec 0 1 a (.sym n), .vec 1 1 a' (.sym n'), .bad, .bad, .bad, .sint .i64 (Int.ofNat n)] [⟨[.int .i64], m, fd, gd, bd, false⟩, ⟨[.int .i64], m', fd', gd', bd', false⟩]) (Ab.ev Try.prog G16 Try.f21.ntmps 60 (cL (cK (cB (cA (cB (cB (bodyOf Try.f21))))))) (stR [.vec 0 1 a (.sym n), .vec 1 1 a' (.sym n'), .bad, .bad, .bad, .sint .i64 (Int.ofNat n)] [⟨[.int .i64], m, fd, gd, bd, false⟩, ⟨[.int .i64], m', fd', gd', bd', false⟩]) Dl.nil)) = [decide (Int.ofNat n < Int.ofNat n)] := by kernel_rfl
  rw [e, dec_irr]

theorem eqs21 (i i' a a' n n' : Nat) (v v' : Vc) (hs : v.sh = [.int .i64]) (hs' : v'.sh = [.int .i64]) (han : a + n ≤ v.n.val) (han' : a' + n' ≤ v'.n.val) (hn : n ≤ 140737488355328) : OnRows Try.prog 21 [⟨i, 1, a, .sym n⟩, ⟨i', 1, a', .sym n'⟩] [] [v, v'] ⟨.sbool (eqRows elInt v v' a a' n n'), [], [], [], true, none⟩ := by
  obtain ⟨sh, m, fd, gd, bd, wr⟩ := v
  have hs : sh = [.int .i64] := hs
  subst hs
  obtain ⟨sh', m', fd', gd', bd', wr'⟩ := v'
  have hs' : sh' = [.int .i64] := hs'
  subst hs'
  have rr : VecsLe (stR [.vec 0 1 a (.sym n), .vec 1 1 a' (.sym n')] [⟨[.int .i64], m, fd, gd, bd, false⟩, ⟨[.int .i64], m', fd', gd', bd', false⟩]) 0 [⟨[.int .i64], m, fd, gd, bd, false⟩, ⟨[.int .i64], m', fd', gd', bd', false⟩] := ⟨⟨⟨[.int .i64], m, fd, gd, bd, false⟩, rfl, VcLe.refl _⟩, ⟨⟨[.int .i64], m', fd', gd', bd', false⟩, rfl, VcLe.refl _⟩, trivial⟩
  have h0 : Run Try.prog Try.f21.ntmps (cA (bodyOf Try.f21)) ((viewS [⟨[.int .i64], m, fd, gd, bd, wr⟩, ⟨[.int .i64], m', fd', gd', bd', wr'⟩]).start Try.f21.ntmps [.vec 0 1 a (.sym n), .vec 1 1 a' (.sym n')]) (.normal, stR [.vec 0 1 a (.sym n), .vec 1 1 a' (.sym n')] [⟨[.int .i64], m, fd, gd, bd, false⟩, ⟨[.int .i64], m', fd', gd', bd', false⟩]) :=
    Run.to g16 mixed 60 [] (by kernel_rfl) (by kernel_rfl) (by kernel_rfl) (by kernel_rfl) (by kernel_rfl) ⟨Or.inr (ge_eq (by kernel_rfl)), Or.inr (ge_eq (by kernel_rfl)), trivial⟩ ⟨⟨⟨[.int .i64], m, fd, gd, bd, false⟩, by kernel_rfl, VcLe.refl _⟩, ⟨⟨[.int .i64], m', fd', gd', bd', false⟩, by kernel_rfl, VcLe.refl _⟩, trivial⟩ (by kernel_rfl)
  have ebT : wBs (wayO [true] (stR [.vec 0 1 a (.sym n), .vec 1 1 a' (.sym n')] [⟨[.int .i64], m, fd, gd, bd, false⟩, ⟨[.int .i64], m', fd', gd', bd', false⟩]) (Ab.ev Try.prog G16 Try.f21.ntmps 60 (cA (cB (bodyOf Try.f21))) (stR [.vec 0 1 a (.sym n), .vec 1 1 a' (.sym n')] [⟨[.int .i64], m, fd, gd, bd, false⟩, ⟨[.int .i64], m', fd', gd', bd', false⟩]) Dl.nil)) = [Int.ofNat n != Int.ofNat n'] := by kernel_rfl
  have ebF : wBs (wayO [false] (stR [.vec 0 1 a (.sym n), .vec 1 1 a' (.sym n')] [⟨[.int .i64], m, fd, gd, bd, false⟩, ⟨[.int .i64], m', fd', gd', bd', false⟩]) (Ab.ev Try.prog G16 Try.f21.ntmps 60 (cA (cB (bodyOf Try.f21))) (stR [.vec 0 1 a (.sym n), .vec 1 1 a' (.sym n')] [⟨[.int .i64], m, fd, gd, bd, false⟩, ⟨[.int .i64], m', fd', gd', bd', false⟩]) Dl.nil)) = [Int.ofNat n != Int.ofNat n'] := by kernel_rfl
  have hr : Run Try.prog Try.f21.ntmps (bodyOf Try.f21) ((viewS [⟨[.int .i64], m, fd, gd, bd, wr⟩, ⟨[.int .i64], m', fd', gd', bd', wr'⟩]).start Try.f21.ntmps [.vec 0 1 a (.sym n), .vec 1 1 a' (.sym n')]) (.ret, (stR [.bad, .bad, .bad, .bad, .sbool (eqRows elInt ⟨[.int .i64], m, fd, gd, bd, wr⟩ ⟨[.int .i64], m', fd', gd', bd', wr'⟩ a a' n n')] [⟨[.int .i64], m, fd, gd, bd, false⟩, ⟨[.int .i64], m', fd', gd', bd', false⟩])) := by
    have hB : (bodyOf Try.f21) = .seq (cA (bodyOf Try.f21)) (.seq (cA (cB (bodyOf Try.f21))) (.seq (.seq (cA (cA (cB (cB (bodyOf Try.f21))))) (.block 0 (.loop (cL (cK (cB (cA (cB (cB (bodyOf Try.f21)))))))))) (cB (cB (cB (bodyOf Try.f21)))))) := by kernel_rfl
    rw [hB]
    refine Run.seq h0 (Nat.le_refl _) ?_
    unfold eqRows
    by_cases hnn : n = n'
    · have hne : (Int.ofNat n != Int.ofNat n') = false := by rw [hnn]; simp
      have h1 : Run Try.prog Try.f21.ntmps (cA (cB (bodyOf Try.f21))) (stR [.vec 0 1 a (.sym n), .vec 1 1 a' (.sym n')] [⟨[.int .i64], m, fd, gd, bd, false⟩, ⟨[.int .i64], m', fd', gd', bd', false⟩]) (.normal, stR [.vec 0 1 a (.sym n), .vec 1 1 a' (.sym n')] [⟨[.int .i64], m, fd, gd, bd, false⟩, ⟨[.int .i64], m', fd', gd', bd', false⟩]) := by
        refine Run.to g16 mixed 60 [false] (by kernel_rfl) ?_ (by kernel_rfl) (by kernel_rfl) (by kernel_rfl) ⟨Or.inr (ge_eq (by kernel_rfl)), Or.inr (ge_eq (by kernel_rfl)), trivial⟩ ⟨⟨⟨[.int .i64], m, fd, gd, bd, false⟩, by kernel_rfl, VcLe.refl _⟩, ⟨⟨[.int .i64], m', fd', gd', bd', false⟩, by kernel_rfl, VcLe.refl _⟩, trivial⟩ (by kernel_rfl)
        rw [ebF, hne]
      have h2 : Run Try.prog Try.f21.ntmps (cA (cA (cB (cB (bodyOf Try.f21))))) (stR [.vec 0 1 a (.sym n), .vec 1 1 a' (.sym n')] [⟨[.int .i64], m, fd, gd, bd, false⟩, ⟨[.int .i64], m', fd', gd', bd', false⟩]) (.normal, (stR [.vec 0 1 a (.sym n), .vec 1 1 a' (.sym n'), .bad, .bad, .bad, .sint .i64 (Int.ofNat 0)] [⟨[.int .i64], m, fd, gd, bd, false⟩, ⟨[.int .i64], m', fd', gd', bd', false⟩])) :=
        Run.to g16 mixed 60 [] (by kernel_rfl) (by kernel_rfl) (by kernel_rfl) (by kernel_rfl) (by kernel_rfl) ⟨Or.inr (ge_eq (by kernel_rfl)), Or.inr (ge_eq (by kernel_rfl)), Or.inl rfl, Or.inl rfl, Or.inl rfl, Or.inr (ge_int (by kernel_rfl)), trivial⟩ ⟨⟨⟨[.int .i64], m, fd, gd, bd, false⟩, by kernel_rfl, VcLe.refl _⟩, ⟨⟨[.int .i64], m', fd', gd', bd', false⟩, by kernel_rfl, VcLe.refl _⟩, trivial⟩ (by kernel_rfl)
      rw [hne]
      show Run Try.prog Try.f21.ntmps _ _ (.ret, (stR [.bad, .bad, .bad, .bad, .sbool (allB n (fun j => elAt elInt ⟨[.int .i64], m, fd, gd, bd, wr⟩ ⟨[.int .i64], m', fd', gd', bd', wr'⟩ a a' j))] [⟨[.int .i64], m, fd, gd, bd, false⟩, ⟨[.int .i64], m', fd', gd', bd', false⟩]))
      refine Run.seq h1 (Nat.le_refl _) ?_
      cases hall : allB n (fun j => elAt elInt ⟨[.int .i64], m, fd, gd, bd, wr⟩ ⟨[.int .i64], m', fd', gd', bd', wr'⟩ a a' j) with
      | true =>
        have hp := allB_true hall
        have h3 : Run Try.prog Try.f21.ntmps (.loop (cL (cK (cB (cA (cB (cB (bodyOf Try.f21)))))))) (stR [.vec 0 1 a (.sym n), .vec 1 1 a' (.sym n'), .bad, .bad, .bad, .sint .i64 (Int.ofNat 0)] [⟨[.int .i64], m, fd, gd, bd, false⟩, ⟨[.int .i64], m', fd', gd', bd', false⟩]) (.exit 0, (stR [.vec 0 1 a (.sym n), .vec 1 1 a' (.sym n'), .bad, .bad, .bad, .sint .i64 (Int.ofNat n)] [⟨[.int .i64], m, fd, gd, bd, false⟩, ⟨[.int .i64], m', fd', gd', bd', false⟩])) := Run.loop n (fun j => (stR [.vec 0 1 a (.sym n), .vec 1 1 a' (.sym n'), .bad, .bad, .bad, .sint .i64 (Int.ofNat j)] [⟨[.int .i64], m, fd, gd, bd, false⟩, ⟨[.int .i64], m', fd', gd', bd', false⟩])) (fun j => rfl) (fun j hj => eqs21step fd gd bd wr m fd' gd' bd' wr' m' a a' n n' j hj hnn hn han han' (hp j hj)) (eqs21end fd gd bd wr m fd' gd' bd' wr' m' a a' n n') (by intro h; cases h)
        have h6 : Run Try.prog Try.f21.ntmps (cB (cB (cB (bodyOf Try.f21)))) (stR [.vec 0 1 a (.sym n), .vec 1 1 a' (.sym n'), .bad, .bad, .bad, .sint .i64 (Int.ofNat n)] [⟨[.int .i64], m, fd, gd, bd, false⟩, ⟨[.int .i64], m', fd', gd', bd', false⟩]) (.ret, (stR [.bad, .bad, .bad, .bad, .sbool true] [⟨[.int .i64], m, fd, gd, bd, false⟩, ⟨[.int .i64], m', fd', gd', bd', false⟩])) :=
          Run.to g16 mixed 60 [] (by kernel_rfl) (by kernel_rfl) (by kernel_rfl) (by kernel_rfl) (by kernel_rfl) ⟨Or.inl rfl, Or.inl rfl, Or.inl rfl, Or.inl rfl, Or.inr (ge_bool (by kernel_rfl)), trivial⟩ ⟨⟨⟨[.int .i64], m, fd, gd, bd, false⟩, by kernel_rfl, VcLe.refl _⟩, ⟨⟨[.int .i64], m', fd', gd', bd', false⟩, by kernel_rfl, VcLe.refl _⟩, trivial⟩ (by kernel_rfl)
        exact Run.seq (Run.seq h2 (Nat.le_refl _) (Run.block h3)) (Nat.le_refl _) h6
      | false =>
        obtain ⟨j, hj, hpj, hpk⟩ := allB_false hall
        have h3 : Run Try.prog Try.f21.ntmps (.loop (cL (cK (cB (cA (cB (cB (bodyOf Try.f21)))))))) (stR [.vec 0 1 a (.sym n), .vec 1 1 a' (.sym n'), .bad, .bad, .bad, .sint .i64 (Int.ofNat 0)] [⟨[.int .i64], m, fd, gd, bd, false⟩, ⟨[.int .i64], m', fd', gd', bd', false⟩]) (.ret, (stR [.bad, .bad, .bad, .bad, .sbool false] [⟨[.int .i64], m, fd, gd, bd, false⟩, ⟨[.int .i64], m', fd', gd', bd', false⟩])) := Run.loop j (fun j => (stR [.vec 0 1 a (.sym n), .vec 1 1 a' (.sym n'), .bad, .bad, .bad, .sint .i64 (Int.ofNat j)] [⟨[.int .i64], m, fd, gd, bd, false⟩, ⟨[.int .i64], m', fd', gd', bd', false⟩])) (fun j => rfl) (fun k hk => eqs21step fd gd bd wr m fd' gd' bd' wr' m' a a' n n' k (by omega) hnn hn han han' (hpk k hk)) (eqs21ret fd gd bd wr m fd' gd' bd' wr' m' a a' n n' j hj hnn hn han han' hpj) (by intro h; cases h)
        exact Run.seq_out (Run.seq h2 (Nat.le_refl _) (Run.block_out h3 (by intro h; cases h))) (by intro h; cases h)
    · have hne : (Int.ofNat n != Int.ofNat n') = true := by
        simp only [bne_iff_ne, ne_eq]
        intro h
        exact hnn (Int.ofNat.inj h)
      rw [hne]
      have h1 : Run Try.prog Try.f21.ntmps (cA (cB (bodyOf Try.f21))) (stR [.vec 0 1 a (.sym n), .vec 1 1 a' (.sym n')] [⟨[.int .i64], m, fd, gd, bd, false⟩, ⟨[.int .i64], m', fd', gd', bd', false⟩]) (.ret, (stR [.bad, .bad, .bad, .bad, .sbool false] [⟨[.int .i64], m, fd, gd, bd, false⟩, ⟨[.int .i64], m', fd', gd', bd', false⟩])) := by
        refine Run.to g16 mixed 60 [true] (by kernel_rfl) ?_ (by kernel_rfl) (by kernel_rfl) (by kernel_rfl) ⟨Or.inl rfl, Or.inl rfl, Or.inl rfl, Or.inl rfl, Or.inr (ge_bool (by kernel_rfl)), trivial⟩ ⟨⟨⟨[.int .i64], m, fd, gd, bd, false⟩, by kernel_rfl, VcLe.refl _⟩, ⟨⟨[.int .i64], m', fd', gd', bd', false⟩, by kernel_rfl, VcLe.refl _⟩, trivial⟩ (by kernel_rfl)
        rw [ebT, hne]
      exact Run.seq_out h1 (by intro h; cases h)
  intro M w0 ρ w vs hM hv
  exact Run.calls (fr := ⟨none, some ⟨.sbool (eqRows elInt ⟨[.int .i64], m, fd, gd, bd, wr⟩ ⟨[.int .i64], m', fd', gd', bd', wr'⟩ a a' n n'), [], [], []⟩, true⟩) Try.func21 (by kernel_rfl) hr (ahv := []) (avv := []) (by kernel_rfl) rfl rfl ⟨⟨[], rfl⟩, fun i o => rfl, fun i => rfl⟩ (Nat.le_of_ble_eq_true (by kernel_rfl)) hM hv
/-- laws.eqInt64S -/
noncomputable def G17 : List (Nat × Ctr) := (21, orC (eqC [.int .i64] elInt) (inl Try.prog G16 100 Try.f21)) :: G16
theorem g17 : Ab.Good Try.prog G17 := good_cons (sat_or (sat_eq Try.call21 (fun i i' a a' n n' v v' hs hs' han han' hn => eqs21 i i' a a' n n' v v' hs hs' han han' hn)) (inl_sat g16 mixed Try.func21 Try.call21 100) rfl rfl) g16


set_option maxHeartbeats 4000000 in
set_option maxRecDepth 1000000 in
theorem mrk22step (fd : Nat → Nat → Nat) (gd : Nat → Nat → Int) (bd : Nat → Nat → Bool) (m : Num) (a n : Nat) (K : Int) (j : Nat) (hj : j < n) (hn : n ≤ 140737488355328) (han : a + n ≤ m.val) (h0 : 0 ≤ K) (hK : K ≤ 4611686018427387904) : Run Try.prog Try.f22.ntmps (cL (cK (cB (cA (cB (bodyOf Try.f22)))))) (stR [.vec 0 1 a (.sym n), .sint .i64 (K + (j * 1 : Nat)), .bad, .bad, .bad, .sint .i64 (Int.ofNat j)] [mrkJ (⟨[.int .i64], m, fd, gd, bd, true⟩ : Vc) a K j]) (.normal, (stR [.vec 0 1 a (.sym n), .sint .i64 (K + ((j + 1) * 1 : Nat)), .bad, .bad, .bad, .sint .i64 (Int.ofNat (j + 1))] [mrkJ (⟨[.int .i64], m, fd, gd, bd, true⟩ : Vc) a K (j + 1)])) := by
  have c1 : Nat.ble (j + 1) n = true := Nat.ble_eq_true_of_le hj
  have c2 : Nat.ble (Nat.add a j + 1) m.val = true := Nat.ble_eq_true_of_le (by show a + j + 1 ≤ m.val; omega)
  have hr : K + ((j + 1) * 1 : Nat) ≤ 9223372036854775807 := by omega
  refine Run.to g17 mixed 150 [true] (by kernel_rfl) ?_ ?_ (by kernel_rfl) (by kernel_rfl) ⟨Or.inr (ge_eq (by kernel_rfl)), Or.inr (ge_eq ?_), Or.inl rfl, Or.inl rfl, Or.inl rfl, Or.inr (ge_eq ?_), trivial⟩ ⟨⟨(mrkJ (⟨[.int .i64], m, fd, gd, bd, true⟩ : Vc) a K j).put (Nat.add a j) 0 [.sint .i64 (K + (j * 1 : Nat))], by kernel_rfl, mrkI_next a K j h0 hr⟩, trivial⟩ (by kernel_rfl)
  · have e : wBs (wayO [true] (stR [.vec 0 1 a (.sym n), .sint .i64 (K + (j * 1 : Nat)), .bad, .bad, .bad, .sint .i64 (Int.ofNat j)] [mrkJ (⟨[.int .i64], m, fd, gd, bd, true⟩ : Vc) a K j]) (Ab.ev Try.prog G17 Try.f22.ntmps 150 (cL (cK (cB (cA (cB (bodyOf Try.f22)))))) (stR [.vec 0 1 a (.sym n), .sint .i64 (K + (j * 1 : Nat)), .bad, .bad, .bad, .sint .i64 (Int.ofNat j)] [mrkJ (⟨[.int .i64], m, fd, gd, bd, true⟩ : Vc) a K j]) Dl.nil)) = [decide (Int.ofNat j < Int.ofNat n)] := by kernel_rfl
    rw [e, dec_lt hj]
  · have e : wNd (wayO [true] (stR [.vec 0 1 a (.sym n), .sint .i64 (K + (j * 1 : Nat)), .bad, .bad, .bad, .sint .i64 (Int.ofNat j)] [mrkJ (⟨[.int .i64], m, fd, gd, bd, true⟩ : Vc) a K j]) (Ab.ev Try.prog G17 Try.f22.ntmps 150 (cL (cK (cB (cA (cB (bodyOf Try.f22)))))) (stR [.vec 0 1 a (.sym n), .sint .i64 (K + (j * 1 : Nat)), .bad, .bad, .bad, .sint .i64 (Int.ofNat j)] [mrkJ (⟨[.int .i64], m, fd, gd, bd, true⟩ : Vc) a K j]) Dl.nil)) = (andN (andN (true) (Nat.ble (j + 1) n)) (Nat.ble (Nat.add a j + 1) m.val)) := by kernel_rfl
    rw [e, c1, c2]; rfl
  · have e : (wS (wayO [true] (stR [.vec 0 1 a (.sym n), .sint .i64 (K + (j * 1 : Nat)), .bad, .bad, .bad, .sint .i64 (Int.ofNat j)] [mrkJ (⟨[.int .i64], m, fd, gd, bd, true⟩ : Vc) a K j]) (Ab.ev Try.prog G17 Try.f22.ntmps 150 (cL (cK (cB (cA (cB (bodyOf Try.f22)))))) (stR [.vec 0 1 a (.sym n), .sint .i64 (K + (j * 1 : Nat)), .bad, .bad, .bad, .sint .i64 (Int.ofNat j)] [mrkJ (⟨[.int .i64], m, fd, gd, bd, true⟩ : Vc) a K j]) Dl.nil))).get 1 = .sint .i64 (incW 1 (K + (j * 1 : Nat))) := by kernel_rfl
    rw [e, incW_eq _ _ (by omega) (by omega)]
    try (congr 1; omega)
  · have e : (wS (wayO [true] (stR [.vec 0 1 a (.sym n), .sint .i64 (K + (j * 1 : Nat)), .bad, .bad, .bad, .sint .i64 (Int.ofNat j)] [mrkJ (⟨[.int .i64], m, fd, gd, bd, true⟩ : Vc) a K j]) (Ab.ev Try.prog G17 Try.f22.ntmps 150 (cL (cK (cB (cA (cB (bodyOf Try.f22)))))) (stR [.vec 0 1 a (.sym n), .sint .i64 (K + (j * 1 : Nat)), .bad, .bad, .bad, .sint .i64 (Int.ofNat j)] [mrkJ (⟨[.int .i64], m, fd, gd, bd, true⟩ : Vc) a K j]) Dl.nil))).get 5 = .sint .i64 (IntKind.i64.wrap (Int.ofNat j + 1)) := by kernel_rfl
    rw [e, wrap_next hj hn]

theorem mrk22end (fd : Nat → Nat → Nat) (gd : Nat → Nat → Int) (bd : Nat → Nat → Bool) (m : Num) (a n : Nat) (K : Int) : Run Try.prog Try.f22.ntmps (cL (cK (cB (cA (cB (bodyOf Try.f22)))))) (stR [.vec 0 1 a (.sym n), .sint .i64 (K + (n * 1 : Nat)), .bad, .bad, .bad, .sint .i64 (Int.ofNat n)] [mrkJ (⟨[.int .i64], m, fd, gd, bd, true⟩ : Vc) a K n]) (.exit 0, (stR [.vec 0 1 a (.sym n), .sint .i64 (K + (n * 1 : Nat)), .bad, .bad, .bad, .sint .i64 (Int.ofNat n)] [mrkJ (⟨[.int .i64], m, fd, gd, bd, true⟩ : Vc) a K n])) := by
  refine Run.to g17 mixed 150 [false] (by kernel_rfl) ?_ (by kernel_rfl) (by kernel_rfl) (by kernel_rfl) ⟨Or.inr (ge_eq (by kernel_rfl)), Or.inr (ge_eq (by kernel_rfl)), Or.inl rfl, Or.inl rfl, Or.inl rfl, Or.inr (ge_eq (by kernel_rfl)), trivial⟩ ⟨⟨mrkJ (⟨[.int .i64], m, fd, gd, bd, true⟩ : Vc) a K n, by kernel_rfl, VcLe.refl _⟩, trivial⟩ (by kernel_rfl)
  have e : wBs (wayO [false] (stR [.vec 0 1 a (.sym n), .sint .i64 (K + (n * 1 : Nat)), .bad, .bad, .bad, .sint .i64 (Int.ofNat n)] [mrkJ (⟨[.int .i64], m, fd, gd, bd, true⟩ : Vc) a K n]) (Ab.ev Try.prog G17 Try.f22.ntmps 150 (cL (cK (cB (cA (cB (bodyOf Try.f22)))))) (stR [.vec 0 1 a (.sym n), .sint .i64 (K + (n * 1 : Nat)), .bad, .bad, .bad, .sint .i64 (Int.ofNat n)] [mrkJ (⟨[.int .i64], m, fd, gd, bd, true⟩ : Vc) a K n]) Dl.nil)) = [decide (Int.ofNat n < Int.ofNat n)] := by kernel_rfl
  rw [e, dec_irr]

theorem mrk22 (i a n : Nat) (K : Int) (v : Vc) (hs : v.sh = [.int .i64]) (hw : v.wr = true) (han : a + n ≤ v.n.val) (hn : n ≤ 140737488355328) (h0 : 0 ≤ K) (hK : K ≤ 4611686018427387904) : OnRowW Try.prog 22 ⟨i, 1, a, .sym n⟩ [.sint .i64 K] v ⟨.sint .i64 (K + (n * 1 : Nat)), [], [(0, mrkJ v a K n)], [], true, none⟩ := by
  obtain ⟨sh, m, fd, gd, bd, wr⟩ := v
  have hs : sh = [.int .i64] := hs
  subst hs
  have hw : wr = true := hw
  subst hw
  have h1 : Run Try.prog Try.f22.ntmps (cA (bodyOf Try.f22)) ((stR [] [(⟨[.int .i64], m, fd, gd, bd, true⟩ : Vc)]).start Try.f22.ntmps [.vec 0 1 a (.sym n), .sint .i64 K]) (.normal, stR [.vec 0 1 a (.sym n), .sint .i64 K] [(⟨[.int .i64], m, fd, gd, bd, true⟩ : Vc)]) :=
    Run.to g17 mixed 150 [] (by kernel_rfl) (by kernel_rfl) (by kernel_rfl) (by kernel_rfl) (by kernel_rfl) ⟨Or.inr (ge_eq (by kernel_rfl)), Or.inr (ge_eq (by kernel_rfl)), trivial⟩ ⟨⟨(⟨[.int .i64], m, fd, gd, bd, true⟩ : Vc), by kernel_rfl, VcLe.refl _⟩, trivial⟩ (by kernel_rfl)
  have e0 : K = K + (0 * 1 : Nat) := by omega
  have h2 : Run Try.prog Try.f22.ntmps (cA (cA (cB (bodyOf Try.f22)))) (stR [.vec 0 1 a (.sym n), .sint .i64 K] [(⟨[.int .i64], m, fd, gd, bd, true⟩ : Vc)]) (.normal, (stR [.vec 0 1 a (.sym n), .sint .i64 (K + (0 * 1 : Nat)), .bad, .bad, .bad, .sint .i64 (Int.ofNat 0)] [mrkJ (⟨[.int .i64], m, fd, gd, bd, true⟩ : Vc) a K 0])) := by
    refine Run.to g17 mixed 150 [] (by kernel_rfl) (by kernel_rfl) (by kernel_rfl) (by kernel_rfl) (by kernel_rfl) ⟨Or.inr (ge_eq (by kernel_rfl)), Or.inr (ge_eq ?_), Or.inl rfl, Or.inl rfl, Or.inl rfl, Or.inr (ge_int (by kernel_rfl)), trivial⟩ ⟨⟨(⟨[.int .i64], m, fd, gd, bd, true⟩ : Vc), by kernel_rfl, mrkJ_zero _ _ _⟩, trivial⟩ (by kernel_rfl)
    rw [← e0]; kernel_rfl
  have h3 : Run Try.prog Try.f22.ntmps (.loop (cL (cK (cB (cA (cB (bodyOf Try.f22))))))) (stR [.vec 0 1 a (.sym n), .sint .i64 (K + (0 * 1 : Nat)), .bad, .bad, .bad, .sint .i64 (Int.ofNat 0)] [mrkJ (⟨[.int .i64], m, fd, gd, bd, true⟩ : Vc) a K 0]) (.exit 0, (stR [.vec 0 1 a (.sym n), .sint .i64 (K + (n * 1 : Nat)), .bad, .bad, .bad, .sint .i64 (Int.ofNat n)] [mrkJ (⟨[.int .i64], m, fd, gd, bd, true⟩ : Vc) a K n])) := Run.loop n (fun j => (stR [.vec 0 1 a (.sym n), .sint .i64 (K + (j * 1 : Nat)), .bad, .bad, .bad, .sint .i64 (Int.ofNat j)] [mrkJ (⟨[.int .i64], m, fd, gd, bd, true⟩ : Vc) a K j])) (fun j => rfl) (fun j hj => mrk22step fd gd bd m a n K j hj hn han h0 hK) (mrk22end fd gd bd m a n K) (by intro h; cases h)
  have h6 : Run Try.prog Try.f22.ntmps (cB (cB (bodyOf Try.f22))) (stR [.vec 0 1 a (.sym n), .sint .i64 (K + (n * 1 : Nat)), .bad, .bad, .bad, .sint .i64 (Int.ofNat n)] [mrkJ (⟨[.int .i64], m, fd, gd, bd, true⟩ : Vc) a K n]) (.ret, (stR [.bad, .bad, .bad, .bad, .sint .i64 (K + (n * 1 : Nat))] [mrkJ (⟨[.int .i64], m, fd, gd, bd, true⟩ : Vc) a K n])) :=
    Run.to g17 mixed 150 [] (by kernel_rfl) (by kernel_rfl) (by kernel_rfl) (by kernel_rfl) (by kernel_rfl) ⟨Or.inl rfl, Or.inl rfl, Or.inl rfl, Or.inl rfl, Or.inr (ge_eq (by kernel_rfl)), trivial⟩ ⟨⟨mrkJ (⟨[.int .i64], m, fd, gd, bd, true⟩ : Vc) a K n, by kernel_rfl, VcLe.refl _⟩, trivial⟩ (by kernel_rfl)
  have hr : Run Try.prog Try.f22.ntmps (bodyOf Try.f22) ((stR [] [(⟨[.int .i64], m, fd, gd, bd, true⟩ : Vc)]).start Try.f22.ntmps [.vec 0 1 a (.sym n), .sint .i64 K]) (.ret, (stR [.bad, .bad, .bad, .bad, .sint .i64 (K + (n * 1 : Nat))] [mrkJ (⟨[.int .i64], m, fd, gd, bd, true⟩ : Vc) a K n])) := by
    have hB : (bodyOf Try.f22) = .seq (cA (bodyOf Try.f22)) (.seq (.seq (cA (cA (cB (bodyOf Try.f22)))) (.block 0 (.loop (cL (cK (cB (cA (cB (bodyOf Try.f22))))))))) (cB (cB (bodyOf Try.f22)))) := by kernel_rfl
    rw [hB]
    exact Run.seq h1 (Nat.le_refl _) (Run.seq (Run.seq h2 (Nat.le_refl _) (Run.block h3)) (Nat.le_refl _) h6)
  intro M w0 ρ w vs hM hv
  have hr' : Run Try.prog Try.f22.ntmps (bodyOf Try.f22) ((stR [] [(⟨[.int .i64], m, fd, gd, bd, true⟩ : Vc)]).start Try.f22.ntmps [.vec 0 1 a (.sym n), .sint .i64 K]) (.ret, stV [.bad, .bad, .bad, .bad, .sint .i64 (K + (n * 1 : Nat))] (⟨[.int .i64], m, fd, gd, bd, true⟩ : Vc) (mrkJ (⟨[.int .i64], m, fd, gd, bd, true⟩ : Vc) a K n)) := hr.weak (Wk.refl _) (Nat.le_refl _) rfl wk_stV
  exact Run.calls (fr := ⟨none, some ⟨.sint .i64 (K + (n * 1 : Nat)), [], [], [(0, mrkJ (⟨[.int .i64], m, fd, gd, bd, true⟩ : Vc) a K n)]⟩, true⟩) Try.func22 (by kernel_rfl) hr' (ahv := []) (avv := [(0, mrkJ (⟨[.int .i64], m, fd, gd, bd, true⟩ : Vc) a K n)]) (by kernel_rfl) rfl rfl acc_stV (Nat.le_of_ble_eq_true (by kernel_rfl)) hM hv
/-- laws.markInt64S -/
noncomputable def G18 : List (Nat × Ctr) := (22, orC (mrkC [.int .i64]) (inl Try.prog G17 100 Try.f22)) :: G17
theorem g18 : Ab.Good Try.prog G18 := good_cons (sat_or (sat_mrk Try.call22 (fun i a n K v hs hw han hn h0 hK => mrk22 i a n K v hs hw han hn h0 hK)) (inl_sat g17 mixed Try.func22 Try.call22 100) rfl rfl) g17


set_option maxHeartbeats 4000000 in
set_option maxRecDepth 1000000 in
theorem hld23step (fd : Nat → Nat → Nat) (gd : Nat → Nat → Int) (bd : Nat → Nat → Bool) (m : Num) (a n : Nat) (K : Int) (j : Nat) (hj : j < n) (hn : n ≤ 140737488355328) (han : a + n ≤ m.val) (h0 : 0 ≤ K) (hK : K ≤ 4611686018427387904) (hh : noneB (hldT (K + (j * 1 : Nat)) (fd (Nat.add a j)) (gd (Nat.add a j)) 0 [.int .i64]) = true) : Run Try.prog Try.f23.ntmps (cL (cK (cB (cA (cB (bodyOf Try.f23)))))) (stR [.vec 0 1 a (.sym n), .sint .i64 (K + (j * 1 : Nat)), .bad, .bad, .bad, .sint .i64 (Int.ofNat j)] [(⟨[.int .i64], m, fd, gd, bd, false⟩ : Vc)]) (.normal, (stR [.vec 0 1 a (.sym n), .sint .i64 (K + ((j + 1) * 1 : Nat)), .bad, .bad, .bad, .sint .i64 (Int.ofNat (j + 1))] [(⟨[.int .i64], m, fd, gd, bd, false⟩ : Vc)])) := by
  have c1 : Nat.ble (j + 1) n = true := Nat.ble_eq_true_of_le hj
  have c2 : Nat.ble (Nat.add a j + 1) m.val = true := Nat.ble_eq_true_of_le (by show a + j + 1 ≤ m.val; clear hh; omega)
  have q0 : (0 : Int) ≤ K + (j * 1 : Nat) := by clear hh; omega
  have q1 : K + (j * 1 : Nat) + (1 : Nat) ≤ 9223372036854775807 := by clear hh; omega
  have q2 : K + (j * 1 : Nat) + (1 : Nat) = K + ((j + 1) * 1 : Nat) := by clear hh; omega
  refine Run.to g18 mixed 150 (true :: falses 1) (by kernel_rfl) ?_ ?_ (by kernel_rfl) (by kernel_rfl) ⟨Or.inr (ge_eq (by kernel_rfl)), Or.inr (ge_eq ?_), Or.inl rfl, Or.inl rfl, Or.inl rfl, Or.inr (ge_eq ?_), trivial⟩ ⟨⟨(⟨[.int .i64], m, fd, gd, bd, false⟩ : Vc), by kernel_rfl, VcLe.refl _⟩, trivial⟩ (by kernel_rfl)
  · have e : wBs (wayO (true :: falses 1) (stR [.vec 0 1 a (.sym n), .sint .i64 (K + (j * 1 : Nat)), .bad, .bad, .bad, .sint .i64 (Int.ofNat j)] [(⟨[.int .i64], m, fd, gd, bd, false⟩ : Vc)]) (Ab.ev Try.prog G18 Try.f23.ntmps 150 (cL (cK (cB (cA (cB (bodyOf Try.f23)))))) (stR [.vec 0 1 a (.sym n), .sint .i64 (K + (j * 1 : Nat)), .bad, .bad, .bad, .sint .i64 (Int.ofNat j)] [(⟨[.int .i64], m, fd, gd, bd, false⟩ : Vc)]) Dl.nil)) = [decide (Int.ofNat j < Int.ofNat n), gd (Nat.add a j) 0 != (K + (j * 1 : Nat))] := by kernel_rfl
    rw [e, dec_lt hj, hldI_false q0 q1 hh]; rfl
  · have e : wNd (wayO (true :: falses 1) (stR [.vec 0 1 a (.sym n), .sint .i64 (K + (j * 1 : Nat)), .bad, .bad, .bad, .sint .i64 (Int.ofNat j)] [(⟨[.int .i64], m, fd, gd, bd, false⟩ : Vc)]) (Ab.ev Try.prog G18 Try.f23.ntmps 150 (cL (cK (cB (cA (cB (bodyOf Try.f23)))))) (stR [.vec 0 1 a (.sym n), .sint .i64 (K + (j * 1 : Nat)), .bad, .bad, .bad, .sint .i64 (Int.ofNat j)] [(⟨[.int .i64], m, fd, gd, bd, false⟩ : Vc)]) Dl.nil)) = (cond (andN (andN (true) (Nat.ble (j + 1) n)) (Nat.ble (Nat.add a j + 1) m.val)) (true) false) := by kernel_rfl
    rw [e, c1, c2]; rfl
  · have e : (wS (wayO (true :: falses 1) (stR [.vec 0 1 a (.sym n), .sint .i64 (K + (j * 1 : Nat)), .bad, .bad, .bad, .sint .i64 (Int.ofNat j)] [(⟨[.int .i64], m, fd, gd, bd, false⟩ : Vc)]) (Ab.ev Try.prog G18 Try.f23.ntmps 150 (cL (cK (cB (cA (cB (bodyOf Try.f23)))))) (stR [.vec 0 1 a (.sym n), .sint .i64 (K + (j * 1 : Nat)), .bad, .bad, .bad, .sint .i64 (Int.ofNat j)] [(⟨[.int .i64], m, fd, gd, bd, false⟩ : Vc)]) Dl.nil))).get 1 = .sint .i64 (incW 1 (K + (j * 1 : Nat))) := by kernel_rfl
    rw [e, incW_eq _ _ q0 q1, q2]
  · have e : (wS (wayO (true :: falses 1) (stR [.vec 0 1 a (.sym n), .sint .i64 (K + (j * 1 : Nat)), .bad, .bad, .bad, .sint .i64 (Int.ofNat j)] [(⟨[.int .i64], m, fd, gd, bd, false⟩ : Vc)]) (Ab.ev Try.prog G18 Try.f23.ntmps 150 (cL (cK (cB (cA (cB (bodyOf Try.f23)))))) (stR [.vec 0 1 a (.sym n), .sint .i64 (K + (j * 1 : Nat)), .bad, .bad, .bad, .sint .i64 (Int.ofNat j)] [(⟨[.int .i64], m, fd, gd, bd, false⟩ : Vc)]) Dl.nil))).get 5 = .sint .i64 (IntKind.i64.wrap (Int.ofNat j + 1)) := by kernel_rfl
    rw [e, wrap_next hj hn]

theorem hld23end (fd : Nat → Nat → Nat) (gd : Nat → Nat → Int) (bd : Nat → Nat → Bool) (m : Num) (a n : Nat) (K : Int) : Run Try.prog Try.f23.ntmps (cL (cK (cB (cA (cB (bodyOf Try.f23)))))) (stR [.vec 0 1 a (.sym n), .sint .i64 (K + (n * 1 : Nat)), .bad, .bad, .bad, .sint .i64 (Int.ofNat n)] [(⟨[.int .i64], m, fd, gd, bd, false⟩ : Vc)]) (.exit 0, (stR [.vec 0 1 a (.sym n), .sint .i64 (K + (n * 1 : Nat)), .bad, .bad, .bad, .sint .i64 (Int.ofNat n)] [(⟨[.int .i64], m, fd, gd, bd, false⟩ : Vc)])) := by
  refine Run.to g18 mixed 150 [false] (by kernel_rfl) ?_ (by kernel_rfl) (by kernel_rfl) (by kernel_rfl) ⟨Or.inr (ge_eq (by kernel_rfl)), Or.inr (ge_eq (by kernel_rfl)), Or.inl rfl, Or.inl rfl, Or.inl rfl, Or.inr (ge_eq (by kernel_rfl)), trivial⟩ ⟨⟨(⟨[.int .i64], m, fd, gd, bd, false⟩ : Vc), by kernel_rfl, VcLe.refl _⟩, trivial⟩ (by kernel_rfl)
  have e : wBs (wayO [false] (stR [.vec 0 1 a (.sym n), .sint .i64 (K + (n * 1 : Nat)), .bad, .bad, .bad, .sint .i64 (Int.ofNat n)] [(⟨[.int .i64], m, fd, gd, bd, false⟩ : Vc)]) (Ab.ev Try.prog G18 Try.f23.ntmps 150 (cL (cK (cB (cA (cB (bodyOf Try.f23)))))) (stR [.vec 0 1 a (.sym n), .sint .i64 (K + (n * 1 : Nat)), .bad, .bad, .bad, .sint .i64 (Int.ofNat n)] [(⟨[.int .i64], m, fd, gd, bd, false⟩ : Vc)]) Dl.nil)) = [decide (Int.ofNat n < Int.ofNat n)] := by kernel_rfl
  rw [e, dec_irr]

theorem hld23 (i a n : Nat) (K : Int) (v : Vc) (hs : v.sh = [.int .i64]) (han : a + n ≤ v.n.val) (hn : n ≤ 140737488355328) (h0 : 0 ≤ K) (hK : K ≤ 4611686018427387904) (hh : hldB [.int .i64] v a n K = true) : OnRows Try.prog 23 [⟨i, 1, a, .sym n⟩] [.sint .i64 K] [v] ⟨.sint .i64 (K + (n * 1 : Nat)), [], [], [], true, none⟩ := by
  obtain ⟨sh, m, fd, gd, bd, wr⟩ := v
  have hs : sh = [.int .i64] := hs
  subst hs
  have hp := allB_true hh
  have h1 : Run Try.prog Try.f23.ntmps (cA (bodyOf Try.f23)) ((viewS [(⟨[.int .i64], m, fd, gd, bd, wr⟩ : Vc)]).start Try.f23.ntmps [.vec 0 1 a (.sym n), .sint .i64 K]) (.normal, stR [.vec 0 1 a (.sym n), .sint .i64 K] [(⟨[.int .i64], m, fd, gd, bd, false⟩ : Vc)]) :=
    Run.to g18 mixed 150 [] (by kernel_rfl) (by kernel_rfl) (by kernel_rfl) (by kernel_rfl) (by kernel_rfl) ⟨Or.inr (ge_eq (by kernel_rfl)), Or.inr (ge_eq (by kernel_rfl)), trivial⟩ ⟨⟨(⟨[.int .i64], m, fd, gd, bd, false⟩ : Vc), by kernel_rfl, VcLe.refl _⟩, trivial⟩ (by kernel_rfl)
  have e0 : K = K + (0 * 1 : Nat) := by omega
  have h2 : Run Try.prog Try.f23.ntmps (cA (cA (cB (bodyOf Try.f23)))) (stR [.vec 0 1 a (.sym n), .sint .i64 K] [(⟨[.int .i64], m, fd, gd, bd, false⟩ : Vc)]) (.normal, (stR [.vec 0 1 a (.sym n), .sint .i64 (K + (0 * 1 : Nat)), .bad, .bad, .bad, .sint .i64 (Int.ofNat 0)] [(⟨[.int .i64], m, fd, gd, bd, false⟩ : Vc)])) := by
    refine Run.to g18 mixed 150 [] (by kernel_rfl) (by kernel_rfl) (by kernel_rfl) (by kernel_rfl) (by kernel_rfl) ⟨Or.inr (ge_eq (by kernel_rfl)), Or.inr (ge_eq ?_), Or.inl rfl, Or.inl rfl, Or.inl rfl, Or.inr (ge_int (by kernel_rfl)), trivial⟩ ⟨⟨(⟨[.int .i64], m, fd, gd, bd, false⟩ : Vc), by kernel_rfl, VcLe.refl _⟩, trivial⟩ (by kernel_rfl)
    rw [← e0]; kernel_rfl
  have h3 : Run Try.prog Try.f23.ntmps (.loop (cL (cK (cB (cA (cB (bodyOf Try.f23))))))) (stR [.vec 0 1 a (.sym n), .sint .i64 (K + (0 * 1 : Nat)), .bad, .bad, .bad, .sint .i64 (Int.ofNat 0)] [(⟨[.int .i64], m, fd, gd, bd, false⟩ : Vc)]) (.exit 0, (stR [.vec 0 1 a (.sym n), .sint .i64 (K + (n * 1 : Nat)), .bad, .bad, .bad, .sint .i64 (Int.ofNat n)] [(⟨[.int .i64], m, fd, gd, bd, false⟩ : Vc)])) := Run.loop n (fun j => (stR [.vec 0 1 a (.sym n), .sint .i64 (K + (j * 1 : Nat)), .bad, .bad, .bad, .sint .i64 (Int.ofNat j)] [(⟨[.int .i64], m, fd, gd, bd, false⟩ : Vc)])) (fun j => rfl) (fun j hj => hld23step fd gd bd m a n K j hj hn han h0 hK (hp j hj)) (hld23end fd gd bd m a n K) (by intro h; cases h)
  have h6 : Run Try.prog Try.f23.ntmps (cB (cB (bodyOf Try.f23))) (stR [.vec 0 1 a (.sym n), .sint .i64 (K + (n * 1 : Nat)), .bad, .bad, .bad, .sint .i64 (Int.ofNat n)] [(⟨[.int .i64], m, fd, gd, bd, false⟩ : Vc)]) (.ret, (stR [.bad, .bad, .bad, .bad, .sint .i64 (K + (n * 1 : Nat))] [(⟨[.int .i64], m, fd, gd, bd, false⟩ : Vc)])) :=
    Run.to g18 mixed 150 [] (by kernel_rfl) (by kernel_rfl) (by kernel_rfl) (by kernel_rfl) (by kernel_rfl) ⟨Or.inl rfl, Or.inl rfl, Or.inl rfl, Or.inl rfl, Or.inr (ge_eq (by kernel_rfl)), trivial⟩ ⟨⟨(⟨[.int .i64], m, fd, gd, bd, false⟩ : Vc), by kernel_rfl, VcLe.refl _⟩, trivial⟩ (by kernel_rfl)
  have hr : Run Try.prog Try.f23.ntmps (bodyOf Try.f23) ((viewS [(⟨[.int .i64], m, fd, gd, bd, wr⟩ : Vc)]).start Try.f23.ntmps [.vec 0 1 a (.sym n), .sint .i64 K]) (.ret, (stR [.bad, .bad, .bad, .bad, .sint .i64 (K + (n * 1 : Nat))] [(⟨[.int .i64], m, fd, gd, bd, false⟩ : Vc)])) := by
    have hB : (bodyOf Try.f23) = .seq (cA (bodyOf Try.f23)) (.seq (.seq (cA (cA (cB (bodyOf Try.f23)))) (.block 0 (.loop (cL (cK (cB (cA (cB (bodyOf Try.f23))))))))) (cB (cB (bodyOf Try.f23)))) := by kernel_rfl
    rw [hB]
    exact Run.seq h1 (Nat.le_refl _) (Run.seq (Run.seq h2 (Nat.le_refl _) (Run.block h3)) (Nat.le_refl _) h6)
  intro M w0 ρ w vs hM hv
  exact Run.calls (fr := ⟨none, some ⟨.sint .i64 (K + (n * 1 : Nat)), [], [], []⟩, true⟩) Try.func23 (by kernel_rfl) hr (ahv := []) (avv := []) (by kernel_rfl) rfl rfl ⟨⟨[], rfl⟩, fun i o => rfl, fun i => rfl⟩ (Nat.le_of_ble_eq_true (by kernel_rfl)) hM hv
/-- laws.heldInt64S -/
noncomputable def G19 : List (Nat × Ctr) := (23, orC (hldC [.int .i64]) (inl Try.prog G18 100 Try.f23)) :: G18
theorem g19 : Ab.Good Try.prog G19 := good_cons (sat_or (sat_hld Try.call23 (fun i a n K v hs han hn h0 hK hh => hld23 i a n K v hs han hn h0 hK hh)) (inl_sat g18 mixed Try.func23 Try.call23 100) rfl rfl) g18

noncomputable def GG : List (Nat × Ctr) := G19
theorem gg : Ab.Good Try.prog GG := g19

end Go.Proofs.Ytendlfonbfnopaa.ab
