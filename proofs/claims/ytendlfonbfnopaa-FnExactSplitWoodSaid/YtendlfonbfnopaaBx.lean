import Derived.Test.YtendlfonbfnopaaGf


import Derived.Test.YtendlfonbfnopaaGd
import Derived.Test.YtendlfonbfnopaaProg
namespace Go.Proofs.Ytendlfonbfnopaa.ab
open Go Go.Ab Go.Proofs
set_option maxRecDepth 100000
theorem mixed : Try.prog.follows .mixedOrders = true := by kernel_rfl

noncomputable def G0 : List (Nat × Ctr) := []
theorem g0 : Ab.Good Try.prog G0 := good_nil _

/-- spec.l01Finite -/
noncomputable def G1 : List (Nat × Ctr) := (108, ctr1 fun a => .sbool (finF a)) :: G0
theorem g1 : Ab.Good Try.prog G1 := good_cons (sat1 (g := fun a => .sbool (finF a)) g0 mixed Try.func108 Try.call108 100 (fun a => .sbool (feqB .f32 (fop .sub .f32 a a) 0)) (fun a => by kernel_rfl) (fun a ha ρ u h => by show V ρ (.sbool (finF a)) u; rw [← fin_sub a]; exact h)) g0

/-- math.Float32bits -/
noncomputable def G2 : List (Nat × Ctr) := (142, extC .f32bits) :: G1
theorem g2 : Ab.Good Try.prog G2 := good_cons (sat_ext .f32bits Try.func142 (by kernel_rfl) (by kernel_rfl) (by kernel_rfl) (by kernel_rfl)) g1

/-- spec.l01Amount -/
noncomputable def G3 : List (Nat × Ctr) := (105, ctr1 fun a => .sbool (amtF a)) :: G2
theorem g3 : Ab.Good Try.prog G3 := good_cons (sat1 (g := fun a => .sbool (amtF a)) g2 mixed Try.func105 Try.call105 100 (fun a => .cbool (cond (finF a) (cond (fltB .f32 0 a) true (!nanB .f32 a && true)) true) (cond (finF a) (cond (fltB .f32 0 a) true (Int.ofNat a == 0)) false)) (fun a => by kernel_rfl) (fun a ha ρ u h => by show V ρ (.sbool (amtF a)) u; rw [← amt_spec ha]; exact cbool_say (amt_cond a) h)) g2

/-- spec.l01Ok -/
noncomputable def G4 : List (Nat × Ctr) := (57, orC (ctrWp fun ns => .sbool (vOp ns)) (ctrWv fun ns => .sbool (vOp ns))) :: G3
theorem g4 : Ab.Good Try.prog G4 := good_cons (sat_or (satWp (g := fun ns => .sbool (vOp ns)) g3 mixed Try.func57 Try.call57 100 (fun ns => .sbool (validS ns)) (fun ns hl => by obtain ⟨a0, a1, a2, a3, a4, a5, b0, b1, b2, b3, b4, b5, c0, c1, c2, c3, c4, c5, rfl⟩ := len18 hl; kernel_rfl) (fun ns _ ρ u h => by show V ρ (.sbool (vOp ns)) u; rw [vOp_eq, ← validS_eq]; exact h)) (satWv (g := fun ns => .sbool (vOp ns)) g3 mixed Try.func57 Try.call57 100 (fun ns => .sbool (validS ns)) (fun ns hl => by obtain ⟨a0, a1, a2, a3, a4, a5, b0, b1, b2, b3, b4, b5, c0, c1, c2, c3, c4, c5, rfl⟩ := len18 hl; kernel_rfl) (fun ns _ ρ u h => by show V ρ (.sbool (vOp ns)) u; rw [vOp_eq, ← validS_eq]; exact h)) rfl rfl) g3

/-- spec.l01Swap -/
noncomputable def G5 : List (Nat × Ctr) := (58, inl Try.prog G4 100 Try.f58) :: G4
theorem g5 : Ab.Good Try.prog G5 := good_cons (inl_sat g4 mixed Try.func58 Try.call58 100) g4

/-- spec.SplitWood -/
noncomputable def G6 : List (Nat × Ctr) := (15, inl Try.prog G5 100 Try.f15) :: G5
theorem g6 : Ab.Good Try.prog G6 := good_cons (inl_sat g5 mixed Try.func15 Try.call15 100) g5

/-- laws.toFloat32A6 -/
noncomputable def G7 : List (Nat × Ctr) := (59, inl Try.prog G6 100 Try.f59) :: G6
theorem g7 : Ab.Good Try.prog G7 := good_cons (inl_sat g6 mixed Try.func59 Try.call59 100) g6

/-- laws.toWood -/
noncomputable def G8 : List (Nat × Ctr) := (16, inl Try.prog G7 100 Try.f16) :: G7
theorem g8 : Ab.Good Try.prog G8 := good_cons (inl_sat g7 mixed Try.func16 Try.call16 100) g7

/-- impl.isFinite -/
noncomputable def G9 : List (Nat × Ctr) := (115, ctr1 fun a => .sbool (finF a)) :: G8
theorem g9 : Ab.Good Try.prog G9 := good_cons (sat1 (g := fun a => .sbool (finF a)) g8 mixed Try.func115 Try.call115 100 (fun a => .sbool (cond (fleB .f32 4286578687 a) (fleB .f32 a 2139095039) false)) (fun a => by kernel_rfl) (fun a ha ρ u h => by show V ρ (.sbool (finF a)) u; rw [← fin_between ha]; exact h)) g8

/-- math.Float64bits -/
noncomputable def G10 : List (Nat × Ctr) := (159, extC .f64bits) :: G9
theorem g10 : Ab.Good Try.prog G10 := good_cons (sat_ext .f64bits Try.func159 (by kernel_rfl) (by kernel_rfl) (by kernel_rfl) (by kernel_rfl)) g9

/-- math.Signbit -/
noncomputable def G11 : List (Nat × Ctr) := (148, inl Try.prog G10 100 Try.f148) :: G10
theorem g11 : Ab.Good Try.prog G11 := good_cons (inl_sat g10 mixed Try.func148 Try.call148 100) g10

/-- impl.IsAmount -/
noncomputable def G12 : List (Nat × Ctr) := (121, ctr1 fun a => .sbool (amtF a)) :: G11
theorem g12 : Ab.Good Try.prog G12 := good_cons (sat1 (g := fun a => .sbool (amtF a)) g11 mixed Try.func121 Try.call121 100 (fun a => .cbool (cond (finF a) (!nanB .f64 (wide a) && true) true) (cond (finF a) (!decide (IntKind.i64.wrap (Int.ofNat (wide a)) < 0)) false)) (fun a => by kernel_rfl) (fun a ha ρ u h => by show V ρ (.sbool (amtF a)) u; rw [← wide_neg ha]; exact cbool_say wide_nan h)) g11

/-- impl.isKilos -/
noncomputable def G13 : List (Nat × Ctr) := (106, ctr1 fun a => .sbool (kilF a)) :: G12
theorem g13 : Ab.Good Try.prog G13 := good_cons (sat1 (g := fun a => .sbool (kilF a)) g12 mixed Try.func106 Try.call106 100 (fun a => .sbool (cond (amtF a) (fleB .f32 a 1092616192) false)) (fun a => by kernel_rfl) (fun a ha ρ u h => by show V ρ (.sbool (kilF a)) u; rw [← kil_impl a]; exact h)) g12

/-- impl.isBetween -/
noncomputable def G14 : List (Nat × Ctr) := (107, inl Try.prog G13 100 Try.f107) :: G13
theorem g14 : Ab.Good Try.prog G14 := good_cons (inl_sat g13 mixed Try.func107 Try.call107 100) g13

/-- impl.ValidWood -/
noncomputable def G15 : List (Nat × Ctr) := (60, ctrW fun ns => .sbool (vOp ns)) :: G14
theorem g15 : Ab.Good Try.prog G15 := good_cons (satW (g := fun ns => .sbool (vOp ns)) g14 mixed Try.func60 Try.call60 100 (fun ns => .sbool (validI ns)) (fun ns hl => by obtain ⟨a0, a1, a2, a3, a4, a5, b0, b1, b2, b3, b4, b5, c0, c1, c2, c3, c4, c5, rfl⟩ := len18 hl; kernel_rfl) (fun ns _ ρ u h => by show V ρ (.sbool (vOp ns)) u; rw [vOp_eq]; exact h)) g14

/-- impl.swapLayers -/
noncomputable def G16 : List (Nat × Ctr) := (61, inl Try.prog G15 100 Try.f61) :: G15
theorem g16 : Ab.Good Try.prog G16 := good_cons (inl_sat g15 mixed Try.func61 Try.call61 100) g15

/-- impl.SplitWood -/
noncomputable def G17 : List (Nat × Ctr) := (17, inl Try.prog G16 100 Try.f17) :: G16
theorem g17 : Ab.Good Try.prog G17 := good_cons (inl_sat g16 mixed Try.func17 Try.call17 100) g16

/-- laws.sameFloat -/
noncomputable def G18 : List (Nat × Ctr) := (31, ctrD2 fun a b => .sbool (sO a b)) :: G17
theorem g18 : Ab.Good Try.prog G18 := good_cons (satD2 (g := fun a b => .sbool (sO a b)) g17 mixed Try.func31 Try.call31 100 (fun a b => .sbool (same64 a b)) (fun a b => by kernel_rfl) (fun a b _ _ ρ u h => by show V ρ (.sbool (sO a b)) u; rw [sO_eq]; exact h)) g17

/-- laws.eqFloat32A6 -/
noncomputable def G19 : List (Nat × Ctr) := (62, inl Try.prog G18 100 Try.f62) :: G18
theorem g19 : Ab.Good Try.prog G19 := good_cons (inl_sat g18 mixed Try.func62 Try.call62 100) g18

/-- laws.eqWood -/
noncomputable def G20 : List (Nat × Ctr) := (18, inl Try.prog G19 100 Try.f18) :: G19
theorem g20 : Ab.Good Try.prog G20 := good_cons (inl_sat g19 mixed Try.func18 Try.call18 100) g19

noncomputable def GG : List (Nat × Ctr) := G20
theorem gg : Ab.Good Try.prog GG := g20

end Go.Proofs.Ytendlfonbfnopaa.ab
