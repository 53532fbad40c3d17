import Derived.Test.YtmegbdgnnbjbmaaGc
import Derived.Test.YtmegbdgnnbjbmaaProg
namespace Go.Proofs.Ytmegbdgnnbjbmaa.ab
open Go Go.Ab Go.Proofs
set_option maxRecDepth 100000
theorem mixed : Try.prog.follows .mixedOrders = true := by kernel_rfl

noncomputable def G0 : List (Nat × Ctr) := []
theorem g0 : Ab.Good Try.prog G0 := good_nil _

/-- spec.l03Hot -/
noncomputable def G1 : List (Nat × Ctr) := (82, inl Try.prog G0 100 Try.f82) :: G0
theorem g1 : Ab.Good Try.prog G1 := good_cons (inl_sat g0 mixed Try.func82 Try.call82 100) g0

/-- spec.l03Dense -/
noncomputable def G2 : List (Nat × Ctr) := (83, inl Try.prog G1 100 Try.f83) :: G1
theorem g2 : Ab.Good Try.prog G2 := good_cons (inl_sat g1 mixed Try.func83 Try.call83 100) g1

/-- spec.DenseAt -/
noncomputable def G3 : List (Nat × Ctr) := (36, inl Try.prog G2 100 Try.f36) :: G2
theorem g3 : Ab.Good Try.prog G3 := good_cons (inl_sat g2 mixed Try.func36 Try.call36 100) g2

/-- impl.isBetween -/
noncomputable def G4 : List (Nat × Ctr) := (84, inl Try.prog G3 100 Try.f84) :: G3
theorem g4 : Ab.Good Try.prog G4 := good_cons (inl_sat g3 mixed Try.func84 Try.call84 100) g3

/-- impl.denseAt -/
noncomputable def G5 : List (Nat × Ctr) := (85, inl Try.prog G4 100 Try.f85) :: G4
theorem g5 : Ab.Good Try.prog G5 := good_cons (inl_sat g4 mixed Try.func85 Try.call85 100) g4

/-- impl.DenseAt -/
noncomputable def G6 : List (Nat × Ctr) := (37, inl Try.prog G5 100 Try.f37) :: G5
theorem g6 : Ab.Good Try.prog G6 := good_cons (inl_sat g5 mixed Try.func37 Try.call37 100) g5

/-- laws.sameFloat -/
noncomputable def G7 : List (Nat × Ctr) := (38, ctrD2 fun a b => .sbool (sO a b)) :: G6
theorem g7 : Ab.Good Try.prog G7 := good_cons (satD2 (g := fun a b => .sbool (sO a b)) g6 mixed Try.func38 Try.call38 100 (fun a b => .sbool (same64 a b)) (fun a b => by kernel_rfl) (fun a b _ _ ρ u h => by show V ρ (.sbool (sO a b)) u; rw [sO_eq]; exact h)) g6

/-- math.Float32bits -/
noncomputable def G8 : List (Nat × Ctr) := (102, extC .f32bits) :: G7
theorem g8 : Ab.Good Try.prog G8 := good_cons (sat_ext .f32bits Try.func102 (by kernel_rfl) (by kernel_rfl) (by kernel_rfl) (by kernel_rfl)) g7

/-- spec.l01Finite -/
noncomputable def G9 : List (Nat × Ctr) := (109, ctr1 fun a => .sbool (finF a)) :: G8
theorem g9 : Ab.Good Try.prog G9 := good_cons (sat1 (g := fun a => .sbool (finF a)) g8 mixed Try.func109 Try.call109 100 (fun a => .sbool (feqB .f32 (fop .sub .f32 a a) 0)) (fun a => by kernel_rfl) (fun a ha ρ u h => by show V ρ (.sbool (finF a)) u; rw [← fin_sub a]; exact h)) g8

/-- spec.l01Amount -/
noncomputable def G10 : List (Nat × Ctr) := (75, ctr1 fun a => .sbool (amtF a)) :: G9
theorem g10 : Ab.Good Try.prog G10 := good_cons (sat1 (g := fun a => .sbool (amtF a)) g9 mixed Try.func75 Try.call75 100 (fun a => .cbool (cond (finF a) (cond (fltB .f32 0 a) true (!nanB .f32 a && true)) true) (cond (finF a) (cond (fltB .f32 0 a) true (Int.ofNat a == 0)) false)) (fun a => by kernel_rfl) (fun a ha ρ u h => by show V ρ (.sbool (amtF a)) u; rw [← amt_spec ha]; exact cbool_say (amt_cond a) h)) g9

/-- spec.l01Share -/
noncomputable def G11 : List (Nat × Ctr) := (70, ctr1 fun a => .sbool (shO a)) :: G10
theorem g11 : Ab.Good Try.prog G11 := good_cons (sat1 (g := fun a => .sbool (shO a)) g10 mixed Try.func70 Try.call70 100 (fun a => .sbool (shI a)) (fun a => by kernel_rfl) (fun a ha ρ u h => by show V ρ (.sbool (shO a)) u; rw [shO_eq]; exact h)) g10

/-- spec.l03Flue -/
noncomputable def G12 : List (Nat × Ctr) := (86, inl Try.prog G11 100 Try.f86) :: G11
theorem g12 : Ab.Good Try.prog G12 := good_cons (inl_sat g11 mixed Try.func86 Try.call86 100) g11

/-- spec.l03Outside -/
noncomputable def G13 : List (Nat × Ctr) := (87, inl Try.prog G12 100 Try.f87) :: G12
theorem g13 : Ab.Good Try.prog G13 := good_cons (inl_sat g12 mixed Try.func87 Try.call87 100) g12

/-- spec.l03Draft -/
noncomputable def G14 : List (Nat × Ctr) := (88, inl Try.prog G13 100 Try.f88) :: G13
theorem g14 : Ab.Good Try.prog G14 := good_cons (inl_sat g13 mixed Try.func88 Try.call88 100) g13

/-- spec.DraftOf -/
noncomputable def G15 : List (Nat × Ctr) := (39, inl Try.prog G14 100 Try.f39) :: G14
theorem g15 : Ab.Good Try.prog G15 := good_cons (inl_sat g14 mixed Try.func39 Try.call39 100) g14

/-- laws.toFlue -/
noncomputable def G16 : List (Nat × Ctr) := (40, inl Try.prog G15 100 Try.f40) :: G15
theorem g16 : Ab.Good Try.prog G16 := good_cons (inl_sat g15 mixed Try.func40 Try.call40 100) g15

/-- impl.isFinite -/
noncomputable def G17 : List (Nat × Ctr) := (94, ctr1 fun a => .sbool (finF a)) :: G16
theorem g17 : Ab.Good Try.prog G17 := good_cons (sat1 (g := fun a => .sbool (finF a)) g16 mixed Try.func94 Try.call94 100 (fun a => .sbool (cond (fleB .f32 4286578687 a) (fleB .f32 a 2139095039) false)) (fun a => by kernel_rfl) (fun a ha ρ u h => by show V ρ (.sbool (finF a)) u; rw [← fin_between ha]; exact h)) g16

/-- math.Float64bits -/
noncomputable def G18 : List (Nat × Ctr) := (115, extC .f64bits) :: G17
theorem g18 : Ab.Good Try.prog G18 := good_cons (sat_ext .f64bits Try.func115 (by kernel_rfl) (by kernel_rfl) (by kernel_rfl) (by kernel_rfl)) g17

/-- math.Signbit -/
noncomputable def G19 : List (Nat × Ctr) := (107, inl Try.prog G18 100 Try.f107) :: G18
theorem g19 : Ab.Good Try.prog G19 := good_cons (inl_sat g18 mixed Try.func107 Try.call107 100) g18

/-- impl.IsAmount -/
noncomputable def G20 : List (Nat × Ctr) := (73, ctr1 fun a => .sbool (amtF a)) :: G19
theorem g20 : Ab.Good Try.prog G20 := good_cons (sat1 (g := fun a => .sbool (amtF a)) g19 mixed Try.func73 Try.call73 100 (fun a => .cbool (cond (finF a) (!nanB .f64 (wide a) && true) true) (cond (finF a) (!decide (IntKind.i64.wrap (Int.ofNat (wide a)) < 0)) false)) (fun a => by kernel_rfl) (fun a ha ρ u h => by show V ρ (.sbool (amtF a)) u; rw [← wide_neg ha]; exact cbool_say wide_nan h)) g19

/-- impl.IsShare -/
noncomputable def G21 : List (Nat × Ctr) := (67, ctr1 fun a => .sbool (shO a)) :: G20
theorem g21 : Ab.Good Try.prog G21 := good_cons (sat1 (g := fun a => .sbool (shO a)) g20 mixed Try.func67 Try.call67 100 (fun a => .sbool (shI a)) (fun a => by kernel_rfl) (fun a ha ρ u h => by show V ρ (.sbool (shO a)) u; rw [shO_eq]; exact h)) g20

/-- impl.isFlue -/
noncomputable def G22 : List (Nat × Ctr) := (76, inl Try.prog G21 100 Try.f76) :: G21
theorem g22 : Ab.Good Try.prog G22 := good_cons (inl_sat g21 mixed Try.func76 Try.call76 100) g21

/-- impl.isOutside -/
noncomputable def G23 : List (Nat × Ctr) := (89, inl Try.prog G22 100 Try.f89) :: G22
theorem g23 : Ab.Good Try.prog G23 := good_cons (inl_sat g22 mixed Try.func89 Try.call89 100) g22

/-- impl.draftOf -/
noncomputable def G24 : List (Nat × Ctr) := (90, inl Try.prog G23 100 Try.f90) :: G23
theorem g24 : Ab.Good Try.prog G24 := good_cons (inl_sat g23 mixed Try.func90 Try.call90 100) g23

/-- impl.DraftOf -/
noncomputable def G25 : List (Nat × Ctr) := (41, inl Try.prog G24 100 Try.f41) :: G24
theorem g25 : Ab.Good Try.prog G25 := good_cons (inl_sat g24 mixed Try.func41 Try.call41 100) g24

/-- spec.l03Number -/
noncomputable def G26 : List (Nat × Ctr) := (91, inl Try.prog G25 100 Try.f91) :: G25
theorem g26 : Ab.Good Try.prog G26 := good_cons (inl_sat g25 mixed Try.func91 Try.call91 100) g25

/-- spec.l03Resist -/
noncomputable def G27 : List (Nat × Ctr) := (92, inl Try.prog G26 100 Try.f92) :: G26
theorem g27 : Ab.Good Try.prog G27 := good_cons (inl_sat g26 mixed Try.func92 Try.call92 100) g26

/-- spec.ResistOf -/
noncomputable def G28 : List (Nat × Ctr) := (42, inl Try.prog G27 100 Try.f42) :: G27
theorem g28 : Ab.Good Try.prog G28 := good_cons (inl_sat g27 mixed Try.func42 Try.call42 100) g27

/-- impl.resistOf -/
noncomputable def G29 : List (Nat × Ctr) := (93, inl Try.prog G28 100 Try.f93) :: G28
theorem g29 : Ab.Good Try.prog G29 := good_cons (inl_sat g28 mixed Try.func93 Try.call93 100) g28

/-- impl.ResistOf -/
noncomputable def G30 : List (Nat × Ctr) := (43, inl Try.prog G29 100 Try.f43) :: G29
theorem g30 : Ab.Good Try.prog G30 := good_cons (inl_sat g29 mixed Try.func43 Try.call43 100) g29

noncomputable def GG : List (Nat × Ctr) := G30
theorem gg : Ab.Good Try.prog GG := g30

end Go.Proofs.Ytmegbdgnnbjbmaa.ab
