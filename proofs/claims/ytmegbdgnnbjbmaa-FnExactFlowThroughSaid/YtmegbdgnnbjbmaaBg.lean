import Derived.Test.YtmegbdgnnbjbmaaGe
import Derived.Test.YtmegbdgnnbjbmaaProg
namespace Go.Proofs.Ytmegbdgnnbjbmaa.ab
open Go Go.Ab Go.Proofs
set_option maxRecDepth 100000
theorem mixed : Try.prog.follows .mixedOrders = true := by kernel_rfl

noncomputable def G0 : List (Nat × Ctr) := []
theorem g0 : Ab.Good Try.prog G0 := good_nil _

/-- laws.sameFloat -/
noncomputable def G1 : List (Nat × Ctr) := (38, ctrD2 fun a b => .sbool (sO a b)) :: G0
theorem g1 : Ab.Good Try.prog G1 := good_cons (satD2 (g := fun a b => .sbool (sO a b)) g0 mixed Try.func38 Try.call38 100 (fun a b => .sbool (same64 a b)) (fun a b => by kernel_rfl) (fun a b _ _ ρ u h => by show V ρ (.sbool (sO a b)) u; rw [sO_eq]; exact h)) g0

/-- laws.toFlue -/
noncomputable def G2 : List (Nat × Ctr) := (40, inl Try.prog G1 100 Try.f40) :: G1
theorem g2 : Ab.Good Try.prog G2 := good_cons (inl_sat g1 mixed Try.func40 Try.call40 100) g1

/-- math.Float32bits -/
noncomputable def G3 : List (Nat × Ctr) := (102, extC .f32bits) :: G2
theorem g3 : Ab.Good Try.prog G3 := good_cons (sat_ext .f32bits Try.func102 (by kernel_rfl) (by kernel_rfl) (by kernel_rfl) (by kernel_rfl)) g2

/-- spec.l01Finite -/
noncomputable def G4 : List (Nat × Ctr) := (109, ctr1 fun a => .sbool (finF a)) :: G3
theorem g4 : Ab.Good Try.prog G4 := good_cons (sat1 (g := fun a => .sbool (finF a)) g3 mixed Try.func109 Try.call109 100 (fun a => .sbool (feqB .f32 (fop .sub .f32 a a) 0)) (fun a => by kernel_rfl) (fun a ha ρ u h => by show V ρ (.sbool (finF a)) u; rw [← fin_sub a]; exact h)) g3

/-- spec.l01Amount -/
noncomputable def G5 : List (Nat × Ctr) := (75, ctr1 fun a => .sbool (amtF a)) :: G4
theorem g5 : Ab.Good Try.prog G5 := good_cons (sat1 (g := fun a => .sbool (amtF a)) g4 mixed Try.func75 Try.call75 100 (fun a => .cbool (cond (finF a) (cond (fltB .f32 0 a) true (!nanB .f32 a && true)) true) (cond (finF a) (cond (fltB .f32 0 a) true (Int.ofNat a == 0)) false)) (fun a => by kernel_rfl) (fun a ha ρ u h => by show V ρ (.sbool (amtF a)) u; rw [← amt_spec ha]; exact cbool_say (amt_cond a) h)) g4

/-- spec.l01Share -/
noncomputable def G6 : List (Nat × Ctr) := (70, ctr1 fun a => .sbool (shO a)) :: G5
theorem g6 : Ab.Good Try.prog G6 := good_cons (sat1 (g := fun a => .sbool (shO a)) g5 mixed Try.func70 Try.call70 100 (fun a => .sbool (shI a)) (fun a => by kernel_rfl) (fun a ha ρ u h => by show V ρ (.sbool (shO a)) u; rw [shO_eq]; exact h)) g5

/-- spec.l03Hot -/
noncomputable def G7 : List (Nat × Ctr) := (82, inl Try.prog G6 100 Try.f82) :: G6
theorem g7 : Ab.Good Try.prog G7 := good_cons (inl_sat g6 mixed Try.func82 Try.call82 100) g6

/-- spec.l03Flue -/
noncomputable def G8 : List (Nat × Ctr) := (86, inl Try.prog G7 100 Try.f86) :: G7
theorem g8 : Ab.Good Try.prog G8 := good_cons (inl_sat g7 mixed Try.func86 Try.call86 100) g7

/-- spec.l03Outside -/
noncomputable def G9 : List (Nat × Ctr) := (87, inl Try.prog G8 100 Try.f87) :: G8
theorem g9 : Ab.Good Try.prog G9 := good_cons (inl_sat g8 mixed Try.func87 Try.call87 100) g8

/-- spec.l03Number -/
noncomputable def G10 : List (Nat × Ctr) := (91, inl Try.prog G9 100 Try.f91) :: G9
theorem g10 : Ab.Good Try.prog G10 := good_cons (inl_sat g9 mixed Try.func91 Try.call91 100) g9

/-- spec.l03Push -/
noncomputable def G11 : List (Nat × Ctr) := (95, inl Try.prog G10 100 Try.f95) :: G10
theorem g11 : Ab.Good Try.prog G11 := good_cons (inl_sat g10 mixed Try.func95 Try.call95 100) g10

/-- spec.l03Dense -/
noncomputable def G12 : List (Nat × Ctr) := (83, inl Try.prog G11 100 Try.f83) :: G11
theorem g12 : Ab.Good Try.prog G12 := good_cons (inl_sat g11 mixed Try.func83 Try.call83 100) g11

/-- spec.l03Draft -/
noncomputable def G13 : List (Nat × Ctr) := (88, inl Try.prog G12 100 Try.f88) :: G12
theorem g13 : Ab.Good Try.prog G13 := good_cons (inl_sat g12 mixed Try.func88 Try.call88 100) g12

/-- spec.l03Resist -/
noncomputable def G14 : List (Nat × Ctr) := (92, inl Try.prog G13 100 Try.f92) :: G13
theorem g14 : Ab.Good Try.prog G14 := good_cons (inl_sat g13 mixed Try.func92 Try.call92 100) g13

/-- math.sqrt -/
noncomputable def G15 : List (Nat × Ctr) := (118, extC .sqrt) :: G14
theorem g15 : Ab.Good Try.prog G15 := good_cons (sat_ext .sqrt Try.func118 (by kernel_rfl) (by kernel_rfl) (by kernel_rfl) (by kernel_rfl)) g14

/-- math.Sqrt -/
noncomputable def G16 : List (Nat × Ctr) := (111, inl Try.prog G15 100 Try.f111) :: G15
theorem g16 : Ab.Good Try.prog G16 := good_cons (inl_sat g15 mixed Try.func111 Try.call111 100) g15

/-- spec.l03Flow -/
noncomputable def G17 : List (Nat × Ctr) := (96, flowC) :: G16
theorem g17 : Ab.Good Try.prog G17 := good_cons (sat_flow g16 mixed Try.func96 Try.call96 100 (fun h w t d a p => ndc (feqB .f32 d 0) true (ndc (fltB .f32 (flX h w t d a p) 0) (((nrwOk (sqrtW (wide (fneg .f32 (flX h w t d a p)))) && true) && true) && true) ((nrwOk (sqrtW (wide (flX h w t d a p))) && true) && true))) (fun h w t d z a p => by kernel_rfl) (fun h w t d a p => by simp only [nrwOk_all]; cases feqB .f32 d 0 <;> cases fltB .f32 (flX h w t d a p) 0 <;> rfl)) g16

/-- spec.FlowThrough -/
noncomputable def G18 : List (Nat × Ctr) := (44, inl Try.prog G17 100 Try.f44) :: G17
theorem g18 : Ab.Good Try.prog G18 := good_cons (inl_sat g17 mixed Try.func44 Try.call44 100) g17

/-- impl.isFinite -/
noncomputable def G19 : List (Nat × Ctr) := (94, ctr1 fun a => .sbool (finF a)) :: G18
theorem g19 : Ab.Good Try.prog G19 := good_cons (sat1 (g := fun a => .sbool (finF a)) g18 mixed Try.func94 Try.call94 100 (fun a => .sbool (cond (fleB .f32 4286578687 a) (fleB .f32 a 2139095039) false)) (fun a => by kernel_rfl) (fun a ha ρ u h => by show V ρ (.sbool (finF a)) u; rw [← fin_between ha]; exact h)) g18

/-- math.Float64bits -/
noncomputable def G20 : List (Nat × Ctr) := (115, extC .f64bits) :: G19
theorem g20 : Ab.Good Try.prog G20 := good_cons (sat_ext .f64bits Try.func115 (by kernel_rfl) (by kernel_rfl) (by kernel_rfl) (by kernel_rfl)) g19

/-- math.Signbit -/
noncomputable def G21 : List (Nat × Ctr) := (107, inl Try.prog G20 100 Try.f107) :: G20
theorem g21 : Ab.Good Try.prog G21 := good_cons (inl_sat g20 mixed Try.func107 Try.call107 100) g20

/-- impl.IsAmount -/
noncomputable def G22 : List (Nat × Ctr) := (73, ctr1 fun a => .sbool (amtF a)) :: G21
theorem g22 : Ab.Good Try.prog G22 := good_cons (sat1 (g := fun a => .sbool (amtF a)) g21 mixed Try.func73 Try.call73 100 (fun a => .cbool (cond (finF a) (!nanB .f64 (wide a) && true) true) (cond (finF a) (!decide (IntKind.i64.wrap (Int.ofNat (wide a)) < 0)) false)) (fun a => by kernel_rfl) (fun a ha ρ u h => by show V ρ (.sbool (amtF a)) u; rw [← wide_neg ha]; exact cbool_say wide_nan h)) g21

/-- impl.IsShare -/
noncomputable def G23 : List (Nat × Ctr) := (67, ctr1 fun a => .sbool (shO a)) :: G22
theorem g23 : Ab.Good Try.prog G23 := good_cons (sat1 (g := fun a => .sbool (shO a)) g22 mixed Try.func67 Try.call67 100 (fun a => .sbool (shI a)) (fun a => by kernel_rfl) (fun a ha ρ u h => by show V ρ (.sbool (shO a)) u; rw [shO_eq]; exact h)) g22

/-- impl.isBetween -/
noncomputable def G24 : List (Nat × Ctr) := (84, inl Try.prog G23 100 Try.f84) :: G23
theorem g24 : Ab.Good Try.prog G24 := good_cons (inl_sat g23 mixed Try.func84 Try.call84 100) g23

/-- impl.isFlue -/
noncomputable def G25 : List (Nat × Ctr) := (76, inl Try.prog G24 100 Try.f76) :: G24
theorem g25 : Ab.Good Try.prog G25 := good_cons (inl_sat g24 mixed Try.func76 Try.call76 100) g24

/-- impl.isOutside -/
noncomputable def G26 : List (Nat × Ctr) := (89, inl Try.prog G25 100 Try.f89) :: G25
theorem g26 : Ab.Good Try.prog G26 := good_cons (inl_sat g25 mixed Try.func89 Try.call89 100) g25

/-- impl.isPush -/
noncomputable def G27 : List (Nat × Ctr) := (97, inl Try.prog G26 100 Try.f97) :: G26
theorem g27 : Ab.Good Try.prog G27 := good_cons (inl_sat g26 mixed Try.func97 Try.call97 100) g26

/-- impl.denseAt -/
noncomputable def G28 : List (Nat × Ctr) := (85, inl Try.prog G27 100 Try.f85) :: G27
theorem g28 : Ab.Good Try.prog G28 := good_cons (inl_sat g27 mixed Try.func85 Try.call85 100) g27

/-- impl.draftOf -/
noncomputable def G29 : List (Nat × Ctr) := (90, inl Try.prog G28 100 Try.f90) :: G28
theorem g29 : Ab.Good Try.prog G29 := good_cons (inl_sat g28 mixed Try.func90 Try.call90 100) g28

/-- impl.resistOf -/
noncomputable def G30 : List (Nat × Ctr) := (93, inl Try.prog G29 100 Try.f93) :: G29
theorem g30 : Ab.Good Try.prog G30 := good_cons (inl_sat g29 mixed Try.func93 Try.call93 100) g29

/-- impl.narrowRoot -/
noncomputable def G31 : List (Nat × Ctr) := (112, rtC) :: G30
theorem g31 : Ab.Good Try.prog G31 := good_cons (sat_rt g30 mixed Try.func112 Try.call112 100 (fun a => (nrwOk (sqrtW (wide a)) && true) && true) (fun a => by kernel_rfl) (fun a => by rw [nrwOk_all]; rfl)) g30

/-- impl.flowThrough -/
noncomputable def G32 : List (Nat × Ctr) := (98, inl Try.prog G31 100 Try.f98) :: G31
theorem g32 : Ab.Good Try.prog G32 := good_cons (inl_sat g31 mixed Try.func98 Try.call98 100) g31

/-- impl.FlowThrough -/
noncomputable def G33 : List (Nat × Ctr) := (45, inl Try.prog G32 100 Try.f45) :: G32
theorem g33 : Ab.Good Try.prog G33 := good_cons (inl_sat g32 mixed Try.func45 Try.call45 100) g32

noncomputable def GG : List (Nat × Ctr) := G33
theorem gg : Ab.Good Try.prog GG := g33

end Go.Proofs.Ytmegbdgnnbjbmaa.ab
