import Derived.Test.YtbblhkjkokbheaaGh
import Derived.Test.YtbblhkjkokbheaaProg
namespace Go.Proofs.Ytbblhkjkokbheaa.ab
open Go Go.Ab Go.Proofs
set_option maxRecDepth 100000
theorem mixed : Try.prog.follows .mixedOrders = true := by kernel_rfl

noncomputable def G0 : List (Nat × Ctr) := []
theorem g0 : Ab.Good Try.prog G0 := good_nil _

/-- spec.l01Finite -/
noncomputable def G1 : List (Nat × Ctr) := (116, ctr1 fun a => .sbool (finF a)) :: G0
theorem g1 : Ab.Good Try.prog G1 := good_cons (sat1 (g := fun a => .sbool (finF a)) g0 mixed Try.func116 Try.call116 100 (fun a => .sbool (feqB .f32 (fop .sub .f32 a a) 0)) (fun a => by kernel_rfl) (fun a ha ρ u h => by show V ρ (.sbool (finF a)) u; rw [← fin_sub a]; exact h)) g0

/-- math.Float32bits -/
noncomputable def G2 : List (Nat × Ctr) := (176, extC .f32bits) :: G1
theorem g2 : Ab.Good Try.prog G2 := good_cons (sat_ext .f32bits Try.func176 (by kernel_rfl) (by kernel_rfl) (by kernel_rfl) (by kernel_rfl)) g1

/-- spec.l01Amount -/
noncomputable def G3 : List (Nat × Ctr) := (127, ctr1 fun a => .sbool (amtF a)) :: G2
theorem g3 : Ab.Good Try.prog G3 := good_cons (sat1 (g := fun a => .sbool (amtF a)) g2 mixed Try.func127 Try.call127 100 (fun a => .cbool (cond (finF a) (cond (fltB .f32 0 a) true (!nanB .f32 a && true)) true) (cond (finF a) (cond (fltB .f32 0 a) true (Int.ofNat a == 0)) false)) (fun a => by kernel_rfl) (fun a ha ρ u h => by show V ρ (.sbool (amtF a)) u; rw [← amt_spec ha]; exact cbool_say (amt_cond a) h)) g2

/-- spec.l01Ok -/
noncomputable def G4 : List (Nat × Ctr) := (68, ctrWp fun ns => .sbool (vOp ns)) :: G3
theorem g4 : Ab.Good Try.prog G4 := good_cons (satWp (g := fun ns => .sbool (vOp ns)) g3 mixed Try.func68 Try.call68 100 (fun ns => .sbool (validS ns)) (fun ns hl => by obtain ⟨a0, a1, a2, a3, a4, a5, b0, b1, b2, b3, b4, b5, c0, c1, c2, c3, c4, c5, rfl⟩ := len18 hl; kernel_rfl) (fun ns _ ρ u h => by show V ρ (.sbool (vOp ns)) u; rw [vOp_eq, ← validS_eq]; exact h)) g3

/-- spec.l01Share -/
noncomputable def G5 : List (Nat × Ctr) := (117, ctr1 fun a => .sbool (shO a)) :: G4
theorem g5 : Ab.Good Try.prog G5 := good_cons (sat1 (g := fun a => .sbool (shO a)) g4 mixed Try.func117 Try.call117 100 (fun a => .sbool (shI a)) (fun a => by kernel_rfl) (fun a ha ρ u h => by show V ρ (.sbool (shO a)) u; rw [shO_eq]; exact h)) g4

/-- spec.l01Time -/
noncomputable def G6 : List (Nat × Ctr) := (118, ctr1 fun a => .sbool (shO a)) :: G5
theorem g6 : Ab.Good Try.prog G6 := good_cons (sat1 (g := fun a => .sbool (shO a)) g5 mixed Try.func118 Try.call118 100 (fun a => .sbool (shI a)) (fun a => by kernel_rfl) (fun a ha ρ u h => by show V ρ (.sbool (shO a)) u; rw [shO_eq]; exact h)) g5

/-- spec.l01Given -/
noncomputable def G7 : List (Nat × Ctr) := (59, inl Try.prog G6 100 Try.f59) :: G6
theorem g7 : Ab.Good Try.prog G7 := good_cons (inl_sat g6 mixed Try.func59 Try.call59 100) g6

/-- spec.l00In -/
noncomputable def G8 : List (Nat × Ctr) := (60, inl Try.prog G7 100 Try.f60) :: G7
theorem g8 : Ab.Good Try.prog G8 := good_cons (inl_sat g7 mixed Try.func60 Try.call60 100) g7

/-- spec.l01Held -/
noncomputable def G9 : List (Nat × Ctr) := (144, ctr3 fun a b c => .flt .f32 (hO a b c)) :: G8
theorem g9 : Ab.Good Try.prog G9 := good_cons (sat3 (g := fun a b c => .flt .f32 (hO a b c)) g8 mixed Try.func144 Try.call144 100 (fun a b c => .flt .f32 (heldI a b c)) (fun a b c => by kernel_rfl) (fun a b c _ _ _ ρ u h => by show V ρ (.flt .f32 (hO a b c)) u; rw [hO_eq]; exact h)) g8

/-- spec.l01Mass -/
noncomputable def G10 : List (Nat × Ctr) := (170, inl Try.prog G9 100 Try.f170) :: G9
theorem g10 : Ab.Good Try.prog G10 := good_cons (inl_sat g9 mixed Try.func170 Try.call170 100) g9

/-- spec.l01Warm -/
noncomputable def G11 : List (Nat × Ctr) := (119, inl Try.prog G10 100 Try.f119) :: G10
theorem g11 : Ab.Good Try.prog G11 := good_cons (inl_sat g10 mixed Try.func119 Try.call119 100) g10

/-- spec.l01Less -/
noncomputable def G12 : List (Nat × Ctr) := (171, inl Try.prog G11 100 Try.f171) :: G11
theorem g12 : Ab.Good Try.prog G12 := good_cons (inl_sat g11 mixed Try.func171 Try.call171 100) g11

/-- spec.l01Dry -/
noncomputable def G13 : List (Nat × Ctr) := (120, inl Try.prog G12 100 Try.f120) :: G12
theorem g13 : Ab.Good Try.prog G13 := good_cons (inl_sat g12 mixed Try.func120 Try.call120 100) g12

/-- spec.l01Burn -/
noncomputable def G14 : List (Nat × Ctr) := (121, inl Try.prog G13 100 Try.f121) :: G13
theorem g14 : Ab.Good Try.prog G14 := good_cons (inl_sat g13 mixed Try.func121 Try.call121 100) g13

/-- spec.l01Step -/
noncomputable def G15 : List (Nat × Ctr) := (61, ctrWp4 stpSv) :: G14
theorem g15 : Ab.Good Try.prog G15 := good_cons (satWp4 (g := stpSv) g14 mixed Try.func61 Try.call61 100 (fun _ _ _ _ => true) (fun ns a x t hl => by rw [stpS_raw]; unfold stpSr; rw [stpS_eq, stG_eq]; obtain ⟨a0, a1, a2, a3, a4, a5, b0, b1, b2, b3, b4, b5, c0, c1, c2, c3, c4, c5, rfl⟩ := len18 hl; kernel_rfl) (fun _ _ _ _ _ => rfl)) g14

/-- impl.isFinite -/
noncomputable def G16 : List (Nat × Ctr) := (124, ctr1 fun a => .sbool (finF a)) :: G15
theorem g16 : Ab.Good Try.prog G16 := good_cons (sat1 (g := fun a => .sbool (finF a)) g15 mixed Try.func124 Try.call124 100 (fun a => .sbool (cond (fleB .f32 4286578687 a) (fleB .f32 a 2139095039) false)) (fun a => by kernel_rfl) (fun a ha ρ u h => by show V ρ (.sbool (finF a)) u; rw [← fin_between ha]; exact h)) g15

/-- math.Float64bits -/
noncomputable def G17 : List (Nat × Ctr) := (197, extC .f64bits) :: G16
theorem g17 : Ab.Good Try.prog G17 := good_cons (sat_ext .f64bits Try.func197 (by kernel_rfl) (by kernel_rfl) (by kernel_rfl) (by kernel_rfl)) g16

/-- math.Signbit -/
noncomputable def G18 : List (Nat × Ctr) := (185, inl Try.prog G17 100 Try.f185) :: G17
theorem g18 : Ab.Good Try.prog G18 := good_cons (inl_sat g17 mixed Try.func185 Try.call185 100) g17

/-- impl.IsAmount -/
noncomputable def G19 : List (Nat × Ctr) := (149, ctr1 fun a => .sbool (amtF a)) :: G18
theorem g19 : Ab.Good Try.prog G19 := good_cons (sat1 (g := fun a => .sbool (amtF a)) g18 mixed Try.func149 Try.call149 100 (fun a => .cbool (cond (finF a) (!nanB .f64 (wide a) && true) true) (cond (finF a) (!decide (IntKind.i64.wrap (Int.ofNat (wide a)) < 0)) false)) (fun a => by kernel_rfl) (fun a ha ρ u h => by show V ρ (.sbool (amtF a)) u; rw [← wide_neg ha]; exact cbool_say wide_nan h)) g18

/-- impl.isKilos -/
noncomputable def G20 : List (Nat × Ctr) := (128, ctr1 fun a => .sbool (kilF a)) :: G19
theorem g20 : Ab.Good Try.prog G20 := good_cons (sat1 (g := fun a => .sbool (kilF a)) g19 mixed Try.func128 Try.call128 100 (fun a => .sbool (cond (amtF a) (fleB .f32 a 1092616192) false)) (fun a => by kernel_rfl) (fun a ha ρ u h => by show V ρ (.sbool (kilF a)) u; rw [← kil_impl a]; exact h)) g19

/-- impl.isBetween -/
noncomputable def G21 : List (Nat × Ctr) := (129, inl Try.prog G20 100 Try.f129) :: G20
theorem g21 : Ab.Good Try.prog G21 := good_cons (inl_sat g20 mixed Try.func129 Try.call129 100) g20

/-- impl.ValidWood -/
noncomputable def G22 : List (Nat × Ctr) := (69, ctrW fun ns => .sbool (vOp ns)) :: G21
theorem g22 : Ab.Good Try.prog G22 := good_cons (satW (g := fun ns => .sbool (vOp ns)) g21 mixed Try.func69 Try.call69 100 (fun ns => .sbool (validI ns)) (fun ns hl => by obtain ⟨a0, a1, a2, a3, a4, a5, b0, b1, b2, b3, b4, b5, c0, c1, c2, c3, c4, c5, rfl⟩ := len18 hl; kernel_rfl) (fun ns _ ρ u h => by show V ρ (.sbool (vOp ns)) u; rw [vOp_eq]; exact h)) g21

/-- impl.IsShare -/
noncomputable def G23 : List (Nat × Ctr) := (150, ctr1 fun a => .sbool (shO a)) :: G22
theorem g23 : Ab.Good Try.prog G23 := good_cons (sat1 (g := fun a => .sbool (shO a)) g22 mixed Try.func150 Try.call150 100 (fun a => .sbool (shI a)) (fun a => by kernel_rfl) (fun a ha ρ u h => by show V ρ (.sbool (shO a)) u; rw [shO_eq]; exact h)) g22

/-- impl.checkStep -/
noncomputable def G24 : List (Nat × Ctr) := (122, inl Try.prog G23 100 Try.f122) :: G23
theorem g24 : Ab.Good Try.prog G24 := good_cons (inl_sat g23 mixed Try.func122 Try.call122 100) g23

/-- impl.checkSteps -/
noncomputable def G25 : List (Nat × Ctr) := (63, inl Try.prog G24 100 Try.f63) :: G24
theorem g25 : Ab.Good Try.prog G25 := good_cons (inl_sat g24 mixed Try.func63 Try.call63 100) g24

/-- impl.heatFlows -/
noncomputable def G26 : List (Nat × Ctr) := (172, inl Try.prog G25 100 Try.f172) :: G25
theorem g26 : Ab.Good Try.prog G26 := good_cons (inl_sat g25 mixed Try.func172 Try.call172 100) g25

/-- impl.massOf -/
noncomputable def G27 : List (Nat × Ctr) := (173, inl Try.prog G26 100 Try.f173) :: G26
theorem g27 : Ab.Good Try.prog G27 := good_cons (inl_sat g26 mixed Try.func173 Try.call173 100) g26

/-- impl.held -/
noncomputable def G28 : List (Nat × Ctr) := (174, ctr3 fun a b c => .flt .f32 (hO a b c)) :: G27
theorem g28 : Ab.Good Try.prog G28 := good_cons (sat3 (g := fun a b c => .flt .f32 (hO a b c)) g27 mixed Try.func174 Try.call174 100 (fun a b c => .flt .f32 (heldI a b c)) (fun a b c => by kernel_rfl) (fun a b c _ _ _ ρ u h => by show V ρ (.flt .f32 (hO a b c)) u; rw [hO_eq]; exact h)) g27

/-- impl.warmed -/
noncomputable def G29 : List (Nat × Ctr) := (123, inl Try.prog G28 100 Try.f123) :: G28
theorem g29 : Ab.Good Try.prog G29 := good_cons (inl_sat g28 mixed Try.func123 Try.call123 100) g28

/-- impl.dried -/
noncomputable def G30 : List (Nat × Ctr) := (125, inl Try.prog G29 100 Try.f125) :: G29
theorem g30 : Ab.Good Try.prog G30 := good_cons (inl_sat g29 mixed Try.func125 Try.call125 100) g29

/-- impl.isDry -/
noncomputable def G31 : List (Nat × Ctr) := (175, inl Try.prog G30 100 Try.f175) :: G30
theorem g31 : Ab.Good Try.prog G31 := good_cons (inl_sat g30 mixed Try.func175 Try.call175 100) g30

/-- impl.burnt -/
noncomputable def G32 : List (Nat × Ctr) := (126, inl Try.prog G31 100 Try.f126) :: G31
theorem g32 : Ab.Good Try.prog G32 := good_cons (inl_sat g31 mixed Try.func126 Try.call126 100) g31

/-- impl.stepped -/
noncomputable def G33 : List (Nat × Ctr) := (64, ctrW4 stpIv) :: G32
theorem g33 : Ab.Good Try.prog G33 := good_cons (satW4 (g := stpIv) g32 mixed Try.func64 Try.call64 100 (fun _ _ _ _ => true) (fun ns a x t hl => by unfold stpIv; rw [stpI_eq, stG_eq]; obtain ⟨a0, a1, a2, a3, a4, a5, b0, b1, b2, b3, b4, b5, c0, c1, c2, c3, c4, c5, rfl⟩ := len18 hl; kernel_rfl) (fun _ _ _ _ _ => rfl)) g32

/-- spec.l01Sum -/
noncomputable def G34 : List (Nat × Ctr) := (66, inl Try.prog G33 100 Try.f66) :: G33
theorem g34 : Ab.Good Try.prog G34 := good_cons (inl_sat g33 mixed Try.func66 Try.call66 100) g33

/-- impl.rowSum -/
noncomputable def G35 : List (Nat × Ctr) := (67, inl Try.prog G34 100 Try.f67) :: G34
theorem g35 : Ab.Good Try.prog G35 := good_cons (inl_sat g34 mixed Try.func67 Try.call67 100) g34

noncomputable def GG : List (Nat × Ctr) := G35
theorem gg : Ab.Good Try.prog GG := g35

end Go.Proofs.Ytbblhkjkokbheaa.ab
