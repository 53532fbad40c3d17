import Derived.Test.YtiebaggemiifoabGc
import Derived.Test.YtiebaggemiifoabProg
namespace Go.Proofs.Ytiebaggemiifoab.ab
open Go Go.Ab Go.Proofs
set_option maxRecDepth 100000
theorem mixed : Try.prog.follows .mixedOrders = true := by kernel_rfl

noncomputable def G0 : List (Nat × Ctr) := []
theorem g0 : Ab.Good Try.prog G0 := good_nil _

/-- spec.l01Finite -/
noncomputable def G1 : List (Nat × Ctr) := (40, ctr1 fun a => .sbool (finF a)) :: G0
theorem g1 : Ab.Good Try.prog G1 := good_cons (sat1 (g := fun a => .sbool (finF a)) g0 mixed Try.func40 Try.call40 100 (fun a => .sbool (feqB .f32 (fop .sub .f32 a a) 0)) (fun a => by kernel_rfl) (fun a ha ρ u h => by show V ρ (.sbool (finF a)) u; rw [← fin_sub a]; exact h)) g0

/-- math.Float32bits -/
noncomputable def G2 : List (Nat × Ctr) := (77, extC .f32bits) :: G1
theorem g2 : Ab.Good Try.prog G2 := good_cons (sat_ext .f32bits Try.func77 (by kernel_rfl) (by kernel_rfl) (by kernel_rfl) (by kernel_rfl)) g1

/-- spec.l01Amount -/
noncomputable def G3 : List (Nat × Ctr) := (67, ctr1 fun a => .sbool (amtF a)) :: G2
theorem g3 : Ab.Good Try.prog G3 := good_cons (sat1 (g := fun a => .sbool (amtF a)) g2 mixed Try.func67 Try.call67 100 (fun a => .cbool (cond (finF a) (cond (fltB .f32 0 a) true (!nanB .f32 a && true)) true) (cond (finF a) (cond (fltB .f32 0 a) true (Int.ofNat a == 0)) false)) (fun a => by kernel_rfl) (fun a ha ρ u h => by show V ρ (.sbool (amtF a)) u; rw [← amt_spec ha]; exact cbool_say (amt_cond a) h)) g2

/-- spec.l01Ok -/
noncomputable def G4 : List (Nat × Ctr) := (39, ctrWp fun ns => .sbool (vOp ns)) :: G3
theorem g4 : Ab.Good Try.prog G4 := good_cons (satWp (g := fun ns => .sbool (vOp ns)) g3 mixed Try.func39 Try.call39 100 (fun ns => .sbool (validS ns)) (fun ns hl => by obtain ⟨a0, a1, a2, a3, a4, a5, b0, b1, b2, b3, b4, b5, c0, c1, c2, c3, c4, c5, rfl⟩ := len18 hl; kernel_rfl) (fun ns _ ρ u h => by show V ρ (.sbool (vOp ns)) u; rw [vOp_eq, ← validS_eq]; exact h)) g3

/-- spec.l01Time -/
noncomputable def G5 : List (Nat × Ctr) := (41, ctr1 fun a => .sbool (shO a)) :: G4
theorem g5 : Ab.Good Try.prog G5 := good_cons (sat1 (g := fun a => .sbool (shO a)) g4 mixed Try.func41 Try.call41 100 (fun a => .sbool (shI a)) (fun a => by kernel_rfl) (fun a ha ρ u h => by show V ρ (.sbool (shO a)) u; rw [shO_eq]; exact h)) g4

/-- spec.l01Held -/
noncomputable def G6 : List (Nat × Ctr) := (68, ctr3 fun a b c => .flt .f32 (hO a b c)) :: G5
theorem g6 : Ab.Good Try.prog G6 := good_cons (sat3 (g := fun a b c => .flt .f32 (hO a b c)) g5 mixed Try.func68 Try.call68 100 (fun a b c => .flt .f32 (heldI a b c)) (fun a b c => by kernel_rfl) (fun a b c _ _ _ ρ u h => by show V ρ (.flt .f32 (hO a b c)) u; rw [hO_eq]; exact h)) g5

/-- spec.l01Mass -/
noncomputable def G7 : List (Nat × Ctr) := (69, inl Try.prog G6 100 Try.f69) :: G6
theorem g7 : Ab.Good Try.prog G7 := good_cons (inl_sat g6 mixed Try.func69 Try.call69 100) g6

/-- spec.l01Warm -/
noncomputable def G8 : List (Nat × Ctr) := (42, inl Try.prog G7 100 Try.f42) :: G7
theorem g8 : Ab.Good Try.prog G8 := good_cons (inl_sat g7 mixed Try.func42 Try.call42 100) g7

/-- spec.WarmStep -/
noncomputable def G9 : List (Nat × Ctr) := (12, inl Try.prog G8 100 Try.f12) :: G8
theorem g9 : Ab.Good Try.prog G9 := good_cons (inl_sat g8 mixed Try.func12 Try.call12 100) g8

/-- laws.toFloat32A6 -/
noncomputable def G10 : List (Nat × Ctr) := (43, inl Try.prog G9 100 Try.f43) :: G9
theorem g10 : Ab.Good Try.prog G10 := good_cons (inl_sat g9 mixed Try.func43 Try.call43 100) g9

/-- laws.toWood -/
noncomputable def G11 : List (Nat × Ctr) := (13, inl Try.prog G10 100 Try.f13) :: G10
theorem g11 : Ab.Good Try.prog G11 := good_cons (inl_sat g10 mixed Try.func13 Try.call13 100) g10

/-- impl.isFinite -/
noncomputable def G12 : List (Nat × Ctr) := (45, ctr1 fun a => .sbool (finF a)) :: G11
theorem g12 : Ab.Good Try.prog G12 := good_cons (sat1 (g := fun a => .sbool (finF a)) g11 mixed Try.func45 Try.call45 100 (fun a => .sbool (cond (fleB .f32 4286578687 a) (fleB .f32 a 2139095039) false)) (fun a => by kernel_rfl) (fun a ha ρ u h => by show V ρ (.sbool (finF a)) u; rw [← fin_between ha]; exact h)) g11

/-- math.Float64bits -/
noncomputable def G13 : List (Nat × Ctr) := (79, extC .f64bits) :: G12
theorem g13 : Ab.Good Try.prog G13 := good_cons (sat_ext .f64bits Try.func79 (by kernel_rfl) (by kernel_rfl) (by kernel_rfl) (by kernel_rfl)) g12

/-- math.Signbit -/
noncomputable def G14 : List (Nat × Ctr) := (78, inl Try.prog G13 100 Try.f78) :: G13
theorem g14 : Ab.Good Try.prog G14 := good_cons (inl_sat g13 mixed Try.func78 Try.call78 100) g13

/-- impl.IsAmount -/
noncomputable def G15 : List (Nat × Ctr) := (72, ctr1 fun a => .sbool (amtF a)) :: G14
theorem g15 : Ab.Good Try.prog G15 := good_cons (sat1 (g := fun a => .sbool (amtF a)) g14 mixed Try.func72 Try.call72 100 (fun a => .cbool (cond (finF a) (!nanB .f64 (wide a) && true) true) (cond (finF a) (!decide (IntKind.i64.wrap (Int.ofNat (wide a)) < 0)) false)) (fun a => by kernel_rfl) (fun a ha ρ u h => by show V ρ (.sbool (amtF a)) u; rw [← wide_neg ha]; exact cbool_say wide_nan h)) g14

/-- impl.isKilos -/
noncomputable def G16 : List (Nat × Ctr) := (70, ctr1 fun a => .sbool (kilF a)) :: G15
theorem g16 : Ab.Good Try.prog G16 := good_cons (sat1 (g := fun a => .sbool (kilF a)) g15 mixed Try.func70 Try.call70 100 (fun a => .sbool (cond (amtF a) (fleB .f32 a 1092616192) false)) (fun a => by kernel_rfl) (fun a ha ρ u h => by show V ρ (.sbool (kilF a)) u; rw [← kil_impl a]; exact h)) g15

/-- impl.isBetween -/
noncomputable def G17 : List (Nat × Ctr) := (71, inl Try.prog G16 100 Try.f71) :: G16
theorem g17 : Ab.Good Try.prog G17 := good_cons (inl_sat g16 mixed Try.func71 Try.call71 100) g16

/-- impl.ValidWood -/
noncomputable def G18 : List (Nat × Ctr) := (44, ctrW fun ns => .sbool (vOp ns)) :: G17
theorem g18 : Ab.Good Try.prog G18 := good_cons (satW (g := fun ns => .sbool (vOp ns)) g17 mixed Try.func44 Try.call44 100 (fun ns => .sbool (validI ns)) (fun ns hl => by obtain ⟨a0, a1, a2, a3, a4, a5, b0, b1, b2, b3, b4, b5, c0, c1, c2, c3, c4, c5, rfl⟩ := len18 hl; kernel_rfl) (fun ns _ ρ u h => by show V ρ (.sbool (vOp ns)) u; rw [vOp_eq]; exact h)) g17

/-- impl.IsShare -/
noncomputable def G19 : List (Nat × Ctr) := (46, ctr1 fun a => .sbool (shO a)) :: G18
theorem g19 : Ab.Good Try.prog G19 := good_cons (sat1 (g := fun a => .sbool (shO a)) g18 mixed Try.func46 Try.call46 100 (fun a => .sbool (shI a)) (fun a => by kernel_rfl) (fun a ha ρ u h => by show V ρ (.sbool (shO a)) u; rw [shO_eq]; exact h)) g18

/-- impl.heatFlows -/
noncomputable def G20 : List (Nat × Ctr) := (73, inl Try.prog G19 100 Try.f73) :: G19
theorem g20 : Ab.Good Try.prog G20 := good_cons (inl_sat g19 mixed Try.func73 Try.call73 100) g19

/-- impl.massOf -/
noncomputable def G21 : List (Nat × Ctr) := (74, inl Try.prog G20 100 Try.f74) :: G20
theorem g21 : Ab.Good Try.prog G21 := good_cons (inl_sat g20 mixed Try.func74 Try.call74 100) g20

/-- impl.held -/
noncomputable def G22 : List (Nat × Ctr) := (75, ctr3 fun a b c => .flt .f32 (hO a b c)) :: G21
theorem g22 : Ab.Good Try.prog G22 := good_cons (sat3 (g := fun a b c => .flt .f32 (hO a b c)) g21 mixed Try.func75 Try.call75 100 (fun a b c => .flt .f32 (heldI a b c)) (fun a b c => by kernel_rfl) (fun a b c _ _ _ ρ u h => by show V ρ (.flt .f32 (hO a b c)) u; rw [hO_eq]; exact h)) g21

/-- impl.warmed -/
noncomputable def G23 : List (Nat × Ctr) := (47, inl Try.prog G22 100 Try.f47) :: G22
theorem g23 : Ab.Good Try.prog G23 := good_cons (inl_sat g22 mixed Try.func47 Try.call47 100) g22

/-- impl.WarmStep -/
noncomputable def G24 : List (Nat × Ctr) := (14, inl Try.prog G23 100 Try.f14) :: G23
theorem g24 : Ab.Good Try.prog G24 := good_cons (inl_sat g23 mixed Try.func14 Try.call14 100) g23

/-- laws.sameFloat -/
noncomputable def G25 : List (Nat × Ctr) := (16, ctrD2 fun a b => .sbool (sO a b)) :: G24
theorem g25 : Ab.Good Try.prog G25 := good_cons (satD2 (g := fun a b => .sbool (sO a b)) g24 mixed Try.func16 Try.call16 100 (fun a b => .sbool (same64 a b)) (fun a b => by kernel_rfl) (fun a b _ _ ρ u h => by show V ρ (.sbool (sO a b)) u; rw [sO_eq]; exact h)) g24

/-- laws.eqFloat32A6 -/
noncomputable def G26 : List (Nat × Ctr) := (48, inl Try.prog G25 100 Try.f48) :: G25
theorem g26 : Ab.Good Try.prog G26 := good_cons (inl_sat g25 mixed Try.func48 Try.call48 100) g25

/-- laws.eqWood -/
noncomputable def G27 : List (Nat × Ctr) := (15, inl Try.prog G26 100 Try.f15) :: G26
theorem g27 : Ab.Good Try.prog G27 := good_cons (inl_sat g26 mixed Try.func15 Try.call15 100) g26

/-- spec.l01Less -/
noncomputable def G28 : List (Nat × Ctr) := (76, inl Try.prog G27 100 Try.f76) :: G27
theorem g28 : Ab.Good Try.prog G28 := good_cons (inl_sat g27 mixed Try.func76 Try.call76 100) g27

/-- spec.l01Dry -/
noncomputable def G29 : List (Nat × Ctr) := (49, inl Try.prog G28 100 Try.f49) :: G28
theorem g29 : Ab.Good Try.prog G29 := good_cons (inl_sat g28 mixed Try.func49 Try.call49 100) g28

/-- spec.DryStep -/
noncomputable def G30 : List (Nat × Ctr) := (17, inl Try.prog G29 100 Try.f17) :: G29
theorem g30 : Ab.Good Try.prog G30 := good_cons (inl_sat g29 mixed Try.func17 Try.call17 100) g29

/-- impl.dried -/
noncomputable def G31 : List (Nat × Ctr) := (50, inl Try.prog G30 100 Try.f50) :: G30
theorem g31 : Ab.Good Try.prog G31 := good_cons (inl_sat g30 mixed Try.func50 Try.call50 100) g30

/-- impl.DryStep -/
noncomputable def G32 : List (Nat × Ctr) := (18, inl Try.prog G31 100 Try.f18) :: G31
theorem g32 : Ab.Good Try.prog G32 := good_cons (inl_sat g31 mixed Try.func18 Try.call18 100) g31

/-- spec.l01Share -/
noncomputable def G33 : List (Nat × Ctr) := (51, ctr1 fun a => .sbool (shO a)) :: G32
theorem g33 : Ab.Good Try.prog G33 := good_cons (sat1 (g := fun a => .sbool (shO a)) g32 mixed Try.func51 Try.call51 100 (fun a => .sbool (shI a)) (fun a => by kernel_rfl) (fun a ha ρ u h => by show V ρ (.sbool (shO a)) u; rw [shO_eq]; exact h)) g32

/-- spec.l01Burn -/
noncomputable def G34 : List (Nat × Ctr) := (52, inl Try.prog G33 100 Try.f52) :: G33
theorem g34 : Ab.Good Try.prog G34 := good_cons (inl_sat g33 mixed Try.func52 Try.call52 100) g33

/-- spec.BurnStep -/
noncomputable def G35 : List (Nat × Ctr) := (19, inl Try.prog G34 100 Try.f19) :: G34
theorem g35 : Ab.Good Try.prog G35 := good_cons (inl_sat g34 mixed Try.func19 Try.call19 100) g34

/-- impl.isDry -/
noncomputable def G36 : List (Nat × Ctr) := (62, inl Try.prog G35 100 Try.f62) :: G35
theorem g36 : Ab.Good Try.prog G36 := good_cons (inl_sat g35 mixed Try.func62 Try.call62 100) g35

/-- impl.burnt -/
noncomputable def G37 : List (Nat × Ctr) := (53, inl Try.prog G36 100 Try.f53) :: G36
theorem g37 : Ab.Good Try.prog G37 := good_cons (inl_sat g36 mixed Try.func53 Try.call53 100) g36

/-- impl.BurnStep -/
noncomputable def G38 : List (Nat × Ctr) := (20, inl Try.prog G37 100 Try.f20) :: G37
theorem g38 : Ab.Good Try.prog G38 := good_cons (inl_sat g37 mixed Try.func20 Try.call20 100) g37

/-- spec.l01Given -/
noncomputable def G39 : List (Nat × Ctr) := (54, inl Try.prog G38 100 Try.f54) :: G38
theorem g39 : Ab.Good Try.prog G39 := good_cons (inl_sat g38 mixed Try.func54 Try.call54 100) g38

/-- spec.l01Step -/
noncomputable def G40 : List (Nat × Ctr) := (55, inl Try.prog G39 100 Try.f55) :: G39
theorem g40 : Ab.Good Try.prog G40 := good_cons (inl_sat g39 mixed Try.func55 Try.call55 100) g39

/-- spec.LogStep -/
noncomputable def G41 : List (Nat × Ctr) := (21, inl Try.prog G40 100 Try.f21) :: G40
theorem g41 : Ab.Good Try.prog G41 := good_cons (inl_sat g40 mixed Try.func21 Try.call21 100) g40

/-- impl.checkStep -/
noncomputable def G42 : List (Nat × Ctr) := (56, inl Try.prog G41 100 Try.f56) :: G41
theorem g42 : Ab.Good Try.prog G42 := good_cons (inl_sat g41 mixed Try.func56 Try.call56 100) g41

/-- impl.stepped -/
noncomputable def G43 : List (Nat × Ctr) := (57, inl Try.prog G42 100 Try.f57) :: G42
theorem g43 : Ab.Good Try.prog G43 := good_cons (inl_sat g42 mixed Try.func57 Try.call57 100) g42

/-- impl.LogStep -/
noncomputable def G44 : List (Nat × Ctr) := (22, inl Try.prog G43 100 Try.f22) :: G43
theorem g44 : Ab.Good Try.prog G44 := good_cons (inl_sat g43 mixed Try.func22 Try.call22 100) g43

noncomputable def GG : List (Nat × Ctr) := G44
theorem gg : Ab.Good Try.prog GG := g44

end Go.Proofs.Ytiebaggemiifoab.ab
