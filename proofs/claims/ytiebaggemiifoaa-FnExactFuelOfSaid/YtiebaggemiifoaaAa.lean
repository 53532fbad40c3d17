import Derived.Test.YtiebaggemiifoaaAbF5
import Derived.Test.YtiebaggemiifoaaProg
namespace Go.Proofs.Ytiebaggemiifoaa.ab
open Go Go.Ab Go.Proofs
set_option maxRecDepth 100000
theorem mixed : Try.prog.follows .mixedOrders = true := by kernel_rfl

noncomputable def G0 : List (Nat × Ctr) := []
theorem g0 : Ab.Good Try.prog G0 := good_nil _

/-- math.Float32bits -/
noncomputable def G1 : List (Nat × Ctr) := (89, extC .f32bits) :: G0
theorem g1 : Ab.Good Try.prog G1 := good_cons (sat_ext .f32bits Try.func89 (by kernel_rfl) (by kernel_rfl) (by kernel_rfl) (by kernel_rfl)) g0

/-- spec.l01Same -/
noncomputable def G2 : List (Nat × Ctr) := (71, ctr2 fun a b => .sbool (nbF a == nbF b)) :: G1
theorem g2 : Ab.Good Try.prog G2 := good_cons (sat2 (g := fun a b => .sbool (nbF a == nbF b)) g1 mixed Try.func71 Try.call71 100 (fun a b => .cbool (cond (cond (!feqB .f32 a a) true (!feqB .f32 b b)) true (!nanB .f32 a && !nanB .f32 b)) (cond (cond (!feqB .f32 a a) true (!feqB .f32 b b)) (cond (!feqB .f32 a a) (!feqB .f32 b b) false) (Int.ofNat a == Int.ofNat b))) (fun a b => by kernel_rfl) (fun a b ha hb ρ u h => by show V ρ (.sbool (nbF a == nbF b)) u; rw [← same_spec a b]; exact cbool_say (same_cond a b) h)) g1

/-- spec.SameNumber -/
noncomputable def G3 : List (Nat × Ctr) := (33, inl Try.prog G2 100 Try.f33 []) :: G2
theorem g3 : Ab.Good Try.prog G3 := good_cons (sat_inl g2 mixed Try.func33 Try.call33 100 []) g2

/-- impl.numberBits -/
noncomputable def G4 : List (Nat × Ctr) := (72, ctr1 fun a => .sint .u32 (nbF a)) :: G3
theorem g4 : Ab.Good Try.prog G4 := good_cons (sat1 (g := fun a => .sint .u32 (nbF a)) g3 mixed Try.func72 Try.call72 100 (fun a => .cint (cond (!feqB .f32 a a) true (!nanB .f32 a)) .u32 (nbF a)) (fun a => by kernel_rfl) (fun a ha ρ u h => cint_say (nb_cond a) h)) g3

/-- impl.SameNumber -/
noncomputable def G5 : List (Nat × Ctr) := (34, inl Try.prog G4 100 Try.f34 []) :: G4
theorem g5 : Ab.Good Try.prog G5 := good_cons (sat_inl g4 mixed Try.func34 Try.call34 100 []) g4

/-- spec.l01Finite -/
noncomputable def G6 : List (Nat × Ctr) := (87, ctr1 fun a => .sbool (finF a)) :: G5
theorem g6 : Ab.Good Try.prog G6 := good_cons (sat1 (g := fun a => .sbool (finF a)) g5 mixed Try.func87 Try.call87 100 (fun a => .sbool (feqB .f32 (fop .sub .f32 a a) 0)) (fun a => by kernel_rfl) (fun a ha ρ u h => by show V ρ (.sbool (finF a)) u; rw [← fin_sub a]; exact h)) g5

/-- spec.l01Amount -/
noncomputable def G7 : List (Nat × Ctr) := (73, ctr1 fun a => .sbool (amtF a)) :: G6
theorem g7 : Ab.Good Try.prog G7 := good_cons (sat1 (g := fun a => .sbool (amtF a)) g6 mixed Try.func73 Try.call73 100 (fun a => .cbool (cond (finF a) (cond (fltB .f32 0 a) true (!nanB .f32 a && true)) true) (cond (finF a) (cond (fltB .f32 0 a) true (Int.ofNat a == 0)) false)) (fun a => by kernel_rfl) (fun a ha ρ u h => by show V ρ (.sbool (amtF a)) u; rw [← amt_spec ha]; exact cbool_say (amt_cond a) h)) g6

/-- spec.IsAmount -/
noncomputable def G8 : List (Nat × Ctr) := (35, inl Try.prog G7 100 Try.f35 []) :: G7
theorem g8 : Ab.Good Try.prog G8 := good_cons (sat_inl g7 mixed Try.func35 Try.call35 100 []) g7

/-- impl.isFinite -/
noncomputable def G9 : List (Nat × Ctr) := (74, ctr1 fun a => .sbool (finF a)) :: G8
theorem g9 : Ab.Good Try.prog G9 := good_cons (sat1 (g := fun a => .sbool (finF a)) g8 mixed Try.func74 Try.call74 100 (fun a => .sbool (cond (fleB .f32 4286578687 a) (fleB .f32 a 2139095039) false)) (fun a => by kernel_rfl) (fun a ha ρ u h => by show V ρ (.sbool (finF a)) u; rw [← fin_between ha]; exact h)) g8

/-- math.Float64bits -/
noncomputable def G10 : List (Nat × Ctr) := (90, extC .f64bits) :: G9
theorem g10 : Ab.Good Try.prog G10 := good_cons (sat_ext .f64bits Try.func90 (by kernel_rfl) (by kernel_rfl) (by kernel_rfl) (by kernel_rfl)) g9

/-- math.Signbit -/
noncomputable def G11 : List (Nat × Ctr) := (75, inl Try.prog G10 100 Try.f75 []) :: G10
theorem g11 : Ab.Good Try.prog G11 := good_cons (sat_inl g10 mixed Try.func75 Try.call75 100 []) g10

/-- impl.IsAmount -/
noncomputable def G12 : List (Nat × Ctr) := (36, ctr1 fun a => .sbool (amtF a)) :: G11
theorem g12 : Ab.Good Try.prog G12 := good_cons (sat1 (g := fun a => .sbool (amtF a)) g11 mixed Try.func36 Try.call36 100 (fun a => .cbool (cond (finF a) (!nanB .f64 (wide a) && true) true) (cond (finF a) (!decide (IntKind.i64.wrap (Int.ofNat (wide a)) < 0)) false)) (fun a => by kernel_rfl) (fun a ha ρ u h => by show V ρ (.sbool (amtF a)) u; rw [← wide_neg ha]; exact cbool_say wide_nan h)) g11

/-- spec.l01Share -/
noncomputable def G13 : List (Nat × Ctr) := (57, inl Try.prog G12 100 Try.f57 []) :: G12
theorem g13 : Ab.Good Try.prog G13 := good_cons (sat_inl g12 mixed Try.func57 Try.call57 100 []) g12

/-- spec.IsShare -/
noncomputable def G14 : List (Nat × Ctr) := (37, inl Try.prog G13 100 Try.f37 []) :: G13
theorem g14 : Ab.Good Try.prog G14 := good_cons (sat_inl g13 mixed Try.func37 Try.call37 100 []) g13

/-- impl.IsShare -/
noncomputable def G15 : List (Nat × Ctr) := (38, inl Try.prog G14 100 Try.f38 []) :: G14
theorem g15 : Ab.Good Try.prog G15 := good_cons (sat_inl g14 mixed Try.func38 Try.call38 100 []) g14

/-- impl.isKilos -/
noncomputable def G16 : List (Nat × Ctr) := (60, ctr1 fun a => .sbool (kilF a)) :: G15
theorem g16 : Ab.Good Try.prog G16 := good_cons (sat1 (g := fun a => .sbool (kilF a)) g15 mixed Try.func60 Try.call60 100 (fun a => .sbool (cond (amtF a) (fleB .f32 a 1092616192) false)) (fun a => by kernel_rfl) (fun a ha ρ u h => by show V ρ (.sbool (kilF a)) u; rw [← kil_impl a]; exact h)) g15

/-- impl.isBetween -/
noncomputable def G17 : List (Nat × Ctr) := (61, inl Try.prog G16 100 Try.f61 []) :: G16
theorem g17 : Ab.Good Try.prog G17 := good_cons (sat_inl g16 mixed Try.func61 Try.call61 100 []) g16

/-- impl.ValidWood -/
noncomputable def G18 : List (Nat × Ctr) := (22, ctrW fun ns => .sbool (vOp ns)) :: G17
theorem g18 : Ab.Good Try.prog G18 := good_cons (satW (g := fun ns => .sbool (vOp ns)) g17 mixed Try.func22 Try.call22 100 (fun ns => .sbool (validI ns)) (fun ns hl => by obtain ⟨a0, a1, a2, a3, a4, a5, b0, b1, b2, b3, b4, b5, c0, c1, c2, c3, c4, c5, rfl⟩ := len18 hl; kernel_rfl) (fun ns _ ρ u h => by show V ρ (.sbool (vOp ns)) u; rw [vOp_eq]; exact h)) g17

/-- spec.l01Ok -/
noncomputable def G19 : List (Nat × Ctr) := (53, ctrWp fun ns => .sbool (vOp ns)) :: G18
theorem g19 : Ab.Good Try.prog G19 := good_cons (satWp (g := fun ns => .sbool (vOp ns)) g18 mixed Try.func53 Try.call53 100 (fun ns => .sbool (validS ns)) (fun ns hl => by obtain ⟨a0, a1, a2, a3, a4, a5, b0, b1, b2, b3, b4, b5, c0, c1, c2, c3, c4, c5, rfl⟩ := len18 hl; kernel_rfl) (fun ns _ ρ u h => by show V ρ (.sbool (vOp ns)) u; rw [vOp_eq, ← validS_eq]; exact h)) g18

/-- spec.ValidWood -/
noncomputable def G20 : List (Nat × Ctr) := (39, inl Try.prog G19 100 Try.f39 []) :: G19
theorem g20 : Ab.Good Try.prog G20 := good_cons (sat_inl g19 mixed Try.func39 Try.call39 100 []) g19

/-- laws.toFloat32A6 -/
noncomputable def G21 : List (Nat × Ctr) := (76, inl Try.prog G20 100 Try.f76 []) :: G20
theorem g21 : Ab.Good Try.prog G21 := good_cons (sat_inl g20 mixed Try.func76 Try.call76 100 []) g20

/-- laws.toWood -/
noncomputable def G22 : List (Nat × Ctr) := (40, inl Try.prog G21 100 Try.f40 []) :: G21
theorem g22 : Ab.Good Try.prog G22 := good_cons (sat_inl g21 mixed Try.func40 Try.call40 100 []) g21

/-- spec.l01SameRow -/
noncomputable def G23 : List (Nat × Ctr) := (85, inl Try.prog G22 100 Try.f85 []) :: G22
theorem g23 : Ab.Good Try.prog G23 := good_cons (sat_inl g22 mixed Try.func85 Try.call85 100 []) g22

/-- spec.l01SameWood -/
noncomputable def G24 : List (Nat × Ctr) := (59, inl Try.prog G23 100 Try.f59 [18, 18]) :: G23
theorem g24 : Ab.Good Try.prog G24 := good_cons (sat_inl g23 mixed Try.func59 Try.call59 100 [18, 18]) g23

/-- spec.SameWood -/
noncomputable def G25 : List (Nat × Ctr) := (21, inl Try.prog G24 100 Try.f21 []) :: G24
theorem g25 : Ab.Good Try.prog G25 := good_cons (sat_inl g24 mixed Try.func21 Try.call21 100 []) g24

/-- impl.rowBits -/
noncomputable def G26 : List (Nat × Ctr) := (77, inl Try.prog G25 100 Try.f77 []) :: G25
theorem g26 : Ab.Good Try.prog G26 := good_cons (sat_inl g25 mixed Try.func77 Try.call77 100 []) g25

/-- impl.SameWood -/
noncomputable def G27 : List (Nat × Ctr) := (41, inl Try.prog G26 100 Try.f41 []) :: G26
theorem g27 : Ab.Good Try.prog G27 := good_cons (sat_inl g26 mixed Try.func41 Try.call41 100 []) g26

/-- spec.l01Make -/
noncomputable def G28 : List (Nat × Ctr) := (78, inl Try.prog G27 100 Try.f78 []) :: G27
theorem g28 : Ab.Good Try.prog G28 := good_cons (sat_inl g27 mixed Try.func78 Try.call78 100 []) g27

/-- spec.MakeWood -/
noncomputable def G29 : List (Nat × Ctr) := (42, inl Try.prog G28 100 Try.f42 []) :: G28
theorem g29 : Ab.Good Try.prog G29 := good_cons (sat_inl g28 mixed Try.func42 Try.call42 100 []) g28

/-- impl.MakeWood -/
noncomputable def G30 : List (Nat × Ctr) := (43, inl Try.prog G29 100 Try.f43 []) :: G29
theorem g30 : Ab.Good Try.prog G30 := good_cons (sat_inl g29 mixed Try.func43 Try.call43 100 []) g29

/-- laws.sameFloat -/
noncomputable def G31 : List (Nat × Ctr) := (46, ctrD2 fun a b => .sbool (sO a b)) :: G30
theorem g31 : Ab.Good Try.prog G31 := good_cons (satD2 (g := fun a b => .sbool (sO a b)) g30 mixed Try.func46 Try.call46 100 (fun a b => .sbool (same64 a b)) (fun a b => by kernel_rfl) (fun a b _ _ ρ u h => by show V ρ (.sbool (sO a b)) u; rw [sO_eq]; exact h)) g30

/-- laws.eqFloat32A6 -/
noncomputable def G32 : List (Nat × Ctr) := (79, inl Try.prog G31 100 Try.f79 []) :: G31
theorem g32 : Ab.Good Try.prog G32 := good_cons (sat_inl g31 mixed Try.func79 Try.call79 100 []) g31

/-- laws.eqWood -/
noncomputable def G33 : List (Nat × Ctr) := (44, inl Try.prog G32 100 Try.f44 []) :: G32
theorem g33 : Ab.Good Try.prog G33 := good_cons (sat_inl g32 mixed Try.func44 Try.call44 100 []) g32

/-- impl.rowSum -/
noncomputable def G34 : List (Nat × Ctr) := (62, inl Try.prog G33 100 Try.f62 []) :: G33
theorem g34 : Ab.Good Try.prog G34 := good_cons (sat_inl g33 mixed Try.func62 Try.call62 100 []) g33

/-- impl.WaterOf -/
noncomputable def G35 : List (Nat × Ctr) := (23, inl Try.prog G34 100 Try.f23 []) :: G34
theorem g35 : Ab.Good Try.prog G35 := good_cons (sat_inl g34 mixed Try.func23 Try.call23 100 []) g34

/-- spec.l01Sum -/
noncomputable def G36 : List (Nat × Ctr) := (69, inl Try.prog G35 100 Try.f69 [6]) :: G35
theorem g36 : Ab.Good Try.prog G36 := good_cons (sat_inl g35 mixed Try.func69 Try.call69 100 [6]) g35

/-- spec.WaterOf -/
noncomputable def G37 : List (Nat × Ctr) := (45, inl Try.prog G36 100 Try.f45 []) :: G36
theorem g37 : Ab.Good Try.prog G37 := good_cons (sat_inl g36 mixed Try.func45 Try.call45 100 []) g36

/-- impl.FuelOf -/
noncomputable def G38 : List (Nat × Ctr) := (24, inl Try.prog G37 100 Try.f24 []) :: G37
theorem g38 : Ab.Good Try.prog G38 := good_cons (sat_inl g37 mixed Try.func24 Try.call24 100 []) g37

/-- spec.FuelOf -/
noncomputable def G39 : List (Nat × Ctr) := (47, inl Try.prog G38 100 Try.f47 []) :: G38
theorem g39 : Ab.Good Try.prog G39 := good_cons (sat_inl g38 mixed Try.func47 Try.call47 100 []) g38

/-- spec.MeanHeat -/
noncomputable def G40 : List (Nat × Ctr) := (48, inl Try.prog G39 100 Try.f48 []) :: G39
theorem g40 : Ab.Good Try.prog G40 := good_cons (sat_inl g39 mixed Try.func48 Try.call48 100 []) g39

/-- impl.MeanHeat -/
noncomputable def G41 : List (Nat × Ctr) := (49, inl Try.prog G40 100 Try.f49 []) :: G40
theorem g41 : Ab.Good Try.prog G41 := good_cons (sat_inl g40 mixed Try.func49 Try.call49 100 []) g40

noncomputable def GG : List (Nat × Ctr) := G41
theorem gg : Ab.Good Try.prog GG := g41

end Go.Proofs.Ytiebaggemiifoaa.ab
