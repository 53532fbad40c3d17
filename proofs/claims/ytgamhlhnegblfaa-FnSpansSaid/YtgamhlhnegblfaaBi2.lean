import Derived.Test.YtgamhlhnegblfaaGg
import Derived.Test.YtgamhlhnegblfaaProg
namespace Go.Proofs.Ytgamhlhnegblfaa.ab
open Go Go.Ab Go.Proofs
set_option maxRecDepth 100000
theorem mixed : Try.prog.follows .mixedOrders = true := by kernel_rfl

noncomputable def G0 : List (Nat × Ctr) := []
theorem g0 : Ab.Good Try.prog G0 := good_nil _

/-- math.Float32bits -/
noncomputable def G1 : List (Nat × Ctr) := (73, extC .f32bits) :: G0
theorem g1 : Ab.Good Try.prog G1 := good_cons (sat_ext .f32bits Try.func73 (by kernel_rfl) (by kernel_rfl) (by kernel_rfl) (by kernel_rfl)) g0

/-- math.Float32frombits -/
noncomputable def G2 : List (Nat × Ctr) := (74, extC .f32from) :: G1
theorem g2 : Ab.Good Try.prog G2 := good_cons (sat_ext .f32from Try.func74 (by kernel_rfl) (by kernel_rfl) (by kernel_rfl) (by kernel_rfl)) g1

/-- spec.l05Up -/
noncomputable def G3 : List (Nat × Ctr) := (45, ctr1 fun a => .flt .f32 (upW a)) :: G2
theorem g3 : Ab.Good Try.prog G3 := good_cons (sat1N (g := fun a => .flt .f32 (upW a)) g2 mixed Try.func45 Try.call45 100 (fun a => .flt .f32 (upI a)) upN (fun a => by kernel_rfl) (fun a _ => upN_true a) (fun a _ ρ u h => by show V ρ (.flt .f32 (upW a)) u; rw [upW_eq]; exact h)) g2

/-- spec.NextUp -/
noncomputable def G4 : List (Nat × Ctr) := (15, inl Try.prog G3 100 Try.f15) :: G3
theorem g4 : Ab.Good Try.prog G4 := good_cons (inl_sat g3 mixed Try.func15 Try.call15 100) g3

/-- math.IsNaN -/
noncomputable def G5 : List (Nat × Ctr) := (75, inl Try.prog G4 100 Try.f75) :: G4
theorem g5 : Ab.Good Try.prog G5 := good_cons (inl_sat g4 mixed Try.func75 Try.call75 100) g4

/-- math.Float64frombits -/
noncomputable def G6 : List (Nat × Ctr) := (86, extC .f64from) :: G5
theorem g6 : Ab.Good Try.prog G6 := good_cons (sat_ext .f64from Try.func86 (by kernel_rfl) (by kernel_rfl) (by kernel_rfl) (by kernel_rfl)) g5

/-- math.NaN -/
noncomputable def G7 : List (Nat × Ctr) := (76, inl Try.prog G6 100 Try.f76) :: G6
theorem g7 : Ab.Good Try.prog G7 := good_cons (inl_sat g6 mixed Try.func76 Try.call76 100) g6

/-- math.Float64bits -/
noncomputable def G8 : List (Nat × Ctr) := (87, extC .f64bits) :: G7
theorem g8 : Ab.Good Try.prog G8 := good_cons (sat_ext .f64bits Try.func87 (by kernel_rfl) (by kernel_rfl) (by kernel_rfl) (by kernel_rfl)) g7

/-- math.Copysign -/
noncomputable def G9 : List (Nat × Ctr) := (77, csC) :: G8
theorem g9 : Ab.Good Try.prog G9 := good_cons (sat_cs g8 mixed Try.func77 Try.call77 100 (fun f s => cond (andN true (((!nanB .f64 f && true) && (!nanB .f64 s && true)) && Nat.ble (csI f s + 1) 18446744073709551616)) true false) (fun f s => by kernel_rfl) (fun f s h => cs_nd h)) g8

/-- math.Nextafter32 -/
noncomputable def G10 : List (Nat × Ctr) := (46, inl Try.prog G9 100 Try.f46) :: G9
theorem g10 : Ab.Good Try.prog G10 := good_cons (inl_sat g9 mixed Try.func46 Try.call46 100) g9

/-- math.Inf -/
noncomputable def G11 : List (Nat × Ctr) := (78, inl Try.prog G10 100 Try.f78) :: G10
theorem g11 : Ab.Good Try.prog G11 := good_cons (inl_sat g10 mixed Try.func78 Try.call78 100) g10

/-- impl.infinity -/
noncomputable def G12 : List (Nat × Ctr) := (47, inl Try.prog G11 100 Try.f47) :: G11
theorem g12 : Ab.Good Try.prog G12 := good_cons (inl_sat g11 mixed Try.func47 Try.call47 100) g11

/-- impl.NextUp -/
noncomputable def G13 : List (Nat × Ctr) := (16, ctr1 fun a => .flt .f32 (upW a)) :: G12
theorem g13 : Ab.Good Try.prog G13 := good_cons (sat1N (g := fun a => .flt .f32 (upW a)) g12 mixed Try.func16 Try.call16 100 (fun a => .flt .f32 (nuI a)) nuN (fun a => by kernel_rfl) (fun a _ => nuN_true a) (fun a hw ρ u h => nu_up hw h)) g12

/-- laws.sameFloat -/
noncomputable def G14 : List (Nat × Ctr) := (17, ctrD2 fun a b => .sbool (sO a b)) :: G13
theorem g14 : Ab.Good Try.prog G14 := good_cons (satD2 (g := fun a b => .sbool (sO a b)) g13 mixed Try.func17 Try.call17 100 (fun a b => .sbool (same64 a b)) (fun a b => by kernel_rfl) (fun a b _ _ ρ u h => by show V ρ (.sbool (sO a b)) u; rw [sO_eq]; exact h)) g13

/-- spec.l05Down -/
noncomputable def G15 : List (Nat × Ctr) := (48, inl Try.prog G14 100 Try.f48) :: G14
theorem g15 : Ab.Good Try.prog G15 := good_cons (inl_sat g14 mixed Try.func48 Try.call48 100) g14

/-- spec.NextDown -/
noncomputable def G16 : List (Nat × Ctr) := (18, inl Try.prog G15 100 Try.f18) :: G15
theorem g16 : Ab.Good Try.prog G16 := good_cons (inl_sat g15 mixed Try.func18 Try.call18 100) g15

/-- impl.NextDown -/
noncomputable def G17 : List (Nat × Ctr) := (19, inl Try.prog G16 100 Try.f19) :: G16
theorem g17 : Ab.Good Try.prog G17 := good_cons (inl_sat g16 mixed Try.func19 Try.call19 100) g16

/-- spec.l05Ok -/
noncomputable def G18 : List (Nat × Ctr) := (49, inl Try.prog G17 100 Try.f49) :: G17
theorem g18 : Ab.Good Try.prog G18 := good_cons (inl_sat g17 mixed Try.func49 Try.call49 100) g17

/-- spec.ValidSpan -/
noncomputable def G19 : List (Nat × Ctr) := (20, inl Try.prog G18 100 Try.f20) :: G18
theorem g19 : Ab.Good Try.prog G19 := good_cons (inl_sat g18 mixed Try.func20 Try.call20 100) g18

/-- laws.toSpan -/
noncomputable def G20 : List (Nat × Ctr) := (21, inl Try.prog G19 100 Try.f21) :: G19
theorem g20 : Ab.Good Try.prog G20 := good_cons (inl_sat g19 mixed Try.func21 Try.call21 100) g19

/-- impl.ValidSpan -/
noncomputable def G21 : List (Nat × Ctr) := (22, inl Try.prog G20 100 Try.f22) :: G20
theorem g21 : Ab.Good Try.prog G21 := good_cons (inl_sat g20 mixed Try.func22 Try.call22 100) g20

/-- spec.l05In -/
noncomputable def G22 : List (Nat × Ctr) := (50, inl Try.prog G21 100 Try.f50) :: G21
theorem g22 : Ab.Good Try.prog G22 := good_cons (inl_sat g21 mixed Try.func50 Try.call50 100) g21

/-- spec.InSpan -/
noncomputable def G23 : List (Nat × Ctr) := (23, inl Try.prog G22 100 Try.f23) :: G22
theorem g23 : Ab.Good Try.prog G23 := good_cons (inl_sat g22 mixed Try.func23 Try.call23 100) g22

/-- impl.isBetween -/
noncomputable def G24 : List (Nat × Ctr) := (51, inl Try.prog G23 100 Try.f51) :: G23
theorem g24 : Ab.Good Try.prog G24 := good_cons (inl_sat g23 mixed Try.func51 Try.call51 100) g23

/-- impl.InSpan -/
noncomputable def G25 : List (Nat × Ctr) := (24, inl Try.prog G24 100 Try.f24) :: G24
theorem g25 : Ab.Good Try.prog G25 := good_cons (inl_sat g24 mixed Try.func24 Try.call24 100) g24

/-- spec.l05Two -/
noncomputable def G26 : List (Nat × Ctr) := (52, inl Try.prog G25 100 Try.f52) :: G25
theorem g26 : Ab.Good Try.prog G26 := good_cons (inl_sat g25 mixed Try.func52 Try.call52 100) g25

/-- spec.l05Low -/
noncomputable def G27 : List (Nat × Ctr) := (79, inl Try.prog G26 100 Try.f79) :: G26
theorem g27 : Ab.Good Try.prog G27 := good_cons (inl_sat g26 mixed Try.func79 Try.call79 100) g26

/-- spec.l05High -/
noncomputable def G28 : List (Nat × Ctr) := (80, inl Try.prog G27 100 Try.f80) :: G27
theorem g28 : Ab.Good Try.prog G28 := good_cons (inl_sat g27 mixed Try.func80 Try.call80 100) g27

/-- spec.l05Add -/
noncomputable def G29 : List (Nat × Ctr) := (53, inl Try.prog G28 100 Try.f53) :: G28
theorem g29 : Ab.Good Try.prog G29 := good_cons (inl_sat g28 mixed Try.func53 Try.call53 100) g28

/-- spec.AddSpans -/
noncomputable def G30 : List (Nat × Ctr) := (25, inl Try.prog G29 100 Try.f25) :: G29
theorem g30 : Ab.Good Try.prog G30 := good_cons (inl_sat g29 mixed Try.func25 Try.call25 100) g29

/-- impl.outward -/
noncomputable def G31 : List (Nat × Ctr) := (81, inl Try.prog G30 100 Try.f81) :: G30
theorem g31 : Ab.Good Try.prog G31 := good_cons (inl_sat g30 mixed Try.func81 Try.call81 100) g30

/-- (impl.Span).plus -/
noncomputable def G32 : List (Nat × Ctr) := (55, inl Try.prog G31 100 Try.f55) :: G31
theorem g32 : Ab.Good Try.prog G32 := good_cons (inl_sat g31 mixed Try.func55 Try.call55 100) g31

/-- (impl.Span).minus -/
noncomputable def G33 : List (Nat × Ctr) := (57, inl Try.prog G32 100 Try.f57) :: G32
theorem g33 : Ab.Good Try.prog G33 := good_cons (inl_sat g32 mixed Try.func57 Try.call57 100) g32

/-- impl.lesser[float32] -/
noncomputable def G34 : List (Nat × Ctr) := (82, inl Try.prog G33 100 Try.f82) :: G33
theorem g34 : Ab.Good Try.prog G34 := good_cons (inl_sat g33 mixed Try.func82 Try.call82 100) g33

/-- impl.greater[float32] -/
noncomputable def G35 : List (Nat × Ctr) := (83, inl Try.prog G34 100 Try.f83) :: G34
theorem g35 : Ab.Good Try.prog G35 := good_cons (inl_sat g34 mixed Try.func83 Try.call83 100) g34

/-- (impl.Span).times -/
noncomputable def G36 : List (Nat × Ctr) := (59, inl Try.prog G35 100 Try.f59) :: G35
theorem g36 : Ab.Good Try.prog G36 := good_cons (inl_sat g35 mixed Try.func59 Try.call59 100) g35

/-- (impl.Span).meet -/
noncomputable def G37 : List (Nat × Ctr) := (62, inl Try.prog G36 100 Try.f62) :: G36
theorem g37 : Ab.Good Try.prog G37 := good_cons (inl_sat g36 mixed Try.func62 Try.call62 100) g36

/-- (impl.Span).join -/
noncomputable def G38 : List (Nat × Ctr) := (64, inl Try.prog G37 100 Try.f64) :: G37
theorem g38 : Ab.Good Try.prog G38 := good_cons (inl_sat g37 mixed Try.func64 Try.call64 100) g37

/-- (impl.Span).less -/
noncomputable def G39 : List (Nat × Ctr) := (66, inl Try.prog G38 100 Try.f66) :: G38
theorem g39 : Ab.Good Try.prog G39 := good_cons (inl_sat g38 mixed Try.func66 Try.call66 100) g38

/-- impl.ofSpans -/
noncomputable def G40 : List (Nat × Ctr) := (54, inl Try.prog G39 100 Try.f54) :: G39
theorem g40 : Ab.Good Try.prog G40 := good_cons (inl_sat g39 mixed Try.func54 Try.call54 100) g39

/-- impl.AddSpans -/
noncomputable def G41 : List (Nat × Ctr) := (26, inl Try.prog G40 100 Try.f26) :: G40
theorem g41 : Ab.Good Try.prog G41 := good_cons (inl_sat g40 mixed Try.func26 Try.call26 100) g40

/-- laws.eqSpan -/
noncomputable def G42 : List (Nat × Ctr) := (27, inl Try.prog G41 100 Try.f27) :: G41
theorem g42 : Ab.Good Try.prog G42 := good_cons (inl_sat g41 mixed Try.func27 Try.call27 100) g41

/-- spec.l05Sub -/
noncomputable def G43 : List (Nat × Ctr) := (56, inl Try.prog G42 100 Try.f56) :: G42
theorem g43 : Ab.Good Try.prog G43 := good_cons (inl_sat g42 mixed Try.func56 Try.call56 100) g42

/-- spec.SubSpans -/
noncomputable def G44 : List (Nat × Ctr) := (28, inl Try.prog G43 100 Try.f28) :: G43
theorem g44 : Ab.Good Try.prog G44 := good_cons (inl_sat g43 mixed Try.func28 Try.call28 100) g43

/-- impl.SubSpans -/
noncomputable def G45 : List (Nat × Ctr) := (29, inl Try.prog G44 100 Try.f29) :: G44
theorem g45 : Ab.Good Try.prog G45 := good_cons (inl_sat g44 mixed Try.func29 Try.call29 100) g44

/-- spec.l05Mul -/
noncomputable def G46 : List (Nat × Ctr) := (58, inl Try.prog G45 100 Try.f58) :: G45
theorem g46 : Ab.Good Try.prog G46 := good_cons (inl_sat g45 mixed Try.func58 Try.call58 100) g45

/-- spec.MulSpans -/
noncomputable def G47 : List (Nat × Ctr) := (30, inl Try.prog G46 100 Try.f30) :: G46
theorem g47 : Ab.Good Try.prog G47 := good_cons (inl_sat g46 mixed Try.func30 Try.call30 100) g46

/-- impl.MulSpans -/
noncomputable def G48 : List (Nat × Ctr) := (31, inl Try.prog G47 100 Try.f31) :: G47
theorem g48 : Ab.Good Try.prog G48 := good_cons (inl_sat g47 mixed Try.func31 Try.call31 100) g47

/-- spec.l05Greater -/
noncomputable def G49 : List (Nat × Ctr) := (60, inl Try.prog G48 100 Try.f60) :: G48
theorem g49 : Ab.Good Try.prog G49 := good_cons (inl_sat g48 mixed Try.func60 Try.call60 100) g48

/-- spec.l01Less -/
noncomputable def G50 : List (Nat × Ctr) := (61, inl Try.prog G49 100 Try.f61) :: G49
theorem g50 : Ab.Good Try.prog G50 := good_cons (inl_sat g49 mixed Try.func61 Try.call61 100) g49

/-- spec.MeetSpans -/
noncomputable def G51 : List (Nat × Ctr) := (32, inl Try.prog G50 100 Try.f32) :: G50
theorem g51 : Ab.Good Try.prog G51 := good_cons (inl_sat g50 mixed Try.func32 Try.call32 100) g50

/-- impl.MeetSpans -/
noncomputable def G52 : List (Nat × Ctr) := (33, inl Try.prog G51 100 Try.f33) :: G51
theorem g52 : Ab.Good Try.prog G52 := good_cons (inl_sat g51 mixed Try.func33 Try.call33 100) g51

/-- spec.l05Join -/
noncomputable def G53 : List (Nat × Ctr) := (63, inl Try.prog G52 100 Try.f63) :: G52
theorem g53 : Ab.Good Try.prog G53 := good_cons (inl_sat g52 mixed Try.func63 Try.call63 100) g52

/-- spec.JoinSpans -/
noncomputable def G54 : List (Nat × Ctr) := (34, inl Try.prog G53 100 Try.f34) :: G53
theorem g54 : Ab.Good Try.prog G54 := good_cons (inl_sat g53 mixed Try.func34 Try.call34 100) g53

/-- impl.JoinSpans -/
noncomputable def G55 : List (Nat × Ctr) := (35, inl Try.prog G54 100 Try.f35) :: G54
theorem g55 : Ab.Good Try.prog G55 := good_cons (inl_sat g54 mixed Try.func35 Try.call35 100) g54

/-- spec.l05Less -/
noncomputable def G56 : List (Nat × Ctr) := (65, inl Try.prog G55 100 Try.f65) :: G55
theorem g56 : Ab.Good Try.prog G56 := good_cons (inl_sat g55 mixed Try.func65 Try.call65 100) g55

/-- spec.LessSpans -/
noncomputable def G57 : List (Nat × Ctr) := (36, inl Try.prog G56 100 Try.f36) :: G56
theorem g57 : Ab.Good Try.prog G57 := good_cons (inl_sat g56 mixed Try.func36 Try.call36 100) g56

/-- impl.LessSpans -/
noncomputable def G58 : List (Nat × Ctr) := (37, inl Try.prog G57 100 Try.f37) :: G57
theorem g58 : Ab.Good Try.prog G58 := good_cons (inl_sat g57 mixed Try.func37 Try.call37 100) g57

/-- spec.l01Finite -/
noncomputable def G59 : List (Nat × Ctr) := (67, ctr1 fun a => .sbool (finF a)) :: G58
theorem g59 : Ab.Good Try.prog G59 := good_cons (sat1 (g := fun a => .sbool (finF a)) g58 mixed Try.func67 Try.call67 100 (fun a => .sbool (feqB .f32 (fop .sub .f32 a a) 0)) (fun a => by kernel_rfl) (fun a ha ρ u h => by show V ρ (.sbool (finF a)) u; rw [← fin_sub a]; exact h)) g58

/-- spec.WidthOf -/
noncomputable def G60 : List (Nat × Ctr) := (38, inl Try.prog G59 100 Try.f38) :: G59
theorem g60 : Ab.Good Try.prog G60 := good_cons (inl_sat g59 mixed Try.func38 Try.call38 100) g59

/-- impl.isFinite -/
noncomputable def G61 : List (Nat × Ctr) := (68, ctr1 fun a => .sbool (finF a)) :: G60
theorem g61 : Ab.Good Try.prog G61 := good_cons (sat1 (g := fun a => .sbool (finF a)) g60 mixed Try.func68 Try.call68 100 (fun a => .sbool (cond (fleB .f32 4286578687 a) (fleB .f32 a 2139095039) false)) (fun a => by kernel_rfl) (fun a ha ρ u h => by show V ρ (.sbool (finF a)) u; rw [← fin_between ha]; exact h)) g60

/-- impl.WidthOf -/
noncomputable def G62 : List (Nat × Ctr) := (39, inl Try.prog G61 100 Try.f39) :: G61
theorem g62 : Ab.Good Try.prog G62 := good_cons (inl_sat g61 mixed Try.func39 Try.call39 100) g61

noncomputable def GG : List (Nat × Ctr) := G62
theorem gg : Ab.Good Try.prog GG := g62

end Go.Proofs.Ytgamhlhnegblfaa.ab
