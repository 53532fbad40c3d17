import Derived.Test.YtbblhkjkokbheaaGh
import Derived.Test.YtbblhkjkokbheaaGf
import Derived.Test.YtbblhkjkokbheaaProg
namespace Go.Proofs.Ytbblhkjkokbheaa.abm
open Go Go.Ab Go.Proofs
set_option maxRecDepth 1000000
set_option linter.unusedVariables false
theorem mixed : Try.prog.follows .mixedOrders = true := by kernel_rfl

noncomputable def G0 : List (Nat × Ctr) := []
theorem g0 : Ab.Good Try.prog G0 := good_nil _

/-- spec.l00In -/
noncomputable def G1 : List (Nat × Ctr) := (60, inl Try.prog G0 100 Try.f60) :: G0
theorem g1 : Ab.Good Try.prog G1 := good_cons (inl_sat g0 mixed Try.func60 Try.call60 100) g0

/-- spec.l01Finite -/
noncomputable def G2 : List (Nat × Ctr) := (116, ctr1 fun a => .sbool (finF a)) :: G1
theorem g2 : Ab.Good Try.prog G2 := good_cons (sat1 (g := fun a => .sbool (finF a)) g1 mixed Try.func116 Try.call116 100 (fun a => .sbool (feqB .f32 (fop .sub .f32 a a) 0)) (fun a => by kernel_rfl) (fun a ha ρ u h => by show V ρ (.sbool (finF a)) u; rw [← fin_sub a]; exact h)) g1

/-- math.Float32bits -/
noncomputable def G3 : List (Nat × Ctr) := (176, extC .f32bits) :: G2
theorem g3 : Ab.Good Try.prog G3 := good_cons (sat_ext .f32bits Try.func176 (by kernel_rfl) (by kernel_rfl) (by kernel_rfl) (by kernel_rfl)) g2

/-- spec.l01Amount -/
noncomputable def G4 : List (Nat × Ctr) := (127, ctr1 fun a => .sbool (amtF a)) :: G3
theorem g4 : Ab.Good Try.prog G4 := good_cons (sat1 (g := fun a => .sbool (amtF a)) g3 mixed Try.func127 Try.call127 100 (fun a => .cbool (cond (finF a) (cond (fltB .f32 0 a) true (!nanB .f32 a && true)) true) (cond (finF a) (cond (fltB .f32 0 a) true (Int.ofNat a == 0)) false)) (fun a => by kernel_rfl) (fun a ha ρ u h => by show V ρ (.sbool (amtF a)) u; rw [← amt_spec ha]; exact cbool_say (amt_cond a) h)) g3

/-- spec.l01Ok -/
noncomputable def G5 : List (Nat × Ctr) := (68, orC (ctrWp fun ns => .sbool (vOp ns)) (ctrWv fun ns => .sbool (vOp ns))) :: G4
theorem g5 : Ab.Good Try.prog G5 := good_cons (sat_or (satWp (g := fun ns => .sbool (vOp ns)) g4 mixed Try.func68 Try.call68 100 (fun ns => .sbool (validS ns)) (fun ns hl => by obtain ⟨a0, a1, a2, a3, a4, a5, b0, b1, b2, b3, b4, b5, c0, c1, c2, c3, c4, c5, rfl⟩ := len18 hl; kernel_rfl) (fun ns _ ρ u h => by show V ρ (.sbool (vOp ns)) u; rw [vOp_eq, ← validS_eq]; exact h)) (satWv (g := fun ns => .sbool (vOp ns)) g4 mixed Try.func68 Try.call68 100 (fun ns => .sbool (validS ns)) (fun ns hl => by obtain ⟨a0, a1, a2, a3, a4, a5, b0, b1, b2, b3, b4, b5, c0, c1, c2, c3, c4, c5, rfl⟩ := len18 hl; kernel_rfl) (fun ns _ ρ u h => by show V ρ (.sbool (vOp ns)) u; rw [vOp_eq, ← validS_eq]; exact h)) rfl rfl) g4

/-- impl.isFinite -/
noncomputable def G6 : List (Nat × Ctr) := (124, ctr1 fun a => .sbool (finF a)) :: G5
theorem g6 : Ab.Good Try.prog G6 := good_cons (sat1 (g := fun a => .sbool (finF a)) g5 mixed Try.func124 Try.call124 100 (fun a => .sbool (cond (fleB .f32 4286578687 a) (fleB .f32 a 2139095039) false)) (fun a => by kernel_rfl) (fun a ha ρ u h => by show V ρ (.sbool (finF a)) u; rw [← fin_between ha]; exact h)) g5

/-- math.Float64bits -/
noncomputable def G7 : List (Nat × Ctr) := (197, extC .f64bits) :: G6
theorem g7 : Ab.Good Try.prog G7 := good_cons (sat_ext .f64bits Try.func197 (by kernel_rfl) (by kernel_rfl) (by kernel_rfl) (by kernel_rfl)) g6

/-- math.Signbit -/
noncomputable def G8 : List (Nat × Ctr) := (185, inl Try.prog G7 100 Try.f185) :: G7
theorem g8 : Ab.Good Try.prog G8 := good_cons (inl_sat g7 mixed Try.func185 Try.call185 100) g7

/-- impl.IsAmount -/
noncomputable def G9 : List (Nat × Ctr) := (149, ctr1 fun a => .sbool (amtF a)) :: G8
theorem g9 : Ab.Good Try.prog G9 := good_cons (sat1 (g := fun a => .sbool (amtF a)) g8 mixed Try.func149 Try.call149 100 (fun a => .cbool (cond (finF a) (!nanB .f64 (wide a) && true) true) (cond (finF a) (!decide (IntKind.i64.wrap (Int.ofNat (wide a)) < 0)) false)) (fun a => by kernel_rfl) (fun a ha ρ u h => by show V ρ (.sbool (amtF a)) u; rw [← wide_neg ha]; exact cbool_say wide_nan h)) g8

/-- impl.isKilos -/
noncomputable def G10 : List (Nat × Ctr) := (128, ctr1 fun a => .sbool (kilF a)) :: G9
theorem g10 : Ab.Good Try.prog G10 := good_cons (sat1 (g := fun a => .sbool (kilF a)) g9 mixed Try.func128 Try.call128 100 (fun a => .sbool (cond (amtF a) (fleB .f32 a 1092616192) false)) (fun a => by kernel_rfl) (fun a ha ρ u h => by show V ρ (.sbool (kilF a)) u; rw [← kil_impl a]; exact h)) g9

/-- impl.isBetween -/
noncomputable def G11 : List (Nat × Ctr) := (129, inl Try.prog G10 100 Try.f129) :: G10
theorem g11 : Ab.Good Try.prog G11 := good_cons (inl_sat g10 mixed Try.func129 Try.call129 100) g10

/-- impl.ValidWood -/
noncomputable def G12 : List (Nat × Ctr) := (69, ctrW fun ns => .sbool (vOp ns)) :: G11
theorem g12 : Ab.Good Try.prog G12 := good_cons (satW (g := fun ns => .sbool (vOp ns)) g11 mixed Try.func69 Try.call69 100 (fun ns => .sbool (validI ns)) (fun ns hl => by obtain ⟨a0, a1, a2, a3, a4, a5, b0, b1, b2, b3, b4, b5, c0, c1, c2, c3, c4, c5, rfl⟩ := len18 hl; kernel_rfl) (fun ns _ ρ u h => by show V ρ (.sbool (vOp ns)) u; rw [vOp_eq]; exact h)) g11

/-- impl.addRows -/
noncomputable def G13 : List (Nat × Ctr) := (70, inl Try.prog G12 100 Try.f70) :: G12
theorem g13 : Ab.Good Try.prog G13 := good_cons (inl_sat g12 mixed Try.func70 Try.call70 100) g12

/-- impl.divideRow -/
noncomputable def G14 : List (Nat × Ctr) := (71, inl Try.prog G13 100 Try.f71) :: G13
theorem g14 : Ab.Good Try.prog G14 := good_cons (inl_sat g13 mixed Try.func71 Try.call71 100) g13

noncomputable def GG : List (Nat × Ctr) := G14
theorem gg : Ab.Good Try.prog GG := g14

end Go.Proofs.Ytbblhkjkokbheaa.abm
