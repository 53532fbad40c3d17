import Derived.Test.YtlehfaaggknhjaaAbO
import Derived.Test.YtlehfaaggknhjaaProg
namespace Go.Proofs.Ytlehfaaggknhjaa.ab
open Go Go.Ab Go.Proofs
set_option maxRecDepth 100000
theorem mixed : Try.prog.follows .mixedOrders = true := by kernel_rfl

noncomputable def G0 : List (Nat × Ctr) := []
theorem g0 : Ab.Good Try.prog G0 := good_nil _

/-- math.Float32bits -/
noncomputable def G1 : List (Nat × Ctr) := (89, extC .f32bits) :: G0
theorem g1 : Ab.Good Try.prog G1 := good_cons (sat_ext .f32bits Try.func89 (by kernel_rfl) (by kernel_rfl) (by kernel_rfl) (by kernel_rfl)) g0

/-- spec.l01Same -/
noncomputable def G2 : List (Nat × Ctr) := (71, ctr2 fun a b => .sbool (nbF a == nbF b)) :: G1
theorem g2 : Ab.Good Try.prog G2 := good_cons (sat2 (g := fun a b => .sbool (nbF a == nbF b)) g1 mixed Try.func71 Try.call71 100 (fun a b => .cbool (cond (cond (!feqB .f32 a a) true (!feqB .f32 b b)) true (!nanB .f32 a && !nanB .f32 b)) (cond (cond (!feqB .f32 a a) true (!feqB .f32 b b)) (cond (!feqB .f32 a a) (!feqB .f32 b b) false) (Int.ofNat a == Int.ofNat b))) (fun a b => by kernel_rfl) (fun a b ha hb ρ u h => by show V ρ (.sbool (nbF a == nbF b)) u; rw [← same_spec a b]; exact cbool_say (same_cond a b) h)) g1

/-- spec.l01SameRow -/
noncomputable def G3 : List (Nat × Ctr) := (85, inl Try.prog G2 100 Try.f85) :: G2
theorem g3 : Ab.Good Try.prog G3 := good_cons (inl_sat g2 mixed Try.func85 Try.call85 100) g2

/-- spec.l01SameWood -/
noncomputable def G4 : List (Nat × Ctr) := (59, inl Try.prog G3 100 Try.f59) :: G3
theorem g4 : Ab.Good Try.prog G4 := good_cons (inl_sat g3 mixed Try.func59 Try.call59 100) g3

/-- spec.SameWood -/
noncomputable def G5 : List (Nat × Ctr) := (21, inl Try.prog G4 100 Try.f21) :: G4
theorem g5 : Ab.Good Try.prog G5 := good_cons (inl_sat g4 mixed Try.func21 Try.call21 100) g4

/-- laws.toFloat32A6 -/
noncomputable def G6 : List (Nat × Ctr) := (76, inl Try.prog G5 100 Try.f76) :: G5
theorem g6 : Ab.Good Try.prog G6 := good_cons (inl_sat g5 mixed Try.func76 Try.call76 100) g5

/-- laws.toWood -/
noncomputable def G7 : List (Nat × Ctr) := (40, inl Try.prog G6 100 Try.f40) :: G6
theorem g7 : Ab.Good Try.prog G7 := good_cons (inl_sat g6 mixed Try.func40 Try.call40 100) g6

/-- impl.numberBits -/
noncomputable def G8 : List (Nat × Ctr) := (72, ctr1 fun a => .sint .u32 (nbF a)) :: G7
theorem g8 : Ab.Good Try.prog G8 := good_cons (sat1 (g := fun a => .sint .u32 (nbF a)) g7 mixed Try.func72 Try.call72 100 (fun a => .cint (cond (!feqB .f32 a a) true (!nanB .f32 a)) .u32 (nbF a)) (fun a => by kernel_rfl) (fun a ha ρ u h => cint_say (nb_cond a) h)) g7

/-- impl.rowBits -/
noncomputable def G9 : List (Nat × Ctr) := (77, inl Try.prog G8 100 Try.f77) :: G8
theorem g9 : Ab.Good Try.prog G9 := good_cons (inl_sat g8 mixed Try.func77 Try.call77 100) g8

/-- impl.SameWood -/
noncomputable def G10 : List (Nat × Ctr) := (41, inl Try.prog G9 100 Try.f41) :: G9
theorem g10 : Ab.Good Try.prog G10 := good_cons (inl_sat g9 mixed Try.func41 Try.call41 100) g9

noncomputable def GG : List (Nat × Ctr) := G10
theorem gg : Ab.Good Try.prog GG := g10

end Go.Proofs.Ytlehfaaggknhjaa.ab
