import Derived.Test.YtfpfiglmkllheaaGh
import Derived.Test.YtfpfiglmkllheaaProg
namespace Go.Proofs.Ytfpfiglmkllheaa.abs
open Go Go.Ab Go.Proofs
set_option maxRecDepth 1000000
set_option linter.unusedVariables false
theorem mixed : Try.prog.follows .mixedOrders = true := by kernel_rfl

noncomputable def G0 : List (Nat × Ctr) := []
theorem g0 : Ab.Good Try.prog G0 := good_nil _

/-- math.Float32bits -/
noncomputable def G1 : List (Nat × Ctr) := (176, extC .f32bits) :: G0
theorem g1 : Ab.Good Try.prog G1 := good_cons (sat_ext .f32bits Try.func176 (by kernel_rfl) (by kernel_rfl) (by kernel_rfl) (by kernel_rfl)) g0

/-- spec.l01Same -/
noncomputable def G2 : List (Nat × Ctr) := (131, ctr2 fun a b => .sbool (nbF a == nbF b)) :: G1
theorem g2 : Ab.Good Try.prog G2 := good_cons (sat2 (g := fun a b => .sbool (nbF a == nbF b)) g1 mixed Try.func131 Try.call131 100 (fun a b => .cbool (cond (cond (!feqB .f32 a a) true (!feqB .f32 b b)) true (!nanB .f32 a && !nanB .f32 b)) (cond (cond (!feqB .f32 a a) true (!feqB .f32 b b)) (cond (!feqB .f32 a a) (!feqB .f32 b b) false) (Int.ofNat a == Int.ofNat b))) (fun a b => by kernel_rfl) (fun a b ha hb ρ u h => by show V ρ (.sbool (nbF a == nbF b)) u; rw [← same_spec a b]; exact cbool_say (same_cond a b) h)) g1

/-- spec.l01SameRow -/
noncomputable def G3 : List (Nat × Ctr) := (177, inl Try.prog G2 100 Try.f177) :: G2
theorem g3 : Ab.Good Try.prog G3 := good_cons (inl_sat g2 mixed Try.func177 Try.call177 100) g2

/-- spec.l01SameWood -/
noncomputable def G4 : List (Nat × Ctr) := (130, inl Try.prog G3 100 Try.f130) :: G3
theorem g4 : Ab.Good Try.prog G4 := good_cons (inl_sat g3 mixed Try.func130 Try.call130 100) g3

/-- impl.numberBits -/
noncomputable def G5 : List (Nat × Ctr) := (133, ctr1 fun a => .sint .u32 (nbF a)) :: G4
theorem g5 : Ab.Good Try.prog G5 := good_cons (sat1 (g := fun a => .sint .u32 (nbF a)) g4 mixed Try.func133 Try.call133 100 (fun a => .cint (cond (!feqB .f32 a a) true (!nanB .f32 a)) .u32 (nbF a)) (fun a => by kernel_rfl) (fun a ha ρ u h => cint_say (nb_cond a) h)) g4

/-- impl.rowBits -/
noncomputable def G6 : List (Nat × Ctr) := (132, inl Try.prog G5 100 Try.f132) :: G5
theorem g6 : Ab.Good Try.prog G6 := good_cons (inl_sat g5 mixed Try.func132 Try.call132 100) g5

/-- impl.SameWood -/
noncomputable def G7 : List (Nat × Ctr) := (74, inl Try.prog G6 100 Try.f74) :: G6
theorem g7 : Ab.Good Try.prog G7 := good_cons (inl_sat g6 mixed Try.func74 Try.call74 100) g6

noncomputable def GG : List (Nat × Ctr) := G7
theorem gg : Ab.Good Try.prog GG := g7

end Go.Proofs.Ytfpfiglmkllheaa.abs
