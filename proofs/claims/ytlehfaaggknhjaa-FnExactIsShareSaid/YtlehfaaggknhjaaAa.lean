import Derived.Test.YtlehfaaggknhjaaAbL
import Derived.Test.YtlehfaaggknhjaaProg
namespace Go.Proofs.Ytlehfaaggknhjaa.ab
open Go Go.Ab Go.Proofs
set_option maxRecDepth 100000
theorem mixed : Try.prog.follows .mixedOrders = true := by kernel_rfl

noncomputable def G0 : List (Nat × Ctr) := []
theorem g0 : Ab.Good Try.prog G0 := good_nil _

/-- spec.l01Finite -/
noncomputable def G1 : List (Nat × Ctr) := (87, ctr1 fun a => .sbool (finF a)) :: G0
theorem g1 : Ab.Good Try.prog G1 := good_cons (sat1 (g := fun a => .sbool (finF a)) g0 mixed Try.func87 Try.call87 100 (fun a => .sbool (feqB .f32 (fop .sub .f32 a a) 0)) (fun a => by kernel_rfl) (fun a ha ρ u h => by show V ρ (.sbool (finF a)) u; rw [← fin_sub a]; exact h)) g0

/-- math.Float32bits -/
noncomputable def G2 : List (Nat × Ctr) := (89, extC .f32bits) :: G1
theorem g2 : Ab.Good Try.prog G2 := good_cons (sat_ext .f32bits Try.func89 (by kernel_rfl) (by kernel_rfl) (by kernel_rfl) (by kernel_rfl)) g1

/-- spec.l01Amount -/
noncomputable def G3 : List (Nat × Ctr) := (73, ctr1 fun a => .sbool (amtF a)) :: G2
theorem g3 : Ab.Good Try.prog G3 := good_cons (sat1 (g := fun a => .sbool (amtF a)) g2 mixed Try.func73 Try.call73 100 (fun a => .cbool (cond (finF a) (cond (fltB .f32 0 a) true (!nanB .f32 a && true)) true) (cond (finF a) (cond (fltB .f32 0 a) true (Int.ofNat a == 0)) false)) (fun a => by kernel_rfl) (fun a ha ρ u h => by show V ρ (.sbool (amtF a)) u; rw [← amt_spec ha]; exact cbool_say (amt_cond a) h)) g2

/-- spec.IsAmount -/
noncomputable def G4 : List (Nat × Ctr) := (35, inl Try.prog G3 100 Try.f35 []) :: G3
theorem g4 : Ab.Good Try.prog G4 := good_cons (sat_inl g3 mixed Try.func35 Try.call35 100 []) g3

/-- impl.isFinite -/
noncomputable def G5 : List (Nat × Ctr) := (74, ctr1 fun a => .sbool (finF a)) :: G4
theorem g5 : Ab.Good Try.prog G5 := good_cons (sat1 (g := fun a => .sbool (finF a)) g4 mixed Try.func74 Try.call74 100 (fun a => .sbool (cond (fleB .f32 4286578687 a) (fleB .f32 a 2139095039) false)) (fun a => by kernel_rfl) (fun a ha ρ u h => by show V ρ (.sbool (finF a)) u; rw [← fin_between ha]; exact h)) g4

/-- math.Float64bits -/
noncomputable def G6 : List (Nat × Ctr) := (90, extC .f64bits) :: G5
theorem g6 : Ab.Good Try.prog G6 := good_cons (sat_ext .f64bits Try.func90 (by kernel_rfl) (by kernel_rfl) (by kernel_rfl) (by kernel_rfl)) g5

/-- math.Signbit -/
noncomputable def G7 : List (Nat × Ctr) := (75, inl Try.prog G6 100 Try.f75 []) :: G6
theorem g7 : Ab.Good Try.prog G7 := good_cons (sat_inl g6 mixed Try.func75 Try.call75 100 []) g6

/-- impl.IsAmount -/
noncomputable def G8 : List (Nat × Ctr) := (36, ctr1 fun a => .sbool (amtF a)) :: G7
theorem g8 : Ab.Good Try.prog G8 := good_cons (sat1 (g := fun a => .sbool (amtF a)) g7 mixed Try.func36 Try.call36 100 (fun a => .cbool (cond (finF a) (!nanB .f64 (wide a) && true) true) (cond (finF a) (!decide (IntKind.i64.wrap (Int.ofNat (wide a)) < 0)) false)) (fun a => by kernel_rfl) (fun a ha ρ u h => by show V ρ (.sbool (amtF a)) u; rw [← wide_neg ha]; exact cbool_say wide_nan h)) g7

/-- spec.l01Share -/
noncomputable def G9 : List (Nat × Ctr) := (57, inl Try.prog G8 100 Try.f57 []) :: G8
theorem g9 : Ab.Good Try.prog G9 := good_cons (sat_inl g8 mixed Try.func57 Try.call57 100 []) g8

/-- spec.IsShare -/
noncomputable def G10 : List (Nat × Ctr) := (37, inl Try.prog G9 100 Try.f37 []) :: G9
theorem g10 : Ab.Good Try.prog G10 := good_cons (sat_inl g9 mixed Try.func37 Try.call37 100 []) g9

/-- impl.IsShare -/
noncomputable def G11 : List (Nat × Ctr) := (38, inl Try.prog G10 100 Try.f38 []) :: G10
theorem g11 : Ab.Good Try.prog G11 := good_cons (sat_inl g10 mixed Try.func38 Try.call38 100 []) g10

noncomputable def GG : List (Nat × Ctr) := G11
theorem gg : Ab.Good Try.prog GG := g11

end Go.Proofs.Ytlehfaaggknhjaa.ab
