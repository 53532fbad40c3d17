import Derived.Test.YtnkfeoodbhihcaaGg
import Derived.Test.YtnkfeoodbhihcaaProg
namespace Go.Proofs.Ytnkfeoodbhihcaa.ab
open Go Go.Ab Go.Proofs
set_option maxRecDepth 100000
theorem mixed : Try.prog.follows .mixedOrders = true := by kernel_rfl

noncomputable def G0 : List (Nat × Ctr) := []
theorem g0 : Ab.Good Try.prog G0 := good_nil _

/-- math.RoundToEven -/
noncomputable def G1 : List (Nat × Ctr) := (17, extC (.intg "math.RoundToEven" .even)) :: G0
theorem g1 : Ab.Good Try.prog G1 := good_cons (sat_ext (.intg "math.RoundToEven" .even) Try.func17 (by kernel_rfl) (by kernel_rfl) (by kernel_rfl) (by kernel_rfl)) g0

/-- spec.l06Tenths -/
noncomputable def G2 : List (Nat × Ctr) := (16, inl Try.prog G1 100 Try.f16) :: G1
theorem g2 : Ab.Good Try.prog G2 := good_cons (inl_sat g1 mixed Try.func16 Try.call16 100) g1

/-- spec.ToTenths -/
noncomputable def G3 : List (Nat × Ctr) := (6, inl Try.prog G2 100 Try.f6) :: G2
theorem g3 : Ab.Good Try.prog G3 := good_cons (inl_sat g2 mixed Try.func6 Try.call6 100) g2

/-- impl.held -/
noncomputable def G4 : List (Nat × Ctr) := (18, ctr3 fun a b c => .flt .f32 (hO a b c)) :: G3
theorem g4 : Ab.Good Try.prog G4 := good_cons (sat3 (g := fun a b c => .flt .f32 (hO a b c)) g3 mixed Try.func18 Try.call18 100 (fun a b c => .flt .f32 (heldI a b c)) (fun a b c => by kernel_rfl) (fun a b c _ _ _ ρ u h => by show V ρ (.flt .f32 (hO a b c)) u; rw [hO_eq]; exact h)) g3

/-- impl.ToTenths -/
noncomputable def G5 : List (Nat × Ctr) := (7, inl Try.prog G4 100 Try.f7) :: G4
theorem g5 : Ab.Good Try.prog G5 := good_cons (inl_sat g4 mixed Try.func7 Try.call7 100) g4

noncomputable def GG : List (Nat × Ctr) := G5
theorem gg : Ab.Good Try.prog GG := g5

end Go.Proofs.Ytnkfeoodbhihcaa.ab
