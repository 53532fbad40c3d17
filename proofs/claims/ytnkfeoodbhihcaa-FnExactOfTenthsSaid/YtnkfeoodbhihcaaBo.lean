import Derived.Test.YtnkfeoodbhihcaaGg
import Derived.Test.YtnkfeoodbhihcaaProg
namespace Go.Proofs.Ytnkfeoodbhihcaa.ab
open Go Go.Ab Go.Proofs
set_option maxRecDepth 100000
theorem mixed : Try.prog.follows .mixedOrders = true := by kernel_rfl

noncomputable def G0 : List (Nat × Ctr) := []
theorem g0 : Ab.Good Try.prog G0 := good_nil _

/-- spec.OfTenths -/
noncomputable def G1 : List (Nat × Ctr) := (8, inl Try.prog G0 100 Try.f8) :: G0
theorem g1 : Ab.Good Try.prog G1 := good_cons (inl_sat g0 mixed Try.func8 Try.call8 100) g0

/-- impl.OfTenths -/
noncomputable def G2 : List (Nat × Ctr) := (9, inl Try.prog G1 100 Try.f9) :: G1
theorem g2 : Ab.Good Try.prog G2 := good_cons (inl_sat g1 mixed Try.func9 Try.call9 100) g1

/-- laws.sameFloat -/
noncomputable def G3 : List (Nat × Ctr) := (10, ctrD2 fun a b => .sbool (sO a b)) :: G2
theorem g3 : Ab.Good Try.prog G3 := good_cons (satD2 (g := fun a b => .sbool (sO a b)) g2 mixed Try.func10 Try.call10 100 (fun a b => .sbool (same64 a b)) (fun a b => by kernel_rfl) (fun a b _ _ ρ u h => by show V ρ (.sbool (sO a b)) u; rw [sO_eq]; exact h)) g2

noncomputable def GG : List (Nat × Ctr) := G3
theorem gg : Ab.Good Try.prog GG := g3

end Go.Proofs.Ytnkfeoodbhihcaa.ab
