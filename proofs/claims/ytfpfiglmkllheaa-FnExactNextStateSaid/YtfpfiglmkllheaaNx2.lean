import Derived.Test.YtfpfiglmkllheaaNx1
namespace Go.Proofs.Ytfpfiglmkllheaa.nx
open Go Go.Ab Go.Proofs Go.Maps Go.RowKit
set_option maxRecDepth 1000000
set_option linter.unusedVariables false
noncomputable def G0 : List (Nat × Ctr) := []
theorem g0 : Ab.Good Try.prog G0 := good_nil _
/-- impl.sideOf -/
noncomputable def G1 : List (Nat × Ctr) := (142, inl Try.prog G0 100 Try.f142) :: G0
theorem g1 : Ab.Good Try.prog G1 := good_cons (inl_sat g0 mixed Try.func142 Try.call142 100) g0
/-- impl.sideFor -/
noncomputable def G2 : List (Nat × Ctr) := (91, inl Try.prog G1 100 Try.f91) :: G1
theorem g2 : Ab.Good Try.prog G2 := good_cons (inl_sat g1 mixed Try.func91 Try.call91 100) g1
/-- spec.l02Next -/
noncomputable def G3 : List (Nat × Ctr) := (89, inl Try.prog G2 100 Try.f89) :: G2
theorem g3 : Ab.Good Try.prog G3 := good_cons (inl_sat g2 mixed Try.func89 Try.call89 100) g2
/-- spec.NextState -/
noncomputable def G4 : List (Nat × Ctr) := (40, inl Try.prog G3 100 Try.f40) :: G3
theorem g4 : Ab.Good Try.prog G4 := good_cons (inl_sat g3 mixed Try.func40 Try.call40 100) g3
end Go.Proofs.Ytfpfiglmkllheaa.nx
