import Derived.Test.YtkonpdhjddnndaaGreatGg
import Derived.Test.YtkonpdhjddnndaaGreatProg
namespace Go.Proofs.YtkonpdhjddnndaaGreat.ab
open Go Go.Ab Go.Proofs
set_option maxRecDepth 100000
theorem mixed : Tryz.prog.follows .mixedOrders = true := by kernel_rfl

noncomputable def G0 : List (Nat × Ctr) := []
theorem g0 : Ab.Good Tryz.prog G0 := good_nil _

noncomputable def G1 : List (Nat × Ctr) := (10, inl Tryz.prog G0 100 Tryz.f10) :: G0
theorem g1 : Ab.Good Tryz.prog G1 := good_cons (inl_sat g0 mixed Tryz.func10 Tryz.call10 100) g0

noncomputable def G2 : List (Nat × Ctr) := (11, inl Tryz.prog G1 100 Tryz.f11) :: G1
theorem g2 : Ab.Good Tryz.prog G2 := good_cons (inl_sat g1 mixed Tryz.func11 Tryz.call11 100) g1

noncomputable def G3 : List (Nat × Ctr) := (7, inl Tryz.prog G2 100 Tryz.f7) :: G2
theorem g3 : Ab.Good Tryz.prog G3 := good_cons (inl_sat g2 mixed Tryz.func7 Tryz.call7 100) g2

noncomputable def G4 : List (Nat × Ctr) := (4, inl Tryz.prog G3 100 Tryz.f4) :: G3
theorem g4 : Ab.Good Tryz.prog G4 := good_cons (inl_sat g3 mixed Tryz.func4 Tryz.call4 100) g3

noncomputable def G5 : List (Nat × Ctr) := (5, inl Tryz.prog G4 100 Tryz.f5) :: G4
theorem g5 : Ab.Good Tryz.prog G5 := good_cons (inl_sat g4 mixed Tryz.func5 Tryz.call5 100) g4

noncomputable def G6 : List (Nat × Ctr) := (8, inl Tryz.prog G5 100 Tryz.f8) :: G5
theorem g6 : Ab.Good Tryz.prog G6 := good_cons (inl_sat g5 mixed Tryz.func8 Tryz.call8 100) g5

noncomputable def G7 : List (Nat × Ctr) := (9, inl Tryz.prog G6 100 Tryz.f9) :: G6
theorem g7 : Ab.Good Tryz.prog G7 := good_cons (inl_sat g6 mixed Tryz.func9 Tryz.call9 100) g6

noncomputable def G8 : List (Nat × Ctr) := (6, inl Tryz.prog G7 100 Tryz.f6) :: G7
theorem g8 : Ab.Good Tryz.prog G8 := good_cons (inl_sat g7 mixed Tryz.func6 Tryz.call6 100) g7

noncomputable def GG : List (Nat × Ctr) := G8
theorem gg : Ab.Good Tryz.prog GG := g8

end Go.Proofs.YtkonpdhjddnndaaGreat.ab
