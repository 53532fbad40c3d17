import Derived.Test.YtbblhkjkokbheaaDe87b
namespace Go.Proofs.Ytbblhkjkokbheaa.ab
open Go Go.Ab Go.Proofs Go.RowKit
set_option linter.unusedVariables false
noncomputable def D3 : List (Nat × Ctr) := (141, ifC) :: D2
theorem d3 : Ab.Good Try.prog D3 := good_cons sat141 d2
noncomputable abbrev B87 : Code := bodyOf Try.f87
noncomputable abbrev N87 : Nat := Try.f87.ntmps
noncomputable abbrev P3 : Code := cA (cB (cB B87))
noncomputable abbrev P4 : Code := cA (cB (cB (cB B87)))
noncomputable abbrev P5 : Code := cB (cB (cB (cB B87)))
noncomputable abbrev X87 : Code := cL (cK (cB P4))
noncomputable abbrev R87 (m : Num) (f : Nat → Nat → Nat) (gd : Nat → Nat → Int) (bd : Nat → Nat → Bool) : Vc := ⟨wSh, m, f, gd, bd, true⟩
noncomputable abbrev A87 (n : Nat) : List AVal := [.vec 0 18 0 (.sym n), .fn (.func 88) [] []]
noncomputable abbrev I87 (n k j : Nat) (r : Vc) : St := stR [.vec 0 18 0 (.sym n), .fn (.func 88) [] [], .bad, .bad, .bad, .sint .i64 (Int.ofNat k), .sint .i64 (Int.ofNat j)] [r]
end Go.Proofs.Ytbblhkjkokbheaa.ab
