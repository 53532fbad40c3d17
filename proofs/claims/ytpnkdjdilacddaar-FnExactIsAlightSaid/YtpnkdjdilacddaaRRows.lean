/-
  No cell of these rows narrows 'for every input' (looked for: loops, veiled, ifaces, maps, wideKeys, modest, calm, conditions, laid).
  DERIVED. THE GIVEN ROWS OF THIS SEAT. 11 by the template 'for every input the law returns true; each argument reads behind the call as it read before'; 0 by the template 'total and deterministic' (their statements: YtpnkdjdilacddaaRTotals.lean).
  GIVEN WITH THE SEED: the statements are not yours to turn. If you find one false, say at which input.
  Laid BY PROGRAM, IN A SANDBOX (cutbox-rows.mjs): the forced cells as the released guide's own fill.sh prints them over the translation e311b5549908283c… (all of the seat's roots in one cut). By AI agents, Wed Nov 11 2026. No macro, syntax, notation, axiom, sorry.
-/
import Derived.Test.YtpnkdjdilacddaaRChecked
import GoSem.Claim
import GoSem.ClaimJoined
import GoSem.ClaimMapViews
import Derived.JoinedTies
import Derived.KernelRfl
namespace Go.Proofs.YtpnkdjdilacddaaR
/- THE CELL 'sum', in the pinned program and in every row, IS THE sha256 OF THE DUMP (.gsa) THAT YtpnkdjdilacddaaRProg.lean LOADS. Nothing in Lean hashes anything: it is a label: what it is worth is what the hold of that sum in a sandbox is worth. -/
noncomputable def Try.pinned : Pinned := { name := "ytpnkdjdilacddaar", sum := "e311b5549908283ce82b8a8f804a1cb556f720b15752ad140487807fab4f9749", checked := Try.checked }
namespace Rows
def none {H : Type} : Left H := { results := [], args := [] }

/-- 'laws.FnExactSameStove': WHATEVER THE INPUT: true; the input reads as it did. -/
def fnExactSameStoveSpec : ChangeSpec := { name := "fnExactSameStove", fn := fun _ => fun
  | [d1, d2] => { results := [.lit (.bool true)], args := [d1, d2] }
  | _ => none }
def fnExactSameStoveRow : OpenClaim := { program := "ytpnkdjdilacddaar", sum := "e311b5549908283ce82b8a8f804a1cb556f720b15752ad140487807fab4f9749", func := "loop.example/g01229/laws.FnExactSameStove", spec := "fnExactSameStove", inPlace := ["math.Float32bits"], unfollowed := true, recurses := true, apart := false }
def FnExactSameStoveSaid : Prop := fnExactSameStoveRow.holds Try.pinned (OpenSpec.ofChange fnExactSameStoveSpec)

/-- ITS FALSE NEIGHBOUR: 'it returns false'. Refute it at one input. -/
def fnExactSameStoveWrong : ChangeSpec := { name := "fnExactSameStove", fn := fun _ => fun
  | [d1, d2] => { results := [.lit (.bool false)], args := [d1, d2] }
  | _ => none }
def FnExactSameStoveWrongFalsely : Prop := fnExactSameStoveRow.holds Try.pinned (OpenSpec.ofChange fnExactSameStoveWrong)

/-- 'laws.FnExactPutLog': WHATEVER THE INPUT: true; the input reads as it did. -/
def fnExactPutLogSpec : ChangeSpec := { name := "fnExactPutLog", fn := fun _ => fun
  | [d1, d2] => { results := [.lit (.bool true)], args := [d1, d2] }
  | _ => none }
def fnExactPutLogRow : OpenClaim := { program := "ytpnkdjdilacddaar", sum := "e311b5549908283ce82b8a8f804a1cb556f720b15752ad140487807fab4f9749", func := "loop.example/g01229/laws.FnExactPutLog", spec := "fnExactPutLog", inPlace := ["math.Float32bits", "math.Float64bits"], unfollowed := true, recurses := true, apart := false }
def FnExactPutLogSaid : Prop := fnExactPutLogRow.holds Try.pinned (OpenSpec.ofChange fnExactPutLogSpec)

/-- ITS FALSE NEIGHBOUR: 'it returns false'. Refute it at one input. -/
def fnExactPutLogWrong : ChangeSpec := { name := "fnExactPutLog", fn := fun _ => fun
  | [d1, d2] => { results := [.lit (.bool false)], args := [d1, d2] }
  | _ => none }
def FnExactPutLogWrongFalsely : Prop := fnExactPutLogRow.holds Try.pinned (OpenSpec.ofChange fnExactPutLogWrong)

/-- 'laws.FnExactTakeLog': WHATEVER THE INPUT: true; the input reads as it did. -/
def fnExactTakeLogSpec : ChangeSpec := { name := "fnExactTakeLog", fn := fun _ => fun
  | [d1, d2] => { results := [.lit (.bool true)], args := [d1, d2] }
  | _ => none }
def fnExactTakeLogRow : OpenClaim := { program := "ytpnkdjdilacddaar", sum := "e311b5549908283ce82b8a8f804a1cb556f720b15752ad140487807fab4f9749", func := "loop.example/g01229/laws.FnExactTakeLog", spec := "fnExactTakeLog", inPlace := ["math.Float32bits", "math.Float64bits"], unfollowed := true, recurses := true, apart := false }
def FnExactTakeLogSaid : Prop := fnExactTakeLogRow.holds Try.pinned (OpenSpec.ofChange fnExactTakeLogSpec)

/-- ITS FALSE NEIGHBOUR: 'it returns false'. Refute it at one input. -/
def fnExactTakeLogWrong : ChangeSpec := { name := "fnExactTakeLog", fn := fun _ => fun
  | [d1, d2] => { results := [.lit (.bool false)], args := [d1, d2] }
  | _ => none }
def FnExactTakeLogWrongFalsely : Prop := fnExactTakeLogRow.holds Try.pinned (OpenSpec.ofChange fnExactTakeLogWrong)

/-- 'laws.FnExactIsAlight': WHATEVER THE INPUT: true; the input reads as it did. -/
def fnExactIsAlightSpec : ChangeSpec := { name := "fnExactIsAlight", fn := fun _ => fun
  | [d] => { results := [.lit (.bool true)], args := [d] }
  | _ => none }
def fnExactIsAlightRow : OpenClaim := { program := "ytpnkdjdilacddaar", sum := "e311b5549908283ce82b8a8f804a1cb556f720b15752ad140487807fab4f9749", func := "loop.example/g01229/laws.FnExactIsAlight", spec := "fnExactIsAlight", inPlace := ["math.Float32bits", "math.Float64bits"], unfollowed := true, recurses := true, apart := false }
def FnExactIsAlightSaid : Prop := fnExactIsAlightRow.holds Try.pinned (OpenSpec.ofChange fnExactIsAlightSpec)

/-- ITS FALSE NEIGHBOUR: 'it returns false'. Refute it at one input. -/
def fnExactIsAlightWrong : ChangeSpec := { name := "fnExactIsAlight", fn := fun _ => fun
  | [d] => { results := [.lit (.bool false)], args := [d] }
  | _ => none }
def FnExactIsAlightWrongFalsely : Prop := fnExactIsAlightRow.holds Try.pinned (OpenSpec.ofChange fnExactIsAlightWrong)

/-- 'laws.FnExactFuelIn': WHATEVER THE INPUT: true; the input reads as it did. -/
def fnExactFuelInSpec : ChangeSpec := { name := "fnExactFuelIn", fn := fun _ => fun
  | [d] => { results := [.lit (.bool true)], args := [d] }
  | _ => none }
def fnExactFuelInRow : OpenClaim := { program := "ytpnkdjdilacddaar", sum := "e311b5549908283ce82b8a8f804a1cb556f720b15752ad140487807fab4f9749", func := "loop.example/g01229/laws.FnExactFuelIn", spec := "fnExactFuelIn", inPlace := ["math.Float32bits", "math.Float64bits"], unfollowed := true, recurses := true, apart := false }
def FnExactFuelInSaid : Prop := fnExactFuelInRow.holds Try.pinned (OpenSpec.ofChange fnExactFuelInSpec)

/-- ITS FALSE NEIGHBOUR: 'it returns false'. Refute it at one input. -/
def fnExactFuelInWrong : ChangeSpec := { name := "fnExactFuelIn", fn := fun _ => fun
  | [d] => { results := [.lit (.bool false)], args := [d] }
  | _ => none }
def FnExactFuelInWrongFalsely : Prop := fnExactFuelInRow.holds Try.pinned (OpenSpec.ofChange fnExactFuelInWrong)

/-- 'laws.FnExactDropSpent': WHATEVER THE INPUT: true; the input reads as it did. -/
def fnExactDropSpentSpec : ChangeSpec := { name := "fnExactDropSpent", fn := fun _ => fun
  | [d] => { results := [.lit (.bool true)], args := [d] }
  | _ => none }
def fnExactDropSpentRow : OpenClaim := { program := "ytpnkdjdilacddaar", sum := "e311b5549908283ce82b8a8f804a1cb556f720b15752ad140487807fab4f9749", func := "loop.example/g01229/laws.FnExactDropSpent", spec := "fnExactDropSpent", inPlace := ["math.Float32bits", "math.Float64bits"], unfollowed := true, recurses := true, apart := false }
def FnExactDropSpentSaid : Prop := fnExactDropSpentRow.holds Try.pinned (OpenSpec.ofChange fnExactDropSpentSpec)

/-- ITS FALSE NEIGHBOUR: 'it returns false'. Refute it at one input. -/
def fnExactDropSpentWrong : ChangeSpec := { name := "fnExactDropSpent", fn := fun _ => fun
  | [d] => { results := [.lit (.bool false)], args := [d] }
  | _ => none }
def FnExactDropSpentWrongFalsely : Prop := fnExactDropSpentRow.holds Try.pinned (OpenSpec.ofChange fnExactDropSpentWrong)

/-- 'laws.FnExactValidFlat': WHATEVER THE INPUT: true; the input reads as it did. -/
def fnExactValidFlatSpec : ChangeSpec := { name := "fnExactValidFlat", fn := fun _ => fun
  | [d] => { results := [.lit (.bool true)], args := [d] }
  | _ => none }
def fnExactValidFlatRow : OpenClaim := { program := "ytpnkdjdilacddaar", sum := "e311b5549908283ce82b8a8f804a1cb556f720b15752ad140487807fab4f9749", func := "loop.example/g01229/laws.FnExactValidFlat", spec := "fnExactValidFlat", inPlace := ["math.Float32bits", "math.Float64bits"], unfollowed := true, recurses := true, apart := false }
def FnExactValidFlatSaid : Prop := fnExactValidFlatRow.holds Try.pinned (OpenSpec.ofChange fnExactValidFlatSpec)

/-- ITS FALSE NEIGHBOUR: 'it returns false'. Refute it at one input. -/
def fnExactValidFlatWrong : ChangeSpec := { name := "fnExactValidFlat", fn := fun _ => fun
  | [d] => { results := [.lit (.bool false)], args := [d] }
  | _ => none }
def FnExactValidFlatWrongFalsely : Prop := fnExactValidFlatRow.holds Try.pinned (OpenSpec.ofChange fnExactValidFlatWrong)

/-- 'laws.FnExactSameFlat': WHATEVER THE INPUT: true; the input reads as it did. -/
def fnExactSameFlatSpec : ChangeSpec := { name := "fnExactSameFlat", fn := fun _ => fun
  | [d1, d2] => { results := [.lit (.bool true)], args := [d1, d2] }
  | _ => none }
def fnExactSameFlatRow : OpenClaim := { program := "ytpnkdjdilacddaar", sum := "e311b5549908283ce82b8a8f804a1cb556f720b15752ad140487807fab4f9749", func := "loop.example/g01229/laws.FnExactSameFlat", spec := "fnExactSameFlat", inPlace := ["math.Float32bits"], unfollowed := true, recurses := true, apart := false }
def FnExactSameFlatSaid : Prop := fnExactSameFlatRow.holds Try.pinned (OpenSpec.ofChange fnExactSameFlatSpec)

/-- ITS FALSE NEIGHBOUR: 'it returns false'. Refute it at one input. -/
def fnExactSameFlatWrong : ChangeSpec := { name := "fnExactSameFlat", fn := fun _ => fun
  | [d1, d2] => { results := [.lit (.bool false)], args := [d1, d2] }
  | _ => none }
def FnExactSameFlatWrongFalsely : Prop := fnExactSameFlatRow.holds Try.pinned (OpenSpec.ofChange fnExactSameFlatWrong)

/-- 'laws.FnExactEnergyOf': WHATEVER THE INPUT: true; the input reads as it did. -/
def fnExactEnergyOfSpec : ChangeSpec := { name := "fnExactEnergyOf", fn := fun _ => fun
  | [d] => { results := [.lit (.bool true)], args := [d] }
  | _ => none }
def fnExactEnergyOfRow : OpenClaim := { program := "ytpnkdjdilacddaar", sum := "e311b5549908283ce82b8a8f804a1cb556f720b15752ad140487807fab4f9749", func := "loop.example/g01229/laws.FnExactEnergyOf", spec := "fnExactEnergyOf", inPlace := ["math.Float32bits", "math.Float64bits"], unfollowed := true, recurses := true, apart := false }
def FnExactEnergyOfSaid : Prop := fnExactEnergyOfRow.holds Try.pinned (OpenSpec.ofChange fnExactEnergyOfSpec)

/-- ITS FALSE NEIGHBOUR: 'it returns false'. Refute it at one input. -/
def fnExactEnergyOfWrong : ChangeSpec := { name := "fnExactEnergyOf", fn := fun _ => fun
  | [d] => { results := [.lit (.bool false)], args := [d] }
  | _ => none }
def FnExactEnergyOfWrongFalsely : Prop := fnExactEnergyOfRow.holds Try.pinned (OpenSpec.ofChange fnExactEnergyOfWrong)

/-- 'laws.FnExactLossOf': WHATEVER THE INPUT: true; the input reads as it did. -/
def fnExactLossOfSpec : ChangeSpec := { name := "fnExactLossOf", fn := fun _ => fun
  | [d1, d2] => { results := [.lit (.bool true)], args := [d1, d2] }
  | _ => none }
def fnExactLossOfRow : OpenClaim := { program := "ytpnkdjdilacddaar", sum := "e311b5549908283ce82b8a8f804a1cb556f720b15752ad140487807fab4f9749", func := "loop.example/g01229/laws.FnExactLossOf", spec := "fnExactLossOf", inPlace := ["math.Float32bits", "math.Float64bits"], unfollowed := true, recurses := true, apart := false }
def FnExactLossOfSaid : Prop := fnExactLossOfRow.holds Try.pinned (OpenSpec.ofChange fnExactLossOfSpec)

/-- ITS FALSE NEIGHBOUR: 'it returns false'. Refute it at one input. -/
def fnExactLossOfWrong : ChangeSpec := { name := "fnExactLossOf", fn := fun _ => fun
  | [d1, d2] => { results := [.lit (.bool false)], args := [d1, d2] }
  | _ => none }
def FnExactLossOfWrongFalsely : Prop := fnExactLossOfRow.holds Try.pinned (OpenSpec.ofChange fnExactLossOfWrong)

/-- 'laws.FnExactColdestRoom': WHATEVER THE INPUT: true; the input reads as it did. -/
def fnExactColdestRoomSpec : ChangeSpec := { name := "fnExactColdestRoom", fn := fun _ => fun
  | [d] => { results := [.lit (.bool true)], args := [d] }
  | _ => none }
def fnExactColdestRoomRow : OpenClaim := { program := "ytpnkdjdilacddaar", sum := "e311b5549908283ce82b8a8f804a1cb556f720b15752ad140487807fab4f9749", func := "loop.example/g01229/laws.FnExactColdestRoom", spec := "fnExactColdestRoom", inPlace := ["math.Float32bits", "math.Float64bits"], unfollowed := true, recurses := true, apart := false }
def FnExactColdestRoomSaid : Prop := fnExactColdestRoomRow.holds Try.pinned (OpenSpec.ofChange fnExactColdestRoomSpec)

/-- ITS FALSE NEIGHBOUR: 'it returns false'. Refute it at one input. -/
def fnExactColdestRoomWrong : ChangeSpec := { name := "fnExactColdestRoom", fn := fun _ => fun
  | [d] => { results := [.lit (.bool false)], args := [d] }
  | _ => none }
def FnExactColdestRoomWrongFalsely : Prop := fnExactColdestRoomRow.holds Try.pinned (OpenSpec.ofChange fnExactColdestRoomWrong)

/- THE SECOND FORM. 'bulk': how many values and letters a reading holds, each counted each time it is reached (what is shared counts as often as it is met; a slice's spare places count too). A statement '..UptoSaid' is the law's where the arguments, and the package variables that the reading takes, are together of bulk at most 1048576: NARROWER than '..Said'. Prove '..Said' where nothing that the law and all that it calls make is longer than what came in: it says more and counts as full. Else prove '..UptoSaid'. A law counts once. -/
mutual
def uptoBulk {H : Type} : DataW H → Nat
  | .lit (.string bytes) => bytes.length + 1
  | .lit _ => 1
  | .nil => 1
  | .ptr d => uptoBulk d + 1
  | .slice elems spare => uptoBulkAll elems + uptoBulkAll spare + 1
  | .agg parts => uptoBulkAll parts + 1
  | .iface _ d => uptoBulk d + 1
  | .map entries => uptoBulkEntries entries + 1
  | .held _ => 1
def uptoBulkAll {H : Type} : List (DataW H) → Nat
  | [] => 0
  | d :: r => uptoBulk d + uptoBulkAll r
def uptoBulkEntries {H : Type} : List (Lit × DataW H) → Nat
  | [] => 0
  | x :: r => uptoBulkEntry x + uptoBulkEntries r
def uptoBulkEntry {H : Type} : Lit × DataW H → Nat
  | (.string bytes, d) => bytes.length + uptoBulk d + 1
  | (_, d) => uptoBulk d + 1
 end
def uptoSmall : (H : Type) → List (DataW H) → Bool := fun _ ds => decide (uptoBulkAll ds ≤ 1048576)
def OpenSpec.upto (s : _root_.Go.ChangeSpec) : _root_.Go.OpenSpec := { _root_.Go.OpenSpec.ofChange s with cond := some uptoSmall }

/-- 'laws.FnExactSameStove', WHERE WHAT IT READS IS OF BULK AT MOST 1048576: true; the input reads as it did. -/
def fnExactSameStoveUptoRow : OpenClaim := { program := "ytpnkdjdilacddaar", sum := "e311b5549908283ce82b8a8f804a1cb556f720b15752ad140487807fab4f9749", func := "loop.example/g01229/laws.FnExactSameStove", spec := "fnExactSameStove", inPlace := ["math.Float32bits"], unfollowed := true, recurses := true, apart := false, narrowed := true }
def FnExactSameStoveUptoSaid : Prop := fnExactSameStoveUptoRow.holds Try.pinned (OpenSpec.upto fnExactSameStoveSpec)

/-- 'laws.FnExactPutLog', WHERE WHAT IT READS IS OF BULK AT MOST 1048576: true; the input reads as it did. -/
def fnExactPutLogUptoRow : OpenClaim := { program := "ytpnkdjdilacddaar", sum := "e311b5549908283ce82b8a8f804a1cb556f720b15752ad140487807fab4f9749", func := "loop.example/g01229/laws.FnExactPutLog", spec := "fnExactPutLog", inPlace := ["math.Float32bits", "math.Float64bits"], unfollowed := true, recurses := true, apart := false, narrowed := true }
def FnExactPutLogUptoSaid : Prop := fnExactPutLogUptoRow.holds Try.pinned (OpenSpec.upto fnExactPutLogSpec)

/-- 'laws.FnExactTakeLog', WHERE WHAT IT READS IS OF BULK AT MOST 1048576: true; the input reads as it did. -/
def fnExactTakeLogUptoRow : OpenClaim := { program := "ytpnkdjdilacddaar", sum := "e311b5549908283ce82b8a8f804a1cb556f720b15752ad140487807fab4f9749", func := "loop.example/g01229/laws.FnExactTakeLog", spec := "fnExactTakeLog", inPlace := ["math.Float32bits", "math.Float64bits"], unfollowed := true, recurses := true, apart := false, narrowed := true }
def FnExactTakeLogUptoSaid : Prop := fnExactTakeLogUptoRow.holds Try.pinned (OpenSpec.upto fnExactTakeLogSpec)

/-- 'laws.FnExactIsAlight', WHERE WHAT IT READS IS OF BULK AT MOST 1048576: true; the input reads as it did. -/
def fnExactIsAlightUptoRow : OpenClaim := { program := "ytpnkdjdilacddaar", sum := "e311b5549908283ce82b8a8f804a1cb556f720b15752ad140487807fab4f9749", func := "loop.example/g01229/laws.FnExactIsAlight", spec := "fnExactIsAlight", inPlace := ["math.Float32bits", "math.Float64bits"], unfollowed := true, recurses := true, apart := false, narrowed := true }
def FnExactIsAlightUptoSaid : Prop := fnExactIsAlightUptoRow.holds Try.pinned (OpenSpec.upto fnExactIsAlightSpec)

/-- 'laws.FnExactFuelIn', WHERE WHAT IT READS IS OF BULK AT MOST 1048576: true; the input reads as it did. -/
def fnExactFuelInUptoRow : OpenClaim := { program := "ytpnkdjdilacddaar", sum := "e311b5549908283ce82b8a8f804a1cb556f720b15752ad140487807fab4f9749", func := "loop.example/g01229/laws.FnExactFuelIn", spec := "fnExactFuelIn", inPlace := ["math.Float32bits", "math.Float64bits"], unfollowed := true, recurses := true, apart := false, narrowed := true }
def FnExactFuelInUptoSaid : Prop := fnExactFuelInUptoRow.holds Try.pinned (OpenSpec.upto fnExactFuelInSpec)

/-- 'laws.FnExactDropSpent', WHERE WHAT IT READS IS OF BULK AT MOST 1048576: true; the input reads as it did. -/
def fnExactDropSpentUptoRow : OpenClaim := { program := "ytpnkdjdilacddaar", sum := "e311b5549908283ce82b8a8f804a1cb556f720b15752ad140487807fab4f9749", func := "loop.example/g01229/laws.FnExactDropSpent", spec := "fnExactDropSpent", inPlace := ["math.Float32bits", "math.Float64bits"], unfollowed := true, recurses := true, apart := false, narrowed := true }
def FnExactDropSpentUptoSaid : Prop := fnExactDropSpentUptoRow.holds Try.pinned (OpenSpec.upto fnExactDropSpentSpec)

/-- 'laws.FnExactValidFlat', WHERE WHAT IT READS IS OF BULK AT MOST 1048576: true; the input reads as it did. -/
def fnExactValidFlatUptoRow : OpenClaim := { program := "ytpnkdjdilacddaar", sum := "e311b5549908283ce82b8a8f804a1cb556f720b15752ad140487807fab4f9749", func := "loop.example/g01229/laws.FnExactValidFlat", spec := "fnExactValidFlat", inPlace := ["math.Float32bits", "math.Float64bits"], unfollowed := true, recurses := true, apart := false, narrowed := true }
def FnExactValidFlatUptoSaid : Prop := fnExactValidFlatUptoRow.holds Try.pinned (OpenSpec.upto fnExactValidFlatSpec)

/-- 'laws.FnExactSameFlat', WHERE WHAT IT READS IS OF BULK AT MOST 1048576: true; the input reads as it did. -/
def fnExactSameFlatUptoRow : OpenClaim := { program := "ytpnkdjdilacddaar", sum := "e311b5549908283ce82b8a8f804a1cb556f720b15752ad140487807fab4f9749", func := "loop.example/g01229/laws.FnExactSameFlat", spec := "fnExactSameFlat", inPlace := ["math.Float32bits"], unfollowed := true, recurses := true, apart := false, narrowed := true }
def FnExactSameFlatUptoSaid : Prop := fnExactSameFlatUptoRow.holds Try.pinned (OpenSpec.upto fnExactSameFlatSpec)

/-- 'laws.FnExactEnergyOf', WHERE WHAT IT READS IS OF BULK AT MOST 1048576: true; the input reads as it did. -/
def fnExactEnergyOfUptoRow : OpenClaim := { program := "ytpnkdjdilacddaar", sum := "e311b5549908283ce82b8a8f804a1cb556f720b15752ad140487807fab4f9749", func := "loop.example/g01229/laws.FnExactEnergyOf", spec := "fnExactEnergyOf", inPlace := ["math.Float32bits", "math.Float64bits"], unfollowed := true, recurses := true, apart := false, narrowed := true }
def FnExactEnergyOfUptoSaid : Prop := fnExactEnergyOfUptoRow.holds Try.pinned (OpenSpec.upto fnExactEnergyOfSpec)

/-- 'laws.FnExactLossOf', WHERE WHAT IT READS IS OF BULK AT MOST 1048576: true; the input reads as it did. -/
def fnExactLossOfUptoRow : OpenClaim := { program := "ytpnkdjdilacddaar", sum := "e311b5549908283ce82b8a8f804a1cb556f720b15752ad140487807fab4f9749", func := "loop.example/g01229/laws.FnExactLossOf", spec := "fnExactLossOf", inPlace := ["math.Float32bits", "math.Float64bits"], unfollowed := true, recurses := true, apart := false, narrowed := true }
def FnExactLossOfUptoSaid : Prop := fnExactLossOfUptoRow.holds Try.pinned (OpenSpec.upto fnExactLossOfSpec)

/-- 'laws.FnExactColdestRoom', WHERE WHAT IT READS IS OF BULK AT MOST 1048576: true; the input reads as it did. -/
def fnExactColdestRoomUptoRow : OpenClaim := { program := "ytpnkdjdilacddaar", sum := "e311b5549908283ce82b8a8f804a1cb556f720b15752ad140487807fab4f9749", func := "loop.example/g01229/laws.FnExactColdestRoom", spec := "fnExactColdestRoom", inPlace := ["math.Float32bits", "math.Float64bits"], unfollowed := true, recurses := true, apart := false, narrowed := true }
def FnExactColdestRoomUptoSaid : Prop := fnExactColdestRoomUptoRow.holds Try.pinned (OpenSpec.upto fnExactColdestRoomSpec)

end Rows
end Go.Proofs.YtpnkdjdilacddaaR
