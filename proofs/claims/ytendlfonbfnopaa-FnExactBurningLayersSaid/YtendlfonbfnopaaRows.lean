/-
  No cell of these rows narrows 'for every input' (looked for: loops, veiled, ifaces, maps, wideKeys, modest, calm, conditions, laid).
  DERIVED. THE GIVEN ROWS OF THIS SEAT. 12 by the template 'for every input the law returns true; each argument reads behind the call as it read before'; 0 by the template 'total and deterministic' (their statements: YtendlfonbfnopaaTotals.lean).
  GIVEN WITH THE SEED: the statements are not yours to turn. If you find one false, say at which input.
  Laid BY PROGRAM, IN A SANDBOX (cutbox-rows.mjs): the forced cells as the released guide's own fill.sh prints them over the translation e4539d65d32583bb… (all of the seat's roots in one cut). By AI agents, Wed Nov 11 2026. No macro, syntax, notation, axiom, sorry.
-/
import Derived.Test.YtendlfonbfnopaaChecked
import GoSem.Claim
import GoSem.ClaimJoined
import GoSem.ClaimMapViews
import Derived.JoinedTies
import Derived.KernelRfl
namespace Go.Proofs.Ytendlfonbfnopaa
/- THE CELL 'sum', in the pinned program and in every row, IS THE sha256 OF THE DUMP (.gsa) THAT YtendlfonbfnopaaProg.lean LOADS. Nothing in Lean hashes anything: it is a label: what it is worth is what the hold of that sum in a sandbox is worth. -/
noncomputable def Try.pinned : Pinned := { name := "ytendlfonbfnopaa", sum := "e4539d65d32583bb82d8245c2d07da34299d12388ad7bc0459772a8c20a22f22", checked := Try.checked }
namespace Rows
def none {H : Type} : Left H := { results := [], args := [] }

/-- 'laws.FnExactSplitWood': WHATEVER THE INPUT: true; the input reads as it did. -/
def fnExactSplitWoodSpec : ChangeSpec := { name := "fnExactSplitWood", fn := fun _ => fun
  | [d] => { results := [.lit (.bool true)], args := [d] }
  | _ => none }
def fnExactSplitWoodRow : OpenClaim := { program := "ytendlfonbfnopaa", sum := "e4539d65d32583bb82d8245c2d07da34299d12388ad7bc0459772a8c20a22f22", func := "loop.example/g01229/laws.FnExactSplitWood", spec := "fnExactSplitWood", inPlace := ["math.Float32bits", "math.Float64bits"], plainKeys := false, apart := false }
def FnExactSplitWoodSaid : Prop := fnExactSplitWoodRow.holds Try.pinned (OpenSpec.ofChange fnExactSplitWoodSpec)

/-- ITS FALSE NEIGHBOUR: 'it returns false'. Refute it at one input. -/
def fnExactSplitWoodWrong : ChangeSpec := { name := "fnExactSplitWood", fn := fun _ => fun
  | [d] => { results := [.lit (.bool false)], args := [d] }
  | _ => none }
def FnExactSplitWoodWrongFalsely : Prop := fnExactSplitWoodRow.holds Try.pinned (OpenSpec.ofChange fnExactSplitWoodWrong)

/-- 'laws.FnExactBurningLayers': WHATEVER THE INPUT: true; the input reads as it did. -/
def fnExactBurningLayersSpec : ChangeSpec := { name := "fnExactBurningLayers", fn := fun _ => fun
  | [d] => { results := [.lit (.bool true)], args := [d] }
  | _ => none }
def fnExactBurningLayersRow : OpenClaim := { program := "ytendlfonbfnopaa", sum := "e4539d65d32583bb82d8245c2d07da34299d12388ad7bc0459772a8c20a22f22", func := "loop.example/g01229/laws.FnExactBurningLayers", spec := "fnExactBurningLayers", inPlace := ["math.Float32bits", "math.Float64bits"], plainKeys := false, apart := false }
def FnExactBurningLayersSaid : Prop := fnExactBurningLayersRow.holds Try.pinned (OpenSpec.ofChange fnExactBurningLayersSpec)

/-- ITS FALSE NEIGHBOUR: 'it returns false'. Refute it at one input. -/
def fnExactBurningLayersWrong : ChangeSpec := { name := "fnExactBurningLayers", fn := fun _ => fun
  | [d] => { results := [.lit (.bool false)], args := [d] }
  | _ => none }
def FnExactBurningLayersWrongFalsely : Prop := fnExactBurningLayersRow.holds Try.pinned (OpenSpec.ofChange fnExactBurningLayersWrong)

/-- 'laws.FnExactMixWoods': WHATEVER THE INPUT: true; the input reads as it did. -/
def fnExactMixWoodsSpec : ChangeSpec := { name := "fnExactMixWoods", fn := fun _ => fun
  | [d] => { results := [.lit (.bool true)], args := [d] }
  | _ => none }
def fnExactMixWoodsRow : OpenClaim := { program := "ytendlfonbfnopaa", sum := "e4539d65d32583bb82d8245c2d07da34299d12388ad7bc0459772a8c20a22f22", func := "loop.example/g01229/laws.FnExactMixWoods", spec := "fnExactMixWoods", inPlace := ["math.Float32bits", "math.Float64bits"], plainKeys := false, apart := false }
def FnExactMixWoodsSaid : Prop := fnExactMixWoodsRow.holds Try.pinned (OpenSpec.ofChange fnExactMixWoodsSpec)

/-- ITS FALSE NEIGHBOUR: 'it returns false'. Refute it at one input. -/
def fnExactMixWoodsWrong : ChangeSpec := { name := "fnExactMixWoods", fn := fun _ => fun
  | [d] => { results := [.lit (.bool false)], args := [d] }
  | _ => none }
def FnExactMixWoodsWrongFalsely : Prop := fnExactMixWoodsRow.holds Try.pinned (OpenSpec.ofChange fnExactMixWoodsWrong)

/-- 'laws.FnExactLogSteps': WHATEVER THE INPUT: true; the input reads as it did. -/
def fnExactLogStepsSpec : ChangeSpec := { name := "fnExactLogSteps", fn := fun _ => fun
  | [d1, d2, d3, d4, d5] => { results := [.lit (.bool true)], args := [d1, d2, d3, d4, d5] }
  | _ => none }
def fnExactLogStepsRow : OpenClaim := { program := "ytendlfonbfnopaa", sum := "e4539d65d32583bb82d8245c2d07da34299d12388ad7bc0459772a8c20a22f22", func := "loop.example/g01229/laws.FnExactLogSteps", spec := "fnExactLogSteps", inPlace := ["math.Float32bits", "math.Float64bits"], plainKeys := false, apart := false }
def FnExactLogStepsSaid : Prop := fnExactLogStepsRow.holds Try.pinned (OpenSpec.ofChange fnExactLogStepsSpec)

/-- ITS FALSE NEIGHBOUR: 'it returns false'. Refute it at one input. -/
def fnExactLogStepsWrong : ChangeSpec := { name := "fnExactLogSteps", fn := fun _ => fun
  | [d1, d2, d3, d4, d5] => { results := [.lit (.bool false)], args := [d1, d2, d3, d4, d5] }
  | _ => none }
def FnExactLogStepsWrongFalsely : Prop := fnExactLogStepsRow.holds Try.pinned (OpenSpec.ofChange fnExactLogStepsWrong)

/-- 'laws.FnExactStepsToDry': WHATEVER THE INPUT: true; the input reads as it did. -/
def fnExactStepsToDrySpec : ChangeSpec := { name := "fnExactStepsToDry", fn := fun _ => fun
  | [d1, d2, d3, d4] => { results := [.lit (.bool true)], args := [d1, d2, d3, d4] }
  | _ => none }
def fnExactStepsToDryRow : OpenClaim := { program := "ytendlfonbfnopaa", sum := "e4539d65d32583bb82d8245c2d07da34299d12388ad7bc0459772a8c20a22f22", func := "loop.example/g01229/laws.FnExactStepsToDry", spec := "fnExactStepsToDry", inPlace := ["math.Float32bits", "math.Float64bits"], plainKeys := false, apart := false }
def FnExactStepsToDrySaid : Prop := fnExactStepsToDryRow.holds Try.pinned (OpenSpec.ofChange fnExactStepsToDrySpec)

/-- ITS FALSE NEIGHBOUR: 'it returns false'. Refute it at one input. -/
def fnExactStepsToDryWrong : ChangeSpec := { name := "fnExactStepsToDry", fn := fun _ => fun
  | [d1, d2, d3, d4] => { results := [.lit (.bool false)], args := [d1, d2, d3, d4] }
  | _ => none }
def FnExactStepsToDryWrongFalsely : Prop := fnExactStepsToDryRow.holds Try.pinned (OpenSpec.ofChange fnExactStepsToDryWrong)

/-- 'laws.FnExactSetFlue': WHATEVER THE INPUT: true; the input reads as it did. -/
def fnExactSetFlueSpec : ChangeSpec := { name := "fnExactSetFlue", fn := fun _ => fun
  | [d1, d2, d3] => { results := [.lit (.bool true)], args := [d1, d2, d3] }
  | _ => none }
def fnExactSetFlueRow : OpenClaim := { program := "ytendlfonbfnopaa", sum := "e4539d65d32583bb82d8245c2d07da34299d12388ad7bc0459772a8c20a22f22", func := "loop.example/g01229/laws.FnExactSetFlue", spec := "fnExactSetFlue", inPlace := ["math.Float32bits", "math.Float64bits"], plainKeys := false, apart := false }
def FnExactSetFlueSaid : Prop := fnExactSetFlueRow.holds Try.pinned (OpenSpec.ofChange fnExactSetFlueSpec)

/-- ITS FALSE NEIGHBOUR: 'it returns false'. Refute it at one input. -/
def fnExactSetFlueWrong : ChangeSpec := { name := "fnExactSetFlue", fn := fun _ => fun
  | [d1, d2, d3] => { results := [.lit (.bool false)], args := [d1, d2, d3] }
  | _ => none }
def FnExactSetFlueWrongFalsely : Prop := fnExactSetFlueRow.holds Try.pinned (OpenSpec.ofChange fnExactSetFlueWrong)

/-- 'laws.FnExactBlownBack': WHATEVER THE INPUT: true; the input reads as it did. -/
def fnExactBlownBackSpec : ChangeSpec := { name := "fnExactBlownBack", fn := fun _ => fun
  | [d1, d2, d3] => { results := [.lit (.bool true)], args := [d1, d2, d3] }
  | _ => none }
def fnExactBlownBackRow : OpenClaim := { program := "ytendlfonbfnopaa", sum := "e4539d65d32583bb82d8245c2d07da34299d12388ad7bc0459772a8c20a22f22", func := "loop.example/g01229/laws.FnExactBlownBack", spec := "fnExactBlownBack", inPlace := ["math.Float32bits", "math.sqrt", "math.Float64bits"], unfollowed := true, recurses := true, plainKeys := false, apart := false }
def FnExactBlownBackSaid : Prop := fnExactBlownBackRow.holds Try.pinned (OpenSpec.ofChange fnExactBlownBackSpec)

/-- ITS FALSE NEIGHBOUR: 'it returns false'. Refute it at one input. -/
def fnExactBlownBackWrong : ChangeSpec := { name := "fnExactBlownBack", fn := fun _ => fun
  | [d1, d2, d3] => { results := [.lit (.bool false)], args := [d1, d2, d3] }
  | _ => none }
def FnExactBlownBackWrongFalsely : Prop := fnExactBlownBackRow.holds Try.pinned (OpenSpec.ofChange fnExactBlownBackWrong)

/-- 'laws.FnExactSmokeInto': WHATEVER THE INPUT: true; the input reads as it did. -/
def fnExactSmokeIntoSpec : ChangeSpec := { name := "fnExactSmokeInto", fn := fun _ => fun
  | [d1, d2, d3, d4] => { results := [.lit (.bool true)], args := [d1, d2, d3, d4] }
  | _ => none }
def fnExactSmokeIntoRow : OpenClaim := { program := "ytendlfonbfnopaa", sum := "e4539d65d32583bb82d8245c2d07da34299d12388ad7bc0459772a8c20a22f22", func := "loop.example/g01229/laws.FnExactSmokeInto", spec := "fnExactSmokeInto", inPlace := ["math.Float32bits", "math.Float64bits"], unfollowed := true, recurses := true, plainKeys := false, apart := false }
def FnExactSmokeIntoSaid : Prop := fnExactSmokeIntoRow.holds Try.pinned (OpenSpec.ofChange fnExactSmokeIntoSpec)

/-- ITS FALSE NEIGHBOUR: 'it returns false'. Refute it at one input. -/
def fnExactSmokeIntoWrong : ChangeSpec := { name := "fnExactSmokeInto", fn := fun _ => fun
  | [d1, d2, d3, d4] => { results := [.lit (.bool false)], args := [d1, d2, d3, d4] }
  | _ => none }
def FnExactSmokeIntoWrongFalsely : Prop := fnExactSmokeIntoRow.holds Try.pinned (OpenSpec.ofChange fnExactSmokeIntoWrong)

/-- 'laws.FnExactWarmChimney': WHATEVER THE INPUT: true; the input reads as it did. -/
def fnExactWarmChimneySpec : ChangeSpec := { name := "fnExactWarmChimney", fn := fun _ => fun
  | [d1, d2, d3, d4, d5] => { results := [.lit (.bool true)], args := [d1, d2, d3, d4, d5] }
  | _ => none }
def fnExactWarmChimneyRow : OpenClaim := { program := "ytendlfonbfnopaa", sum := "e4539d65d32583bb82d8245c2d07da34299d12388ad7bc0459772a8c20a22f22", func := "loop.example/g01229/laws.FnExactWarmChimney", spec := "fnExactWarmChimney", inPlace := ["math.Float32bits", "math.sqrt", "math.Float64bits", "math.Float64frombits"], unfollowed := true, recurses := true, plainKeys := false, apart := false }
def FnExactWarmChimneySaid : Prop := fnExactWarmChimneyRow.holds Try.pinned (OpenSpec.ofChange fnExactWarmChimneySpec)

/-- ITS FALSE NEIGHBOUR: 'it returns false'. Refute it at one input. -/
def fnExactWarmChimneyWrong : ChangeSpec := { name := "fnExactWarmChimney", fn := fun _ => fun
  | [d1, d2, d3, d4, d5] => { results := [.lit (.bool false)], args := [d1, d2, d3, d4, d5] }
  | _ => none }
def FnExactWarmChimneyWrongFalsely : Prop := fnExactWarmChimneyRow.holds Try.pinned (OpenSpec.ofChange fnExactWarmChimneyWrong)

/-- 'laws.FnExactStepsToDraw': WHATEVER THE INPUT: true; the input reads as it did. -/
def fnExactStepsToDrawSpec : ChangeSpec := { name := "fnExactStepsToDraw", fn := fun _ => fun
  | [d1, d2, d3, d4, d5, d6] => { results := [.lit (.bool true)], args := [d1, d2, d3, d4, d5, d6] }
  | _ => none }
def fnExactStepsToDrawRow : OpenClaim := { program := "ytendlfonbfnopaa", sum := "e4539d65d32583bb82d8245c2d07da34299d12388ad7bc0459772a8c20a22f22", func := "loop.example/g01229/laws.FnExactStepsToDraw", spec := "fnExactStepsToDraw", inPlace := ["math.Float32bits", "math.sqrt", "math.Float64bits", "math.Float64frombits"], unfollowed := true, recurses := true, plainKeys := false, apart := false }
def FnExactStepsToDrawSaid : Prop := fnExactStepsToDrawRow.holds Try.pinned (OpenSpec.ofChange fnExactStepsToDrawSpec)

/-- ITS FALSE NEIGHBOUR: 'it returns false'. Refute it at one input. -/
def fnExactStepsToDrawWrong : ChangeSpec := { name := "fnExactStepsToDraw", fn := fun _ => fun
  | [d1, d2, d3, d4, d5, d6] => { results := [.lit (.bool false)], args := [d1, d2, d3, d4, d5, d6] }
  | _ => none }
def FnExactStepsToDrawWrongFalsely : Prop := fnExactStepsToDrawRow.holds Try.pinned (OpenSpec.ofChange fnExactStepsToDrawWrong)

/-- 'laws.FnExactPushAt': WHATEVER THE INPUT: true; the input reads as it did. -/
def fnExactPushAtSpec : ChangeSpec := { name := "fnExactPushAt", fn := fun _ => fun
  | [d1, d2, d3, d4] => { results := [.lit (.bool true)], args := [d1, d2, d3, d4] }
  | _ => none }
def fnExactPushAtRow : OpenClaim := { program := "ytendlfonbfnopaa", sum := "e4539d65d32583bb82d8245c2d07da34299d12388ad7bc0459772a8c20a22f22", func := "loop.example/g01229/laws.FnExactPushAt", spec := "fnExactPushAt", inPlace := ["math.Float32bits", "math.sqrt", "math.Float64bits"], unfollowed := true, recurses := true, plainKeys := false, apart := false }
def FnExactPushAtSaid : Prop := fnExactPushAtRow.holds Try.pinned (OpenSpec.ofChange fnExactPushAtSpec)

/-- ITS FALSE NEIGHBOUR: 'it returns false'. Refute it at one input. -/
def fnExactPushAtWrong : ChangeSpec := { name := "fnExactPushAt", fn := fun _ => fun
  | [d1, d2, d3, d4] => { results := [.lit (.bool false)], args := [d1, d2, d3, d4] }
  | _ => none }
def FnExactPushAtWrongFalsely : Prop := fnExactPushAtRow.holds Try.pinned (OpenSpec.ofChange fnExactPushAtWrong)

/-- 'laws.FnExactFlowsOf': WHATEVER THE INPUT: true; the input reads as it did. -/
def fnExactFlowsOfSpec : ChangeSpec := { name := "fnExactFlowsOf", fn := fun _ => fun
  | [d1, d2, d3] => { results := [.lit (.bool true)], args := [d1, d2, d3] }
  | _ => none }
def fnExactFlowsOfRow : OpenClaim := { program := "ytendlfonbfnopaa", sum := "e4539d65d32583bb82d8245c2d07da34299d12388ad7bc0459772a8c20a22f22", func := "loop.example/g01229/laws.FnExactFlowsOf", spec := "fnExactFlowsOf", inPlace := ["math.Float32bits", "math.sqrt", "math.Float64bits"], unfollowed := true, recurses := true, plainKeys := false, apart := false }
def FnExactFlowsOfSaid : Prop := fnExactFlowsOfRow.holds Try.pinned (OpenSpec.ofChange fnExactFlowsOfSpec)

/-- ITS FALSE NEIGHBOUR: 'it returns false'. Refute it at one input. -/
def fnExactFlowsOfWrong : ChangeSpec := { name := "fnExactFlowsOf", fn := fun _ => fun
  | [d1, d2, d3] => { results := [.lit (.bool false)], args := [d1, d2, d3] }
  | _ => none }
def FnExactFlowsOfWrongFalsely : Prop := fnExactFlowsOfRow.holds Try.pinned (OpenSpec.ofChange fnExactFlowsOfWrong)

/- THE SECOND FORM. 'bulk': how many values and letters a reading holds, each counted each time it is reached (what is shared counts as often as it is met; a slice's spare places count too). A statement '..UptoSaid' is the law's where the arguments, and the package variables that the reading takes, are together of bulk at most 1048576: NARROWER than '..Said'. Prove '..Said' where nothing that the law and all that it calls make is longer than what came in: it says more and counts as full. Else prove '..UptoSaid'. A law counts once. -/
mutual
def uptoBulk {H : Type} : DataW H → Nat
  | .lit (.string bytes) => bytes.length + 1
  | .lit _ => 1
  | .nil => 1
  | .ptr d => uptoBulk d + 1
  | .slice elems spare => uptoBulkAll elems + uptoBulkAll spare + 1
  | .agg parts => uptoBulkAll parts + 1
  | .iface _ d => uptoBulk d + 1
  | .map entries => uptoBulkEntries entries + 1
  | .held _ => 1
def uptoBulkAll {H : Type} : List (DataW H) → Nat
  | [] => 0
  | d :: r => uptoBulk d + uptoBulkAll r
def uptoBulkEntries {H : Type} : List (Lit × DataW H) → Nat
  | [] => 0
  | x :: r => uptoBulkEntry x + uptoBulkEntries r
def uptoBulkEntry {H : Type} : Lit × DataW H → Nat
  | (.string bytes, d) => bytes.length + uptoBulk d + 1
  | (_, d) => uptoBulk d + 1
 end
def uptoSmall : (H : Type) → List (DataW H) → Bool := fun _ ds => decide (uptoBulkAll ds ≤ 1048576)
def OpenSpec.upto (s : _root_.Go.ChangeSpec) : _root_.Go.OpenSpec := { _root_.Go.OpenSpec.ofChange s with cond := some uptoSmall }

/-- 'laws.FnExactSplitWood', WHERE WHAT IT READS IS OF BULK AT MOST 1048576: true; the input reads as it did. -/
def fnExactSplitWoodUptoRow : OpenClaim := { program := "ytendlfonbfnopaa", sum := "e4539d65d32583bb82d8245c2d07da34299d12388ad7bc0459772a8c20a22f22", func := "loop.example/g01229/laws.FnExactSplitWood", spec := "fnExactSplitWood", inPlace := ["math.Float32bits", "math.Float64bits"], plainKeys := false, apart := false, narrowed := true }
def FnExactSplitWoodUptoSaid : Prop := fnExactSplitWoodUptoRow.holds Try.pinned (OpenSpec.upto fnExactSplitWoodSpec)

/-- 'laws.FnExactBurningLayers', WHERE WHAT IT READS IS OF BULK AT MOST 1048576: true; the input reads as it did. -/
def fnExactBurningLayersUptoRow : OpenClaim := { program := "ytendlfonbfnopaa", sum := "e4539d65d32583bb82d8245c2d07da34299d12388ad7bc0459772a8c20a22f22", func := "loop.example/g01229/laws.FnExactBurningLayers", spec := "fnExactBurningLayers", inPlace := ["math.Float32bits", "math.Float64bits"], plainKeys := false, apart := false, narrowed := true }
def FnExactBurningLayersUptoSaid : Prop := fnExactBurningLayersUptoRow.holds Try.pinned (OpenSpec.upto fnExactBurningLayersSpec)

/-- 'laws.FnExactMixWoods', WHERE WHAT IT READS IS OF BULK AT MOST 1048576: true; the input reads as it did. -/
def fnExactMixWoodsUptoRow : OpenClaim := { program := "ytendlfonbfnopaa", sum := "e4539d65d32583bb82d8245c2d07da34299d12388ad7bc0459772a8c20a22f22", func := "loop.example/g01229/laws.FnExactMixWoods", spec := "fnExactMixWoods", inPlace := ["math.Float32bits", "math.Float64bits"], plainKeys := false, apart := false, narrowed := true }
def FnExactMixWoodsUptoSaid : Prop := fnExactMixWoodsUptoRow.holds Try.pinned (OpenSpec.upto fnExactMixWoodsSpec)

/-- 'laws.FnExactLogSteps', WHERE WHAT IT READS IS OF BULK AT MOST 1048576: true; the input reads as it did. -/
def fnExactLogStepsUptoRow : OpenClaim := { program := "ytendlfonbfnopaa", sum := "e4539d65d32583bb82d8245c2d07da34299d12388ad7bc0459772a8c20a22f22", func := "loop.example/g01229/laws.FnExactLogSteps", spec := "fnExactLogSteps", inPlace := ["math.Float32bits", "math.Float64bits"], plainKeys := false, apart := false, narrowed := true }
def FnExactLogStepsUptoSaid : Prop := fnExactLogStepsUptoRow.holds Try.pinned (OpenSpec.upto fnExactLogStepsSpec)

/-- 'laws.FnExactStepsToDry', WHERE WHAT IT READS IS OF BULK AT MOST 1048576: true; the input reads as it did. -/
def fnExactStepsToDryUptoRow : OpenClaim := { program := "ytendlfonbfnopaa", sum := "e4539d65d32583bb82d8245c2d07da34299d12388ad7bc0459772a8c20a22f22", func := "loop.example/g01229/laws.FnExactStepsToDry", spec := "fnExactStepsToDry", inPlace := ["math.Float32bits", "math.Float64bits"], plainKeys := false, apart := false, narrowed := true }
def FnExactStepsToDryUptoSaid : Prop := fnExactStepsToDryUptoRow.holds Try.pinned (OpenSpec.upto fnExactStepsToDrySpec)

/-- 'laws.FnExactSetFlue', WHERE WHAT IT READS IS OF BULK AT MOST 1048576: true; the input reads as it did. -/
def fnExactSetFlueUptoRow : OpenClaim := { program := "ytendlfonbfnopaa", sum := "e4539d65d32583bb82d8245c2d07da34299d12388ad7bc0459772a8c20a22f22", func := "loop.example/g01229/laws.FnExactSetFlue", spec := "fnExactSetFlue", inPlace := ["math.Float32bits", "math.Float64bits"], plainKeys := false, apart := false, narrowed := true }
def FnExactSetFlueUptoSaid : Prop := fnExactSetFlueUptoRow.holds Try.pinned (OpenSpec.upto fnExactSetFlueSpec)

/-- 'laws.FnExactBlownBack', WHERE WHAT IT READS IS OF BULK AT MOST 1048576: true; the input reads as it did. -/
def fnExactBlownBackUptoRow : OpenClaim := { program := "ytendlfonbfnopaa", sum := "e4539d65d32583bb82d8245c2d07da34299d12388ad7bc0459772a8c20a22f22", func := "loop.example/g01229/laws.FnExactBlownBack", spec := "fnExactBlownBack", inPlace := ["math.Float32bits", "math.sqrt", "math.Float64bits"], unfollowed := true, recurses := true, plainKeys := false, apart := false, narrowed := true }
def FnExactBlownBackUptoSaid : Prop := fnExactBlownBackUptoRow.holds Try.pinned (OpenSpec.upto fnExactBlownBackSpec)

/-- 'laws.FnExactSmokeInto', WHERE WHAT IT READS IS OF BULK AT MOST 1048576: true; the input reads as it did. -/
def fnExactSmokeIntoUptoRow : OpenClaim := { program := "ytendlfonbfnopaa", sum := "e4539d65d32583bb82d8245c2d07da34299d12388ad7bc0459772a8c20a22f22", func := "loop.example/g01229/laws.FnExactSmokeInto", spec := "fnExactSmokeInto", inPlace := ["math.Float32bits", "math.Float64bits"], unfollowed := true, recurses := true, plainKeys := false, apart := false, narrowed := true }
def FnExactSmokeIntoUptoSaid : Prop := fnExactSmokeIntoUptoRow.holds Try.pinned (OpenSpec.upto fnExactSmokeIntoSpec)

/-- 'laws.FnExactWarmChimney', WHERE WHAT IT READS IS OF BULK AT MOST 1048576: true; the input reads as it did. -/
def fnExactWarmChimneyUptoRow : OpenClaim := { program := "ytendlfonbfnopaa", sum := "e4539d65d32583bb82d8245c2d07da34299d12388ad7bc0459772a8c20a22f22", func := "loop.example/g01229/laws.FnExactWarmChimney", spec := "fnExactWarmChimney", inPlace := ["math.Float32bits", "math.sqrt", "math.Float64bits", "math.Float64frombits"], unfollowed := true, recurses := true, plainKeys := false, apart := false, narrowed := true }
def FnExactWarmChimneyUptoSaid : Prop := fnExactWarmChimneyUptoRow.holds Try.pinned (OpenSpec.upto fnExactWarmChimneySpec)

/-- 'laws.FnExactStepsToDraw', WHERE WHAT IT READS IS OF BULK AT MOST 1048576: true; the input reads as it did. -/
def fnExactStepsToDrawUptoRow : OpenClaim := { program := "ytendlfonbfnopaa", sum := "e4539d65d32583bb82d8245c2d07da34299d12388ad7bc0459772a8c20a22f22", func := "loop.example/g01229/laws.FnExactStepsToDraw", spec := "fnExactStepsToDraw", inPlace := ["math.Float32bits", "math.sqrt", "math.Float64bits", "math.Float64frombits"], unfollowed := true, recurses := true, plainKeys := false, apart := false, narrowed := true }
def FnExactStepsToDrawUptoSaid : Prop := fnExactStepsToDrawUptoRow.holds Try.pinned (OpenSpec.upto fnExactStepsToDrawSpec)

/-- 'laws.FnExactPushAt', WHERE WHAT IT READS IS OF BULK AT MOST 1048576: true; the input reads as it did. -/
def fnExactPushAtUptoRow : OpenClaim := { program := "ytendlfonbfnopaa", sum := "e4539d65d32583bb82d8245c2d07da34299d12388ad7bc0459772a8c20a22f22", func := "loop.example/g01229/laws.FnExactPushAt", spec := "fnExactPushAt", inPlace := ["math.Float32bits", "math.sqrt", "math.Float64bits"], unfollowed := true, recurses := true, plainKeys := false, apart := false, narrowed := true }
def FnExactPushAtUptoSaid : Prop := fnExactPushAtUptoRow.holds Try.pinned (OpenSpec.upto fnExactPushAtSpec)

/-- 'laws.FnExactFlowsOf', WHERE WHAT IT READS IS OF BULK AT MOST 1048576: true; the input reads as it did. -/
def fnExactFlowsOfUptoRow : OpenClaim := { program := "ytendlfonbfnopaa", sum := "e4539d65d32583bb82d8245c2d07da34299d12388ad7bc0459772a8c20a22f22", func := "loop.example/g01229/laws.FnExactFlowsOf", spec := "fnExactFlowsOf", inPlace := ["math.Float32bits", "math.sqrt", "math.Float64bits"], unfollowed := true, recurses := true, plainKeys := false, apart := false, narrowed := true }
def FnExactFlowsOfUptoSaid : Prop := fnExactFlowsOfUptoRow.holds Try.pinned (OpenSpec.upto fnExactFlowsOfSpec)

end Rows
end Go.Proofs.Ytendlfonbfnopaa
