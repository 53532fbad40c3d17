/-
  No cell of these rows narrows 'for every input' (looked for: loops, veiled, ifaces, maps, wideKeys, modest, calm, conditions, laid).
  DERIVED. THE GIVEN ROWS OF THIS SEAT. 12 by the template 'for every input the law returns true; each argument reads behind the call as it read before'; 0 by the template 'total and deterministic' (their statements: YtbblhkjkokbheaaTotals.lean).
  GIVEN WITH THE SEED: the statements are not yours to turn. If you find one false, say at which input.
  Laid BY PROGRAM, IN A SANDBOX (cutbox-rows.mjs): the forced cells as the released guide's own fill.sh prints them over the translation 86ef63b06466039a… (all of the seat's roots in one cut). By AI agents, Wed Nov 11 2026. No macro, syntax, notation, axiom, sorry.
-/
import Derived.Test.YtbblhkjkokbheaaChecked
import GoSem.Claim
import GoSem.ClaimJoined
import GoSem.ClaimMapViews
import Derived.JoinedTies
import Derived.KernelRfl
namespace Go.Proofs.Ytbblhkjkokbheaa
/- THE CELL 'sum', in the pinned program and in every row, IS THE sha256 OF THE DUMP (.gsa) THAT YtbblhkjkokbheaaProg.lean LOADS. Nothing in Lean hashes anything: it is a label: what it is worth is what the hold of that sum in a sandbox is worth. -/
noncomputable def Try.pinned : Pinned := { name := "ytbblhkjkokbheaa", sum := "86ef63b06466039afd6fee1271a959dadd7d538ed9e95e9973b65faa95bd4035", checked := Try.checked }
namespace Rows
def none {H : Type} : Left H := { results := [], args := [] }

/-- 'laws.FnExactLogSteps': WHATEVER THE INPUT: true; the input reads as it did. -/
def fnExactLogStepsSpec : ChangeSpec := { name := "fnExactLogSteps", fn := fun _ => fun
  | [d1, d2, d3, d4, d5] => { results := [.lit (.bool true)], args := [d1, d2, d3, d4, d5] }
  | _ => none }
def fnExactLogStepsRow : OpenClaim := { program := "ytbblhkjkokbheaa", sum := "86ef63b06466039afd6fee1271a959dadd7d538ed9e95e9973b65faa95bd4035", func := "loop.example/g01229/laws.FnExactLogSteps", spec := "fnExactLogSteps", inPlace := ["math.Float32bits", "math.Float64bits"], plainKeys := false, apart := false }
def FnExactLogStepsSaid : Prop := fnExactLogStepsRow.holds Try.pinned (OpenSpec.ofChange fnExactLogStepsSpec)

/-- ITS FALSE NEIGHBOUR: 'it returns false'. Refute it at one input. -/
def fnExactLogStepsWrong : ChangeSpec := { name := "fnExactLogSteps", fn := fun _ => fun
  | [d1, d2, d3, d4, d5] => { results := [.lit (.bool false)], args := [d1, d2, d3, d4, d5] }
  | _ => none }
def FnExactLogStepsWrongFalsely : Prop := fnExactLogStepsRow.holds Try.pinned (OpenSpec.ofChange fnExactLogStepsWrong)

/-- 'laws.FnExactStepsToDry': WHATEVER THE INPUT: true; the input reads as it did. -/
def fnExactStepsToDrySpec : ChangeSpec := { name := "fnExactStepsToDry", fn := fun _ => fun
  | [d1, d2, d3, d4] => { results := [.lit (.bool true)], args := [d1, d2, d3, d4] }
  | _ => none }
def fnExactStepsToDryRow : OpenClaim := { program := "ytbblhkjkokbheaa", sum := "86ef63b06466039afd6fee1271a959dadd7d538ed9e95e9973b65faa95bd4035", func := "loop.example/g01229/laws.FnExactStepsToDry", spec := "fnExactStepsToDry", inPlace := ["math.Float32bits", "math.Float64bits"], plainKeys := false, apart := false }
def FnExactStepsToDrySaid : Prop := fnExactStepsToDryRow.holds Try.pinned (OpenSpec.ofChange fnExactStepsToDrySpec)

/-- ITS FALSE NEIGHBOUR: 'it returns false'. Refute it at one input. -/
def fnExactStepsToDryWrong : ChangeSpec := { name := "fnExactStepsToDry", fn := fun _ => fun
  | [d1, d2, d3, d4] => { results := [.lit (.bool false)], args := [d1, d2, d3, d4] }
  | _ => none }
def FnExactStepsToDryWrongFalsely : Prop := fnExactStepsToDryRow.holds Try.pinned (OpenSpec.ofChange fnExactStepsToDryWrong)

/-- 'laws.FnExactMixWoods': WHATEVER THE INPUT: true; the input reads as it did. -/
def fnExactMixWoodsSpec : ChangeSpec := { name := "fnExactMixWoods", fn := fun _ => fun
  | [d] => { results := [.lit (.bool true)], args := [d] }
  | _ => none }
def fnExactMixWoodsRow : OpenClaim := { program := "ytbblhkjkokbheaa", sum := "86ef63b06466039afd6fee1271a959dadd7d538ed9e95e9973b65faa95bd4035", func := "loop.example/g01229/laws.FnExactMixWoods", spec := "fnExactMixWoods", inPlace := ["math.Float32bits", "math.Float64bits"], plainKeys := false, apart := false }
def FnExactMixWoodsSaid : Prop := fnExactMixWoodsRow.holds Try.pinned (OpenSpec.ofChange fnExactMixWoodsSpec)

/-- ITS FALSE NEIGHBOUR: 'it returns false'. Refute it at one input. -/
def fnExactMixWoodsWrong : ChangeSpec := { name := "fnExactMixWoods", fn := fun _ => fun
  | [d] => { results := [.lit (.bool false)], args := [d] }
  | _ => none }
def FnExactMixWoodsWrongFalsely : Prop := fnExactMixWoodsRow.holds Try.pinned (OpenSpec.ofChange fnExactMixWoodsWrong)

/-- 'laws.FnExactSameStove': WHATEVER THE INPUT: true; the input reads as it did. -/
def fnExactSameStoveSpec : ChangeSpec := { name := "fnExactSameStove", fn := fun _ => fun
  | [d1, d2] => { results := [.lit (.bool true)], args := [d1, d2] }
  | _ => none }
def fnExactSameStoveRow : OpenClaim := { program := "ytbblhkjkokbheaa", sum := "86ef63b06466039afd6fee1271a959dadd7d538ed9e95e9973b65faa95bd4035", func := "loop.example/g01229/laws.FnExactSameStove", spec := "fnExactSameStove", inPlace := ["math.Float32bits"], unfollowed := true, recurses := true, plainKeys := false, apart := false }
def FnExactSameStoveSaid : Prop := fnExactSameStoveRow.holds Try.pinned (OpenSpec.ofChange fnExactSameStoveSpec)

/-- ITS FALSE NEIGHBOUR: 'it returns false'. Refute it at one input. -/
def fnExactSameStoveWrong : ChangeSpec := { name := "fnExactSameStove", fn := fun _ => fun
  | [d1, d2] => { results := [.lit (.bool false)], args := [d1, d2] }
  | _ => none }
def FnExactSameStoveWrongFalsely : Prop := fnExactSameStoveRow.holds Try.pinned (OpenSpec.ofChange fnExactSameStoveWrong)

/-- 'laws.FnExactPutLog': WHATEVER THE INPUT: true; the input reads as it did. -/
def fnExactPutLogSpec : ChangeSpec := { name := "fnExactPutLog", fn := fun _ => fun
  | [d1, d2] => { results := [.lit (.bool true)], args := [d1, d2] }
  | _ => none }
def fnExactPutLogRow : OpenClaim := { program := "ytbblhkjkokbheaa", sum := "86ef63b06466039afd6fee1271a959dadd7d538ed9e95e9973b65faa95bd4035", func := "loop.example/g01229/laws.FnExactPutLog", spec := "fnExactPutLog", inPlace := ["math.Float32bits", "math.Float64bits"], unfollowed := true, recurses := true, plainKeys := false, apart := false }
def FnExactPutLogSaid : Prop := fnExactPutLogRow.holds Try.pinned (OpenSpec.ofChange fnExactPutLogSpec)

/-- ITS FALSE NEIGHBOUR: 'it returns false'. Refute it at one input. -/
def fnExactPutLogWrong : ChangeSpec := { name := "fnExactPutLog", fn := fun _ => fun
  | [d1, d2] => { results := [.lit (.bool false)], args := [d1, d2] }
  | _ => none }
def FnExactPutLogWrongFalsely : Prop := fnExactPutLogRow.holds Try.pinned (OpenSpec.ofChange fnExactPutLogWrong)

/-- 'laws.FnExactTakeLog': WHATEVER THE INPUT: true; the input reads as it did. -/
def fnExactTakeLogSpec : ChangeSpec := { name := "fnExactTakeLog", fn := fun _ => fun
  | [d1, d2] => { results := [.lit (.bool true)], args := [d1, d2] }
  | _ => none }
def fnExactTakeLogRow : OpenClaim := { program := "ytbblhkjkokbheaa", sum := "86ef63b06466039afd6fee1271a959dadd7d538ed9e95e9973b65faa95bd4035", func := "loop.example/g01229/laws.FnExactTakeLog", spec := "fnExactTakeLog", inPlace := ["math.Float32bits", "math.Float64bits"], unfollowed := true, recurses := true, plainKeys := false, apart := false }
def FnExactTakeLogSaid : Prop := fnExactTakeLogRow.holds Try.pinned (OpenSpec.ofChange fnExactTakeLogSpec)

/-- ITS FALSE NEIGHBOUR: 'it returns false'. Refute it at one input. -/
def fnExactTakeLogWrong : ChangeSpec := { name := "fnExactTakeLog", fn := fun _ => fun
  | [d1, d2] => { results := [.lit (.bool false)], args := [d1, d2] }
  | _ => none }
def FnExactTakeLogWrongFalsely : Prop := fnExactTakeLogRow.holds Try.pinned (OpenSpec.ofChange fnExactTakeLogWrong)

/-- 'laws.FnExactDropSpent': WHATEVER THE INPUT: true; the input reads as it did. -/
def fnExactDropSpentSpec : ChangeSpec := { name := "fnExactDropSpent", fn := fun _ => fun
  | [d] => { results := [.lit (.bool true)], args := [d] }
  | _ => none }
def fnExactDropSpentRow : OpenClaim := { program := "ytbblhkjkokbheaa", sum := "86ef63b06466039afd6fee1271a959dadd7d538ed9e95e9973b65faa95bd4035", func := "loop.example/g01229/laws.FnExactDropSpent", spec := "fnExactDropSpent", inPlace := ["math.Float32bits", "math.Float64bits"], unfollowed := true, recurses := true, plainKeys := false, apart := false }
def FnExactDropSpentSaid : Prop := fnExactDropSpentRow.holds Try.pinned (OpenSpec.ofChange fnExactDropSpentSpec)

/-- ITS FALSE NEIGHBOUR: 'it returns false'. Refute it at one input. -/
def fnExactDropSpentWrong : ChangeSpec := { name := "fnExactDropSpent", fn := fun _ => fun
  | [d] => { results := [.lit (.bool false)], args := [d] }
  | _ => none }
def FnExactDropSpentWrongFalsely : Prop := fnExactDropSpentRow.holds Try.pinned (OpenSpec.ofChange fnExactDropSpentWrong)

/-- 'laws.FnExactNextState': WHATEVER THE INPUT: true; the input reads as it did. -/
def fnExactNextStateSpec : ChangeSpec := { name := "fnExactNextState", fn := fun _ => fun
  | [d1, d2, d3] => { results := [.lit (.bool true)], args := [d1, d2, d3] }
  | _ => none }
def fnExactNextStateRow : OpenClaim := { program := "ytbblhkjkokbheaa", sum := "86ef63b06466039afd6fee1271a959dadd7d538ed9e95e9973b65faa95bd4035", func := "loop.example/g01229/laws.FnExactNextState", spec := "fnExactNextState", plainKeys := false, apart := false }
def FnExactNextStateSaid : Prop := fnExactNextStateRow.holds Try.pinned (OpenSpec.ofChange fnExactNextStateSpec)

/-- ITS FALSE NEIGHBOUR: 'it returns false'. Refute it at one input. -/
def fnExactNextStateWrong : ChangeSpec := { name := "fnExactNextState", fn := fun _ => fun
  | [d1, d2, d3] => { results := [.lit (.bool false)], args := [d1, d2, d3] }
  | _ => none }
def FnExactNextStateWrongFalsely : Prop := fnExactNextStateRow.holds Try.pinned (OpenSpec.ofChange fnExactNextStateWrong)

/-- 'laws.FnExactFireStep': WHATEVER THE INPUT: true; the input reads as it did. -/
def fnExactFireStepSpec : ChangeSpec := { name := "fnExactFireStep", fn := fun _ => fun
  | [d1, d2, d3, d4] => { results := [.lit (.bool true)], args := [d1, d2, d3, d4] }
  | _ => none }
def fnExactFireStepRow : OpenClaim := { program := "ytbblhkjkokbheaa", sum := "86ef63b06466039afd6fee1271a959dadd7d538ed9e95e9973b65faa95bd4035", func := "loop.example/g01229/laws.FnExactFireStep", spec := "fnExactFireStep", inPlace := ["math.Float32bits", "math.archFloor", "math.Float64bits", "math.Float64frombits", "math.archTrunc"], unfollowed := true, recurses := true, plainKeys := false, apart := false }
def FnExactFireStepSaid : Prop := fnExactFireStepRow.holds Try.pinned (OpenSpec.ofChange fnExactFireStepSpec)

/-- ITS FALSE NEIGHBOUR: 'it returns false'. Refute it at one input. -/
def fnExactFireStepWrong : ChangeSpec := { name := "fnExactFireStep", fn := fun _ => fun
  | [d1, d2, d3, d4] => { results := [.lit (.bool false)], args := [d1, d2, d3, d4] }
  | _ => none }
def FnExactFireStepWrongFalsely : Prop := fnExactFireStepRow.holds Try.pinned (OpenSpec.ofChange fnExactFireStepWrong)

/-- 'laws.FnExactFireSteps': WHATEVER THE INPUT: true; the input reads as it did. -/
def fnExactFireStepsSpec : ChangeSpec := { name := "fnExactFireSteps", fn := fun _ => fun
  | [d1, d2, d3, d4, d5] => { results := [.lit (.bool true)], args := [d1, d2, d3, d4, d5] }
  | _ => none }
def fnExactFireStepsRow : OpenClaim := { program := "ytbblhkjkokbheaa", sum := "86ef63b06466039afd6fee1271a959dadd7d538ed9e95e9973b65faa95bd4035", func := "loop.example/g01229/laws.FnExactFireSteps", spec := "fnExactFireSteps", inPlace := ["math.Float32bits", "math.archFloor", "math.Float64bits", "math.Float64frombits", "math.archTrunc"], unfollowed := true, recurses := true, plainKeys := false, apart := false }
def FnExactFireStepsSaid : Prop := fnExactFireStepsRow.holds Try.pinned (OpenSpec.ofChange fnExactFireStepsSpec)

/-- ITS FALSE NEIGHBOUR: 'it returns false'. Refute it at one input. -/
def fnExactFireStepsWrong : ChangeSpec := { name := "fnExactFireSteps", fn := fun _ => fun
  | [d1, d2, d3, d4, d5] => { results := [.lit (.bool false)], args := [d1, d2, d3, d4, d5] }
  | _ => none }
def FnExactFireStepsWrongFalsely : Prop := fnExactFireStepsRow.holds Try.pinned (OpenSpec.ofChange fnExactFireStepsWrong)

/-- 'laws.FnExactStepsToCold': WHATEVER THE INPUT: true; the input reads as it did. -/
def fnExactStepsToColdSpec : ChangeSpec := { name := "fnExactStepsToCold", fn := fun _ => fun
  | [d1, d2, d3, d4] => { results := [.lit (.bool true)], args := [d1, d2, d3, d4] }
  | _ => none }
def fnExactStepsToColdRow : OpenClaim := { program := "ytbblhkjkokbheaa", sum := "86ef63b06466039afd6fee1271a959dadd7d538ed9e95e9973b65faa95bd4035", func := "loop.example/g01229/laws.FnExactStepsToCold", spec := "fnExactStepsToCold", inPlace := ["math.Float32bits", "math.archFloor", "math.Float64bits", "math.Float64frombits", "math.archTrunc"], unfollowed := true, recurses := true, plainKeys := false, apart := false }
def FnExactStepsToColdSaid : Prop := fnExactStepsToColdRow.holds Try.pinned (OpenSpec.ofChange fnExactStepsToColdSpec)

/-- ITS FALSE NEIGHBOUR: 'it returns false'. Refute it at one input. -/
def fnExactStepsToColdWrong : ChangeSpec := { name := "fnExactStepsToCold", fn := fun _ => fun
  | [d1, d2, d3, d4] => { results := [.lit (.bool false)], args := [d1, d2, d3, d4] }
  | _ => none }
def FnExactStepsToColdWrongFalsely : Prop := fnExactStepsToColdRow.holds Try.pinned (OpenSpec.ofChange fnExactStepsToColdWrong)

/-- 'laws.FnExactSmokeInto': WHATEVER THE INPUT: true; the input reads as it did. -/
def fnExactSmokeIntoSpec : ChangeSpec := { name := "fnExactSmokeInto", fn := fun _ => fun
  | [d1, d2, d3, d4] => { results := [.lit (.bool true)], args := [d1, d2, d3, d4] }
  | _ => none }
def fnExactSmokeIntoRow : OpenClaim := { program := "ytbblhkjkokbheaa", sum := "86ef63b06466039afd6fee1271a959dadd7d538ed9e95e9973b65faa95bd4035", func := "loop.example/g01229/laws.FnExactSmokeInto", spec := "fnExactSmokeInto", inPlace := ["math.Float32bits", "math.Float64bits"], unfollowed := true, recurses := true, plainKeys := false, apart := false }
def FnExactSmokeIntoSaid : Prop := fnExactSmokeIntoRow.holds Try.pinned (OpenSpec.ofChange fnExactSmokeIntoSpec)

/-- ITS FALSE NEIGHBOUR: 'it returns false'. Refute it at one input. -/
def fnExactSmokeIntoWrong : ChangeSpec := { name := "fnExactSmokeInto", fn := fun _ => fun
  | [d1, d2, d3, d4] => { results := [.lit (.bool false)], args := [d1, d2, d3, d4] }
  | _ => none }
def FnExactSmokeIntoWrongFalsely : Prop := fnExactSmokeIntoRow.holds Try.pinned (OpenSpec.ofChange fnExactSmokeIntoWrong)

/- THE SECOND FORM. 'bulk': how many values and letters a reading holds, each counted each time it is reached (what is shared counts as often as it is met; a slice's spare places count too). A statement '..UptoSaid' is the law's where the arguments, and the package variables that the reading takes, are together of bulk at most 1048576: NARROWER than '..Said'. Prove '..Said' where nothing that the law and all that it calls make is longer than what came in: it says more and counts as full. Else prove '..UptoSaid'. A law counts once. -/
mutual
def uptoBulk {H : Type} : DataW H → Nat
  | .lit (.string bytes) => bytes.length + 1
  | .lit _ => 1
  | .nil => 1
  | .ptr d => uptoBulk d + 1
  | .slice elems spare => uptoBulkAll elems + uptoBulkAll spare + 1
  | .agg parts => uptoBulkAll parts + 1
  | .iface _ d => uptoBulk d + 1
  | .map entries => uptoBulkEntries entries + 1
  | .held _ => 1
def uptoBulkAll {H : Type} : List (DataW H) → Nat
  | [] => 0
  | d :: r => uptoBulk d + uptoBulkAll r
def uptoBulkEntries {H : Type} : List (Lit × DataW H) → Nat
  | [] => 0
  | x :: r => uptoBulkEntry x + uptoBulkEntries r
def uptoBulkEntry {H : Type} : Lit × DataW H → Nat
  | (.string bytes, d) => bytes.length + uptoBulk d + 1
  | (_, d) => uptoBulk d + 1
 end
def uptoSmall : (H : Type) → List (DataW H) → Bool := fun _ ds => decide (uptoBulkAll ds ≤ 1048576)
def OpenSpec.upto (s : _root_.Go.ChangeSpec) : _root_.Go.OpenSpec := { _root_.Go.OpenSpec.ofChange s with cond := some uptoSmall }

/-- 'laws.FnExactLogSteps', WHERE WHAT IT READS IS OF BULK AT MOST 1048576: true; the input reads as it did. -/
def fnExactLogStepsUptoRow : OpenClaim := { program := "ytbblhkjkokbheaa", sum := "86ef63b06466039afd6fee1271a959dadd7d538ed9e95e9973b65faa95bd4035", func := "loop.example/g01229/laws.FnExactLogSteps", spec := "fnExactLogSteps", inPlace := ["math.Float32bits", "math.Float64bits"], plainKeys := false, apart := false, narrowed := true }
def FnExactLogStepsUptoSaid : Prop := fnExactLogStepsUptoRow.holds Try.pinned (OpenSpec.upto fnExactLogStepsSpec)

/-- 'laws.FnExactStepsToDry', WHERE WHAT IT READS IS OF BULK AT MOST 1048576: true; the input reads as it did. -/
def fnExactStepsToDryUptoRow : OpenClaim := { program := "ytbblhkjkokbheaa", sum := "86ef63b06466039afd6fee1271a959dadd7d538ed9e95e9973b65faa95bd4035", func := "loop.example/g01229/laws.FnExactStepsToDry", spec := "fnExactStepsToDry", inPlace := ["math.Float32bits", "math.Float64bits"], plainKeys := false, apart := false, narrowed := true }
def FnExactStepsToDryUptoSaid : Prop := fnExactStepsToDryUptoRow.holds Try.pinned (OpenSpec.upto fnExactStepsToDrySpec)

/-- 'laws.FnExactMixWoods', WHERE WHAT IT READS IS OF BULK AT MOST 1048576: true; the input reads as it did. -/
def fnExactMixWoodsUptoRow : OpenClaim := { program := "ytbblhkjkokbheaa", sum := "86ef63b06466039afd6fee1271a959dadd7d538ed9e95e9973b65faa95bd4035", func := "loop.example/g01229/laws.FnExactMixWoods", spec := "fnExactMixWoods", inPlace := ["math.Float32bits", "math.Float64bits"], plainKeys := false, apart := false, narrowed := true }
def FnExactMixWoodsUptoSaid : Prop := fnExactMixWoodsUptoRow.holds Try.pinned (OpenSpec.upto fnExactMixWoodsSpec)

/-- 'laws.FnExactSameStove', WHERE WHAT IT READS IS OF BULK AT MOST 1048576: true; the input reads as it did. -/
def fnExactSameStoveUptoRow : OpenClaim := { program := "ytbblhkjkokbheaa", sum := "86ef63b06466039afd6fee1271a959dadd7d538ed9e95e9973b65faa95bd4035", func := "loop.example/g01229/laws.FnExactSameStove", spec := "fnExactSameStove", inPlace := ["math.Float32bits"], unfollowed := true, recurses := true, plainKeys := false, apart := false, narrowed := true }
def FnExactSameStoveUptoSaid : Prop := fnExactSameStoveUptoRow.holds Try.pinned (OpenSpec.upto fnExactSameStoveSpec)

/-- 'laws.FnExactPutLog', WHERE WHAT IT READS IS OF BULK AT MOST 1048576: true; the input reads as it did. -/
def fnExactPutLogUptoRow : OpenClaim := { program := "ytbblhkjkokbheaa", sum := "86ef63b06466039afd6fee1271a959dadd7d538ed9e95e9973b65faa95bd4035", func := "loop.example/g01229/laws.FnExactPutLog", spec := "fnExactPutLog", inPlace := ["math.Float32bits", "math.Float64bits"], unfollowed := true, recurses := true, plainKeys := false, apart := false, narrowed := true }
def FnExactPutLogUptoSaid : Prop := fnExactPutLogUptoRow.holds Try.pinned (OpenSpec.upto fnExactPutLogSpec)

/-- 'laws.FnExactTakeLog', WHERE WHAT IT READS IS OF BULK AT MOST 1048576: true; the input reads as it did. -/
def fnExactTakeLogUptoRow : OpenClaim := { program := "ytbblhkjkokbheaa", sum := "86ef63b06466039afd6fee1271a959dadd7d538ed9e95e9973b65faa95bd4035", func := "loop.example/g01229/laws.FnExactTakeLog", spec := "fnExactTakeLog", inPlace := ["math.Float32bits", "math.Float64bits"], unfollowed := true, recurses := true, plainKeys := false, apart := false, narrowed := true }
def FnExactTakeLogUptoSaid : Prop := fnExactTakeLogUptoRow.holds Try.pinned (OpenSpec.upto fnExactTakeLogSpec)

/-- 'laws.FnExactDropSpent', WHERE WHAT IT READS IS OF BULK AT MOST 1048576: true; the input reads as it did. -/
def fnExactDropSpentUptoRow : OpenClaim := { program := "ytbblhkjkokbheaa", sum := "86ef63b06466039afd6fee1271a959dadd7d538ed9e95e9973b65faa95bd4035", func := "loop.example/g01229/laws.FnExactDropSpent", spec := "fnExactDropSpent", inPlace := ["math.Float32bits", "math.Float64bits"], unfollowed := true, recurses := true, plainKeys := false, apart := false, narrowed := true }
def FnExactDropSpentUptoSaid : Prop := fnExactDropSpentUptoRow.holds Try.pinned (OpenSpec.upto fnExactDropSpentSpec)

/-- 'laws.FnExactNextState', WHERE WHAT IT READS IS OF BULK AT MOST 1048576: true; the input reads as it did. -/
def fnExactNextStateUptoRow : OpenClaim := { program := "ytbblhkjkokbheaa", sum := "86ef63b06466039afd6fee1271a959dadd7d538ed9e95e9973b65faa95bd4035", func := "loop.example/g01229/laws.FnExactNextState", spec := "fnExactNextState", plainKeys := false, apart := false, narrowed := true }
def FnExactNextStateUptoSaid : Prop := fnExactNextStateUptoRow.holds Try.pinned (OpenSpec.upto fnExactNextStateSpec)

/-- 'laws.FnExactFireStep', WHERE WHAT IT READS IS OF BULK AT MOST 1048576: true; the input reads as it did. -/
def fnExactFireStepUptoRow : OpenClaim := { program := "ytbblhkjkokbheaa", sum := "86ef63b06466039afd6fee1271a959dadd7d538ed9e95e9973b65faa95bd4035", func := "loop.example/g01229/laws.FnExactFireStep", spec := "fnExactFireStep", inPlace := ["math.Float32bits", "math.archFloor", "math.Float64bits", "math.Float64frombits", "math.archTrunc"], unfollowed := true, recurses := true, plainKeys := false, apart := false, narrowed := true }
def FnExactFireStepUptoSaid : Prop := fnExactFireStepUptoRow.holds Try.pinned (OpenSpec.upto fnExactFireStepSpec)

/-- 'laws.FnExactFireSteps', WHERE WHAT IT READS IS OF BULK AT MOST 1048576: true; the input reads as it did. -/
def fnExactFireStepsUptoRow : OpenClaim := { program := "ytbblhkjkokbheaa", sum := "86ef63b06466039afd6fee1271a959dadd7d538ed9e95e9973b65faa95bd4035", func := "loop.example/g01229/laws.FnExactFireSteps", spec := "fnExactFireSteps", inPlace := ["math.Float32bits", "math.archFloor", "math.Float64bits", "math.Float64frombits", "math.archTrunc"], unfollowed := true, recurses := true, plainKeys := false, apart := false, narrowed := true }
def FnExactFireStepsUptoSaid : Prop := fnExactFireStepsUptoRow.holds Try.pinned (OpenSpec.upto fnExactFireStepsSpec)

/-- 'laws.FnExactStepsToCold', WHERE WHAT IT READS IS OF BULK AT MOST 1048576: true; the input reads as it did. -/
def fnExactStepsToColdUptoRow : OpenClaim := { program := "ytbblhkjkokbheaa", sum := "86ef63b06466039afd6fee1271a959dadd7d538ed9e95e9973b65faa95bd4035", func := "loop.example/g01229/laws.FnExactStepsToCold", spec := "fnExactStepsToCold", inPlace := ["math.Float32bits", "math.archFloor", "math.Float64bits", "math.Float64frombits", "math.archTrunc"], unfollowed := true, recurses := true, plainKeys := false, apart := false, narrowed := true }
def FnExactStepsToColdUptoSaid : Prop := fnExactStepsToColdUptoRow.holds Try.pinned (OpenSpec.upto fnExactStepsToColdSpec)

/-- 'laws.FnExactSmokeInto', WHERE WHAT IT READS IS OF BULK AT MOST 1048576: true; the input reads as it did. -/
def fnExactSmokeIntoUptoRow : OpenClaim := { program := "ytbblhkjkokbheaa", sum := "86ef63b06466039afd6fee1271a959dadd7d538ed9e95e9973b65faa95bd4035", func := "loop.example/g01229/laws.FnExactSmokeInto", spec := "fnExactSmokeInto", inPlace := ["math.Float32bits", "math.Float64bits"], unfollowed := true, recurses := true, plainKeys := false, apart := false, narrowed := true }
def FnExactSmokeIntoUptoSaid : Prop := fnExactSmokeIntoUptoRow.holds Try.pinned (OpenSpec.upto fnExactSmokeIntoSpec)

end Rows
end Go.Proofs.Ytbblhkjkokbheaa
