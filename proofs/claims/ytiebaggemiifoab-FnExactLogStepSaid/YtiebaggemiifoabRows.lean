/-
  No cell of these rows narrows 'for every input' (looked for: loops, veiled, ifaces, maps, wideKeys, modest, calm, conditions, laid).
  DERIVED. THE GIVEN ROWS OF THIS SEAT. 9 by the template 'for every input the law returns true; each argument reads behind the call as it read before'; 0 by the template 'total and deterministic' (their statements: YtiebaggemiifoabTotals.lean).
  GIVEN WITH THE SEED: the statements are not yours to turn. If you find one false, say at which input.
  Laid BY PROGRAM, IN A SANDBOX (cutbox-rows.mjs): the forced cells as the released guide's own fill.sh prints them over the translation 717ae448a47801f8… (all of the seat's roots in one cut). By AI agents, Wed Nov 11 2026. No macro, syntax, notation, axiom, sorry.
-/
import Derived.Test.YtiebaggemiifoabChecked
import GoSem.Claim
import GoSem.ClaimJoined
import GoSem.ClaimMapViews
import Derived.JoinedTies
import Derived.KernelRfl
namespace Go.Proofs.Ytiebaggemiifoab
/- THE CELL 'sum', in the pinned program and in every row, IS THE sha256 OF THE DUMP (.gsa) THAT YtiebaggemiifoabProg.lean LOADS. Nothing in Lean hashes anything: it is a label: what it is worth is what the hold of that sum in a sandbox is worth. -/
noncomputable def Try.pinned : Pinned := { name := "ytiebaggemiifoab", sum := "717ae448a47801f86919dc906387e13bf05e87b439c1b321fa8d284dd3ee7184", checked := Try.checked }
namespace Rows
def none {H : Type} : Left H := { results := [], args := [] }

/-- 'laws.FnExactWarmStep': WHATEVER THE INPUT: true; the input reads as it did. -/
def fnExactWarmStepSpec : ChangeSpec := { name := "fnExactWarmStep", fn := fun _ => fun
  | [d1, d2, d3] => { results := [.lit (.bool true)], args := [d1, d2, d3] }
  | _ => none }
def fnExactWarmStepRow : OpenClaim := { program := "ytiebaggemiifoab", sum := "717ae448a47801f86919dc906387e13bf05e87b439c1b321fa8d284dd3ee7184", func := "loop.example/g01229/laws.FnExactWarmStep", spec := "fnExactWarmStep", inPlace := ["math.Float32bits", "math.Float64bits"], apart := false }
def FnExactWarmStepSaid : Prop := fnExactWarmStepRow.holds Try.pinned (OpenSpec.ofChange fnExactWarmStepSpec)

/-- ITS FALSE NEIGHBOUR: 'it returns false'. Refute it at one input. -/
def fnExactWarmStepWrong : ChangeSpec := { name := "fnExactWarmStep", fn := fun _ => fun
  | [d1, d2, d3] => { results := [.lit (.bool false)], args := [d1, d2, d3] }
  | _ => none }
def FnExactWarmStepWrongFalsely : Prop := fnExactWarmStepRow.holds Try.pinned (OpenSpec.ofChange fnExactWarmStepWrong)

/-- 'laws.FnExactDryStep': WHATEVER THE INPUT: true; the input reads as it did. -/
def fnExactDryStepSpec : ChangeSpec := { name := "fnExactDryStep", fn := fun _ => fun
  | [d1, d2] => { results := [.lit (.bool true)], args := [d1, d2] }
  | _ => none }
def fnExactDryStepRow : OpenClaim := { program := "ytiebaggemiifoab", sum := "717ae448a47801f86919dc906387e13bf05e87b439c1b321fa8d284dd3ee7184", func := "loop.example/g01229/laws.FnExactDryStep", spec := "fnExactDryStep", inPlace := ["math.Float32bits", "math.Float64bits"], apart := false }
def FnExactDryStepSaid : Prop := fnExactDryStepRow.holds Try.pinned (OpenSpec.ofChange fnExactDryStepSpec)

/-- ITS FALSE NEIGHBOUR: 'it returns false'. Refute it at one input. -/
def fnExactDryStepWrong : ChangeSpec := { name := "fnExactDryStep", fn := fun _ => fun
  | [d1, d2] => { results := [.lit (.bool false)], args := [d1, d2] }
  | _ => none }
def FnExactDryStepWrongFalsely : Prop := fnExactDryStepRow.holds Try.pinned (OpenSpec.ofChange fnExactDryStepWrong)

/-- 'laws.FnExactBurnStep': WHATEVER THE INPUT: true; the input reads as it did. -/
def fnExactBurnStepSpec : ChangeSpec := { name := "fnExactBurnStep", fn := fun _ => fun
  | [d1, d2, d3] => { results := [.lit (.bool true)], args := [d1, d2, d3] }
  | _ => none }
def fnExactBurnStepRow : OpenClaim := { program := "ytiebaggemiifoab", sum := "717ae448a47801f86919dc906387e13bf05e87b439c1b321fa8d284dd3ee7184", func := "loop.example/g01229/laws.FnExactBurnStep", spec := "fnExactBurnStep", inPlace := ["math.Float32bits", "math.Float64bits"], apart := false }
def FnExactBurnStepSaid : Prop := fnExactBurnStepRow.holds Try.pinned (OpenSpec.ofChange fnExactBurnStepSpec)

/-- ITS FALSE NEIGHBOUR: 'it returns false'. Refute it at one input. -/
def fnExactBurnStepWrong : ChangeSpec := { name := "fnExactBurnStep", fn := fun _ => fun
  | [d1, d2, d3] => { results := [.lit (.bool false)], args := [d1, d2, d3] }
  | _ => none }
def FnExactBurnStepWrongFalsely : Prop := fnExactBurnStepRow.holds Try.pinned (OpenSpec.ofChange fnExactBurnStepWrong)

/-- 'laws.FnExactLogStep': WHATEVER THE INPUT: true; the input reads as it did. -/
def fnExactLogStepSpec : ChangeSpec := { name := "fnExactLogStep", fn := fun _ => fun
  | [d1, d2, d3, d4] => { results := [.lit (.bool true)], args := [d1, d2, d3, d4] }
  | _ => none }
def fnExactLogStepRow : OpenClaim := { program := "ytiebaggemiifoab", sum := "717ae448a47801f86919dc906387e13bf05e87b439c1b321fa8d284dd3ee7184", func := "loop.example/g01229/laws.FnExactLogStep", spec := "fnExactLogStep", inPlace := ["math.Float32bits", "math.Float64bits"], apart := false }
def FnExactLogStepSaid : Prop := fnExactLogStepRow.holds Try.pinned (OpenSpec.ofChange fnExactLogStepSpec)

/-- ITS FALSE NEIGHBOUR: 'it returns false'. Refute it at one input. -/
def fnExactLogStepWrong : ChangeSpec := { name := "fnExactLogStep", fn := fun _ => fun
  | [d1, d2, d3, d4] => { results := [.lit (.bool false)], args := [d1, d2, d3, d4] }
  | _ => none }
def FnExactLogStepWrongFalsely : Prop := fnExactLogStepRow.holds Try.pinned (OpenSpec.ofChange fnExactLogStepWrong)

/-- 'laws.FnExactLogSteps': WHATEVER THE INPUT: true; the input reads as it did. -/
def fnExactLogStepsSpec : ChangeSpec := { name := "fnExactLogSteps", fn := fun _ => fun
  | [d1, d2, d3, d4, d5] => { results := [.lit (.bool true)], args := [d1, d2, d3, d4, d5] }
  | _ => none }
def fnExactLogStepsRow : OpenClaim := { program := "ytiebaggemiifoab", sum := "717ae448a47801f86919dc906387e13bf05e87b439c1b321fa8d284dd3ee7184", func := "loop.example/g01229/laws.FnExactLogSteps", spec := "fnExactLogSteps", inPlace := ["math.Float32bits", "math.Float64bits"], apart := false }
def FnExactLogStepsSaid : Prop := fnExactLogStepsRow.holds Try.pinned (OpenSpec.ofChange fnExactLogStepsSpec)

/-- ITS FALSE NEIGHBOUR: 'it returns false'. Refute it at one input. -/
def fnExactLogStepsWrong : ChangeSpec := { name := "fnExactLogSteps", fn := fun _ => fun
  | [d1, d2, d3, d4, d5] => { results := [.lit (.bool false)], args := [d1, d2, d3, d4, d5] }
  | _ => none }
def FnExactLogStepsWrongFalsely : Prop := fnExactLogStepsRow.holds Try.pinned (OpenSpec.ofChange fnExactLogStepsWrong)

/-- 'laws.FnExactStepsToDry': WHATEVER THE INPUT: true; the input reads as it did. -/
def fnExactStepsToDrySpec : ChangeSpec := { name := "fnExactStepsToDry", fn := fun _ => fun
  | [d1, d2, d3, d4] => { results := [.lit (.bool true)], args := [d1, d2, d3, d4] }
  | _ => none }
def fnExactStepsToDryRow : OpenClaim := { program := "ytiebaggemiifoab", sum := "717ae448a47801f86919dc906387e13bf05e87b439c1b321fa8d284dd3ee7184", func := "loop.example/g01229/laws.FnExactStepsToDry", spec := "fnExactStepsToDry", inPlace := ["math.Float32bits", "math.Float64bits"], apart := false }
def FnExactStepsToDrySaid : Prop := fnExactStepsToDryRow.holds Try.pinned (OpenSpec.ofChange fnExactStepsToDrySpec)

/-- ITS FALSE NEIGHBOUR: 'it returns false'. Refute it at one input. -/
def fnExactStepsToDryWrong : ChangeSpec := { name := "fnExactStepsToDry", fn := fun _ => fun
  | [d1, d2, d3, d4] => { results := [.lit (.bool false)], args := [d1, d2, d3, d4] }
  | _ => none }
def FnExactStepsToDryWrongFalsely : Prop := fnExactStepsToDryRow.holds Try.pinned (OpenSpec.ofChange fnExactStepsToDryWrong)

/-- 'laws.FnExactBurningLayers': WHATEVER THE INPUT: true; the input reads as it did. -/
def fnExactBurningLayersSpec : ChangeSpec := { name := "fnExactBurningLayers", fn := fun _ => fun
  | [d] => { results := [.lit (.bool true)], args := [d] }
  | _ => none }
def fnExactBurningLayersRow : OpenClaim := { program := "ytiebaggemiifoab", sum := "717ae448a47801f86919dc906387e13bf05e87b439c1b321fa8d284dd3ee7184", func := "loop.example/g01229/laws.FnExactBurningLayers", spec := "fnExactBurningLayers", inPlace := ["math.Float32bits", "math.Float64bits"], apart := false }
def FnExactBurningLayersSaid : Prop := fnExactBurningLayersRow.holds Try.pinned (OpenSpec.ofChange fnExactBurningLayersSpec)

/-- ITS FALSE NEIGHBOUR: 'it returns false'. Refute it at one input. -/
def fnExactBurningLayersWrong : ChangeSpec := { name := "fnExactBurningLayers", fn := fun _ => fun
  | [d] => { results := [.lit (.bool false)], args := [d] }
  | _ => none }
def FnExactBurningLayersWrongFalsely : Prop := fnExactBurningLayersRow.holds Try.pinned (OpenSpec.ofChange fnExactBurningLayersWrong)

/-- 'laws.FnExactSplitWood': WHATEVER THE INPUT: true; the input reads as it did. -/
def fnExactSplitWoodSpec : ChangeSpec := { name := "fnExactSplitWood", fn := fun _ => fun
  | [d] => { results := [.lit (.bool true)], args := [d] }
  | _ => none }
def fnExactSplitWoodRow : OpenClaim := { program := "ytiebaggemiifoab", sum := "717ae448a47801f86919dc906387e13bf05e87b439c1b321fa8d284dd3ee7184", func := "loop.example/g01229/laws.FnExactSplitWood", spec := "fnExactSplitWood", inPlace := ["math.Float32bits", "math.Float64bits"], apart := false }
def FnExactSplitWoodSaid : Prop := fnExactSplitWoodRow.holds Try.pinned (OpenSpec.ofChange fnExactSplitWoodSpec)

/-- ITS FALSE NEIGHBOUR: 'it returns false'. Refute it at one input. -/
def fnExactSplitWoodWrong : ChangeSpec := { name := "fnExactSplitWood", fn := fun _ => fun
  | [d] => { results := [.lit (.bool false)], args := [d] }
  | _ => none }
def FnExactSplitWoodWrongFalsely : Prop := fnExactSplitWoodRow.holds Try.pinned (OpenSpec.ofChange fnExactSplitWoodWrong)

/-- 'laws.FnExactMixWoods': WHATEVER THE INPUT: true; the input reads as it did. -/
def fnExactMixWoodsSpec : ChangeSpec := { name := "fnExactMixWoods", fn := fun _ => fun
  | [d] => { results := [.lit (.bool true)], args := [d] }
  | _ => none }
def fnExactMixWoodsRow : OpenClaim := { program := "ytiebaggemiifoab", sum := "717ae448a47801f86919dc906387e13bf05e87b439c1b321fa8d284dd3ee7184", func := "loop.example/g01229/laws.FnExactMixWoods", spec := "fnExactMixWoods", inPlace := ["math.Float32bits", "math.Float64bits"], apart := false }
def FnExactMixWoodsSaid : Prop := fnExactMixWoodsRow.holds Try.pinned (OpenSpec.ofChange fnExactMixWoodsSpec)

/-- ITS FALSE NEIGHBOUR: 'it returns false'. Refute it at one input. -/
def fnExactMixWoodsWrong : ChangeSpec := { name := "fnExactMixWoods", fn := fun _ => fun
  | [d] => { results := [.lit (.bool false)], args := [d] }
  | _ => none }
def FnExactMixWoodsWrongFalsely : Prop := fnExactMixWoodsRow.holds Try.pinned (OpenSpec.ofChange fnExactMixWoodsWrong)

/- THE SECOND FORM. 'bulk': how many values and letters a reading holds, each counted each time it is reached (what is shared counts as often as it is met; a slice's spare places count too). A statement '..UptoSaid' is the law's where the arguments, and the package variables that the reading takes, are together of bulk at most 1048576: NARROWER than '..Said'. Prove '..Said' where nothing that the law and all that it calls make is longer than what came in: it says more and counts as full. Else prove '..UptoSaid'. A law counts once. -/
mutual
def uptoBulk {H : Type} : DataW H → Nat
  | .lit (.string bytes) => bytes.length + 1
  | .lit _ => 1
  | .nil => 1
  | .ptr d => uptoBulk d + 1
  | .slice elems spare => uptoBulkAll elems + uptoBulkAll spare + 1
  | .agg parts => uptoBulkAll parts + 1
  | .iface _ d => uptoBulk d + 1
  | .map entries => uptoBulkEntries entries + 1
  | .held _ => 1
def uptoBulkAll {H : Type} : List (DataW H) → Nat
  | [] => 0
  | d :: r => uptoBulk d + uptoBulkAll r
def uptoBulkEntries {H : Type} : List (Lit × DataW H) → Nat
  | [] => 0
  | x :: r => uptoBulkEntry x + uptoBulkEntries r
def uptoBulkEntry {H : Type} : Lit × DataW H → Nat
  | (.string bytes, d) => bytes.length + uptoBulk d + 1
  | (_, d) => uptoBulk d + 1
 end
def uptoSmall : (H : Type) → List (DataW H) → Bool := fun _ ds => decide (uptoBulkAll ds ≤ 1048576)
def OpenSpec.upto (s : _root_.Go.ChangeSpec) : _root_.Go.OpenSpec := { _root_.Go.OpenSpec.ofChange s with cond := some uptoSmall }

/-- 'laws.FnExactWarmStep', WHERE WHAT IT READS IS OF BULK AT MOST 1048576: true; the input reads as it did. -/
def fnExactWarmStepUptoRow : OpenClaim := { program := "ytiebaggemiifoab", sum := "717ae448a47801f86919dc906387e13bf05e87b439c1b321fa8d284dd3ee7184", func := "loop.example/g01229/laws.FnExactWarmStep", spec := "fnExactWarmStep", inPlace := ["math.Float32bits", "math.Float64bits"], apart := false, narrowed := true }
def FnExactWarmStepUptoSaid : Prop := fnExactWarmStepUptoRow.holds Try.pinned (OpenSpec.upto fnExactWarmStepSpec)

/-- 'laws.FnExactDryStep', WHERE WHAT IT READS IS OF BULK AT MOST 1048576: true; the input reads as it did. -/
def fnExactDryStepUptoRow : OpenClaim := { program := "ytiebaggemiifoab", sum := "717ae448a47801f86919dc906387e13bf05e87b439c1b321fa8d284dd3ee7184", func := "loop.example/g01229/laws.FnExactDryStep", spec := "fnExactDryStep", inPlace := ["math.Float32bits", "math.Float64bits"], apart := false, narrowed := true }
def FnExactDryStepUptoSaid : Prop := fnExactDryStepUptoRow.holds Try.pinned (OpenSpec.upto fnExactDryStepSpec)

/-- 'laws.FnExactBurnStep', WHERE WHAT IT READS IS OF BULK AT MOST 1048576: true; the input reads as it did. -/
def fnExactBurnStepUptoRow : OpenClaim := { program := "ytiebaggemiifoab", sum := "717ae448a47801f86919dc906387e13bf05e87b439c1b321fa8d284dd3ee7184", func := "loop.example/g01229/laws.FnExactBurnStep", spec := "fnExactBurnStep", inPlace := ["math.Float32bits", "math.Float64bits"], apart := false, narrowed := true }
def FnExactBurnStepUptoSaid : Prop := fnExactBurnStepUptoRow.holds Try.pinned (OpenSpec.upto fnExactBurnStepSpec)

/-- 'laws.FnExactLogStep', WHERE WHAT IT READS IS OF BULK AT MOST 1048576: true; the input reads as it did. -/
def fnExactLogStepUptoRow : OpenClaim := { program := "ytiebaggemiifoab", sum := "717ae448a47801f86919dc906387e13bf05e87b439c1b321fa8d284dd3ee7184", func := "loop.example/g01229/laws.FnExactLogStep", spec := "fnExactLogStep", inPlace := ["math.Float32bits", "math.Float64bits"], apart := false, narrowed := true }
def FnExactLogStepUptoSaid : Prop := fnExactLogStepUptoRow.holds Try.pinned (OpenSpec.upto fnExactLogStepSpec)

/-- 'laws.FnExactLogSteps', WHERE WHAT IT READS IS OF BULK AT MOST 1048576: true; the input reads as it did. -/
def fnExactLogStepsUptoRow : OpenClaim := { program := "ytiebaggemiifoab", sum := "717ae448a47801f86919dc906387e13bf05e87b439c1b321fa8d284dd3ee7184", func := "loop.example/g01229/laws.FnExactLogSteps", spec := "fnExactLogSteps", inPlace := ["math.Float32bits", "math.Float64bits"], apart := false, narrowed := true }
def FnExactLogStepsUptoSaid : Prop := fnExactLogStepsUptoRow.holds Try.pinned (OpenSpec.upto fnExactLogStepsSpec)

/-- 'laws.FnExactStepsToDry', WHERE WHAT IT READS IS OF BULK AT MOST 1048576: true; the input reads as it did. -/
def fnExactStepsToDryUptoRow : OpenClaim := { program := "ytiebaggemiifoab", sum := "717ae448a47801f86919dc906387e13bf05e87b439c1b321fa8d284dd3ee7184", func := "loop.example/g01229/laws.FnExactStepsToDry", spec := "fnExactStepsToDry", inPlace := ["math.Float32bits", "math.Float64bits"], apart := false, narrowed := true }
def FnExactStepsToDryUptoSaid : Prop := fnExactStepsToDryUptoRow.holds Try.pinned (OpenSpec.upto fnExactStepsToDrySpec)

/-- 'laws.FnExactBurningLayers', WHERE WHAT IT READS IS OF BULK AT MOST 1048576: true; the input reads as it did. -/
def fnExactBurningLayersUptoRow : OpenClaim := { program := "ytiebaggemiifoab", sum := "717ae448a47801f86919dc906387e13bf05e87b439c1b321fa8d284dd3ee7184", func := "loop.example/g01229/laws.FnExactBurningLayers", spec := "fnExactBurningLayers", inPlace := ["math.Float32bits", "math.Float64bits"], apart := false, narrowed := true }
def FnExactBurningLayersUptoSaid : Prop := fnExactBurningLayersUptoRow.holds Try.pinned (OpenSpec.upto fnExactBurningLayersSpec)

/-- 'laws.FnExactSplitWood', WHERE WHAT IT READS IS OF BULK AT MOST 1048576: true; the input reads as it did. -/
def fnExactSplitWoodUptoRow : OpenClaim := { program := "ytiebaggemiifoab", sum := "717ae448a47801f86919dc906387e13bf05e87b439c1b321fa8d284dd3ee7184", func := "loop.example/g01229/laws.FnExactSplitWood", spec := "fnExactSplitWood", inPlace := ["math.Float32bits", "math.Float64bits"], apart := false, narrowed := true }
def FnExactSplitWoodUptoSaid : Prop := fnExactSplitWoodUptoRow.holds Try.pinned (OpenSpec.upto fnExactSplitWoodSpec)

/-- 'laws.FnExactMixWoods', WHERE WHAT IT READS IS OF BULK AT MOST 1048576: true; the input reads as it did. -/
def fnExactMixWoodsUptoRow : OpenClaim := { program := "ytiebaggemiifoab", sum := "717ae448a47801f86919dc906387e13bf05e87b439c1b321fa8d284dd3ee7184", func := "loop.example/g01229/laws.FnExactMixWoods", spec := "fnExactMixWoods", inPlace := ["math.Float32bits", "math.Float64bits"], apart := false, narrowed := true }
def FnExactMixWoodsUptoSaid : Prop := fnExactMixWoodsUptoRow.holds Try.pinned (OpenSpec.upto fnExactMixWoodsSpec)

end Rows
end Go.Proofs.Ytiebaggemiifoab
