/-
  No cell of these rows narrows 'for every input' (looked for: loops, veiled, ifaces, maps, wideKeys, modest, calm, conditions, laid).
  DERIVED. THE GIVEN ROWS OF THIS SEAT. 11 by the template 'for every input the law returns true; each argument reads behind the call as it read before'; 0 by the template 'total and deterministic' (their statements: YtiebaggemiifoaaTotals.lean).
  GIVEN WITH THE SEED: the statements are not yours to turn. If you find one false, say at which input.
  Laid BY PROGRAM, IN A SANDBOX (cutbox-rows.mjs): the forced cells as the released guide's own fill.sh prints them over the translation 5f91af809fa2f0a0… (all of the seat's roots in one cut). By AI agents, Wed Nov 11 2026. No macro, syntax, notation, axiom, sorry.
-/
import Derived.Test.YtiebaggemiifoaaChecked
import GoSem.Claim
import GoSem.ClaimJoined
import GoSem.ClaimMapViews
import Derived.JoinedTies
import Derived.KernelRfl
namespace Go.Proofs.Ytiebaggemiifoaa
/- THE CELL 'sum', in the pinned program and in every row, IS THE sha256 OF THE DUMP (.gsa) THAT YtiebaggemiifoaaProg.lean LOADS. Nothing in Lean hashes anything: it is a label: what it is worth is what the hold of that sum in a sandbox is worth. -/
noncomputable def Try.pinned : Pinned := { name := "ytiebaggemiifoaa", sum := "5f91af809fa2f0a023895469348e54fddbf0242a236623753439d6cdaa8d6136", checked := Try.checked }
namespace Rows
def none {H : Type} : Left H := { results := [], args := [] }

/-- 'laws.FnBurnt': WHATEVER THE INPUT: true; the input reads as it did. -/
def fnBurntSpec : ChangeSpec := { name := "fnBurnt", fn := fun _ => fun
  | [d1, d2] => { results := [.lit (.bool true)], args := [d1, d2] }
  | _ => none }
def fnBurntRow : OpenClaim := { program := "ytiebaggemiifoaa", sum := "5f91af809fa2f0a023895469348e54fddbf0242a236623753439d6cdaa8d6136", func := "loop.example/g01229/laws.FnBurnt", spec := "fnBurnt", inPlace := ["math.Float64bits", "math.Float32bits"], apart := false }
def FnBurntSaid : Prop := fnBurntRow.holds Try.pinned (OpenSpec.ofChange fnBurntSpec)

/-- ITS FALSE NEIGHBOUR: 'it returns false'. Refute it at one input. -/
def fnBurntWrong : ChangeSpec := { name := "fnBurnt", fn := fun _ => fun
  | [d1, d2] => { results := [.lit (.bool false)], args := [d1, d2] }
  | _ => none }
def FnBurntWrongFalsely : Prop := fnBurntRow.holds Try.pinned (OpenSpec.ofChange fnBurntWrong)

/-- 'laws.FnExactCodeName': WHATEVER THE INPUT: true; the input reads as it did. -/
def fnExactCodeNameSpec : ChangeSpec := { name := "fnExactCodeName", fn := fun _ => fun
  | [d] => { results := [.lit (.bool true)], args := [d] }
  | _ => none }
def fnExactCodeNameRow : OpenClaim := { program := "ytiebaggemiifoaa", sum := "5f91af809fa2f0a023895469348e54fddbf0242a236623753439d6cdaa8d6136", func := "loop.example/g01229/laws.FnExactCodeName", spec := "fnExactCodeName", apart := false }
def FnExactCodeNameSaid : Prop := fnExactCodeNameRow.holds Try.pinned (OpenSpec.ofChange fnExactCodeNameSpec)

/-- ITS FALSE NEIGHBOUR: 'it returns false'. Refute it at one input. -/
def fnExactCodeNameWrong : ChangeSpec := { name := "fnExactCodeName", fn := fun _ => fun
  | [d] => { results := [.lit (.bool false)], args := [d] }
  | _ => none }
def FnExactCodeNameWrongFalsely : Prop := fnExactCodeNameRow.holds Try.pinned (OpenSpec.ofChange fnExactCodeNameWrong)

/-- 'laws.FnExactSameNumber': WHATEVER THE INPUT: true; the input reads as it did. -/
def fnExactSameNumberSpec : ChangeSpec := { name := "fnExactSameNumber", fn := fun _ => fun
  | [d1, d2] => { results := [.lit (.bool true)], args := [d1, d2] }
  | _ => none }
def fnExactSameNumberRow : OpenClaim := { program := "ytiebaggemiifoaa", sum := "5f91af809fa2f0a023895469348e54fddbf0242a236623753439d6cdaa8d6136", func := "loop.example/g01229/laws.FnExactSameNumber", spec := "fnExactSameNumber", inPlace := ["math.Float32bits"], apart := false }
def FnExactSameNumberSaid : Prop := fnExactSameNumberRow.holds Try.pinned (OpenSpec.ofChange fnExactSameNumberSpec)

/-- ITS FALSE NEIGHBOUR: 'it returns false'. Refute it at one input. -/
def fnExactSameNumberWrong : ChangeSpec := { name := "fnExactSameNumber", fn := fun _ => fun
  | [d1, d2] => { results := [.lit (.bool false)], args := [d1, d2] }
  | _ => none }
def FnExactSameNumberWrongFalsely : Prop := fnExactSameNumberRow.holds Try.pinned (OpenSpec.ofChange fnExactSameNumberWrong)

/-- 'laws.FnExactIsAmount': WHATEVER THE INPUT: true; the input reads as it did. -/
def fnExactIsAmountSpec : ChangeSpec := { name := "fnExactIsAmount", fn := fun _ => fun
  | [d] => { results := [.lit (.bool true)], args := [d] }
  | _ => none }
def fnExactIsAmountRow : OpenClaim := { program := "ytiebaggemiifoaa", sum := "5f91af809fa2f0a023895469348e54fddbf0242a236623753439d6cdaa8d6136", func := "loop.example/g01229/laws.FnExactIsAmount", spec := "fnExactIsAmount", inPlace := ["math.Float32bits", "math.Float64bits"], apart := false }
def FnExactIsAmountSaid : Prop := fnExactIsAmountRow.holds Try.pinned (OpenSpec.ofChange fnExactIsAmountSpec)

/-- ITS FALSE NEIGHBOUR: 'it returns false'. Refute it at one input. -/
def fnExactIsAmountWrong : ChangeSpec := { name := "fnExactIsAmount", fn := fun _ => fun
  | [d] => { results := [.lit (.bool false)], args := [d] }
  | _ => none }
def FnExactIsAmountWrongFalsely : Prop := fnExactIsAmountRow.holds Try.pinned (OpenSpec.ofChange fnExactIsAmountWrong)

/-- 'laws.FnExactIsShare': WHATEVER THE INPUT: true; the input reads as it did. -/
def fnExactIsShareSpec : ChangeSpec := { name := "fnExactIsShare", fn := fun _ => fun
  | [d] => { results := [.lit (.bool true)], args := [d] }
  | _ => none }
def fnExactIsShareRow : OpenClaim := { program := "ytiebaggemiifoaa", sum := "5f91af809fa2f0a023895469348e54fddbf0242a236623753439d6cdaa8d6136", func := "loop.example/g01229/laws.FnExactIsShare", spec := "fnExactIsShare", inPlace := ["math.Float32bits", "math.Float64bits"], apart := false }
def FnExactIsShareSaid : Prop := fnExactIsShareRow.holds Try.pinned (OpenSpec.ofChange fnExactIsShareSpec)

/-- ITS FALSE NEIGHBOUR: 'it returns false'. Refute it at one input. -/
def fnExactIsShareWrong : ChangeSpec := { name := "fnExactIsShare", fn := fun _ => fun
  | [d] => { results := [.lit (.bool false)], args := [d] }
  | _ => none }
def FnExactIsShareWrongFalsely : Prop := fnExactIsShareRow.holds Try.pinned (OpenSpec.ofChange fnExactIsShareWrong)

/-- 'laws.FnExactValidWood': WHATEVER THE INPUT: true; the input reads as it did. -/
def fnExactValidWoodSpec : ChangeSpec := { name := "fnExactValidWood", fn := fun _ => fun
  | [d] => { results := [.lit (.bool true)], args := [d] }
  | _ => none }
def fnExactValidWoodRow : OpenClaim := { program := "ytiebaggemiifoaa", sum := "5f91af809fa2f0a023895469348e54fddbf0242a236623753439d6cdaa8d6136", func := "loop.example/g01229/laws.FnExactValidWood", spec := "fnExactValidWood", inPlace := ["math.Float32bits", "math.Float64bits"], apart := false }
def FnExactValidWoodSaid : Prop := fnExactValidWoodRow.holds Try.pinned (OpenSpec.ofChange fnExactValidWoodSpec)

/-- ITS FALSE NEIGHBOUR: 'it returns false'. Refute it at one input. -/
def fnExactValidWoodWrong : ChangeSpec := { name := "fnExactValidWood", fn := fun _ => fun
  | [d] => { results := [.lit (.bool false)], args := [d] }
  | _ => none }
def FnExactValidWoodWrongFalsely : Prop := fnExactValidWoodRow.holds Try.pinned (OpenSpec.ofChange fnExactValidWoodWrong)

/-- 'laws.FnExactSameWood': WHATEVER THE INPUT: true; the input reads as it did. -/
def fnExactSameWoodSpec : ChangeSpec := { name := "fnExactSameWood", fn := fun _ => fun
  | [d1, d2] => { results := [.lit (.bool true)], args := [d1, d2] }
  | _ => none }
def fnExactSameWoodRow : OpenClaim := { program := "ytiebaggemiifoaa", sum := "5f91af809fa2f0a023895469348e54fddbf0242a236623753439d6cdaa8d6136", func := "loop.example/g01229/laws.FnExactSameWood", spec := "fnExactSameWood", inPlace := ["math.Float32bits"], apart := false }
def FnExactSameWoodSaid : Prop := fnExactSameWoodRow.holds Try.pinned (OpenSpec.ofChange fnExactSameWoodSpec)

/-- ITS FALSE NEIGHBOUR: 'it returns false'. Refute it at one input. -/
def fnExactSameWoodWrong : ChangeSpec := { name := "fnExactSameWood", fn := fun _ => fun
  | [d1, d2] => { results := [.lit (.bool false)], args := [d1, d2] }
  | _ => none }
def FnExactSameWoodWrongFalsely : Prop := fnExactSameWoodRow.holds Try.pinned (OpenSpec.ofChange fnExactSameWoodWrong)

/-- 'laws.FnExactMakeWood': WHATEVER THE INPUT: true; the input reads as it did. -/
def fnExactMakeWoodSpec : ChangeSpec := { name := "fnExactMakeWood", fn := fun _ => fun
  | [d1, d2, d3] => { results := [.lit (.bool true)], args := [d1, d2, d3] }
  | _ => none }
def fnExactMakeWoodRow : OpenClaim := { program := "ytiebaggemiifoaa", sum := "5f91af809fa2f0a023895469348e54fddbf0242a236623753439d6cdaa8d6136", func := "loop.example/g01229/laws.FnExactMakeWood", spec := "fnExactMakeWood", inPlace := ["math.Float32bits", "math.Float64bits"], apart := false }
def FnExactMakeWoodSaid : Prop := fnExactMakeWoodRow.holds Try.pinned (OpenSpec.ofChange fnExactMakeWoodSpec)

/-- ITS FALSE NEIGHBOUR: 'it returns false'. Refute it at one input. -/
def fnExactMakeWoodWrong : ChangeSpec := { name := "fnExactMakeWood", fn := fun _ => fun
  | [d1, d2, d3] => { results := [.lit (.bool false)], args := [d1, d2, d3] }
  | _ => none }
def FnExactMakeWoodWrongFalsely : Prop := fnExactMakeWoodRow.holds Try.pinned (OpenSpec.ofChange fnExactMakeWoodWrong)

/-- 'laws.FnExactWaterOf': WHATEVER THE INPUT: true; the input reads as it did. -/
def fnExactWaterOfSpec : ChangeSpec := { name := "fnExactWaterOf", fn := fun _ => fun
  | [d] => { results := [.lit (.bool true)], args := [d] }
  | _ => none }
def fnExactWaterOfRow : OpenClaim := { program := "ytiebaggemiifoaa", sum := "5f91af809fa2f0a023895469348e54fddbf0242a236623753439d6cdaa8d6136", func := "loop.example/g01229/laws.FnExactWaterOf", spec := "fnExactWaterOf", inPlace := ["math.Float32bits", "math.Float64bits"], apart := false }
def FnExactWaterOfSaid : Prop := fnExactWaterOfRow.holds Try.pinned (OpenSpec.ofChange fnExactWaterOfSpec)

/-- ITS FALSE NEIGHBOUR: 'it returns false'. Refute it at one input. -/
def fnExactWaterOfWrong : ChangeSpec := { name := "fnExactWaterOf", fn := fun _ => fun
  | [d] => { results := [.lit (.bool false)], args := [d] }
  | _ => none }
def FnExactWaterOfWrongFalsely : Prop := fnExactWaterOfRow.holds Try.pinned (OpenSpec.ofChange fnExactWaterOfWrong)

/-- 'laws.FnExactFuelOf': WHATEVER THE INPUT: true; the input reads as it did. -/
def fnExactFuelOfSpec : ChangeSpec := { name := "fnExactFuelOf", fn := fun _ => fun
  | [d] => { results := [.lit (.bool true)], args := [d] }
  | _ => none }
def fnExactFuelOfRow : OpenClaim := { program := "ytiebaggemiifoaa", sum := "5f91af809fa2f0a023895469348e54fddbf0242a236623753439d6cdaa8d6136", func := "loop.example/g01229/laws.FnExactFuelOf", spec := "fnExactFuelOf", inPlace := ["math.Float32bits", "math.Float64bits"], apart := false }
def FnExactFuelOfSaid : Prop := fnExactFuelOfRow.holds Try.pinned (OpenSpec.ofChange fnExactFuelOfSpec)

/-- ITS FALSE NEIGHBOUR: 'it returns false'. Refute it at one input. -/
def fnExactFuelOfWrong : ChangeSpec := { name := "fnExactFuelOf", fn := fun _ => fun
  | [d] => { results := [.lit (.bool false)], args := [d] }
  | _ => none }
def FnExactFuelOfWrongFalsely : Prop := fnExactFuelOfRow.holds Try.pinned (OpenSpec.ofChange fnExactFuelOfWrong)

/-- 'laws.FnExactMeanHeat': WHATEVER THE INPUT: true; the input reads as it did. -/
def fnExactMeanHeatSpec : ChangeSpec := { name := "fnExactMeanHeat", fn := fun _ => fun
  | [d] => { results := [.lit (.bool true)], args := [d] }
  | _ => none }
def fnExactMeanHeatRow : OpenClaim := { program := "ytiebaggemiifoaa", sum := "5f91af809fa2f0a023895469348e54fddbf0242a236623753439d6cdaa8d6136", func := "loop.example/g01229/laws.FnExactMeanHeat", spec := "fnExactMeanHeat", inPlace := ["math.Float32bits", "math.Float64bits"], apart := false }
def FnExactMeanHeatSaid : Prop := fnExactMeanHeatRow.holds Try.pinned (OpenSpec.ofChange fnExactMeanHeatSpec)

/-- ITS FALSE NEIGHBOUR: 'it returns false'. Refute it at one input. -/
def fnExactMeanHeatWrong : ChangeSpec := { name := "fnExactMeanHeat", fn := fun _ => fun
  | [d] => { results := [.lit (.bool false)], args := [d] }
  | _ => none }
def FnExactMeanHeatWrongFalsely : Prop := fnExactMeanHeatRow.holds Try.pinned (OpenSpec.ofChange fnExactMeanHeatWrong)

/- THE SECOND FORM. 'bulk': how many values and letters a reading holds, each counted each time it is reached (what is shared counts as often as it is met; a slice's spare places count too). A statement '..UptoSaid' is the law's where the arguments, and the package variables that the reading takes, are together of bulk at most 1048576: NARROWER than '..Said'. Prove '..Said' where nothing that the law and all that it calls make is longer than what came in: it says more and counts as full. Else prove '..UptoSaid'. A law counts once. -/
mutual
def uptoBulk {H : Type} : DataW H → Nat
  | .lit (.string bytes) => bytes.length + 1
  | .lit _ => 1
  | .nil => 1
  | .ptr d => uptoBulk d + 1
  | .slice elems spare => uptoBulkAll elems + uptoBulkAll spare + 1
  | .agg parts => uptoBulkAll parts + 1
  | .iface _ d => uptoBulk d + 1
  | .map entries => uptoBulkEntries entries + 1
  | .held _ => 1
def uptoBulkAll {H : Type} : List (DataW H) → Nat
  | [] => 0
  | d :: r => uptoBulk d + uptoBulkAll r
def uptoBulkEntries {H : Type} : List (Lit × DataW H) → Nat
  | [] => 0
  | x :: r => uptoBulkEntry x + uptoBulkEntries r
def uptoBulkEntry {H : Type} : Lit × DataW H → Nat
  | (.string bytes, d) => bytes.length + uptoBulk d + 1
  | (_, d) => uptoBulk d + 1
 end
def uptoSmall : (H : Type) → List (DataW H) → Bool := fun _ ds => decide (uptoBulkAll ds ≤ 1048576)
def OpenSpec.upto (s : _root_.Go.ChangeSpec) : _root_.Go.OpenSpec := { _root_.Go.OpenSpec.ofChange s with cond := some uptoSmall }

/-- 'laws.FnBurnt', WHERE WHAT IT READS IS OF BULK AT MOST 1048576: true; the input reads as it did. -/
def fnBurntUptoRow : OpenClaim := { program := "ytiebaggemiifoaa", sum := "5f91af809fa2f0a023895469348e54fddbf0242a236623753439d6cdaa8d6136", func := "loop.example/g01229/laws.FnBurnt", spec := "fnBurnt", inPlace := ["math.Float64bits", "math.Float32bits"], apart := false, narrowed := true }
def FnBurntUptoSaid : Prop := fnBurntUptoRow.holds Try.pinned (OpenSpec.upto fnBurntSpec)

/-- 'laws.FnExactCodeName', WHERE WHAT IT READS IS OF BULK AT MOST 1048576: true; the input reads as it did. -/
def fnExactCodeNameUptoRow : OpenClaim := { program := "ytiebaggemiifoaa", sum := "5f91af809fa2f0a023895469348e54fddbf0242a236623753439d6cdaa8d6136", func := "loop.example/g01229/laws.FnExactCodeName", spec := "fnExactCodeName", apart := false, narrowed := true }
def FnExactCodeNameUptoSaid : Prop := fnExactCodeNameUptoRow.holds Try.pinned (OpenSpec.upto fnExactCodeNameSpec)

/-- 'laws.FnExactSameNumber', WHERE WHAT IT READS IS OF BULK AT MOST 1048576: true; the input reads as it did. -/
def fnExactSameNumberUptoRow : OpenClaim := { program := "ytiebaggemiifoaa", sum := "5f91af809fa2f0a023895469348e54fddbf0242a236623753439d6cdaa8d6136", func := "loop.example/g01229/laws.FnExactSameNumber", spec := "fnExactSameNumber", inPlace := ["math.Float32bits"], apart := false, narrowed := true }
def FnExactSameNumberUptoSaid : Prop := fnExactSameNumberUptoRow.holds Try.pinned (OpenSpec.upto fnExactSameNumberSpec)

/-- 'laws.FnExactIsAmount', WHERE WHAT IT READS IS OF BULK AT MOST 1048576: true; the input reads as it did. -/
def fnExactIsAmountUptoRow : OpenClaim := { program := "ytiebaggemiifoaa", sum := "5f91af809fa2f0a023895469348e54fddbf0242a236623753439d6cdaa8d6136", func := "loop.example/g01229/laws.FnExactIsAmount", spec := "fnExactIsAmount", inPlace := ["math.Float32bits", "math.Float64bits"], apart := false, narrowed := true }
def FnExactIsAmountUptoSaid : Prop := fnExactIsAmountUptoRow.holds Try.pinned (OpenSpec.upto fnExactIsAmountSpec)

/-- 'laws.FnExactIsShare', WHERE WHAT IT READS IS OF BULK AT MOST 1048576: true; the input reads as it did. -/
def fnExactIsShareUptoRow : OpenClaim := { program := "ytiebaggemiifoaa", sum := "5f91af809fa2f0a023895469348e54fddbf0242a236623753439d6cdaa8d6136", func := "loop.example/g01229/laws.FnExactIsShare", spec := "fnExactIsShare", inPlace := ["math.Float32bits", "math.Float64bits"], apart := false, narrowed := true }
def FnExactIsShareUptoSaid : Prop := fnExactIsShareUptoRow.holds Try.pinned (OpenSpec.upto fnExactIsShareSpec)

/-- 'laws.FnExactValidWood', WHERE WHAT IT READS IS OF BULK AT MOST 1048576: true; the input reads as it did. -/
def fnExactValidWoodUptoRow : OpenClaim := { program := "ytiebaggemiifoaa", sum := "5f91af809fa2f0a023895469348e54fddbf0242a236623753439d6cdaa8d6136", func := "loop.example/g01229/laws.FnExactValidWood", spec := "fnExactValidWood", inPlace := ["math.Float32bits", "math.Float64bits"], apart := false, narrowed := true }
def FnExactValidWoodUptoSaid : Prop := fnExactValidWoodUptoRow.holds Try.pinned (OpenSpec.upto fnExactValidWoodSpec)

/-- 'laws.FnExactSameWood', WHERE WHAT IT READS IS OF BULK AT MOST 1048576: true; the input reads as it did. -/
def fnExactSameWoodUptoRow : OpenClaim := { program := "ytiebaggemiifoaa", sum := "5f91af809fa2f0a023895469348e54fddbf0242a236623753439d6cdaa8d6136", func := "loop.example/g01229/laws.FnExactSameWood", spec := "fnExactSameWood", inPlace := ["math.Float32bits"], apart := false, narrowed := true }
def FnExactSameWoodUptoSaid : Prop := fnExactSameWoodUptoRow.holds Try.pinned (OpenSpec.upto fnExactSameWoodSpec)

/-- 'laws.FnExactMakeWood', WHERE WHAT IT READS IS OF BULK AT MOST 1048576: true; the input reads as it did. -/
def fnExactMakeWoodUptoRow : OpenClaim := { program := "ytiebaggemiifoaa", sum := "5f91af809fa2f0a023895469348e54fddbf0242a236623753439d6cdaa8d6136", func := "loop.example/g01229/laws.FnExactMakeWood", spec := "fnExactMakeWood", inPlace := ["math.Float32bits", "math.Float64bits"], apart := false, narrowed := true }
def FnExactMakeWoodUptoSaid : Prop := fnExactMakeWoodUptoRow.holds Try.pinned (OpenSpec.upto fnExactMakeWoodSpec)

/-- 'laws.FnExactWaterOf', WHERE WHAT IT READS IS OF BULK AT MOST 1048576: true; the input reads as it did. -/
def fnExactWaterOfUptoRow : OpenClaim := { program := "ytiebaggemiifoaa", sum := "5f91af809fa2f0a023895469348e54fddbf0242a236623753439d6cdaa8d6136", func := "loop.example/g01229/laws.FnExactWaterOf", spec := "fnExactWaterOf", inPlace := ["math.Float32bits", "math.Float64bits"], apart := false, narrowed := true }
def FnExactWaterOfUptoSaid : Prop := fnExactWaterOfUptoRow.holds Try.pinned (OpenSpec.upto fnExactWaterOfSpec)

/-- 'laws.FnExactFuelOf', WHERE WHAT IT READS IS OF BULK AT MOST 1048576: true; the input reads as it did. -/
def fnExactFuelOfUptoRow : OpenClaim := { program := "ytiebaggemiifoaa", sum := "5f91af809fa2f0a023895469348e54fddbf0242a236623753439d6cdaa8d6136", func := "loop.example/g01229/laws.FnExactFuelOf", spec := "fnExactFuelOf", inPlace := ["math.Float32bits", "math.Float64bits"], apart := false, narrowed := true }
def FnExactFuelOfUptoSaid : Prop := fnExactFuelOfUptoRow.holds Try.pinned (OpenSpec.upto fnExactFuelOfSpec)

/-- 'laws.FnExactMeanHeat', WHERE WHAT IT READS IS OF BULK AT MOST 1048576: true; the input reads as it did. -/
def fnExactMeanHeatUptoRow : OpenClaim := { program := "ytiebaggemiifoaa", sum := "5f91af809fa2f0a023895469348e54fddbf0242a236623753439d6cdaa8d6136", func := "loop.example/g01229/laws.FnExactMeanHeat", spec := "fnExactMeanHeat", inPlace := ["math.Float32bits", "math.Float64bits"], apart := false, narrowed := true }
def FnExactMeanHeatUptoSaid : Prop := fnExactMeanHeatUptoRow.holds Try.pinned (OpenSpec.upto fnExactMeanHeatSpec)

end Rows
end Go.Proofs.Ytiebaggemiifoaa
