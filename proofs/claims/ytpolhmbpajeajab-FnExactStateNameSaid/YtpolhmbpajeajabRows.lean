/-
  No cell of these rows narrows 'for every input' (looked for: loops, veiled, ifaces, maps, wideKeys, modest, calm, conditions, laid).
  DERIVED. THE GIVEN ROWS OF THIS SEAT. 7 by the template 'for every input the law returns true; each argument reads behind the call as it read before'; 0 by the template 'total and deterministic' (their statements: YtpolhmbpajeajabTotals.lean).
  GIVEN WITH THE SEED: the statements are not yours to turn. If you find one false, say at which input.
  Laid BY PROGRAM, IN A SANDBOX (cutbox-rows.mjs): the forced cells as the released guide's own fill.sh prints them over the translation 4f8d41323897dc52… (all of the seat's roots in one cut). By AI agents, Wed Nov 11 2026. No macro, syntax, notation, axiom, sorry.
-/
import Derived.Test.YtpolhmbpajeajabChecked
import GoSem.Claim
import GoSem.ClaimJoined
import GoSem.ClaimMapViews
import Derived.JoinedTies
import Derived.KernelRfl
namespace Go.Proofs.Ytpolhmbpajeajab
/- THE CELL 'sum', in the pinned program and in every row, IS THE sha256 OF THE DUMP (.gsa) THAT YtpolhmbpajeajabProg.lean LOADS. Nothing in Lean hashes anything: it is a label: what it is worth is what the hold of that sum in a sandbox is worth. -/
noncomputable def Try.pinned : Pinned := { name := "ytpolhmbpajeajab", sum := "4f8d41323897dc52d26a177d7ca830840501f1489f981014947a375887dbdd23", checked := Try.checked }
namespace Rows
def none {H : Type} : Left H := { results := [], args := [] }

/-- 'laws.FnExactNextState': WHATEVER THE INPUT: true; the input reads as it did. -/
def fnExactNextStateSpec : ChangeSpec := { name := "fnExactNextState", fn := fun _ => fun
  | [d1, d2, d3] => { results := [.lit (.bool true)], args := [d1, d2, d3] }
  | _ => none }
def fnExactNextStateRow : OpenClaim := { program := "ytpolhmbpajeajab", sum := "4f8d41323897dc52d26a177d7ca830840501f1489f981014947a375887dbdd23", func := "loop.example/g01229/laws.FnExactNextState", spec := "fnExactNextState", plainKeys := false, apart := false }
def FnExactNextStateSaid : Prop := fnExactNextStateRow.holds Try.pinned (OpenSpec.ofChange fnExactNextStateSpec)

/-- ITS FALSE NEIGHBOUR: 'it returns false'. Refute it at one input. -/
def fnExactNextStateWrong : ChangeSpec := { name := "fnExactNextState", fn := fun _ => fun
  | [d1, d2, d3] => { results := [.lit (.bool false)], args := [d1, d2, d3] }
  | _ => none }
def FnExactNextStateWrongFalsely : Prop := fnExactNextStateRow.holds Try.pinned (OpenSpec.ofChange fnExactNextStateWrong)

/-- 'laws.FnExactIsAlight': WHATEVER THE INPUT: true; the input reads as it did. -/
def fnExactIsAlightSpec : ChangeSpec := { name := "fnExactIsAlight", fn := fun _ => fun
  | [d] => { results := [.lit (.bool true)], args := [d] }
  | _ => none }
def fnExactIsAlightRow : OpenClaim := { program := "ytpolhmbpajeajab", sum := "4f8d41323897dc52d26a177d7ca830840501f1489f981014947a375887dbdd23", func := "loop.example/g01229/laws.FnExactIsAlight", spec := "fnExactIsAlight", inPlace := ["math.Float32bits", "math.Float64bits"], unfollowed := true, recurses := true, plainKeys := false, apart := false }
def FnExactIsAlightSaid : Prop := fnExactIsAlightRow.holds Try.pinned (OpenSpec.ofChange fnExactIsAlightSpec)

/-- ITS FALSE NEIGHBOUR: 'it returns false'. Refute it at one input. -/
def fnExactIsAlightWrong : ChangeSpec := { name := "fnExactIsAlight", fn := fun _ => fun
  | [d] => { results := [.lit (.bool false)], args := [d] }
  | _ => none }
def FnExactIsAlightWrongFalsely : Prop := fnExactIsAlightRow.holds Try.pinned (OpenSpec.ofChange fnExactIsAlightWrong)

/-- 'laws.FnExactFuelIn': WHATEVER THE INPUT: true; the input reads as it did. -/
def fnExactFuelInSpec : ChangeSpec := { name := "fnExactFuelIn", fn := fun _ => fun
  | [d] => { results := [.lit (.bool true)], args := [d] }
  | _ => none }
def fnExactFuelInRow : OpenClaim := { program := "ytpolhmbpajeajab", sum := "4f8d41323897dc52d26a177d7ca830840501f1489f981014947a375887dbdd23", func := "loop.example/g01229/laws.FnExactFuelIn", spec := "fnExactFuelIn", inPlace := ["math.Float32bits", "math.Float64bits"], unfollowed := true, recurses := true, plainKeys := false, apart := false }
def FnExactFuelInSaid : Prop := fnExactFuelInRow.holds Try.pinned (OpenSpec.ofChange fnExactFuelInSpec)

/-- ITS FALSE NEIGHBOUR: 'it returns false'. Refute it at one input. -/
def fnExactFuelInWrong : ChangeSpec := { name := "fnExactFuelIn", fn := fun _ => fun
  | [d] => { results := [.lit (.bool false)], args := [d] }
  | _ => none }
def FnExactFuelInWrongFalsely : Prop := fnExactFuelInRow.holds Try.pinned (OpenSpec.ofChange fnExactFuelInWrong)

/-- 'laws.FnExactRakeOut': WHATEVER THE INPUT: true; the input reads as it did. -/
def fnExactRakeOutSpec : ChangeSpec := { name := "fnExactRakeOut", fn := fun _ => fun
  | [d] => { results := [.lit (.bool true)], args := [d] }
  | _ => none }
def fnExactRakeOutRow : OpenClaim := { program := "ytpolhmbpajeajab", sum := "4f8d41323897dc52d26a177d7ca830840501f1489f981014947a375887dbdd23", func := "loop.example/g01229/laws.FnExactRakeOut", spec := "fnExactRakeOut", inPlace := ["math.Float32bits", "math.Float64bits"], unfollowed := true, recurses := true, plainKeys := false, apart := false }
def FnExactRakeOutSaid : Prop := fnExactRakeOutRow.holds Try.pinned (OpenSpec.ofChange fnExactRakeOutSpec)

/-- ITS FALSE NEIGHBOUR: 'it returns false'. Refute it at one input. -/
def fnExactRakeOutWrong : ChangeSpec := { name := "fnExactRakeOut", fn := fun _ => fun
  | [d] => { results := [.lit (.bool false)], args := [d] }
  | _ => none }
def FnExactRakeOutWrongFalsely : Prop := fnExactRakeOutRow.holds Try.pinned (OpenSpec.ofChange fnExactRakeOutWrong)

/-- 'laws.FnExactDropSpent': WHATEVER THE INPUT: true; the input reads as it did. -/
def fnExactDropSpentSpec : ChangeSpec := { name := "fnExactDropSpent", fn := fun _ => fun
  | [d] => { results := [.lit (.bool true)], args := [d] }
  | _ => none }
def fnExactDropSpentRow : OpenClaim := { program := "ytpolhmbpajeajab", sum := "4f8d41323897dc52d26a177d7ca830840501f1489f981014947a375887dbdd23", func := "loop.example/g01229/laws.FnExactDropSpent", spec := "fnExactDropSpent", inPlace := ["math.Float32bits", "math.Float64bits"], unfollowed := true, recurses := true, plainKeys := false, apart := false }
def FnExactDropSpentSaid : Prop := fnExactDropSpentRow.holds Try.pinned (OpenSpec.ofChange fnExactDropSpentSpec)

/-- ITS FALSE NEIGHBOUR: 'it returns false'. Refute it at one input. -/
def fnExactDropSpentWrong : ChangeSpec := { name := "fnExactDropSpent", fn := fun _ => fun
  | [d] => { results := [.lit (.bool false)], args := [d] }
  | _ => none }
def FnExactDropSpentWrongFalsely : Prop := fnExactDropSpentRow.holds Try.pinned (OpenSpec.ofChange fnExactDropSpentWrong)

/-- 'laws.FnExactStepsToCold': WHATEVER THE INPUT: true; the input reads as it did. -/
def fnExactStepsToColdSpec : ChangeSpec := { name := "fnExactStepsToCold", fn := fun _ => fun
  | [d1, d2, d3, d4] => { results := [.lit (.bool true)], args := [d1, d2, d3, d4] }
  | _ => none }
def fnExactStepsToColdRow : OpenClaim := { program := "ytpolhmbpajeajab", sum := "4f8d41323897dc52d26a177d7ca830840501f1489f981014947a375887dbdd23", func := "loop.example/g01229/laws.FnExactStepsToCold", spec := "fnExactStepsToCold", inPlace := ["math.Float32bits", "math.archFloor", "math.Float64bits", "math.Float64frombits", "math.archTrunc"], unfollowed := true, recurses := true, plainKeys := false, apart := false }
def FnExactStepsToColdSaid : Prop := fnExactStepsToColdRow.holds Try.pinned (OpenSpec.ofChange fnExactStepsToColdSpec)

/-- ITS FALSE NEIGHBOUR: 'it returns false'. Refute it at one input. -/
def fnExactStepsToColdWrong : ChangeSpec := { name := "fnExactStepsToCold", fn := fun _ => fun
  | [d1, d2, d3, d4] => { results := [.lit (.bool false)], args := [d1, d2, d3, d4] }
  | _ => none }
def FnExactStepsToColdWrongFalsely : Prop := fnExactStepsToColdRow.holds Try.pinned (OpenSpec.ofChange fnExactStepsToColdWrong)

/-- 'laws.FnExactStateName': WHATEVER THE INPUT: true; the input reads as it did. -/
def fnExactStateNameSpec : ChangeSpec := { name := "fnExactStateName", fn := fun _ => fun
  | [d] => { results := [.lit (.bool true)], args := [d] }
  | _ => none }
def fnExactStateNameRow : OpenClaim := { program := "ytpolhmbpajeajab", sum := "4f8d41323897dc52d26a177d7ca830840501f1489f981014947a375887dbdd23", func := "loop.example/g01229/laws.FnExactStateName", spec := "fnExactStateName", plainKeys := false, apart := false }
def FnExactStateNameSaid : Prop := fnExactStateNameRow.holds Try.pinned (OpenSpec.ofChange fnExactStateNameSpec)

/-- ITS FALSE NEIGHBOUR: 'it returns false'. Refute it at one input. -/
def fnExactStateNameWrong : ChangeSpec := { name := "fnExactStateName", fn := fun _ => fun
  | [d] => { results := [.lit (.bool false)], args := [d] }
  | _ => none }
def FnExactStateNameWrongFalsely : Prop := fnExactStateNameRow.holds Try.pinned (OpenSpec.ofChange fnExactStateNameWrong)

/- THE SECOND FORM. 'bulk': how many values and letters a reading holds, each counted each time it is reached (what is shared counts as often as it is met; a slice's spare places count too). A statement '..UptoSaid' is the law's where the arguments, and the package variables that the reading takes, are together of bulk at most 1048576: NARROWER than '..Said'. Prove '..Said' where nothing that the law and all that it calls make is longer than what came in: it says more and counts as full. Else prove '..UptoSaid'. A law counts once. -/
mutual
def uptoBulk {H : Type} : DataW H → Nat
  | .lit (.string bytes) => bytes.length + 1
  | .lit _ => 1
  | .nil => 1
  | .ptr d => uptoBulk d + 1
  | .slice elems spare => uptoBulkAll elems + uptoBulkAll spare + 1
  | .agg parts => uptoBulkAll parts + 1
  | .iface _ d => uptoBulk d + 1
  | .map entries => uptoBulkEntries entries + 1
  | .held _ => 1
def uptoBulkAll {H : Type} : List (DataW H) → Nat
  | [] => 0
  | d :: r => uptoBulk d + uptoBulkAll r
def uptoBulkEntries {H : Type} : List (Lit × DataW H) → Nat
  | [] => 0
  | x :: r => uptoBulkEntry x + uptoBulkEntries r
def uptoBulkEntry {H : Type} : Lit × DataW H → Nat
  | (.string bytes, d) => bytes.length + uptoBulk d + 1
  | (_, d) => uptoBulk d + 1
 end
def uptoSmall : (H : Type) → List (DataW H) → Bool := fun _ ds => decide (uptoBulkAll ds ≤ 1048576)
def OpenSpec.upto (s : _root_.Go.ChangeSpec) : _root_.Go.OpenSpec := { _root_.Go.OpenSpec.ofChange s with cond := some uptoSmall }

/-- 'laws.FnExactNextState', WHERE WHAT IT READS IS OF BULK AT MOST 1048576: true; the input reads as it did. -/
def fnExactNextStateUptoRow : OpenClaim := { program := "ytpolhmbpajeajab", sum := "4f8d41323897dc52d26a177d7ca830840501f1489f981014947a375887dbdd23", func := "loop.example/g01229/laws.FnExactNextState", spec := "fnExactNextState", plainKeys := false, apart := false, narrowed := true }
def FnExactNextStateUptoSaid : Prop := fnExactNextStateUptoRow.holds Try.pinned (OpenSpec.upto fnExactNextStateSpec)

/-- 'laws.FnExactIsAlight', WHERE WHAT IT READS IS OF BULK AT MOST 1048576: true; the input reads as it did. -/
def fnExactIsAlightUptoRow : OpenClaim := { program := "ytpolhmbpajeajab", sum := "4f8d41323897dc52d26a177d7ca830840501f1489f981014947a375887dbdd23", func := "loop.example/g01229/laws.FnExactIsAlight", spec := "fnExactIsAlight", inPlace := ["math.Float32bits", "math.Float64bits"], unfollowed := true, recurses := true, plainKeys := false, apart := false, narrowed := true }
def FnExactIsAlightUptoSaid : Prop := fnExactIsAlightUptoRow.holds Try.pinned (OpenSpec.upto fnExactIsAlightSpec)

/-- 'laws.FnExactFuelIn', WHERE WHAT IT READS IS OF BULK AT MOST 1048576: true; the input reads as it did. -/
def fnExactFuelInUptoRow : OpenClaim := { program := "ytpolhmbpajeajab", sum := "4f8d41323897dc52d26a177d7ca830840501f1489f981014947a375887dbdd23", func := "loop.example/g01229/laws.FnExactFuelIn", spec := "fnExactFuelIn", inPlace := ["math.Float32bits", "math.Float64bits"], unfollowed := true, recurses := true, plainKeys := false, apart := false, narrowed := true }
def FnExactFuelInUptoSaid : Prop := fnExactFuelInUptoRow.holds Try.pinned (OpenSpec.upto fnExactFuelInSpec)

/-- 'laws.FnExactRakeOut', WHERE WHAT IT READS IS OF BULK AT MOST 1048576: true; the input reads as it did. -/
def fnExactRakeOutUptoRow : OpenClaim := { program := "ytpolhmbpajeajab", sum := "4f8d41323897dc52d26a177d7ca830840501f1489f981014947a375887dbdd23", func := "loop.example/g01229/laws.FnExactRakeOut", spec := "fnExactRakeOut", inPlace := ["math.Float32bits", "math.Float64bits"], unfollowed := true, recurses := true, plainKeys := false, apart := false, narrowed := true }
def FnExactRakeOutUptoSaid : Prop := fnExactRakeOutUptoRow.holds Try.pinned (OpenSpec.upto fnExactRakeOutSpec)

/-- 'laws.FnExactDropSpent', WHERE WHAT IT READS IS OF BULK AT MOST 1048576: true; the input reads as it did. -/
def fnExactDropSpentUptoRow : OpenClaim := { program := "ytpolhmbpajeajab", sum := "4f8d41323897dc52d26a177d7ca830840501f1489f981014947a375887dbdd23", func := "loop.example/g01229/laws.FnExactDropSpent", spec := "fnExactDropSpent", inPlace := ["math.Float32bits", "math.Float64bits"], unfollowed := true, recurses := true, plainKeys := false, apart := false, narrowed := true }
def FnExactDropSpentUptoSaid : Prop := fnExactDropSpentUptoRow.holds Try.pinned (OpenSpec.upto fnExactDropSpentSpec)

/-- 'laws.FnExactStepsToCold', WHERE WHAT IT READS IS OF BULK AT MOST 1048576: true; the input reads as it did. -/
def fnExactStepsToColdUptoRow : OpenClaim := { program := "ytpolhmbpajeajab", sum := "4f8d41323897dc52d26a177d7ca830840501f1489f981014947a375887dbdd23", func := "loop.example/g01229/laws.FnExactStepsToCold", spec := "fnExactStepsToCold", inPlace := ["math.Float32bits", "math.archFloor", "math.Float64bits", "math.Float64frombits", "math.archTrunc"], unfollowed := true, recurses := true, plainKeys := false, apart := false, narrowed := true }
def FnExactStepsToColdUptoSaid : Prop := fnExactStepsToColdUptoRow.holds Try.pinned (OpenSpec.upto fnExactStepsToColdSpec)

/-- 'laws.FnExactStateName', WHERE WHAT IT READS IS OF BULK AT MOST 1048576: true; the input reads as it did. -/
def fnExactStateNameUptoRow : OpenClaim := { program := "ytpolhmbpajeajab", sum := "4f8d41323897dc52d26a177d7ca830840501f1489f981014947a375887dbdd23", func := "loop.example/g01229/laws.FnExactStateName", spec := "fnExactStateName", plainKeys := false, apart := false, narrowed := true }
def FnExactStateNameUptoSaid : Prop := fnExactStateNameUptoRow.holds Try.pinned (OpenSpec.upto fnExactStateNameSpec)

end Rows
end Go.Proofs.Ytpolhmbpajeajab
