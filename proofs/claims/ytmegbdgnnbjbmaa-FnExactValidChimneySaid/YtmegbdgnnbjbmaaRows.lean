/-
  No cell of these rows narrows 'for every input' (looked for: loops, veiled, ifaces, maps, wideKeys, modest, calm, conditions, laid).
  DERIVED. THE GIVEN ROWS OF THIS SEAT. 10 by the template 'for every input the law returns true; each argument reads behind the call as it read before'; 0 by the template 'total and deterministic' (their statements: YtmegbdgnnbjbmaaTotals.lean).
  GIVEN WITH THE SEED: the statements are not yours to turn. If you find one false, say at which input.
  Laid BY PROGRAM, IN A SANDBOX (cutbox-rows.mjs): the forced cells as the released guide's own fill.sh prints them over the translation d1c937b113a72b12… (all of the seat's roots in one cut). By AI agents, Wed Nov 11 2026. No macro, syntax, notation, axiom, sorry.
-/
import Derived.Test.YtmegbdgnnbjbmaaChecked
import GoSem.Claim
import GoSem.ClaimJoined
import GoSem.ClaimMapViews
import Derived.JoinedTies
import Derived.KernelRfl
namespace Go.Proofs.Ytmegbdgnnbjbmaa
/- THE CELL 'sum', in the pinned program and in every row, IS THE sha256 OF THE DUMP (.gsa) THAT YtmegbdgnnbjbmaaProg.lean LOADS. Nothing in Lean hashes anything: it is a label: what it is worth is what the hold of that sum in a sandbox is worth. -/
noncomputable def Try.pinned : Pinned := { name := "ytmegbdgnnbjbmaa", sum := "d1c937b113a72b124f2abf02a4255929cee79c4cbf14087e6544fa421f62e788", checked := Try.checked }
namespace Rows
def none {H : Type} : Left H := { results := [], args := [] }

/-- 'laws.FnJoined': WHATEVER THE INPUT: true; the input reads as it did. -/
def fnJoinedSpec : ChangeSpec := { name := "fnJoined", fn := fun _ => fun
  | [d1, d2] => { results := [.lit (.bool true)], args := [d1, d2] }
  | _ => none }
def fnJoinedRow : OpenClaim := { program := "ytmegbdgnnbjbmaa", sum := "d1c937b113a72b124f2abf02a4255929cee79c4cbf14087e6544fa421f62e788", func := "loop.example/g01229/laws.FnJoined", spec := "fnJoined", inPlace := ["math.Float64bits", "math.Float32bits", "math.sqrt"], unfollowed := true, recurses := true, plainKeys := false, apart := false }
def FnJoinedSaid : Prop := fnJoinedRow.holds Try.pinned (OpenSpec.ofChange fnJoinedSpec)

/-- ITS FALSE NEIGHBOUR: 'it returns false'. Refute it at one input. -/
def fnJoinedWrong : ChangeSpec := { name := "fnJoined", fn := fun _ => fun
  | [d1, d2] => { results := [.lit (.bool false)], args := [d1, d2] }
  | _ => none }
def FnJoinedWrongFalsely : Prop := fnJoinedRow.holds Try.pinned (OpenSpec.ofChange fnJoinedWrong)

/-- 'laws.FnDampers': WHATEVER THE INPUT: true; the input reads as it did. -/
def fnDampersSpec : ChangeSpec := { name := "fnDampers", fn := fun _ => fun
  | [d1, d2] => { results := [.lit (.bool true)], args := [d1, d2] }
  | _ => none }
def fnDampersRow : OpenClaim := { program := "ytmegbdgnnbjbmaa", sum := "d1c937b113a72b124f2abf02a4255929cee79c4cbf14087e6544fa421f62e788", func := "loop.example/g01229/laws.FnDampers", spec := "fnDampers", inPlace := ["math.Float64bits", "math.Float32bits", "math.sqrt"], unfollowed := true, recurses := true, plainKeys := false, apart := false }
def FnDampersSaid : Prop := fnDampersRow.holds Try.pinned (OpenSpec.ofChange fnDampersSpec)

/-- ITS FALSE NEIGHBOUR: 'it returns false'. Refute it at one input. -/
def fnDampersWrong : ChangeSpec := { name := "fnDampers", fn := fun _ => fun
  | [d1, d2] => { results := [.lit (.bool false)], args := [d1, d2] }
  | _ => none }
def FnDampersWrongFalsely : Prop := fnDampersRow.holds Try.pinned (OpenSpec.ofChange fnDampersWrong)

/-- 'laws.FnExactValidChimney': WHATEVER THE INPUT: true; the input reads as it did. -/
def fnExactValidChimneySpec : ChangeSpec := { name := "fnExactValidChimney", fn := fun _ => fun
  | [d] => { results := [.lit (.bool true)], args := [d] }
  | _ => none }
def fnExactValidChimneyRow : OpenClaim := { program := "ytmegbdgnnbjbmaa", sum := "d1c937b113a72b124f2abf02a4255929cee79c4cbf14087e6544fa421f62e788", func := "loop.example/g01229/laws.FnExactValidChimney", spec := "fnExactValidChimney", inPlace := ["math.Float32bits", "math.Float64bits"], plainKeys := false, apart := false }
def FnExactValidChimneySaid : Prop := fnExactValidChimneyRow.holds Try.pinned (OpenSpec.ofChange fnExactValidChimneySpec)

/-- ITS FALSE NEIGHBOUR: 'it returns false'. Refute it at one input. -/
def fnExactValidChimneyWrong : ChangeSpec := { name := "fnExactValidChimney", fn := fun _ => fun
  | [d] => { results := [.lit (.bool false)], args := [d] }
  | _ => none }
def FnExactValidChimneyWrongFalsely : Prop := fnExactValidChimneyRow.holds Try.pinned (OpenSpec.ofChange fnExactValidChimneyWrong)

/-- 'laws.FnExactSameChimney': WHATEVER THE INPUT: true; the input reads as it did. -/
def fnExactSameChimneySpec : ChangeSpec := { name := "fnExactSameChimney", fn := fun _ => fun
  | [d1, d2] => { results := [.lit (.bool true)], args := [d1, d2] }
  | _ => none }
def fnExactSameChimneyRow : OpenClaim := { program := "ytmegbdgnnbjbmaa", sum := "d1c937b113a72b124f2abf02a4255929cee79c4cbf14087e6544fa421f62e788", func := "loop.example/g01229/laws.FnExactSameChimney", spec := "fnExactSameChimney", inPlace := ["math.Float32bits"], unfollowed := true, recurses := true, plainKeys := false, apart := false }
def FnExactSameChimneySaid : Prop := fnExactSameChimneyRow.holds Try.pinned (OpenSpec.ofChange fnExactSameChimneySpec)

/-- ITS FALSE NEIGHBOUR: 'it returns false'. Refute it at one input. -/
def fnExactSameChimneyWrong : ChangeSpec := { name := "fnExactSameChimney", fn := fun _ => fun
  | [d1, d2] => { results := [.lit (.bool false)], args := [d1, d2] }
  | _ => none }
def FnExactSameChimneyWrongFalsely : Prop := fnExactSameChimneyRow.holds Try.pinned (OpenSpec.ofChange fnExactSameChimneyWrong)

/-- 'laws.FnExactDenseAt': WHATEVER THE INPUT: true; the input reads as it did. -/
def fnExactDenseAtSpec : ChangeSpec := { name := "fnExactDenseAt", fn := fun _ => fun
  | [d] => { results := [.lit (.bool true)], args := [d] }
  | _ => none }
def fnExactDenseAtRow : OpenClaim := { program := "ytmegbdgnnbjbmaa", sum := "d1c937b113a72b124f2abf02a4255929cee79c4cbf14087e6544fa421f62e788", func := "loop.example/g01229/laws.FnExactDenseAt", spec := "fnExactDenseAt", plainKeys := false, apart := false }
def FnExactDenseAtSaid : Prop := fnExactDenseAtRow.holds Try.pinned (OpenSpec.ofChange fnExactDenseAtSpec)

/-- ITS FALSE NEIGHBOUR: 'it returns false'. Refute it at one input. -/
def fnExactDenseAtWrong : ChangeSpec := { name := "fnExactDenseAt", fn := fun _ => fun
  | [d] => { results := [.lit (.bool false)], args := [d] }
  | _ => none }
def FnExactDenseAtWrongFalsely : Prop := fnExactDenseAtRow.holds Try.pinned (OpenSpec.ofChange fnExactDenseAtWrong)

/-- 'laws.FnExactDraftOf': WHATEVER THE INPUT: true; the input reads as it did. -/
def fnExactDraftOfSpec : ChangeSpec := { name := "fnExactDraftOf", fn := fun _ => fun
  | [d1, d2] => { results := [.lit (.bool true)], args := [d1, d2] }
  | _ => none }
def fnExactDraftOfRow : OpenClaim := { program := "ytmegbdgnnbjbmaa", sum := "d1c937b113a72b124f2abf02a4255929cee79c4cbf14087e6544fa421f62e788", func := "loop.example/g01229/laws.FnExactDraftOf", spec := "fnExactDraftOf", inPlace := ["math.Float32bits", "math.Float64bits"], plainKeys := false, apart := false }
def FnExactDraftOfSaid : Prop := fnExactDraftOfRow.holds Try.pinned (OpenSpec.ofChange fnExactDraftOfSpec)

/-- ITS FALSE NEIGHBOUR: 'it returns false'. Refute it at one input. -/
def fnExactDraftOfWrong : ChangeSpec := { name := "fnExactDraftOf", fn := fun _ => fun
  | [d1, d2] => { results := [.lit (.bool false)], args := [d1, d2] }
  | _ => none }
def FnExactDraftOfWrongFalsely : Prop := fnExactDraftOfRow.holds Try.pinned (OpenSpec.ofChange fnExactDraftOfWrong)

/-- 'laws.FnExactResistOf': WHATEVER THE INPUT: true; the input reads as it did. -/
def fnExactResistOfSpec : ChangeSpec := { name := "fnExactResistOf", fn := fun _ => fun
  | [d] => { results := [.lit (.bool true)], args := [d] }
  | _ => none }
def fnExactResistOfRow : OpenClaim := { program := "ytmegbdgnnbjbmaa", sum := "d1c937b113a72b124f2abf02a4255929cee79c4cbf14087e6544fa421f62e788", func := "loop.example/g01229/laws.FnExactResistOf", spec := "fnExactResistOf", inPlace := ["math.Float32bits", "math.Float64bits"], plainKeys := false, apart := false }
def FnExactResistOfSaid : Prop := fnExactResistOfRow.holds Try.pinned (OpenSpec.ofChange fnExactResistOfSpec)

/-- ITS FALSE NEIGHBOUR: 'it returns false'. Refute it at one input. -/
def fnExactResistOfWrong : ChangeSpec := { name := "fnExactResistOf", fn := fun _ => fun
  | [d] => { results := [.lit (.bool false)], args := [d] }
  | _ => none }
def FnExactResistOfWrongFalsely : Prop := fnExactResistOfRow.holds Try.pinned (OpenSpec.ofChange fnExactResistOfWrong)

/-- 'laws.FnExactFlowThrough': WHATEVER THE INPUT: true; the input reads as it did. -/
def fnExactFlowThroughSpec : ChangeSpec := { name := "fnExactFlowThrough", fn := fun _ => fun
  | [d1, d2, d3] => { results := [.lit (.bool true)], args := [d1, d2, d3] }
  | _ => none }
def fnExactFlowThroughRow : OpenClaim := { program := "ytmegbdgnnbjbmaa", sum := "d1c937b113a72b124f2abf02a4255929cee79c4cbf14087e6544fa421f62e788", func := "loop.example/g01229/laws.FnExactFlowThrough", spec := "fnExactFlowThrough", inPlace := ["math.Float32bits", "math.sqrt", "math.Float64bits"], plainKeys := false, apart := false }
def FnExactFlowThroughSaid : Prop := fnExactFlowThroughRow.holds Try.pinned (OpenSpec.ofChange fnExactFlowThroughSpec)

/-- ITS FALSE NEIGHBOUR: 'it returns false'. Refute it at one input. -/
def fnExactFlowThroughWrong : ChangeSpec := { name := "fnExactFlowThrough", fn := fun _ => fun
  | [d1, d2, d3] => { results := [.lit (.bool false)], args := [d1, d2, d3] }
  | _ => none }
def FnExactFlowThroughWrongFalsely : Prop := fnExactFlowThroughRow.holds Try.pinned (OpenSpec.ofChange fnExactFlowThroughWrong)

/-- 'laws.FnExactPushAt': WHATEVER THE INPUT: true; the input reads as it did. -/
def fnExactPushAtSpec : ChangeSpec := { name := "fnExactPushAt", fn := fun _ => fun
  | [d1, d2, d3, d4] => { results := [.lit (.bool true)], args := [d1, d2, d3, d4] }
  | _ => none }
def fnExactPushAtRow : OpenClaim := { program := "ytmegbdgnnbjbmaa", sum := "d1c937b113a72b124f2abf02a4255929cee79c4cbf14087e6544fa421f62e788", func := "loop.example/g01229/laws.FnExactPushAt", spec := "fnExactPushAt", inPlace := ["math.Float32bits", "math.sqrt", "math.Float64bits"], unfollowed := true, recurses := true, plainKeys := false, apart := false }
def FnExactPushAtSaid : Prop := fnExactPushAtRow.holds Try.pinned (OpenSpec.ofChange fnExactPushAtSpec)

/-- ITS FALSE NEIGHBOUR: 'it returns false'. Refute it at one input. -/
def fnExactPushAtWrong : ChangeSpec := { name := "fnExactPushAt", fn := fun _ => fun
  | [d1, d2, d3, d4] => { results := [.lit (.bool false)], args := [d1, d2, d3, d4] }
  | _ => none }
def FnExactPushAtWrongFalsely : Prop := fnExactPushAtRow.holds Try.pinned (OpenSpec.ofChange fnExactPushAtWrong)

/-- 'laws.FnExactFlowsOf': WHATEVER THE INPUT: true; the input reads as it did. -/
def fnExactFlowsOfSpec : ChangeSpec := { name := "fnExactFlowsOf", fn := fun _ => fun
  | [d1, d2, d3] => { results := [.lit (.bool true)], args := [d1, d2, d3] }
  | _ => none }
def fnExactFlowsOfRow : OpenClaim := { program := "ytmegbdgnnbjbmaa", sum := "d1c937b113a72b124f2abf02a4255929cee79c4cbf14087e6544fa421f62e788", func := "loop.example/g01229/laws.FnExactFlowsOf", spec := "fnExactFlowsOf", inPlace := ["math.Float32bits", "math.sqrt", "math.Float64bits"], unfollowed := true, recurses := true, plainKeys := false, apart := false }
def FnExactFlowsOfSaid : Prop := fnExactFlowsOfRow.holds Try.pinned (OpenSpec.ofChange fnExactFlowsOfSpec)

/-- ITS FALSE NEIGHBOUR: 'it returns false'. Refute it at one input. -/
def fnExactFlowsOfWrong : ChangeSpec := { name := "fnExactFlowsOf", fn := fun _ => fun
  | [d1, d2, d3] => { results := [.lit (.bool false)], args := [d1, d2, d3] }
  | _ => none }
def FnExactFlowsOfWrongFalsely : Prop := fnExactFlowsOfRow.holds Try.pinned (OpenSpec.ofChange fnExactFlowsOfWrong)

/- THE SECOND FORM. 'bulk': how many values and letters a reading holds, each counted each time it is reached (what is shared counts as often as it is met; a slice's spare places count too). A statement '..UptoSaid' is the law's where the arguments, and the package variables that the reading takes, are together of bulk at most 1048576: NARROWER than '..Said'. Prove '..Said' where nothing that the law and all that it calls make is longer than what came in: it says more and counts as full. Else prove '..UptoSaid'. A law counts once. -/
mutual
def uptoBulk {H : Type} : DataW H → Nat
  | .lit (.string bytes) => bytes.length + 1
  | .lit _ => 1
  | .nil => 1
  | .ptr d => uptoBulk d + 1
  | .slice elems spare => uptoBulkAll elems + uptoBulkAll spare + 1
  | .agg parts => uptoBulkAll parts + 1
  | .iface _ d => uptoBulk d + 1
  | .map entries => uptoBulkEntries entries + 1
  | .held _ => 1
def uptoBulkAll {H : Type} : List (DataW H) → Nat
  | [] => 0
  | d :: r => uptoBulk d + uptoBulkAll r
def uptoBulkEntries {H : Type} : List (Lit × DataW H) → Nat
  | [] => 0
  | x :: r => uptoBulkEntry x + uptoBulkEntries r
def uptoBulkEntry {H : Type} : Lit × DataW H → Nat
  | (.string bytes, d) => bytes.length + uptoBulk d + 1
  | (_, d) => uptoBulk d + 1
 end
def uptoSmall : (H : Type) → List (DataW H) → Bool := fun _ ds => decide (uptoBulkAll ds ≤ 1048576)
def OpenSpec.upto (s : _root_.Go.ChangeSpec) : _root_.Go.OpenSpec := { _root_.Go.OpenSpec.ofChange s with cond := some uptoSmall }

/-- 'laws.FnJoined', WHERE WHAT IT READS IS OF BULK AT MOST 1048576: true; the input reads as it did. -/
def fnJoinedUptoRow : OpenClaim := { program := "ytmegbdgnnbjbmaa", sum := "d1c937b113a72b124f2abf02a4255929cee79c4cbf14087e6544fa421f62e788", func := "loop.example/g01229/laws.FnJoined", spec := "fnJoined", inPlace := ["math.Float64bits", "math.Float32bits", "math.sqrt"], unfollowed := true, recurses := true, plainKeys := false, apart := false, narrowed := true }
def FnJoinedUptoSaid : Prop := fnJoinedUptoRow.holds Try.pinned (OpenSpec.upto fnJoinedSpec)

/-- 'laws.FnDampers', WHERE WHAT IT READS IS OF BULK AT MOST 1048576: true; the input reads as it did. -/
def fnDampersUptoRow : OpenClaim := { program := "ytmegbdgnnbjbmaa", sum := "d1c937b113a72b124f2abf02a4255929cee79c4cbf14087e6544fa421f62e788", func := "loop.example/g01229/laws.FnDampers", spec := "fnDampers", inPlace := ["math.Float64bits", "math.Float32bits", "math.sqrt"], unfollowed := true, recurses := true, plainKeys := false, apart := false, narrowed := true }
def FnDampersUptoSaid : Prop := fnDampersUptoRow.holds Try.pinned (OpenSpec.upto fnDampersSpec)

/-- 'laws.FnExactValidChimney', WHERE WHAT IT READS IS OF BULK AT MOST 1048576: true; the input reads as it did. -/
def fnExactValidChimneyUptoRow : OpenClaim := { program := "ytmegbdgnnbjbmaa", sum := "d1c937b113a72b124f2abf02a4255929cee79c4cbf14087e6544fa421f62e788", func := "loop.example/g01229/laws.FnExactValidChimney", spec := "fnExactValidChimney", inPlace := ["math.Float32bits", "math.Float64bits"], plainKeys := false, apart := false, narrowed := true }
def FnExactValidChimneyUptoSaid : Prop := fnExactValidChimneyUptoRow.holds Try.pinned (OpenSpec.upto fnExactValidChimneySpec)

/-- 'laws.FnExactSameChimney', WHERE WHAT IT READS IS OF BULK AT MOST 1048576: true; the input reads as it did. -/
def fnExactSameChimneyUptoRow : OpenClaim := { program := "ytmegbdgnnbjbmaa", sum := "d1c937b113a72b124f2abf02a4255929cee79c4cbf14087e6544fa421f62e788", func := "loop.example/g01229/laws.FnExactSameChimney", spec := "fnExactSameChimney", inPlace := ["math.Float32bits"], unfollowed := true, recurses := true, plainKeys := false, apart := false, narrowed := true }
def FnExactSameChimneyUptoSaid : Prop := fnExactSameChimneyUptoRow.holds Try.pinned (OpenSpec.upto fnExactSameChimneySpec)

/-- 'laws.FnExactDenseAt', WHERE WHAT IT READS IS OF BULK AT MOST 1048576: true; the input reads as it did. -/
def fnExactDenseAtUptoRow : OpenClaim := { program := "ytmegbdgnnbjbmaa", sum := "d1c937b113a72b124f2abf02a4255929cee79c4cbf14087e6544fa421f62e788", func := "loop.example/g01229/laws.FnExactDenseAt", spec := "fnExactDenseAt", plainKeys := false, apart := false, narrowed := true }
def FnExactDenseAtUptoSaid : Prop := fnExactDenseAtUptoRow.holds Try.pinned (OpenSpec.upto fnExactDenseAtSpec)

/-- 'laws.FnExactDraftOf', WHERE WHAT IT READS IS OF BULK AT MOST 1048576: true; the input reads as it did. -/
def fnExactDraftOfUptoRow : OpenClaim := { program := "ytmegbdgnnbjbmaa", sum := "d1c937b113a72b124f2abf02a4255929cee79c4cbf14087e6544fa421f62e788", func := "loop.example/g01229/laws.FnExactDraftOf", spec := "fnExactDraftOf", inPlace := ["math.Float32bits", "math.Float64bits"], plainKeys := false, apart := false, narrowed := true }
def FnExactDraftOfUptoSaid : Prop := fnExactDraftOfUptoRow.holds Try.pinned (OpenSpec.upto fnExactDraftOfSpec)

/-- 'laws.FnExactResistOf', WHERE WHAT IT READS IS OF BULK AT MOST 1048576: true; the input reads as it did. -/
def fnExactResistOfUptoRow : OpenClaim := { program := "ytmegbdgnnbjbmaa", sum := "d1c937b113a72b124f2abf02a4255929cee79c4cbf14087e6544fa421f62e788", func := "loop.example/g01229/laws.FnExactResistOf", spec := "fnExactResistOf", inPlace := ["math.Float32bits", "math.Float64bits"], plainKeys := false, apart := false, narrowed := true }
def FnExactResistOfUptoSaid : Prop := fnExactResistOfUptoRow.holds Try.pinned (OpenSpec.upto fnExactResistOfSpec)

/-- 'laws.FnExactFlowThrough', WHERE WHAT IT READS IS OF BULK AT MOST 1048576: true; the input reads as it did. -/
def fnExactFlowThroughUptoRow : OpenClaim := { program := "ytmegbdgnnbjbmaa", sum := "d1c937b113a72b124f2abf02a4255929cee79c4cbf14087e6544fa421f62e788", func := "loop.example/g01229/laws.FnExactFlowThrough", spec := "fnExactFlowThrough", inPlace := ["math.Float32bits", "math.sqrt", "math.Float64bits"], plainKeys := false, apart := false, narrowed := true }
def FnExactFlowThroughUptoSaid : Prop := fnExactFlowThroughUptoRow.holds Try.pinned (OpenSpec.upto fnExactFlowThroughSpec)

/-- 'laws.FnExactPushAt', WHERE WHAT IT READS IS OF BULK AT MOST 1048576: true; the input reads as it did. -/
def fnExactPushAtUptoRow : OpenClaim := { program := "ytmegbdgnnbjbmaa", sum := "d1c937b113a72b124f2abf02a4255929cee79c4cbf14087e6544fa421f62e788", func := "loop.example/g01229/laws.FnExactPushAt", spec := "fnExactPushAt", inPlace := ["math.Float32bits", "math.sqrt", "math.Float64bits"], unfollowed := true, recurses := true, plainKeys := false, apart := false, narrowed := true }
def FnExactPushAtUptoSaid : Prop := fnExactPushAtUptoRow.holds Try.pinned (OpenSpec.upto fnExactPushAtSpec)

/-- 'laws.FnExactFlowsOf', WHERE WHAT IT READS IS OF BULK AT MOST 1048576: true; the input reads as it did. -/
def fnExactFlowsOfUptoRow : OpenClaim := { program := "ytmegbdgnnbjbmaa", sum := "d1c937b113a72b124f2abf02a4255929cee79c4cbf14087e6544fa421f62e788", func := "loop.example/g01229/laws.FnExactFlowsOf", spec := "fnExactFlowsOf", inPlace := ["math.Float32bits", "math.sqrt", "math.Float64bits"], unfollowed := true, recurses := true, plainKeys := false, apart := false, narrowed := true }
def FnExactFlowsOfUptoSaid : Prop := fnExactFlowsOfUptoRow.holds Try.pinned (OpenSpec.upto fnExactFlowsOfSpec)

end Rows
end Go.Proofs.Ytmegbdgnnbjbmaa
