/-
  No cell of these rows narrows 'for every input' (looked for: loops, veiled, ifaces, maps, wideKeys, modest, calm, conditions, laid).
  DERIVED. THE GIVEN ROWS OF THIS SEAT. 3 by the template 'for every input the law returns true; each argument reads behind the call as it read before'; 0 by the template 'total and deterministic' (their statements: YtnkfeoodbhihcaaTotals.lean).
  GIVEN WITH THE SEED: the statements are not yours to turn. If you find one false, say at which input.
  Laid BY PROGRAM, IN A SANDBOX (cutbox-rows.mjs): the forced cells as the released guide's own fill.sh prints them over the translation 5dccd398f56b8e78… (all of the seat's roots in one cut). By AI agents, Wed Nov 11 2026. No macro, syntax, notation, axiom, sorry.
-/
import Derived.Test.YtnkfeoodbhihcaaChecked
import GoSem.Claim
import GoSem.ClaimJoined
import GoSem.ClaimMapViews
import Derived.JoinedTies
import Derived.KernelRfl
namespace Go.Proofs.Ytnkfeoodbhihcaa
/- THE CELL 'sum', in the pinned program and in every row, IS THE sha256 OF THE DUMP (.gsa) THAT YtnkfeoodbhihcaaProg.lean LOADS. Nothing in Lean hashes anything: it is a label: what it is worth is what the hold of that sum in a sandbox is worth. -/
noncomputable def Try.pinned : Pinned := { name := "ytnkfeoodbhihcaa", sum := "5dccd398f56b8e78c6cb2c3eb607ea750728cc2e071a1780fd97f10e0e2d5f4d", checked := Try.checked }
namespace Rows
def none {H : Type} : Left H := { results := [], args := [] }

/-- 'laws.FnExactToTenths': WHATEVER THE INPUT: true; the input reads as it did. -/
def fnExactToTenthsSpec : ChangeSpec := { name := "fnExactToTenths", fn := fun _ => fun
  | [d] => { results := [.lit (.bool true)], args := [d] }
  | _ => none }
def fnExactToTenthsRow : OpenClaim := { program := "ytnkfeoodbhihcaa", sum := "5dccd398f56b8e78c6cb2c3eb607ea750728cc2e071a1780fd97f10e0e2d5f4d", func := "loop.example/g01229/laws.FnExactToTenths", spec := "fnExactToTenths", inPlace := ["math.RoundToEven"], apart := false }
def FnExactToTenthsSaid : Prop := fnExactToTenthsRow.holds Try.pinned (OpenSpec.ofChange fnExactToTenthsSpec)

/-- ITS FALSE NEIGHBOUR: 'it returns false'. Refute it at one input. -/
def fnExactToTenthsWrong : ChangeSpec := { name := "fnExactToTenths", fn := fun _ => fun
  | [d] => { results := [.lit (.bool false)], args := [d] }
  | _ => none }
def FnExactToTenthsWrongFalsely : Prop := fnExactToTenthsRow.holds Try.pinned (OpenSpec.ofChange fnExactToTenthsWrong)

/-- 'laws.FnExactOfTenths': WHATEVER THE INPUT: true; the input reads as it did. -/
def fnExactOfTenthsSpec : ChangeSpec := { name := "fnExactOfTenths", fn := fun _ => fun
  | [d] => { results := [.lit (.bool true)], args := [d] }
  | _ => none }
def fnExactOfTenthsRow : OpenClaim := { program := "ytnkfeoodbhihcaa", sum := "5dccd398f56b8e78c6cb2c3eb607ea750728cc2e071a1780fd97f10e0e2d5f4d", func := "loop.example/g01229/laws.FnExactOfTenths", spec := "fnExactOfTenths", apart := false }
def FnExactOfTenthsSaid : Prop := fnExactOfTenthsRow.holds Try.pinned (OpenSpec.ofChange fnExactOfTenthsSpec)

/-- ITS FALSE NEIGHBOUR: 'it returns false'. Refute it at one input. -/
def fnExactOfTenthsWrong : ChangeSpec := { name := "fnExactOfTenths", fn := fun _ => fun
  | [d] => { results := [.lit (.bool false)], args := [d] }
  | _ => none }
def FnExactOfTenthsWrongFalsely : Prop := fnExactOfTenthsRow.holds Try.pinned (OpenSpec.ofChange fnExactOfTenthsWrong)

/-- 'laws.FnExactLastMark': WHATEVER THE INPUT: true; the input reads as it did. -/
def fnExactLastMarkSpec : ChangeSpec := { name := "fnExactLastMark", fn := fun _ => fun
  | [d] => { results := [.lit (.bool true)], args := [d] }
  | _ => none }
def fnExactLastMarkRow : OpenClaim := { program := "ytnkfeoodbhihcaa", sum := "5dccd398f56b8e78c6cb2c3eb607ea750728cc2e071a1780fd97f10e0e2d5f4d", func := "loop.example/g01229/laws.FnExactLastMark", spec := "fnExactLastMark", unfollowed := true, recurses := true, apart := false }
def FnExactLastMarkSaid : Prop := fnExactLastMarkRow.holds Try.pinned (OpenSpec.ofChange fnExactLastMarkSpec)

/-- ITS FALSE NEIGHBOUR: 'it returns false'. Refute it at one input. -/
def fnExactLastMarkWrong : ChangeSpec := { name := "fnExactLastMark", fn := fun _ => fun
  | [d] => { results := [.lit (.bool false)], args := [d] }
  | _ => none }
def FnExactLastMarkWrongFalsely : Prop := fnExactLastMarkRow.holds Try.pinned (OpenSpec.ofChange fnExactLastMarkWrong)

/- THE SECOND FORM. 'bulk': how many values and letters a reading holds, each counted each time it is reached (what is shared counts as often as it is met; a slice's spare places count too). A statement '..UptoSaid' is the law's where the arguments, and the package variables that the reading takes, are together of bulk at most 1048576: NARROWER than '..Said'. Prove '..Said' where nothing that the law and all that it calls make is longer than what came in: it says more and counts as full. Else prove '..UptoSaid'. A law counts once. -/
mutual
def uptoBulk {H : Type} : DataW H → Nat
  | .lit (.string bytes) => bytes.length + 1
  | .lit _ => 1
  | .nil => 1
  | .ptr d => uptoBulk d + 1
  | .slice elems spare => uptoBulkAll elems + uptoBulkAll spare + 1
  | .agg parts => uptoBulkAll parts + 1
  | .iface _ d => uptoBulk d + 1
  | .map entries => uptoBulkEntries entries + 1
  | .held _ => 1
def uptoBulkAll {H : Type} : List (DataW H) → Nat
  | [] => 0
  | d :: r => uptoBulk d + uptoBulkAll r
def uptoBulkEntries {H : Type} : List (Lit × DataW H) → Nat
  | [] => 0
  | x :: r => uptoBulkEntry x + uptoBulkEntries r
def uptoBulkEntry {H : Type} : Lit × DataW H → Nat
  | (.string bytes, d) => bytes.length + uptoBulk d + 1
  | (_, d) => uptoBulk d + 1
 end
def uptoSmall : (H : Type) → List (DataW H) → Bool := fun _ ds => decide (uptoBulkAll ds ≤ 1048576)
def OpenSpec.upto (s : _root_.Go.ChangeSpec) : _root_.Go.OpenSpec := { _root_.Go.OpenSpec.ofChange s with cond := some uptoSmall }

/-- 'laws.FnExactToTenths', WHERE WHAT IT READS IS OF BULK AT MOST 1048576: true; the input reads as it did. -/
def fnExactToTenthsUptoRow : OpenClaim := { program := "ytnkfeoodbhihcaa", sum := "5dccd398f56b8e78c6cb2c3eb607ea750728cc2e071a1780fd97f10e0e2d5f4d", func := "loop.example/g01229/laws.FnExactToTenths", spec := "fnExactToTenths", inPlace := ["math.RoundToEven"], apart := false, narrowed := true }
def FnExactToTenthsUptoSaid : Prop := fnExactToTenthsUptoRow.holds Try.pinned (OpenSpec.upto fnExactToTenthsSpec)

/-- 'laws.FnExactOfTenths', WHERE WHAT IT READS IS OF BULK AT MOST 1048576: true; the input reads as it did. -/
def fnExactOfTenthsUptoRow : OpenClaim := { program := "ytnkfeoodbhihcaa", sum := "5dccd398f56b8e78c6cb2c3eb607ea750728cc2e071a1780fd97f10e0e2d5f4d", func := "loop.example/g01229/laws.FnExactOfTenths", spec := "fnExactOfTenths", apart := false, narrowed := true }
def FnExactOfTenthsUptoSaid : Prop := fnExactOfTenthsUptoRow.holds Try.pinned (OpenSpec.upto fnExactOfTenthsSpec)

/-- 'laws.FnExactLastMark', WHERE WHAT IT READS IS OF BULK AT MOST 1048576: true; the input reads as it did. -/
def fnExactLastMarkUptoRow : OpenClaim := { program := "ytnkfeoodbhihcaa", sum := "5dccd398f56b8e78c6cb2c3eb607ea750728cc2e071a1780fd97f10e0e2d5f4d", func := "loop.example/g01229/laws.FnExactLastMark", spec := "fnExactLastMark", unfollowed := true, recurses := true, apart := false, narrowed := true }
def FnExactLastMarkUptoSaid : Prop := fnExactLastMarkUptoRow.holds Try.pinned (OpenSpec.upto fnExactLastMarkSpec)

end Rows
end Go.Proofs.Ytnkfeoodbhihcaa
