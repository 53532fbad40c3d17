/-
  No cell of these rows narrows 'for every input' (looked for: loops, veiled, ifaces, maps, wideKeys, modest, calm, conditions, laid).
  DERIVED. THE GIVEN ROWS OF THIS SEAT. 9 by the template 'for every input the law returns true; each argument reads behind the call as it read before'; 0 by the template 'total and deterministic' (their statements: YtbkjjefjnkkgbaaTotals.lean).
  GIVEN WITH THE SEED: the statements are not yours to turn. If you find one false, say at which input.
  Laid BY PROGRAM, IN A SANDBOX (cutbox-rows.mjs): the forced cells as the released guide's own fill.sh prints them over the translation a4683a3629c90836… (all of the seat's roots in one cut). By AI agents, Wed Nov 11 2026. No macro, syntax, notation, axiom, sorry.
-/
import Derived.Test.YtbkjjefjnkkgbaaChecked
import GoSem.Claim
import GoSem.ClaimJoined
import GoSem.ClaimMapViews
import Derived.JoinedTies
import Derived.KernelRfl
namespace Go.Proofs.Ytbkjjefjnkkgbaa
/- THE CELL 'sum', in the pinned program and in every row, IS THE sha256 OF THE DUMP (.gsa) THAT YtbkjjefjnkkgbaaProg.lean LOADS. Nothing in Lean hashes anything: it is a label: what it is worth is what the hold of that sum in a sandbox is worth. -/
noncomputable def Try.pinned : Pinned := { name := "ytbkjjefjnkkgbaa", sum := "a4683a3629c908366436fcae98575f284d467097e55fa57d1f9e5ebd9acee84b", checked := Try.checked }
namespace Rows
def none {H : Type} : Left H := { results := [], args := [] }

/-- 'laws.FnExactValidSeason': WHATEVER THE INPUT: true; the input reads as it did. -/
def fnExactValidSeasonSpec : ChangeSpec := { name := "fnExactValidSeason", fn := fun _ => fun
  | [d] => { results := [.lit (.bool true)], args := [d] }
  | _ => none }
def fnExactValidSeasonRow : OpenClaim := { program := "ytbkjjefjnkkgbaa", sum := "a4683a3629c908366436fcae98575f284d467097e55fa57d1f9e5ebd9acee84b", func := "loop.example/g01229/laws.FnExactValidSeason", spec := "fnExactValidSeason", unfollowed := true, recurses := true, apart := false }
def FnExactValidSeasonSaid : Prop := fnExactValidSeasonRow.holds Try.pinned (OpenSpec.ofChange fnExactValidSeasonSpec)

/-- ITS FALSE NEIGHBOUR: 'it returns false'. Refute it at one input. -/
def fnExactValidSeasonWrong : ChangeSpec := { name := "fnExactValidSeason", fn := fun _ => fun
  | [d] => { results := [.lit (.bool false)], args := [d] }
  | _ => none }
def FnExactValidSeasonWrongFalsely : Prop := fnExactValidSeasonRow.holds Try.pinned (OpenSpec.ofChange fnExactValidSeasonWrong)

/-- 'laws.FnExactSameSeason': WHATEVER THE INPUT: true; the input reads as it did. -/
def fnExactSameSeasonSpec : ChangeSpec := { name := "fnExactSameSeason", fn := fun _ => fun
  | [d1, d2] => { results := [.lit (.bool true)], args := [d1, d2] }
  | _ => none }
def fnExactSameSeasonRow : OpenClaim := { program := "ytbkjjefjnkkgbaa", sum := "a4683a3629c908366436fcae98575f284d467097e55fa57d1f9e5ebd9acee84b", func := "loop.example/g01229/laws.FnExactSameSeason", spec := "fnExactSameSeason", apart := false }
def FnExactSameSeasonSaid : Prop := fnExactSameSeasonRow.holds Try.pinned (OpenSpec.ofChange fnExactSameSeasonSpec)

/-- ITS FALSE NEIGHBOUR: 'it returns false'. Refute it at one input. -/
def fnExactSameSeasonWrong : ChangeSpec := { name := "fnExactSameSeason", fn := fun _ => fun
  | [d1, d2] => { results := [.lit (.bool false)], args := [d1, d2] }
  | _ => none }
def FnExactSameSeasonWrongFalsely : Prop := fnExactSameSeasonRow.holds Try.pinned (OpenSpec.ofChange fnExactSameSeasonWrong)

/-- 'laws.FnExactStoreAfter': WHATEVER THE INPUT: true; the input reads as it did. -/
def fnExactStoreAfterSpec : ChangeSpec := { name := "fnExactStoreAfter", fn := fun _ => fun
  | [d1, d2, d3, d4] => { results := [.lit (.bool true)], args := [d1, d2, d3, d4] }
  | _ => none }
def fnExactStoreAfterRow : OpenClaim := { program := "ytbkjjefjnkkgbaa", sum := "a4683a3629c908366436fcae98575f284d467097e55fa57d1f9e5ebd9acee84b", func := "loop.example/g01229/laws.FnExactStoreAfter", spec := "fnExactStoreAfter", unfollowed := true, recurses := true, apart := false }
def FnExactStoreAfterSaid : Prop := fnExactStoreAfterRow.holds Try.pinned (OpenSpec.ofChange fnExactStoreAfterSpec)

/-- ITS FALSE NEIGHBOUR: 'it returns false'. Refute it at one input. -/
def fnExactStoreAfterWrong : ChangeSpec := { name := "fnExactStoreAfter", fn := fun _ => fun
  | [d1, d2, d3, d4] => { results := [.lit (.bool false)], args := [d1, d2, d3, d4] }
  | _ => none }
def FnExactStoreAfterWrongFalsely : Prop := fnExactStoreAfterRow.holds Try.pinned (OpenSpec.ofChange fnExactStoreAfterWrong)

/-- 'laws.FnExactStoresOf': WHATEVER THE INPUT: true; the input reads as it did. -/
def fnExactStoresOfSpec : ChangeSpec := { name := "fnExactStoresOf", fn := fun _ => fun
  | [d1, d2] => { results := [.lit (.bool true)], args := [d1, d2] }
  | _ => none }
def fnExactStoresOfRow : OpenClaim := { program := "ytbkjjefjnkkgbaa", sum := "a4683a3629c908366436fcae98575f284d467097e55fa57d1f9e5ebd9acee84b", func := "loop.example/g01229/laws.FnExactStoresOf", spec := "fnExactStoresOf", unfollowed := true, recurses := true, apart := false }
def FnExactStoresOfSaid : Prop := fnExactStoresOfRow.holds Try.pinned (OpenSpec.ofChange fnExactStoresOfSpec)

/-- ITS FALSE NEIGHBOUR: 'it returns false'. Refute it at one input. -/
def fnExactStoresOfWrong : ChangeSpec := { name := "fnExactStoresOf", fn := fun _ => fun
  | [d1, d2] => { results := [.lit (.bool false)], args := [d1, d2] }
  | _ => none }
def FnExactStoresOfWrongFalsely : Prop := fnExactStoresOfRow.holds Try.pinned (OpenSpec.ofChange fnExactStoresOfWrong)

/-- 'laws.FnExactCostOf': WHATEVER THE INPUT: true; the input reads as it did. -/
def fnExactCostOfSpec : ChangeSpec := { name := "fnExactCostOf", fn := fun _ => fun
  | [d1, d2] => { results := [.lit (.bool true)], args := [d1, d2] }
  | _ => none }
def fnExactCostOfRow : OpenClaim := { program := "ytbkjjefjnkkgbaa", sum := "a4683a3629c908366436fcae98575f284d467097e55fa57d1f9e5ebd9acee84b", func := "loop.example/g01229/laws.FnExactCostOf", spec := "fnExactCostOf", unfollowed := true, recurses := true, apart := false }
def FnExactCostOfSaid : Prop := fnExactCostOfRow.holds Try.pinned (OpenSpec.ofChange fnExactCostOfSpec)

/-- ITS FALSE NEIGHBOUR: 'it returns false'. Refute it at one input. -/
def fnExactCostOfWrong : ChangeSpec := { name := "fnExactCostOf", fn := fun _ => fun
  | [d1, d2] => { results := [.lit (.bool false)], args := [d1, d2] }
  | _ => none }
def FnExactCostOfWrongFalsely : Prop := fnExactCostOfRow.holds Try.pinned (OpenSpec.ofChange fnExactCostOfWrong)

/-- 'laws.FnExactGreedyPlan': WHATEVER THE INPUT: true; the input reads as it did. -/
def fnExactGreedyPlanSpec : ChangeSpec := { name := "fnExactGreedyPlan", fn := fun _ => fun
  | [d] => { results := [.lit (.bool true)], args := [d] }
  | _ => none }
def fnExactGreedyPlanRow : OpenClaim := { program := "ytbkjjefjnkkgbaa", sum := "a4683a3629c908366436fcae98575f284d467097e55fa57d1f9e5ebd9acee84b", func := "loop.example/g01229/laws.FnExactGreedyPlan", spec := "fnExactGreedyPlan", unfollowed := true, recurses := true, apart := false }
def FnExactGreedyPlanSaid : Prop := fnExactGreedyPlanRow.holds Try.pinned (OpenSpec.ofChange fnExactGreedyPlanSpec)

/-- ITS FALSE NEIGHBOUR: 'it returns false'. Refute it at one input. -/
def fnExactGreedyPlanWrong : ChangeSpec := { name := "fnExactGreedyPlan", fn := fun _ => fun
  | [d] => { results := [.lit (.bool false)], args := [d] }
  | _ => none }
def FnExactGreedyPlanWrongFalsely : Prop := fnExactGreedyPlanRow.holds Try.pinned (OpenSpec.ofChange fnExactGreedyPlanWrong)

/-- 'laws.FnExactRepairPlan': WHATEVER THE INPUT: true; the input reads as it did. -/
def fnExactRepairPlanSpec : ChangeSpec := { name := "fnExactRepairPlan", fn := fun _ => fun
  | [d1, d2] => { results := [.lit (.bool true)], args := [d1, d2] }
  | _ => none }
def fnExactRepairPlanRow : OpenClaim := { program := "ytbkjjefjnkkgbaa", sum := "a4683a3629c908366436fcae98575f284d467097e55fa57d1f9e5ebd9acee84b", func := "loop.example/g01229/laws.FnExactRepairPlan", spec := "fnExactRepairPlan", unfollowed := true, recurses := true, apart := false }
def FnExactRepairPlanSaid : Prop := fnExactRepairPlanRow.holds Try.pinned (OpenSpec.ofChange fnExactRepairPlanSpec)

/-- ITS FALSE NEIGHBOUR: 'it returns false'. Refute it at one input. -/
def fnExactRepairPlanWrong : ChangeSpec := { name := "fnExactRepairPlan", fn := fun _ => fun
  | [d1, d2] => { results := [.lit (.bool false)], args := [d1, d2] }
  | _ => none }
def FnExactRepairPlanWrongFalsely : Prop := fnExactRepairPlanRow.holds Try.pinned (OpenSpec.ofChange fnExactRepairPlanWrong)

/-- 'laws.FnExactLeastStore': WHATEVER THE INPUT: true; the input reads as it did. -/
def fnExactLeastStoreSpec : ChangeSpec := { name := "fnExactLeastStore", fn := fun _ => fun
  | [d] => { results := [.lit (.bool true)], args := [d] }
  | _ => none }
def fnExactLeastStoreRow : OpenClaim := { program := "ytbkjjefjnkkgbaa", sum := "a4683a3629c908366436fcae98575f284d467097e55fa57d1f9e5ebd9acee84b", func := "loop.example/g01229/laws.FnExactLeastStore", spec := "fnExactLeastStore", unfollowed := true, recurses := true, apart := false }
def FnExactLeastStoreSaid : Prop := fnExactLeastStoreRow.holds Try.pinned (OpenSpec.ofChange fnExactLeastStoreSpec)

/-- ITS FALSE NEIGHBOUR: 'it returns false'. Refute it at one input. -/
def fnExactLeastStoreWrong : ChangeSpec := { name := "fnExactLeastStore", fn := fun _ => fun
  | [d] => { results := [.lit (.bool false)], args := [d] }
  | _ => none }
def FnExactLeastStoreWrongFalsely : Prop := fnExactLeastStoreRow.holds Try.pinned (OpenSpec.ofChange fnExactLeastStoreWrong)

/-- 'laws.FnExactIsCertificate': WHATEVER THE INPUT: true; the input reads as it did. -/
def fnExactIsCertificateSpec : ChangeSpec := { name := "fnExactIsCertificate", fn := fun _ => fun
  | [d1, d2, d3] => { results := [.lit (.bool true)], args := [d1, d2, d3] }
  | _ => none }
def fnExactIsCertificateRow : OpenClaim := { program := "ytbkjjefjnkkgbaa", sum := "a4683a3629c908366436fcae98575f284d467097e55fa57d1f9e5ebd9acee84b", func := "loop.example/g01229/laws.FnExactIsCertificate", spec := "fnExactIsCertificate", unfollowed := true, recurses := true, apart := false }
def FnExactIsCertificateSaid : Prop := fnExactIsCertificateRow.holds Try.pinned (OpenSpec.ofChange fnExactIsCertificateSpec)

/-- ITS FALSE NEIGHBOUR: 'it returns false'. Refute it at one input. -/
def fnExactIsCertificateWrong : ChangeSpec := { name := "fnExactIsCertificate", fn := fun _ => fun
  | [d1, d2, d3] => { results := [.lit (.bool false)], args := [d1, d2, d3] }
  | _ => none }
def FnExactIsCertificateWrongFalsely : Prop := fnExactIsCertificateRow.holds Try.pinned (OpenSpec.ofChange fnExactIsCertificateWrong)

/- THE SECOND FORM. 'bulk': how many values and letters a reading holds, each counted each time it is reached (what is shared counts as often as it is met; a slice's spare places count too). A statement '..UptoSaid' is the law's where the arguments, and the package variables that the reading takes, are together of bulk at most 1048576: NARROWER than '..Said'. Prove '..Said' where nothing that the law and all that it calls make is longer than what came in: it says more and counts as full. Else prove '..UptoSaid'. A law counts once. -/
mutual
def uptoBulk {H : Type} : DataW H → Nat
  | .lit (.string bytes) => bytes.length + 1
  | .lit _ => 1
  | .nil => 1
  | .ptr d => uptoBulk d + 1
  | .slice elems spare => uptoBulkAll elems + uptoBulkAll spare + 1
  | .agg parts => uptoBulkAll parts + 1
  | .iface _ d => uptoBulk d + 1
  | .map entries => uptoBulkEntries entries + 1
  | .held _ => 1
def uptoBulkAll {H : Type} : List (DataW H) → Nat
  | [] => 0
  | d :: r => uptoBulk d + uptoBulkAll r
def uptoBulkEntries {H : Type} : List (Lit × DataW H) → Nat
  | [] => 0
  | x :: r => uptoBulkEntry x + uptoBulkEntries r
def uptoBulkEntry {H : Type} : Lit × DataW H → Nat
  | (.string bytes, d) => bytes.length + uptoBulk d + 1
  | (_, d) => uptoBulk d + 1
 end
def uptoSmall : (H : Type) → List (DataW H) → Bool := fun _ ds => decide (uptoBulkAll ds ≤ 1048576)
def OpenSpec.upto (s : _root_.Go.ChangeSpec) : _root_.Go.OpenSpec := { _root_.Go.OpenSpec.ofChange s with cond := some uptoSmall }

/-- 'laws.FnExactValidSeason', WHERE WHAT IT READS IS OF BULK AT MOST 1048576: true; the input reads as it did. -/
def fnExactValidSeasonUptoRow : OpenClaim := { program := "ytbkjjefjnkkgbaa", sum := "a4683a3629c908366436fcae98575f284d467097e55fa57d1f9e5ebd9acee84b", func := "loop.example/g01229/laws.FnExactValidSeason", spec := "fnExactValidSeason", unfollowed := true, recurses := true, apart := false, narrowed := true }
def FnExactValidSeasonUptoSaid : Prop := fnExactValidSeasonUptoRow.holds Try.pinned (OpenSpec.upto fnExactValidSeasonSpec)

/-- 'laws.FnExactSameSeason', WHERE WHAT IT READS IS OF BULK AT MOST 1048576: true; the input reads as it did. -/
def fnExactSameSeasonUptoRow : OpenClaim := { program := "ytbkjjefjnkkgbaa", sum := "a4683a3629c908366436fcae98575f284d467097e55fa57d1f9e5ebd9acee84b", func := "loop.example/g01229/laws.FnExactSameSeason", spec := "fnExactSameSeason", apart := false, narrowed := true }
def FnExactSameSeasonUptoSaid : Prop := fnExactSameSeasonUptoRow.holds Try.pinned (OpenSpec.upto fnExactSameSeasonSpec)

/-- 'laws.FnExactStoreAfter', WHERE WHAT IT READS IS OF BULK AT MOST 1048576: true; the input reads as it did. -/
def fnExactStoreAfterUptoRow : OpenClaim := { program := "ytbkjjefjnkkgbaa", sum := "a4683a3629c908366436fcae98575f284d467097e55fa57d1f9e5ebd9acee84b", func := "loop.example/g01229/laws.FnExactStoreAfter", spec := "fnExactStoreAfter", unfollowed := true, recurses := true, apart := false, narrowed := true }
def FnExactStoreAfterUptoSaid : Prop := fnExactStoreAfterUptoRow.holds Try.pinned (OpenSpec.upto fnExactStoreAfterSpec)

/-- 'laws.FnExactStoresOf', WHERE WHAT IT READS IS OF BULK AT MOST 1048576: true; the input reads as it did. -/
def fnExactStoresOfUptoRow : OpenClaim := { program := "ytbkjjefjnkkgbaa", sum := "a4683a3629c908366436fcae98575f284d467097e55fa57d1f9e5ebd9acee84b", func := "loop.example/g01229/laws.FnExactStoresOf", spec := "fnExactStoresOf", unfollowed := true, recurses := true, apart := false, narrowed := true }
def FnExactStoresOfUptoSaid : Prop := fnExactStoresOfUptoRow.holds Try.pinned (OpenSpec.upto fnExactStoresOfSpec)

/-- 'laws.FnExactCostOf', WHERE WHAT IT READS IS OF BULK AT MOST 1048576: true; the input reads as it did. -/
def fnExactCostOfUptoRow : OpenClaim := { program := "ytbkjjefjnkkgbaa", sum := "a4683a3629c908366436fcae98575f284d467097e55fa57d1f9e5ebd9acee84b", func := "loop.example/g01229/laws.FnExactCostOf", spec := "fnExactCostOf", unfollowed := true, recurses := true, apart := false, narrowed := true }
def FnExactCostOfUptoSaid : Prop := fnExactCostOfUptoRow.holds Try.pinned (OpenSpec.upto fnExactCostOfSpec)

/-- 'laws.FnExactGreedyPlan', WHERE WHAT IT READS IS OF BULK AT MOST 1048576: true; the input reads as it did. -/
def fnExactGreedyPlanUptoRow : OpenClaim := { program := "ytbkjjefjnkkgbaa", sum := "a4683a3629c908366436fcae98575f284d467097e55fa57d1f9e5ebd9acee84b", func := "loop.example/g01229/laws.FnExactGreedyPlan", spec := "fnExactGreedyPlan", unfollowed := true, recurses := true, apart := false, narrowed := true }
def FnExactGreedyPlanUptoSaid : Prop := fnExactGreedyPlanUptoRow.holds Try.pinned (OpenSpec.upto fnExactGreedyPlanSpec)

/-- 'laws.FnExactRepairPlan', WHERE WHAT IT READS IS OF BULK AT MOST 1048576: true; the input reads as it did. -/
def fnExactRepairPlanUptoRow : OpenClaim := { program := "ytbkjjefjnkkgbaa", sum := "a4683a3629c908366436fcae98575f284d467097e55fa57d1f9e5ebd9acee84b", func := "loop.example/g01229/laws.FnExactRepairPlan", spec := "fnExactRepairPlan", unfollowed := true, recurses := true, apart := false, narrowed := true }
def FnExactRepairPlanUptoSaid : Prop := fnExactRepairPlanUptoRow.holds Try.pinned (OpenSpec.upto fnExactRepairPlanSpec)

/-- 'laws.FnExactLeastStore', WHERE WHAT IT READS IS OF BULK AT MOST 1048576: true; the input reads as it did. -/
def fnExactLeastStoreUptoRow : OpenClaim := { program := "ytbkjjefjnkkgbaa", sum := "a4683a3629c908366436fcae98575f284d467097e55fa57d1f9e5ebd9acee84b", func := "loop.example/g01229/laws.FnExactLeastStore", spec := "fnExactLeastStore", unfollowed := true, recurses := true, apart := false, narrowed := true }
def FnExactLeastStoreUptoSaid : Prop := fnExactLeastStoreUptoRow.holds Try.pinned (OpenSpec.upto fnExactLeastStoreSpec)

/-- 'laws.FnExactIsCertificate', WHERE WHAT IT READS IS OF BULK AT MOST 1048576: true; the input reads as it did. -/
def fnExactIsCertificateUptoRow : OpenClaim := { program := "ytbkjjefjnkkgbaa", sum := "a4683a3629c908366436fcae98575f284d467097e55fa57d1f9e5ebd9acee84b", func := "loop.example/g01229/laws.FnExactIsCertificate", spec := "fnExactIsCertificate", unfollowed := true, recurses := true, apart := false, narrowed := true }
def FnExactIsCertificateUptoSaid : Prop := fnExactIsCertificateUptoRow.holds Try.pinned (OpenSpec.upto fnExactIsCertificateSpec)

end Rows
end Go.Proofs.Ytbkjjefjnkkgbaa
