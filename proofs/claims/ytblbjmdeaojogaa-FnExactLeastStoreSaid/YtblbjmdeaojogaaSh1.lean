import Derived.Test.YtblbjmdeaojogaaSw4
namespace Go.Proofs.Ytblbjmdeaojogaa.sea
open Go Go.Ab Go.Proofs Go.RowKit Go.Shelf
attribute [local go_sem] Oper.semAt_some
set_option linter.unusedVariables false
section
variable {s : Sea} {w : World}
/-- Most logs in each slot. -/
abbrev chM (s : Sea) : Nat → Int → Int := fun _ _ => s.g 0
theorem most65 (Bq : Nat) (h : w.cell? ⟨Bq, 2, none⟩ = some (.int .i64 (s.g 0))) (k x : Value) :
    Calls Try.prog 65 #[k, x, .pointer (some ⟨Bq, 0, none⟩)] w fun e w' => e = .returned (.int .i64 (s.g 0)) ∧ Below w.heap.size w w' := by
  go_enter Try.func65, Try.ntmps65
  go_wp2
  go_ret
  exact ⟨rfl, Below.refl _ _⟩
theorem fitsM (o : s.Ok) : s.Fits (chM s) := fun k x hk _ _ => by
  have := o.most
  show 0 ≤ s.g 0 ∧ s.g 0 ≤ s.g 0
  omega
end
end Go.Proofs.Ytblbjmdeaojogaa.sea
