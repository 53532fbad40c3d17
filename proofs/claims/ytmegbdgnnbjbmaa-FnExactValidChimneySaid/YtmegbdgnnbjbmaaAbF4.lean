import Derived.Test.YtmegbdgnnbjbmaaAbF3
namespace Go.Ab
open Go
theorem sO_ex : ∃ f, f = same64 := ⟨_, rfl⟩
noncomputable def sO : Nat → Nat → Bool := Classical.choose sO_ex
theorem sO_eq : sO = same64 := Classical.choose_spec sO_ex
theorem sO_self (a : Nat) : sO a a = true := by rw [sO_eq]; exact same64_self a
/-- Two floats and a code, as a law asks them. -/
noncomputable def askF (x y : Nat) (c d : Int) : Bool := cond (cond (!sO (wide x) (wide y)) true (c != d)) false true
theorem askF_self (x : Nat) (c : Int) : askF x x c c = true := by unfold askF; rw [sO_self]; simp
end Go.Ab
