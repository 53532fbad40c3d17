import Derived.Test.YtmegbdgnnbjbmaaAbF4
namespace Go.Ab
open Go
noncomputable def eqRow : List Nat → List Nat → Bool
  | x :: xs, y :: ys => cond (!sO (wide x) (wide y)) false (eqRow xs ys)
  | _, _ => true
theorem eqRow_self : ∀ xs, eqRow xs xs = true
  | [] => rfl
  | x :: xs => by unfold eqRow; rw [sO_self, eqRow_self xs]; rfl
/-- Two logs, as a law asks them. -/
noncomputable def eqLog (a b c a' b' c' : List Nat) : Bool := cond (!eqRow a a') false (cond (!eqRow b b') false (cond (!eqRow c c') false true))
theorem eqLog_self (a b c : List Nat) : eqLog a b c a b c = true := by unfold eqLog; rw [eqRow_self, eqRow_self, eqRow_self]; rfl
/-- Two logs and a code. -/
noncomputable def askL (e : Bool) (c d : Int) : Bool := cond (cond (!e) true (c != d)) false true
theorem askL_self {e : Bool} (h : e = true) (c : Int) : askL e c c = true := by subst h; unfold askL; simp
def sum6 (a b c d e f : Nat) (add : Nat → Nat → Nat) : Nat := add (add (add (add (add a b) c) d) e) f
end Go.Ab
