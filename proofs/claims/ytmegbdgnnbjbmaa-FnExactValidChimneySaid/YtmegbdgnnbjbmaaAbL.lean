import Derived.Test.YtmegbdgnnbjbmaaAbS15
import Derived.ProofKit
import Derived.WalkKit
import Derived.Below
import Derived.Laws.Cover2
namespace Go.Ab
open Go
theorem lit32 {a : Nat} (h : (Lit.float .f32 a).wf = true) : wfW .f32 a := by
  have := of_decide_eq_true (show decide (a < 2 ^ 32) = true from h)
  show a < _
  exact this
theorem neq_self (b : Bool) : cond (b != b) false true = true := by cases b <;> rfl
theorem neq_self2 {a b : Bool} (h : a = b) : cond (a != b) false true = true := by subst h; exact neq_self a
end Go.Ab
