import Derived.Test.YtmegbdgnnbjbmaaAbF6
namespace Go.Ab
open Go
noncomputable def wAt (o : Option AVal) (i : Nat) : Nat := match o with
  | some (.tuple (.agg cs :: _)) => (match nth i cs with | .flt _ w => w | _ => 0)
  | _ => 0
noncomputable def wT (o : Option AVal) (i : Nat) : Nat := match o with
  | some (.tuple cs) => (match nth i cs with | .flt _ w => w | _ => 0)
  | _ => 0
noncomputable def iT (o : Option AVal) (i : Nat) : Int := match o with
  | some (.tuple cs) => (match nth i cs with | .sint _ w => w | .int _ w => w | _ => 0)
  | _ => 0
noncomputable def oV (o : Option Out) : Option AVal := match o with | some o => some o.v | none => none
noncomputable def logQ (R R' : Option AVal) : Bool := eqLog [wAt R 0, wAt R 1, wAt R 2, wAt R 3, wAt R 4, wAt R 5] [wAt R 6, wAt R 7, wAt R 8, wAt R 9, wAt R 10, wAt R 11] [wAt R 12, wAt R 13, wAt R 14, wAt R 15, wAt R 16, wAt R 17] [wAt R' 0, wAt R' 1, wAt R' 2, wAt R' 3, wAt R' 4, wAt R' 5] [wAt R' 6, wAt R' 7, wAt R' 8, wAt R' 9, wAt R' 10, wAt R' 11] [wAt R' 12, wAt R' 13, wAt R' 14, wAt R' 15, wAt R' 16, wAt R' 17]
theorem logQ_self (R : Option AVal) : logQ R R = true := eqLog_self _ _ _
/-- A log, a float and a code, as a law asks them. -/
noncomputable def askW (R R' : Option AVal) : Bool := cond (cond (!logQ R R') true (cond (!sO (wide (wT R 1)) (wide (wT R' 1))) true (iT R 2 != iT R' 2))) false true
theorem askW_self (R : Option AVal) : askW R R = true := by unfold askW; rw [logQ_self, sO_self]; simp
theorem askW_of {R R' : Option AVal} (h : R = R') : askW R R' = true := by subst h; exact askW_self R
/-- A log, two floats and a code. -/
noncomputable def askW2 (R R' : Option AVal) : Bool := cond (cond (!logQ R R') true (cond (!sO (wide (wT R 1)) (wide (wT R' 1))) true (cond (!sO (wide (wT R 2)) (wide (wT R' 2))) true (iT R 3 != iT R' 3)))) false true
theorem askW2_self (R : Option AVal) : askW2 R R = true := by unfold askW2; rw [logQ_self, sO_self, sO_self]; simp
/-- A log, three floats and a code. -/
noncomputable def askW3 (R R' : Option AVal) : Bool := cond (cond (!logQ R R') true (cond (!sO (wide (wT R 1)) (wide (wT R' 1))) true (cond (!sO (wide (wT R 2)) (wide (wT R' 2))) true (cond (!sO (wide (wT R 3)) (wide (wT R' 3))) true (iT R 4 != iT R' 4))))) false true
theorem askW3_self (R : Option AVal) : askW3 R R = true := by unfold askW3; rw [logQ_self, sO_self, sO_self, sO_self]; simp
end Go.Ab
