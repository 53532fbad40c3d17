import Derived.Test.YtblbjmdeaojogaaSx1
namespace Go.Proofs.Ytblbjmdeaojogaa.sea
open Go Go.Ab Go.Proofs Go.RowKit Go.Shelf
set_option linter.unusedVariables false
/-- The fewest logs that do, or Most. -/
def fw (s : Sea) (k : Nat) (x : Int) : Int := cond (decide (few s k x (moS s) < moS s)) (few s k x (moS s) : Int) (s.g 0)
theorem moS_eq {s : Sea} (o : s.Ok) : (moS s : Int) = s.g 0 + 1 := by
  have := o.most
  unfold moS
  omega
/-- Where a number does, the fewest does, and where none does, Most doesn't. -/
theorem fw_does {s : Sea} (o : s.Ok) (k : Nat) (x : Int) : s.does k x (fw s k x) = decide (few s k x (moS s) < moS s) := by
  have hm := moS_eq o
  have hg := o.most
  unfold fw
  by_cases h : few s k x (moS s) < moS s
  · rw [decide_eq_true h]; exact few_does s k x h
  · rw [decide_eq_false h]
    have hle := few_le s k x (moS s)
    have := few_not s k x (j := moS s) (i := (s.g 0).toNat) (by unfold moS at *; omega)
    rwa [show (((s.g 0).toNat : Nat) : Int) = s.g 0 by omega] at this
theorem fw_fits {s : Sea} (o : s.Ok) : s.Fits (fw s) := fun k x hk _ _ => by
  have hm := moS_eq o
  have hg := o.most
  unfold fw
  by_cases h : few s k x (moS s) < moS s
  · rw [decide_eq_true h]; simp only [cond_true]; omega
  · rw [decide_eq_false h]; simp only [cond_false]; omega
def gpC (s : Sea) : Int := cond (okSea s) (cond (s.all (fw s)) 0 6) 1
def gpN (s : Sea) : Nat := cond (okSea s) (cond (s.all (fw s)) s.n 0) 0
end Go.Proofs.Ytblbjmdeaojogaa.sea
