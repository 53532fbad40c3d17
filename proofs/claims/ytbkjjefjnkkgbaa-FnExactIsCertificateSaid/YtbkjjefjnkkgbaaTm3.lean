import Derived.Test.YtbkjjefjnkkgbaaTkb3b
namespace Go.Proofs.Ytbkjjefjnkkgbaa.sea
open Go Go.Ab Go.Proofs Go.RowKit Go.Shelf
attribute [local go_sem] Oper.semAt_some
set_option linter.unusedVariables false
/-- A number is refuted. -/
def refB (a c b : Int) : Bool := cond (decide (b = -1)) false (cond (decide (a = -1)) true (decide (b < a - c)))
set_option maxHeartbeats 4000000 in
theorem ref76 (F : Fence) (n : Nat) (h76 : F.fn 76) (hro : F.round = none) (a c b : Int) (ha : -1 ≤ a ∧ a ≤ 9223372036854775807) (hb : -1 ≤ b ∧ b ≤ 9223372036854775807) (w : World) :
    CallsIn F n Try.prog 76 #[.int .i64 a, .int .i64 c, .int .i64 b] w fun e w' => e = .returned (.bool (refB a c b)) ∧ Below w.heap.size w w' := by
  refine callsIn_of_wp Try.func76 rfl h76 ?_ hro
  simp only [Try.ntmps76, List.size_toArray, List.length_cons, List.length_nil, Nat.reduceAdd, Nat.reduceSub, Array.replicate_succ, Array.replicate_zero, List.push_toArray, List.append_toArray, List.nil_append, List.cons_append]
  by_cases hb1 : b = -1
  · have hr : refB a c b = false := by unfold refB; rw [decide_eq_true hb1]; rfl
    subst hb1
    rw [hr]
    clear hr
    gi_wp2
    go_ret
    exact ⟨rfl, Below.refl _ _⟩
  · have e1 : (b == (-1 : Int)) = false := beq_eq_false_iff_ne.2 hb1
    have e1' : (b != (-1 : Int)) = true := by simp [bne, e1]
    by_cases ha1 : a = -1
    · have hr : refB a c b = true := by unfold refB; rw [decide_eq_false hb1, decide_eq_true ha1]; rfl
      subst ha1
      rw [hr]
      clear hr hb1
      gi_wp2
      go_ret
      exact ⟨rfl, Below.refl _ _⟩
    · have e2 : (a == (-1 : Int)) = false := beq_eq_false_iff_ne.2 ha1
      have e3 : IntKind.i64.wrap (a - b) = a - b := IntWalk.i64_in _ (by omega)
      have hr : refB a c b = decide (c < a - b) := by unfold refB; rw [decide_eq_false hb1, decide_eq_false ha1]; exact decide_eq_decide.2 (by omega)
      rw [hr]
      clear hr hb1 ha1
      gi_wp2
      go_ret
      exact ⟨rfl, Below.refl _ _⟩
end Go.Proofs.Ytbkjjefjnkkgbaa.sea
