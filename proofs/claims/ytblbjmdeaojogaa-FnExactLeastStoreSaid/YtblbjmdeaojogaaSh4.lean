import Derived.Test.YtblbjmdeaojogaaSh3
namespace Go.Proofs.Ytblbjmdeaojogaa.sea
open Go Go.Ab Go.Proofs Go.RowKit
set_option linter.unusedVariables false
/-- More heat leaves no less. -/
theorem left_mono {s : Sea} (o : s.Ok) {h h' : Int} (hh : h ≤ h') : s.left h ≤ s.left h' := by
  have ho := o.loss
  have h1 : h' * s.g 4 ≤ h * s.g 4 + (h' - h) * 100 := by
    have : (h' - h) * s.g 4 ≤ (h' - h) * 100 := Int.mul_le_mul_of_nonneg_left ho.2 (by omega)
    rw [Int.sub_mul] at this
    omega
  have h2 : h' * s.g 4 / 100 ≤ (h * s.g 4 + (h' - h) * 100) / 100 := Int.ediv_le_ediv (by omega) h1
  rw [Int.add_mul_ediv_right _ _ (by omega)] at h2
  have h3 : h - h * s.g 4 / 100 ≤ h' - h' * s.g 4 / 100 := by omega
  unfold Sea.left
  by_cases a : s.g 2 < h - h * s.g 4 / 100
  · rw [decide_eq_true a, decide_eq_true (by omega)]; exact Int.le_refl _
  · rw [decide_eq_false a]
    by_cases b : s.g 2 < h' - h' * s.g 4 / 100
    · rw [decide_eq_true b]; simp only [cond_true, cond_false]; omega
    · rw [decide_eq_false b]; exact h3
/-- Whether Most logs in each slot from a slot on do, n slots long. -/
def on (s : Sea) : Nat → Nat → Int → Bool
  | 0, _, _ => true
  | n + 1, k, x => cond (s.does k x (s.g 0)) (on s n (k + 1) (s.next k x (s.g 0))) false
/-- More in the store is no worse. -/
theorem on_mono {s : Sea} (o : s.Ok) : ∀ (n k : Nat) {x y : Int}, x ≤ y → on s n k x = true → on s n k y = true
  | 0, _, _, _, _, _ => rfl
  | n + 1, k, x, y, h, hx => by
    unfold on at hx ⊢
    obtain ⟨h1, h2⟩ := cond_both hx
    have hd : s.does k y (s.g 0) = true := by
      unfold Sea.does Sea.heat at h1 ⊢
      have := of_decide_eq_true h1
      exact decide_eq_true (by omega)
    rw [hd]
    exact on_mono o n (k + 1) (left_mono o (by unfold Sea.heat; omega)) h2
/-- Where some logs do and there is a way on, Most logs do and there is one. -/
theorem on_most {s : Sea} (o : s.Ok) {n k : Nat} {x l : Int} (hl : l ≤ s.g 0) (hd : s.does k x l = true) (h : on s n (k + 1) (s.next k x l) = true) : on s (n + 1) k x = true := by
  have hy := o.yield
  have hm : l * s.g 1 ≤ s.g 0 * s.g 1 := Int.mul_le_mul_of_nonneg_right hl (by omega)
  have hd2 : s.does k x (s.g 0) = true := by
    unfold Sea.does Sea.heat at hd ⊢
    have := of_decide_eq_true hd
    exact decide_eq_true (by omega)
  unfold on
  rw [hd2]
  exact on_mono o n (k + 1) (left_mono o (by unfold Sea.heat; omega)) h
theorem all_on (s : Sea) : ∀ (m k : Nat), k + m = s.n → (∀ j, j < k → s.dn (chM s) j = true) → s.all (chM s) = on s m k (s.st (chM s) k)
  | 0, k, hk, h => by
    have hk : k = s.n := by omega
    subst hk
    exact allB_all h
  | m + 1, k, hk, h => by
    unfold on
    cases hd : s.dn (chM s) k with
    | false =>
      have hd' : s.does k (s.st (chM s) k) (s.g 0) = false := hd
      rw [hd']
      cases ha : s.all (chM s) with
      | false => rfl
      | true => have := allB_true ha k (by omega); rw [hd] at this; cases this
    | true =>
      have hd' : s.does k (s.st (chM s) k) (s.g 0) = true := hd
      rw [hd']
      exact all_on s m (k + 1) (by omega) (fun j hj => by
        by_cases e : j = k
        · subst e; exact hd
        · exact h j (by omega))
/-- A season can be gone through with Most logs in each slot exactly when the way from its first slot is there. -/
theorem all_eq_on (s : Sea) : s.all (chM s) = on s s.n 0 (s.g 3) := all_on s s.n 0 (by omega) (fun j h => absurd h (by omega))
end Go.Proofs.Ytblbjmdeaojogaa.sea
