import Derived.Test.YtblbjmdeaojogaaSh4
import Derived.Test.YtblbjmdeaojogaaSg0
namespace Go.Proofs.Ytblbjmdeaojogaa.sea
open Go Go.Ab Go.Proofs Go.RowKit Go.Shelf
set_option linter.unusedVariables false
/-- The cost of so many logs in a slot and of all slots behind it, told by F. -/
def vc (s : Sea) (k : Nat) (F : Int → Int) (x : Int) (j : Nat) : Int := s.gm k * (j : Int) + F (s.next k x j)
/-- The least cost from a slot on, with fewer logs than a number; -1 if there is no way. -/
def vj (s : Sea) (k : Nat) (F : Int → Int) (x : Int) : Nat → Int
  | 0 => -1
  | j + 1 => cond (s.does k x j) (cond (decide (F (s.next k x j) = -1)) (vj s k F x j) (cond (decide (vj s k F x j = -1)) (vc s k F x j) (cond (decide (vc s k F x j < vj s k F x j)) (vc s k F x j) (vj s k F x j)))) (vj s k F x j)
/-- The least cost from a slot on, n slots long. -/
def vl (s : Sea) : Nat → Nat → Int → Int
  | 0, _, _ => 0
  | n + 1, k, x => vj s k (vl s n (k + 1)) x (moS s)
theorem vj_bd {s : Sea} (o : s.Ok) {k : Nat} (hk : k < s.n) {F : Int → Int} {B : Int} (hB : 0 ≤ B) (hF : ∀ y, 0 ≤ y → y ≤ s.g 2 → -1 ≤ F y ∧ F y ≤ B) (x : Int) : ∀ j : Nat, j ≤ moS s → -1 ≤ vj s k F x j ∧ vj s k F x j ≤ B + 20000
  | 0, _ => ⟨Int.le_refl _, by show (-1 : Int) ≤ _; omega⟩
  | j + 1, hj => by
    have ih := vj_bd o hk hB hF x j (by omega)
    have hm := moS_eq o
    have hmo := o.most
    have hp := o.gm k hk
    have h1 : 0 ≤ s.gm k * (j : Int) := Int.mul_nonneg hp.1 (by omega)
    have h2 : s.gm k * (j : Int) ≤ 1000 * 20 := Int.le_trans (Int.mul_le_mul_of_nonneg_right hp.2 (by omega)) (Int.mul_le_mul_of_nonneg_left (by omega) (by omega))
    unfold vj
    cases hd : s.does k x j with
    | false => exact ih
    | true =>
      have hx := o.left_bd (of_decide_eq_true hd)
      have hF := hF (s.next k x j) hx.1 hx.2
      by_cases e : F (s.next k x j) = -1
      · rw [decide_eq_true e]; exact ih
      · rw [decide_eq_false e]
        have hc : 0 ≤ vc s k F x j ∧ vc s k F x j ≤ B + 20000 := by unfold vc; omega
        simp only [cond_true, cond_false]
        cases decide (vj s k F x j = -1) <;> cases decide (vc s k F x j < vj s k F x j) <;> simp only [cond_true, cond_false] <;> omega
theorem vc_bd {s : Sea} (o : s.Ok) {k : Nat} (hk : k < s.n) {F : Int → Int} {B : Int} (hF : ∀ y, 0 ≤ y → y ≤ s.g 2 → -1 ≤ F y ∧ F y ≤ B) {x : Int} {j : Nat} (hj : j < moS s) (hd : s.does k x j = true) (e : F (s.next k x j) ≠ -1) : (0 ≤ s.gm k * (j : Int) ∧ s.gm k * (j : Int) ≤ 20000) ∧ 0 ≤ F (s.next k x j) ∧ F (s.next k x j) ≤ B := by
  have hm := moS_eq o
  have hmo := o.most
  have hp := o.gm k hk
  have h1 : 0 ≤ s.gm k * (j : Int) := Int.mul_nonneg hp.1 (by omega)
  have h2 : s.gm k * (j : Int) ≤ 1000 * 20 := Int.le_trans (Int.mul_le_mul_of_nonneg_right hp.2 (by omega)) (Int.mul_le_mul_of_nonneg_left (by omega) (by omega))
  have hx := o.left_bd (of_decide_eq_true hd)
  have := hF (s.next k x j) hx.1 hx.2
  omega
theorem vl_bd {s : Sea} (o : s.Ok) : ∀ (n k : Nat) (x : Int), k + n = s.n → -1 ≤ vl s n k x ∧ vl s n k x ≤ 20000 * n
  | 0, _, _, _ => by unfold vl; omega
  | n + 1, k, x, h => by
    have := vj_bd o (k := k) (by omega) (F := vl s n (k + 1)) (B := 20000 * (n : Int)) (by omega) (fun y _ _ => vl_bd o n (k + 1) y (by omega)) x (moS s) (Nat.le_refl _)
    unfold vl
    omega
theorem vj_ne {s : Sea} (o : s.Ok) {k : Nat} (hk : k < s.n) {F : Int → Int} {B : Int} (hB : 0 ≤ B) (hF : ∀ y, 0 ≤ y → y ≤ s.g 2 → -1 ≤ F y ∧ F y ≤ B) (x : Int) : ∀ j : Nat, j ≤ moS s → (vj s k F x j ≠ -1 ↔ ∃ i, i < j ∧ s.does k x i = true ∧ F (s.next k x i) ≠ -1)
  | 0, _ => ⟨fun h => absurd rfl h, fun ⟨i, h, _⟩ => absurd h (Nat.not_lt_zero _)⟩
  | j + 1, hj => by
    have ih := vj_ne o hk hB hF x j (by omega)
    have up : (∃ i, i < j ∧ s.does k x i = true ∧ F (s.next k x i) ≠ -1) → ∃ i, i < j + 1 ∧ s.does k x i = true ∧ F (s.next k x i) ≠ -1 := fun ⟨i, h, h'⟩ => ⟨i, by omega, h'⟩
    unfold vj
    cases hd : s.does k x j with
    | false =>
      simp only [cond_false]
      refine ih.trans ⟨up, fun ⟨i, h, h1, h2⟩ => ⟨i, ?_, h1, h2⟩⟩
      have : i ≠ j := fun e => by subst e; rw [hd] at h1; cases h1
      omega
    | true =>
      by_cases e : F (s.next k x j) = -1
      · rw [decide_eq_true e]
        simp only [cond_true]
        refine ih.trans ⟨up, fun ⟨i, h, h1, h2⟩ => ⟨i, ?_, h1, h2⟩⟩
        have : i ≠ j := fun e' => by subst e'; exact h2 e
        omega
      · rw [decide_eq_false e]
        simp only [cond_true, cond_false]
        have hc := vc_bd o hk hF (x := x) (j := j) (by omega) hd e
        have hc' : 0 ≤ vc s k F x j := by unfold vc; omega
        refine ⟨fun _ => ⟨j, by omega, hd, e⟩, fun _ => ?_⟩
        by_cases c1 : vj s k F x j = -1
        · rw [decide_eq_true c1]; simp only [cond_true]; omega
        · rw [decide_eq_false c1]; simp only [cond_false]
          cases decide (vc s k F x j < vj s k F x j) with
          | true => simp only [cond_true]; omega
          | false => exact c1
/-- There is a least cost exactly where Most logs do. -/
theorem vl_on {s : Sea} (o : s.Ok) : ∀ (n k : Nat) (x : Int), k + n = s.n → (vl s n k x ≠ -1 ↔ on s n k x = true)
  | 0, _, _, _ => ⟨fun _ => rfl, fun _ => by show (0 : Int) ≠ -1; omega⟩
  | n + 1, k, x, h => by
    have hm := moS_eq o
    have hmo := o.most
    have hF := fun y (_ : 0 ≤ y) (_ : y ≤ s.g 2) => vl_bd o n (k + 1) y (by omega)
    refine (vj_ne o (by omega) (by omega) hF x (moS s) (Nat.le_refl _)).trans ⟨fun ⟨i, hi, h1, h2⟩ => ?_, fun hn => ?_⟩
    · exact on_most o (l := i) (by omega) h1 ((vl_on o n (k + 1) _ (by omega)).1 h2)
    · unfold on at hn
      obtain ⟨h1, h2⟩ := cond_both hn
      have e : (((s.g 0).toNat : Nat) : Int) = s.g 0 := by omega
      exact ⟨(s.g 0).toNat, by omega, by rw [e]; exact h1, by rw [e]; exact (vl_on o n (k + 1) _ (by omega)).2 h2⟩
/-- The table: the least cost from slot k on. -/
def vt (s : Sea) (k : Nat) (x : Nat) : Int := vl s (s.n - k) k x
theorem vt_last (s : Sea) (x : Nat) : vt s s.n x = 0 := by unfold vt; rw [Nat.sub_self]; rfl
theorem vt_at {s : Sea} {k : Nat} (hk : k < s.n) (x : Nat) : vt s k x = vj s k (vl s (s.n - (k + 1)) (k + 1)) x (moS s) := by
  unfold vt
  obtain ⟨m, hm⟩ : ∃ m, s.n - k = m + 1 := ⟨s.n - k - 1, by omega⟩
  have : s.n - (k + 1) = m := by omega
  rw [hm, this]; rfl
theorem vt_bd {s : Sea} (o : s.Ok) {k : Nat} (hk : k ≤ s.n) (x : Nat) : -1 ≤ vt s k x ∧ vt s k x ≤ 480000 := by
  have := vl_bd o (s.n - k) k x (by omega)
  have := o.n2
  unfold vt
  omega
/-- The first number of the table. -/
theorem vt_all {s : Sea} (o : s.Ok) : decide (vt s 0 (s.g 3).toNat = -1) = !s.all (chM s) := by
  have hf := o.first
  have e : (((s.g 3).toNat : Nat) : Int) = s.g 3 := by omega
  have h := vl_on o s.n 0 (s.g 3) (by omega)
  rw [← all_eq_on] at h
  unfold vt
  rw [Nat.sub_zero, e]
  cases ha : s.all (chM s) with
  | true => exact decide_eq_false (h.2 ha)
  | false => exact decide_eq_true (by
      by_cases c : vl s s.n 0 (s.g 3) = -1
      · exact c
      · have := h.1 c; rw [ha] at this; cases this)
end Go.Proofs.Ytblbjmdeaojogaa.sea
