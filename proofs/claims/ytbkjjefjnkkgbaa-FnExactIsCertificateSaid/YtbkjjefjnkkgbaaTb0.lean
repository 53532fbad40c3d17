import Derived.Test.YtbkjjefjnkkgbaaSea
import Derived.Deep.OwnRows
namespace Go.Ab
open Go Go.RowKit
set_option linter.unusedVariables false
/-! ### Tables of whole numbers that are read -/
structure Tab where
  n : Nat
  w : Nat → Nat
  e : Nat → Nat → Int
def TabV (T : Tab) (W : World) (v : Value) : Prop :=
  (∃ a, v = .slice a 0 0 ∧ T.n = 0) ∨ ∃ b off cap, v = .slice (some ⟨b, off, none⟩) T.n cap ∧ T.n ≤ cap ∧ b < W.heap.size ∧ ∀ j, j < T.n → ∃ u, W.cell? ⟨b, off + j, none⟩ = some u ∧ SlV (T.e j) W.heap.size W u (T.w j)
section
variable {T : Tab} {W W' : World} {v : Value}
theorem TabV.below (h : Below W.heap.size W W') : TabV T W v → TabV T W' v
  | .inl e => .inl e
  | .inr ⟨b, off, cap, e, hc, hb, k⟩ => .inr ⟨b, off, cap, e, hc, Nat.lt_of_lt_of_le hb h.size, fun j hj => by
      obtain ⟨u, h1, h2⟩ := k j hj
      exact ⟨u, (h.cell (p := ⟨b, off + j, none⟩) hb).trans h1, h2.at h⟩⟩
theorem TabV.slice (h : TabV T W v) : ∃ a c, v = .slice a T.n c := by
  rcases h with ⟨a, rfl, h0⟩ | ⟨b, off, cap, rfl, _⟩
  · exact ⟨a, 0, by rw [h0]⟩
  · exact ⟨_, _, rfl⟩
end
/-- The season's number of numbers in a row. -/
def wdS (s : Sea) : Nat := (s.g 2).toNat + 1
def moT (s : Sea) : Nat := (s.g 0).toNat + 1
/-- The form of a table. -/
def formB (s : Sea) (T : Tab) : Bool := cond (decide (T.n = s.n + 1)) (allB T.n (fun k => cond (decide ((T.w k : Int) = s.g 2 + 1)) (allB (T.w k) (fun i => cond (decide (-1 ≤ T.e k i)) (cond (decide (k = s.n)) (decide (T.e k i = 0)) true) false)) false)) false
/-- A number of the table cannot be, because of so many logs. -/
def badB (s : Sea) (T : Tab) (k i l : Nat) : Bool := cond (s.does k i l) (cond (decide (T.e (k + 1) (s.next k i l).toNat = -1)) false (cond (decide (T.e k i = -1)) true (decide (T.e (k + 1) (s.next k i l).toNat < T.e k i - s.gm k * l)))) false
/-- Where the first one is. -/
def FlawIs (s : Sea) (T : Tab) : Option (Nat × Nat × Nat) → Prop
  | none => ∀ k, k < s.n → ∀ i, i < wdS s → ∀ l, l < moT s → badB s T k i l = false
  | some (k, i, l) => (k < s.n ∧ i < wdS s ∧ l < moT s ∧ badB s T k i l = true) ∧ (∀ k', k' < k → ∀ i', i' < wdS s → ∀ l', l' < moT s → badB s T k' i' l' = false) ∧ (∀ i', i' < i → ∀ l', l' < moT s → badB s T k i' l' = false) ∧ ∀ l', l' < l → badB s T k i l' = false
theorem FlawIs.uniq {s : Sea} {T : Tab} : ∀ {a b : Option (Nat × Nat × Nat)}, FlawIs s T a → FlawIs s T b → a = b
  | none, none, _, _ => rfl
  | none, some (k, i, l), h, ⟨⟨h1, h2, h3, h4⟩, _⟩ => by rw [h k h1 i h2 l h3] at h4; cases h4
  | some (k, i, l), none, ⟨⟨h1, h2, h3, h4⟩, _⟩, h => by rw [h k h1 i h2 l h3] at h4; cases h4
  | some (k, i, l), some (k', i', l'), ⟨⟨h1, h2, h3, h4⟩, h5, h6, h7⟩, ⟨⟨g1, g2, g3, g4⟩, g5, g6, g7⟩ => by
    have ek : k = k' := by
      rcases Nat.lt_trichotomy k k' with c | c | c
      · rw [g5 k c i h2 l h3] at h4; cases h4
      · exact c
      · rw [h5 k' c i' g2 l' g3] at g4; cases g4
    subst ek
    have ei : i = i' := by
      rcases Nat.lt_trichotomy i i' with c | c | c
      · rw [g6 i c l h3] at h4; cases h4
      · exact c
      · rw [h6 i' c l' g3] at g4; cases g4
    subst ei
    have el : l = l' := by
      rcases Nat.lt_trichotomy l l' with c | c | c
      · rw [g7 l c] at h4; cases h4
      · exact c
      · rw [h7 l' c] at g4; cases g4
    subst el
    rfl
theorem formB_true {s : Sea} {T : Tab} (h : formB s T = true) : T.n = s.n + 1 ∧ ∀ k, k ≤ s.n → (T.w k : Int) = s.g 2 + 1 ∧ ∀ i, i < T.w k → -1 ≤ T.e k i ∧ (k = s.n → T.e k i = 0) := by
  unfold formB at h
  obtain ⟨h1, h2⟩ := cond_both h
  have h1 := of_decide_eq_true h1
  refine ⟨h1, fun k hk => ?_⟩
  obtain ⟨h3, h4⟩ := cond_both (allB_true h2 k (by omega))
  refine ⟨of_decide_eq_true h3, fun i hi => ?_⟩
  obtain ⟨h5, h6⟩ := cond_both (allB_true h4 i hi)
  refine ⟨of_decide_eq_true h5, fun e => ?_⟩
  rw [decide_eq_true e] at h6
  exact of_decide_eq_true h6
end Go.Ab
