import Derived.Test.YtbkjjefjnkkgbaaTb0
import Derived.Test.YtbkjjefjnkkgbaaAbIn
import Derived.Deep.Matrix
namespace Go.Ab
open Go Go.RowKit
set_option linter.unusedVariables false
theorem spot_of {W : World} {a : Addr} {v : Value} (h : W.cell? a = some v) : a.spot = none ∧ a.block < W.heap.size := by
  unfold World.cell? at h
  cases hs : a.spot with
  | none =>
    refine ⟨rfl, ?_⟩
    rw [hs] at h
    cases hb : W.heap[a.block]? with
    | none => rw [hb] at h; simp at h
    | some x => exact (Array.getElem?_eq_some_iff.1 hb).1
  | some s =>
    rw [World.cell?_spot h] at hs; cases hs
theorem add_flat (b o q : Nat) : (⟨b, o, none⟩ : Addr).add q = ⟨b, o + q, none⟩ := by unfold Addr.add; simp
theorem slv_ints {W : World} {A : Option Addr} {L C : Nat} {Z : List Int} (h1 : L ≤ C) (hz : Z.length = C) (h2 : A = none → C = 0) (h3 : ∀ a', A = some a' → ∀ c, c < C → W.cell? (a'.add c) = some (.int .i64 (Z.getD c 0))) : SlV (fun i => Z.getD i 0) W.heap.size W (.slice A L C) L := by
  rcases Nat.eq_zero_or_pos C with h0 | hp
  · have : L = 0 := by omega
    subst this h0
    exact Or.inl ⟨A, rfl, rfl⟩
  · cases A with
    | none => have := h2 rfl; omega
    | some a =>
      obtain ⟨s1, s2⟩ := spot_of (h3 a rfl 0 hp)
      obtain ⟨b, o, s⟩ := a
      have s1 : s = none := s1
      subst s1
      refine Or.inr ⟨b, o, C, rfl, h1, s2, fun k hk => ?_⟩
      have := h3 _ rfl k (by omega)
      rw [add_flat] at this
      exact this
section
variable {H : Type} {enc : TypeId × Value → H} {P : Program}
theorem open_tab {r : Reach} {b0 : Nat} {t e q : TypeId} {v : Value} {d : DataW H} {ps : List MemPlace} {W : World} (ht : P.underlying t = some (.slice e)) (he : P.underlying e = some (.slice q)) (hq : P.underlying q = some (.int .i64))
    (ce : P.cellsOf e = 1) (cq : P.cellsOf q = 1) (hval : Value.okWide P W r b0 t v) (h : DataW.Trod enc P W 0 (fun _ => true) true t v d ps) :
    ∃ T : Tab, TabV T W v ∧ (T.n ≤ 9223372036854775807 ∧ ∀ j, j < T.n → T.w j ≤ 9223372036854775807) ∧ ∀ k, k < T.n → ∀ i, i < T.w k → T.e k i ≤ 9223372036854775807 := by
  obtain ⟨fuel, h⟩ := h
  have hone : v.cells.toList = [v] := by
    unfold Value.okWide Cell.okWide at hval
    rw [ht] at hval
    cases v <;> first | rfl | (simp [Cell.ok, ht] at hval)
  rw [hone] at h
  rcases Deep.open_int_rows ht he hq ce cq h with ⟨hcs, _⟩ | ⟨a, len, cap, A, L, C, Z, hcs, _, hl, hm, _, hx⟩
  · simp only [List.cons.injEq, and_true] at hcs
    subst hcs
    exact ⟨⟨0, fun _ => 0, fun _ _ => 0⟩, Or.inl ⟨none, rfl, rfl⟩, ⟨Nat.zero_le _, fun j hj => absurd hj (Nat.not_lt_zero j)⟩, fun k hk => absurd hk (Nat.not_lt_zero k)⟩
  · simp only [List.cons.injEq, and_true] at hcs
    subst hcs
    have hm' : cap ≤ 9223372036854775807 := by unfold maxLen at hm; omega
    refine ⟨⟨len, L, fun k i => (Z k).getD i 0⟩, ?_, ⟨by show len ≤ _; omega, fun j hj => ?_⟩, fun k hk i hi => ?_⟩
    · rcases Nat.eq_zero_or_pos cap with h0 | hp
      · have : len = 0 := by omega
        subst this h0
        exact Or.inl ⟨some a, rfl, rfl⟩
      · obtain ⟨s1, s2⟩ := spot_of (hx 0 hp).1
        obtain ⟨b, o, s⟩ := a
        have s1 : s = none := s1
        subst s1
        refine Or.inr ⟨b, o, cap, rfl, hl, s2, fun j hj => ?_⟩
        obtain ⟨x1, x2, x3, x4, x5, x6, x7⟩ := hx j (Nat.lt_of_lt_of_le hj hl)
        rw [add_flat] at x1
        exact ⟨_, x1, slv_ints x2 x4 x6 (fun a' ha' c hc => (x7 a' ha').2 c hc)⟩
    · obtain ⟨x1, x2, x3, x4, x5, x6, x7⟩ := hx j (Nat.lt_of_lt_of_le hj hl)
      show L j ≤ _
      unfold maxLen at x3; omega
    · obtain ⟨x1, x2, x3, x4, x5, x6, x7⟩ := hx k (Nat.lt_of_lt_of_le hk hl)
      have hi' : i < (Z k).length := by have : i < L k := hi; omega
      have := x5 ((Z k).getD i 0) (by rw [List.getD, List.getElem?_eq_getElem hi']; exact List.getElem_mem _)
      unfold Lit.wf at this
      have h2 := of_decide_eq_true (Bool.and_eq_true_iff.1 this).2
      have e1 : IntKind.i64.max = 9223372036854775807 := by decide
      rw [e1] at h2
      exact h2
end
end Go.Ab
