import Derived.Test.YtbkjjefjnkkgbaaTk1
namespace Go.Proofs.Ytbkjjefjnkkgbaa.sea
open Go Go.Ab Go.Proofs Go.RowKit Go.Shelf
attribute [local go_sem] Oper.semAt_some
set_option linter.unusedVariables false
section
variable {s : Sea} {w : World}
theorem wcells {s1 s2 : Value} (w : World) (t : TypeId) (q : Nat) (u : Value) (h : #[s1, s2, Value.int .i64 (s.g 0), .int .i64 (s.g 1), .int .i64 (s.g 2), .int .i64 (s.g 3), .int .i64 (s.g 4)][q]? = some u) : (w.alloc (.cells #[s1, s2, .int .i64 (s.g 0), .int .i64 (s.g 1), .int .i64 (s.g 2), .int .i64 (s.g 3), .int .i64 (s.g 4)] t)).cell? ⟨w.heap.size, q, none⟩ = some u := by
  have hnew := World.alloc_heap_new w (.cells #[s1, s2, .int .i64 (s.g 0), .int .i64 (s.g 1), .int .i64 (s.g 2), .int .i64 (s.g 3), .int .i64 (s.g 4)] t)
  unfold World.cell?
  simp only [hnew]
  exact h
set_option maxHeartbeats 1000000 in
theorem sz11 {v : Value} {l : Int} (hS : SeaV s w v) (hl : 0 ≤ l ∧ l ≤ 1048576) :
    Calls Try.prog 12 #[v, .int .i64 l] w fun e w' => (∃ r : Int, e = .returned (.int .i64 r) ∧ -1 ≤ r ∧ r ≤ 1048576 ∧ (0 ≤ r → (s.n : Int) ≤ 1048576 ∧ (s.m : Int) ≤ 1048576)) ∧ Below w.heap.size w w' := by
  obtain ⟨s1, s2, rfl, hs1, hs2, hn, hm⟩ := hS
  obtain ⟨a1, c1, rfl⟩ := hs1.slice
  obtain ⟨a2, c2, rfl⟩ := hs2.slice
  have hB : Below w.heap.size w (w.alloc (.cells #[.slice a1 s.n c1, .slice a2 s.m c2, .int .i64 (s.g 0), .int .i64 (s.g 1), .int .i64 (s.g 2), .int .i64 (s.g 3), .int .i64 (s.g 4)] 24)) := (Below.refl _ w).alloc (Nat.le_refl _) _
  have q0 := wcells (s := s) (s1 := .slice a1 s.n c1) (s2 := .slice a2 s.m c2) w 24 0 _ rfl
  have q1 := wcells (s := s) (s1 := .slice a1 s.n c1) (s2 := .slice a2 s.m c2) w 24 1 _ rfl
  have b1 := lfS_bd (n := s.n) hl.2
  have b2 := lfS_bd (l := lfS l s.n) (n := s.m) b1.2.1
  obtain ⟨x, hx⟩ : ∃ x, Hid (x = lfS l s.n) := ⟨_, rfl⟩
  obtain ⟨y, hy⟩ : ∃ y, Hid (y = lfS x s.m) := ⟨_, rfl⟩
  have c1' : -1 ≤ x ∧ x ≤ 1048576 ∧ (0 ≤ x → (s.n : Int) ≤ l ∧ x ≤ l) := by rw [hx.out]; exact b1
  have c2' : -1 ≤ y ∧ y ≤ 1048576 ∧ (0 ≤ y → (s.m : Int) ≤ x ∧ y ≤ x) := by rw [hy.out, hx.out]; exact b2
  clear b1 b2
  by_cases h1 : x < 0
  · go_enter Try.func12, Try.ntmps12
    go_wp2_with (go_at_call 41; refine (sz35 _ _ hl hn).mono ?_; rintro e w1 ⟨rfl, rfl⟩; rw [← hx.out])
    go_ret
    exact ⟨⟨-1, rfl, by omega, by omega, fun h => by omega⟩, hB⟩
  · have hx0 : 0 ≤ x ∧ x ≤ 1048576 := by omega
    by_cases h2 : y < 0
    · go_enter Try.func12, Try.ntmps12
      go_wp2_with (go_at_call 41; refine (sz35 _ _ (by omega) (by omega)).mono ?_; rintro e w1 ⟨rfl, rfl⟩; (first | rw [← hx.out] | rw [← hy.out]))
      go_ret
      exact ⟨⟨-1, rfl, by omega, by omega, fun h => by omega⟩, hB⟩
    · have hf : 0 ≤ y → (s.n : Int) ≤ 1048576 ∧ (s.m : Int) ≤ 1048576 := fun _ => by omega
      have hyy : -1 ≤ y ∧ y ≤ 1048576 := by omega
      go_enter Try.func12, Try.ntmps12
      go_wp2_with (go_at_call 41; refine (sz35 _ _ (by omega) (by omega)).mono ?_; rintro e w1 ⟨rfl, rfl⟩; (first | rw [← hx.out] | rw [← hy.out]))
      go_ret
      exact ⟨⟨y, rfl, hyy.1, hyy.2, hf⟩, hB⟩
end
end Go.Proofs.Ytbkjjefjnkkgbaa.sea
