import Derived.Test.YtbkjjefjnkkgbaaTk3
namespace Go.Proofs.Ytbkjjefjnkkgbaa.sea
open Go Go.Ab Go.Proofs Go.RowKit Go.Shelf
attribute [local go_sem] Oper.semAt_some
set_option linter.unusedVariables false
section
variable {s : Sea} {w : World} {T : Tab}
set_option maxHeartbeats 2000000 in
theorem eq40 {v u : Value} (hT : TabV T w v) (hU : TabV T w u) (hn : T.n ≤ 1048576) (hw : ∀ j, j < T.n → T.w j ≤ 1048576) :
    Calls Try.prog 40 #[v, u] w fun e w' => e = .returned (.bool true) ∧ ∃ m, w' = w.drewN m := by
  obtain ⟨a, c, rfl⟩ := hT.slice
  obtain ⟨a', c', rfl⟩ := hU.slice
  go_enter Try.func40, Try.ntmps40
  go_wp2
  go_loopw [5] (fun iv wr => ∃ (i : Nat), i ≤ T.n ∧ iv = .int .i64 (i : Int) ∧ ∃ m, Hid (wr = w.drewN m))
    (fun iv _ => T.n - (RowKit.intOf iv).toNat)
  case atStart => exact ⟨0, Nat.zero_le _, rfl, 0, rfl⟩
  case round =>
    obtain ⟨i, hi, rfl, m, hm⟩ := hrel
    have hB : Below w.heap.size w wr := by rw [hm.out]; exact drewN_below m
    by_cases hlt : i < T.n
    · rcases hT with ⟨_, e, e0⟩ | ⟨bp, off, cap, e, hcap, hb, hE⟩
      · exact absurd e0 (by omega)
      cases e
      rcases hU with ⟨_, e, e0⟩ | ⟨bq, ofq, caq, e, hcaq, hbq, hF⟩
      · exact absurd e0 (by omega)
      cases e
      obtain ⟨x, q1, hx⟩ := hE i hlt
      obtain ⟨y, q2, hy⟩ := hF i hlt
      have q1 := (hB.cell (p := ⟨bp, off + i, none⟩) hb).trans q1
      have q2 := (hB.cell (p := ⟨bq, ofq + i, none⟩) hbq).trans q2
      obtain ⟨xa, xc, rfl⟩ := hx.slice
      obtain ⟨ya, yc, rfl⟩ := hy.slice
      have hwi : T.w i ≤ 9223372036854775807 := by have := hw i hlt; omega
      have hcall : ∀ N, Calls Try.prog 24 #[.slice xa (T.w i) xc, .slice ya (T.w i) yc] (wr.drewN N) fun e w' => e = .returned (.bool true) ∧ ∃ k, w' = (wr.drewN N).drewN k := fun N => eq23 (hx.at (hB.trans (drewN_below N))) (hy.at (hB.trans (drewN_below N))) hwi
      go_wp2
      go_quiet (first | (go_at_call 24; refine Calls.quiet_of (hcall _)))
      go_wp2
      go_roundw
      case rel => exact ⟨i + 1, by omega, by go_num, _, by show _ = _; rw [hm.out, World.drewN_drewN]⟩
      case measure => simp [RowKit.intOf]; omega
    · obtain rfl : i = T.n := by omega
      go_wp2
      go_ret
      exact ⟨rfl, m, hm.out⟩
set_option maxHeartbeats 2000000 in
theorem eq16 {v u : Value} (hS : SeaV s w v) (hS' : SeaV s w u) :
    Calls Try.prog 16 #[v, u] w fun e w' => e = .returned (.bool true) ∧ Below w.heap.size w w' := by
  obtain ⟨s1, s2, rfl, hs1, hs2, hn, hm⟩ := hS
  obtain ⟨t1, t2, rfl, ht1, ht2, _, _⟩ := hS'
  obtain ⟨W1, hW1⟩ : ∃ W1, W1 = w.alloc (.cells #[s1, s2, .int .i64 (s.g 0), .int .i64 (s.g 1), .int .i64 (s.g 2), .int .i64 (s.g 3), .int .i64 (s.g 4)] 27) := ⟨_, rfl⟩
  obtain ⟨W2, hW2⟩ : ∃ W2, W2 = W1.alloc (.cells #[t1, t2, .int .i64 (s.g 0), .int .i64 (s.g 1), .int .i64 (s.g 2), .int .i64 (s.g 3), .int .i64 (s.g 4)] 27) := ⟨_, rfl⟩
  have z1 : W1.heap.size = w.heap.size + 1 := by rw [hW1]; simp
  have z2 : W2.heap.size = w.heap.size + 2 := by rw [hW2]; simp [z1]
  have hB : Below w.heap.size w W2 := by rw [hW2, hW1]; exact ((Below.refl _ w).alloc (Nat.le_refl _) _).alloc (by simp) _
  have qa (k : Nat) (u : Value) (h : #[s1, s2, Value.int .i64 (s.g 0), .int .i64 (s.g 1), .int .i64 (s.g 2), .int .i64 (s.g 3), .int .i64 (s.g 4)][k]? = some u) : W2.cell? ⟨w.heap.size, k, none⟩ = some u := by
    have := wcells (s := s) (s1 := s1) (s2 := s2) w 27 k u h
    rw [hW2, World.cell?_alloc_lt _ _ _ (by show w.heap.size < _; omega), hW1]
    exact this
  have qb (k : Nat) (u : Value) (h : #[t1, t2, Value.int .i64 (s.g 0), .int .i64 (s.g 1), .int .i64 (s.g 2), .int .i64 (s.g 3), .int .i64 (s.g 4)][k]? = some u) : W2.cell? ⟨w.heap.size + 1, k, none⟩ = some u := by
    have := wcells (s := s) (s1 := t1) (s2 := t2) W1 27 k u h
    rw [z1] at this
    rw [hW2]
    exact this
  have hs1' := hs1.at hB
  have hs2' := hs2.at hB
  have ht1' := ht1.at hB
  have ht2' := ht2.at hB
  go_enter Try.func16, Try.ntmps16
  go_wp2_with (first
    | (go_at_call 24; rw [← hW1, ← hW2]; refine (eq23 hs1' ht1' hn).mono ?_; rintro e w3 ⟨rfl, m3, hw3⟩
       have hb3 : Below W2.heap.size W2 w3 := by rw [hw3]; exact drewN_below m3
       clear hw3
       have hz := hb3.size
       have c1 := (hb3.cell (p := ⟨w.heap.size, 1, none⟩) (by show w.heap.size < _; omega)).trans (qa 1 _ rfl)
       have c2 := (hb3.cell (p := ⟨w.heap.size + 1, 1, none⟩) (by show w.heap.size + 1 < _; omega)).trans (qb 1 _ rfl))
    | (go_at_call 24; refine (eq23 (hs2'.at hb3) (ht2'.at hb3) hm).mono ?_; rintro e w4 ⟨rfl, m4, hw4⟩
       have hb4 : Below w3.heap.size w3 w4 := by rw [hw4]; exact drewN_below m4
       clear hw4
       have d2 := (hb4.cell (p := ⟨w.heap.size, 2, none⟩) (by show w.heap.size < _; omega)).trans ((hb3.cell (p := ⟨w.heap.size, 2, none⟩) (by show w.heap.size < _; omega)).trans (qa 2 _ rfl))
       have d3 := (hb4.cell (p := ⟨w.heap.size, 3, none⟩) (by show w.heap.size < _; omega)).trans ((hb3.cell (p := ⟨w.heap.size, 3, none⟩) (by show w.heap.size < _; omega)).trans (qa 3 _ rfl))
       have d4 := (hb4.cell (p := ⟨w.heap.size, 4, none⟩) (by show w.heap.size < _; omega)).trans ((hb3.cell (p := ⟨w.heap.size, 4, none⟩) (by show w.heap.size < _; omega)).trans (qa 4 _ rfl))
       have d5 := (hb4.cell (p := ⟨w.heap.size, 5, none⟩) (by show w.heap.size < _; omega)).trans ((hb3.cell (p := ⟨w.heap.size, 5, none⟩) (by show w.heap.size < _; omega)).trans (qa 5 _ rfl))
       have d6 := (hb4.cell (p := ⟨w.heap.size, 6, none⟩) (by show w.heap.size < _; omega)).trans ((hb3.cell (p := ⟨w.heap.size, 6, none⟩) (by show w.heap.size < _; omega)).trans (qa 6 _ rfl))
       have e2 := (hb4.cell (p := ⟨w.heap.size + 1, 2, none⟩) (by show w.heap.size + 1 < _; omega)).trans ((hb3.cell (p := ⟨w.heap.size + 1, 2, none⟩) (by show w.heap.size + 1 < _; omega)).trans (qb 2 _ rfl))
       have e3 := (hb4.cell (p := ⟨w.heap.size + 1, 3, none⟩) (by show w.heap.size + 1 < _; omega)).trans ((hb3.cell (p := ⟨w.heap.size + 1, 3, none⟩) (by show w.heap.size + 1 < _; omega)).trans (qb 3 _ rfl))
       have e4 := (hb4.cell (p := ⟨w.heap.size + 1, 4, none⟩) (by show w.heap.size + 1 < _; omega)).trans ((hb3.cell (p := ⟨w.heap.size + 1, 4, none⟩) (by show w.heap.size + 1 < _; omega)).trans (qb 4 _ rfl))
       have e5 := (hb4.cell (p := ⟨w.heap.size + 1, 5, none⟩) (by show w.heap.size + 1 < _; omega)).trans ((hb3.cell (p := ⟨w.heap.size + 1, 5, none⟩) (by show w.heap.size + 1 < _; omega)).trans (qb 5 _ rfl))
       have e6 := (hb4.cell (p := ⟨w.heap.size + 1, 6, none⟩) (by show w.heap.size + 1 < _; omega)).trans ((hb3.cell (p := ⟨w.heap.size + 1, 6, none⟩) (by show w.heap.size + 1 < _; omega)).trans (qb 6 _ rfl))))
  go_ret
  exact ⟨rfl, hB.trans ((hb3.mono (by omega)).trans (hb4.mono (by omega)))⟩
end
end Go.Proofs.Ytbkjjefjnkkgbaa.sea
