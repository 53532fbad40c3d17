import Derived.Test.YtbkjjefjnkkgbaaTk9
import Derived.Test.YtbkjjefjnkkgbaaTk7
namespace Go.Proofs.Ytbkjjefjnkkgbaa.sea
open Go Go.Ab Go.Proofs Go.RowKit Go.Shelf
attribute [local go_sem] Oper.semAt_some
set_option linter.unusedVariables false
section
variable {s : Sea} {w : World} {T : Tab}
theorem TabMx_row {T : Tab} (h : ∀ k, k < T.n → ∀ i, i < T.w k → T.e k i ≤ 9223372036854775807) (o : s.Ok) (hn : T.n = s.n + 1) : formB s T = cond (Ab.allB T.n (rowQ s T)) (allR (T.e s.n) (T.w s.n) 0 0) false := by
  rw [formB_eq, decide_eq_true hn]
  simp only [cond_true]
  cases hA : Ab.allB T.n (rowQ s T) with
  | false =>
    simp only [cond_false]
    obtain ⟨k, hk, h1, _⟩ := allB_false hA
    refine allB_no hk ?_
    unfold rowB
    unfold rowQ at h1
    by_cases hl : (T.w k : Int) = s.g 2 + 1
    · rw [decide_eq_true hl] at h1 ⊢
      simp only [cond_true] at h1 ⊢
      obtain ⟨i, hi, h2, _⟩ := allB_false (show Ab.allB (T.w k) (fun i => inB (T.e k i) (-1) 9223372036854775807) = false from h1)
      refine allB_no hi ?_
      unfold celB
      by_cases hge : -1 ≤ T.e k i
      · have : inB (T.e k i) (-1) 9223372036854775807 = true := inB_true.2 ⟨hge, h k hk i hi⟩
        rw [this] at h2; cases h2
      · rw [decide_eq_false hge]; rfl
    · rw [decide_eq_false hl]; rfl
  | true =>
    simp only [cond_true]
    cases hZ : allR (T.e s.n) (T.w s.n) 0 0 with
    | false =>
      obtain ⟨i, hi, h2, _⟩ := allB_false (show Ab.allB (T.w s.n) (fun i => inB (T.e s.n i) 0 0) = false from hZ)
      refine allB_no (i := s.n) (by omega) (rowB_no hi ?_)
      unfold celB
      rw [decide_eq_true (rfl : s.n = s.n)]
      by_cases h0 : T.e s.n i = 0
      · have : inB (T.e s.n i) 0 0 = true := inB_true.2 (by omega)
        rw [this] at h2; cases h2
      · rw [decide_eq_false h0]; cases decide (-1 ≤ T.e s.n i) <;> rfl
    | true =>
      refine allB_all fun k hk => ?_
      have h1 := allB_true hA k hk
      unfold rowQ at h1
      unfold rowB
      obtain ⟨h2, h3⟩ := cond_both h1
      rw [h2]
      simp only [cond_true]
      refine allB_all fun i hi => ?_
      have h4 := inB_true.1 (allB_true (show Ab.allB (T.w k) (fun i => inB (T.e k i) (-1) 9223372036854775807) = true from h3) i hi)
      unfold celB
      rw [decide_eq_true h4.1]
      simp only [cond_true]
      by_cases hk2 : k = s.n
      · subst hk2
        have h5 := inB_true.1 (allB_true (show Ab.allB (T.w s.n) (fun i => inB (T.e s.n i) 0 0) = true from hZ) i hi)
        rw [decide_eq_true (rfl : s.n = s.n), decide_eq_true (show T.e s.n i = 0 by omega)]; rfl
      · rw [decide_eq_false hk2]; rfl
set_option maxRecDepth 100000 in
set_option maxHeartbeats 2000000 in
theorem form75 (o : s.Ok) {v tv : Value} (hS : SeaV s w v) (hT : TabV T w tv) (hn : T.n ≤ 9223372036854775807) (hw : ∀ j, j < T.n → T.w j ≤ 9223372036854775807) (hmx : ∀ k, k < T.n → ∀ i, i < T.w k → T.e k i ≤ 9223372036854775807) :
    Calls Try.prog 75 #[v, tv] w fun e w' => e = .returned (.bool (formB s T)) ∧ Below w.heap.size w w' := by
  have n2 := o.n2
  obtain ⟨s1, s2, rfl, hs1, _⟩ := hS
  obtain ⟨a1, c1, rfl⟩ := hs1.slice
  obtain ⟨ta, tc, rfl⟩ := hT.slice
  obtain ⟨W0, hW0⟩ : ∃ W0, W0 = w.alloc (.cells #[.slice a1 s.n c1, s2, .int .i64 (s.g 0), .int .i64 (s.g 1), .int .i64 (s.g 2), .int .i64 (s.g 3), .int .i64 (s.g 4)] 27) := ⟨_, rfl⟩
  have hB0 : Below w.heap.size w W0 := by rw [hW0]; exact (Below.refl _ w).alloc (Nat.le_refl _) _
  have hz0 : w.heap.size < W0.heap.size := by rw [hW0]; simp
  have q0 : W0.cell? ⟨w.heap.size, 0, none⟩ = some (.slice a1 s.n c1) := by rw [hW0]; exact wcells (s := s) w 27 0 _ rfl
  have q4 : W0.cell? ⟨w.heap.size, 4, none⟩ = some (.int .i64 (s.g 2)) := by rw [hW0]; exact wcells (s := s) w 27 4 _ rfl
  have hT0 := TabV.below hB0 hT
  by_cases hl : T.n = s.n + 1
  · have hF := TabMx_row hmx o hl
    have hli : ((T.n : Int) == (s.n : Int) + 1) = true := beq_iff_eq.2 (by omega)
    have hlj : ((T.n : Int) != (s.n : Int) + 1) = false := by rw [bne, hli]; rfl
    have hlt : (s.n : Int) < (T.n : Int) := by omega
    have hlt' : s.n < T.n := by omega
    cases hA : Ab.allB T.n (rowQ s T) with
    | false =>
      have HF : Hid (formB s T = false) := by show _ = _; rw [hF, hA]; rfl
      clear hl hF
      go_enter Try.func75, Try.ntmps75
      go_wp2_with (go_at_call 82; rw [← hW0]; refine (row82 o w.heap.size q4 hz0 hT0 hn hw).mono ?_; rintro e w1 ⟨rfl, hb1⟩; rw [hA])
      go_ret
      rw [HF.out]
      exact ⟨rfl, hB0.trans (hb1.mono hB0.size)⟩
    | true =>
      have HF : Hid (formB s T = allR (T.e s.n) (T.w s.n) 0 0) := by show _ = _; rw [hF, hA]; rfl
      obtain ⟨Z, hZ⟩ : ∃ Z, Hid (Z = allR (T.e s.n) (T.w s.n) 0 0) := ⟨_, rfl⟩
      obtain ⟨bt, ot, ct, e, hbt, ra, rc, qn, _⟩ := tabAt hT hlt'
      cases e
      have hTn := hT
      obtain ⟨u, hu1, hu2⟩ : ∃ u, w.cell? ⟨bt, ot + s.n, none⟩ = some u ∧ SlV (T.e s.n) w.heap.size w u (T.w s.n) := by
        rcases hTn with ⟨_, e, e0⟩ | ⟨_, _, _, e, _, _, hE⟩
        · omega
        · cases e; exact hE s.n hlt'
      rw [qn] at hu1
      cases hu1
      have hwn := hw s.n hlt'
      clear hl hF hTn
      go_enter Try.func75, Try.ntmps75
      go_wp2_with (first
        | (go_at_call 82; rw [← hW0]; refine (row82 o w.heap.size q4 hz0 hT0 hn hw).mono ?_; rintro e w1 ⟨rfl, hb1⟩; rw [hA]; have hB1 := hB0.trans (hb1.mono hB0.size); have c0 := (hb1.cell (p := ⟨w.heap.size, 0, none⟩) hz0).trans q0; have cn := (hB1.cell (p := ⟨bt, ot + s.n, none⟩) hbt).trans qn)
        | (go_at_call 44; refine (are44 0 0 _ _ _ hwn _ (hu2.at hB1)).mono ?_; rintro e w2 ⟨rfl, hb2⟩; rw [← hZ.out]))
      go_ret
      rw [HF.out, ← hZ.out]
      exact ⟨rfl, hB1.trans (hb2.mono hB1.size)⟩
  · have hli : ((T.n : Int) == (s.n : Int) + 1) = false := beq_eq_false_iff_ne.2 (by omega)
    have hlj : ((T.n : Int) != (s.n : Int) + 1) = true := bne_iff_ne.2 (by omega)
    have hni : ¬ (T.n : Int) = (s.n : Int) + 1 := by omega
    have HF : Hid (formB s T = false) := by show _ = _; rw [formB_eq, decide_eq_false hl]; rfl
    go_enter Try.func75, Try.ntmps75
    go_wp2
    go_ret
    rw [HF.out]
    exact ⟨rfl, by rw [← hW0]; exact hB0⟩
end
end Go.Proofs.Ytbkjjefjnkkgbaa.sea
