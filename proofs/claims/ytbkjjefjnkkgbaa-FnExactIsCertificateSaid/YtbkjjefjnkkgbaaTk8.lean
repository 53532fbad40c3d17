import Derived.Test.YtbkjjefjnkkgbaaTk7
import Derived.Test.YtbkjjefjnkkgbaaSw6
namespace Go.Proofs.Ytbkjjefjnkkgbaa.sea
open Go Go.Ab Go.Proofs Go.RowKit Go.Shelf
attribute [local go_sem] Oper.semAt_some
set_option linter.unusedVariables false
section
variable {s : Sea} {w : World} {T : Tab} {gp : Nat → Int}
/-- No flaw. -/
def sound (s : Sea) (T : Tab) : Bool := allB s.n (fun k => allB (wdS s) (fun i => allB (moT s) (fun l => !badB s T k i l)))
theorem sound_none (h : FlawIs s T none) : sound s T = true :=
  allB_all fun k hk => allB_all fun i hi => allB_all fun l hl => by rw [h k hk i hi l hl]; rfl
theorem sound_some {k i l : Nat} (h : FlawIs s T (some (k, i, l))) : sound s T = false := by
  obtain ⟨⟨h1, h2, h3, h4⟩, _⟩ := h
  exact allB_no h1 (allB_no h2 (allB_no h3 (by rw [h4]; rfl)))
theorem fl_none {r : Option (Nat × Nat × Nat)} (h : FlawIs s T r) (hs : sound s T = true) : r = none := by
  cases r with
  | none => rfl
  | some x => rw [sound_some (k := x.1) (i := x.2.1) (l := x.2.2) h] at hs; cases hs
theorem fl_some {r : Option (Nat × Nat × Nat)} (h : FlawIs s T r) (hs : sound s T = false) : ∃ k i l, r = some (k, i, l) := by
  cases r with
  | none => rw [sound_none h] at hs; cases hs
  | some x => exact ⟨x.1, x.2.1, x.2.2, rfl⟩
/-- What IsCertificate answers, and its code. -/
def icB (s : Sea) (p : Nat) (gp : Nat → Int) (T : Tab) : Bool := cond (decide (soC s p gp = 0)) (cond (formB s T) (cond (sound s T) (decide (T.e 0 (s.g 3).toNat = coV s p gp)) false) false) false
/-- The table's numbers are no greater than they can be. -/
def TabMx (T : Tab) : Prop := (T.n ≤ 9223372036854775807 ∧ ∀ j, j < T.n → T.w j ≤ 9223372036854775807) ∧ ∀ k, k < T.n → ∀ i, i < T.w k → T.e k i ≤ 9223372036854775807
theorem mx_of (o : s.Ok) (hf : formB s T = true) (h : TabMx T) : ∀ k, k ≤ s.n → ∀ i, i < wdS s → T.e k i ≤ 9223372036854775807 := fun k hk i hi => by
  obtain ⟨h1, h2⟩ := formB_true hf
  have := (h2 k hk).1
  have hw := wdS_eq o
  exact h.2 k (by omega) i (by omega)
set_option maxRecDepth 100000 in
set_option maxHeartbeats 4000000 in
theorem ic37 {v pv tv : Value} {p : Nat} (hS : SeaV s w v) (hp : SlV gp w.heap.size w pv p) (hle : p ≤ 9223372036854775807) (hT : TabV T w tv) (hx : TabMx T) :
    Calls Try.prog 37 #[v, pv, tv] w fun e w' => e = .returned (.tuple #[.bool (icB s p gp T), .int .i64 (soC s p gp)]) ∧ Below w.heap.size w w' := by
  have hS' := hS
  obtain ⟨s1, s2, rfl, _⟩ := hS'
  have hP0 := SeaP.box 27 hS
  obtain ⟨W0, hW0⟩ : ∃ W0, W0 = w.alloc (.cells #[s1, s2, .int .i64 (s.g 0), .int .i64 (s.g 1), .int .i64 (s.g 2), .int .i64 (s.g 3), .int .i64 (s.g 4)] 27) := ⟨_, rfl⟩
  have hB0 : Below w.heap.size w W0 := by rw [hW0]; exact (Below.refl _ w).alloc (Nat.le_refl _) _
  have hP : SeaP s W0 w.heap.size 0 := by rw [hW0]; exact hP0
  have hp0 := hp.at hB0
  have hT0 := TabV.below hB0 hT
  have q5 : W0.cell? ⟨w.heap.size, 5, none⟩ = some (.int .i64 (s.g 3)) := by rw [hW0]; exact wcells (s := s) w 27 5 _ rfl
  obtain ⟨ta, tc, rfl⟩ := hT.slice
  by_cases hc : soC s p gp = 0
  · have hck : okSea s = true := by
      unfold soC at hc
      cases ho : okSea s with
      | true => rfl
      | false => rw [ho] at hc; simp at hc
    have o := okSea_ok hck
    cases hf : formB s T with
    | false =>
      have HI : Hid (icB s p gp T = false) := by show _ = _; unfold icB; rw [hf]; cases decide (soC s p gp = 0) <;> rfl
      go_enter Try.func37, Try.ntmps37
      go_wp2_with (first
        | (go_at_call 56; rw [← hW0]; refine (c50 _ hP hp0 hle).mono ?_; rintro e w1 ⟨rfl, hb1⟩; rw [hc]; have hP1 := hP.below hb1; have hT1 := TabV.below hb1 hT0)
        | (go_at_call 63; refine (form63 o _ hP1 hT1 hx.1.1 hx.1.2).mono ?_; rintro e w2 ⟨rfl, hb2⟩; rw [hf]))
      go_ret2
      rw [HI.out, hc]
      exact ⟨rfl, hB0.trans ((hb1.mono hB0.size).trans (hb2.mono (Nat.le_trans hB0.size hb1.size)))⟩
    | true =>
      obtain ⟨f, hf3⟩ : ∃ f : Nat, f = (s.g 3).toNat := ⟨_, rfl⟩
      have hfi := o.first
      have hst := o.store
      have hff : s.g 3 = (f : Int) := by omega
      rw [hff] at q5
      have hwd := wdS_eq o
      have hfw : f < wdS s := by omega
      obtain ⟨bt, ot, ct, e, hTn, hbt, hrows⟩ := tabCell hT o hf
      cases e
      obtain ⟨rb, ro, rc, hr0, hrb, hcell⟩ := hrows 0 (Nat.zero_le _)
      rw [Nat.add_zero] at hr0
      have hcf := hcell f hfw
      have hz0 : w.heap.size < W0.heap.size := by rw [hW0]; simp
      have hTp : 0 < T.n := by omega
      have hTq : (0 : Int) < (T.n : Int) := by omega
      obtain ⟨C, hC⟩ : ∃ C, Hid (C = coV s p gp) := ⟨_, rfl⟩
      obtain ⟨E, hE⟩ : ∃ E, Hid (E = T.e 0 f) := ⟨_, rfl⟩
      rw [← hE.out] at hcf
      have hic : icB s p gp T = cond (sound s T) (decide (E = C)) false := by
        unfold icB
        rw [decide_eq_true hc, hf, ← hf3, ← hE.out, ← hC.out]; rfl
      rw [hc]
      clear hf3 hff hfi hst hcell hrows hwd hTn
      cases hs : sound s T with
      | false =>
        have HI : Hid (icB s p gp T = false) := by show _ = _; rw [hic, hs]; rfl
        clear hic
        go_enter Try.func37, Try.ntmps37
        go_wp2_with (first
          | (go_at_call 56; rw [← hW0]; refine (c50 _ hP hp0 hle).mono ?_; rintro e w1 ⟨rfl, hb1⟩; rw [hc]; have hP1 := hP.below hb1; have hT1 := TabV.below hb1 hT0; rw [← hC.out])
          | (go_at_call 63; refine (form63 o _ hP1 hT1 hx.1.1 hx.1.2).mono ?_; rintro e w2 ⟨rfl, hb2⟩; rw [hf]; have hP2 := hP1.below hb2; have hT2 := TabV.below hb2 hT1)
          | (go_at_call 64; refine (flaw64 o _ hP2 hT2 hf (mx_of o hf hx)).mono ?_; rintro e w3 ⟨r, rfl, hfl, hb3⟩
             obtain ⟨k, i, l, rfl⟩ := fl_some hfl hs; unfold flV
             have hB3 : Below w.heap.size w w3 := hB0.trans ((hb1.mono hB0.size).trans ((hb2.mono (Nat.le_trans hB0.size hb1.size)).trans (hb3.mono (Nat.le_trans hB0.size (Nat.le_trans hb1.size hb2.size)))))
             have hz1 := hb1.size
             have hz2 := hb2.size
             have x5 := (hb3.cell (p := ⟨w.heap.size, 5, none⟩) (by show w.heap.size < _; omega)).trans ((hb2.cell (p := ⟨w.heap.size, 5, none⟩) (by show w.heap.size < _; omega)).trans ((hb1.cell (p := ⟨w.heap.size, 5, none⟩) (by show w.heap.size < _; omega)).trans q5))
             have c1 := (hB3.cell (p := ⟨bt, ot, none⟩) hbt).trans hr0
             have c2 := (hB3.cell (p := ⟨rb, ro + f, none⟩) hrb).trans hcf))
        go_region
        go_wp2
        go_ret2
        rw [HI.out]
        exact ⟨rfl, hB3.drew⟩
      | true =>
        cases he : (E == C) with
        | false =>
          have HI : Hid (icB s p gp T = false) := by show _ = _; rw [hic, hs, decide_eq_false (beq_eq_false_iff_ne.1 he)]; rfl
          clear hic
          go_enter Try.func37, Try.ntmps37
          go_wp2_with (first
            | (go_at_call 56; rw [← hW0]; refine (c50 _ hP hp0 hle).mono ?_; rintro e w1 ⟨rfl, hb1⟩; rw [hc]; have hP1 := hP.below hb1; have hT1 := TabV.below hb1 hT0; rw [← hC.out])
            | (go_at_call 63; refine (form63 o _ hP1 hT1 hx.1.1 hx.1.2).mono ?_; rintro e w2 ⟨rfl, hb2⟩; rw [hf]; have hP2 := hP1.below hb2; have hT2 := TabV.below hb2 hT1)
            | (go_at_call 64; refine (flaw64 o _ hP2 hT2 hf (mx_of o hf hx)).mono ?_; rintro e w3 ⟨r, rfl, hfl, hb3⟩
               obtain rfl := fl_none hfl hs; unfold flV
               have hB3 : Below w.heap.size w w3 := hB0.trans ((hb1.mono hB0.size).trans ((hb2.mono (Nat.le_trans hB0.size hb1.size)).trans (hb3.mono (Nat.le_trans hB0.size (Nat.le_trans hb1.size hb2.size)))))
               have hz1 := hb1.size
               have hz2 := hb2.size
               have x5 := (hb3.cell (p := ⟨w.heap.size, 5, none⟩) (by show w.heap.size < _; omega)).trans ((hb2.cell (p := ⟨w.heap.size, 5, none⟩) (by show w.heap.size < _; omega)).trans ((hb1.cell (p := ⟨w.heap.size, 5, none⟩) (by show w.heap.size < _; omega)).trans q5))
               have c1 := (hB3.cell (p := ⟨bt, ot, none⟩) hbt).trans hr0
               have c2 := (hB3.cell (p := ⟨rb, ro + f, none⟩) hrb).trans hcf))
          go_region
          go_wp2
          go_ret2
          rw [HI.out]
          exact ⟨rfl, hB3.drew⟩
        | true =>
          have HI : Hid (icB s p gp T = true) := by show _ = _; rw [hic, hs, decide_eq_true (beq_iff_eq.1 he)]; rfl
          clear hic
          go_enter Try.func37, Try.ntmps37
          go_wp2_with (first
            | (go_at_call 56; rw [← hW0]; refine (c50 _ hP hp0 hle).mono ?_; rintro e w1 ⟨rfl, hb1⟩; rw [hc]; have hP1 := hP.below hb1; have hT1 := TabV.below hb1 hT0; rw [← hC.out])
            | (go_at_call 63; refine (form63 o _ hP1 hT1 hx.1.1 hx.1.2).mono ?_; rintro e w2 ⟨rfl, hb2⟩; rw [hf]; have hP2 := hP1.below hb2; have hT2 := TabV.below hb2 hT1)
            | (go_at_call 64; refine (flaw64 o _ hP2 hT2 hf (mx_of o hf hx)).mono ?_; rintro e w3 ⟨r, rfl, hfl, hb3⟩
               obtain rfl := fl_none hfl hs; unfold flV
               have hB3 : Below w.heap.size w w3 := hB0.trans ((hb1.mono hB0.size).trans ((hb2.mono (Nat.le_trans hB0.size hb1.size)).trans (hb3.mono (Nat.le_trans hB0.size (Nat.le_trans hb1.size hb2.size)))))
               have hz1 := hb1.size
               have hz2 := hb2.size
               have x5 := (hb3.cell (p := ⟨w.heap.size, 5, none⟩) (by show w.heap.size < _; omega)).trans ((hb2.cell (p := ⟨w.heap.size, 5, none⟩) (by show w.heap.size < _; omega)).trans ((hb1.cell (p := ⟨w.heap.size, 5, none⟩) (by show w.heap.size < _; omega)).trans q5))
               have c1 := (hB3.cell (p := ⟨bt, ot, none⟩) hbt).trans hr0
               have c2 := (hB3.cell (p := ⟨rb, ro + f, none⟩) hrb).trans hcf))
          go_region
          go_wp2
          go_ret2
          rw [HI.out]
          exact ⟨rfl, hB3.drew⟩
  · have hc2 : (soC s p gp == (0 : Int)) = false := beq_eq_false_iff_ne.2 hc
    have hc3 : (soC s p gp != (0 : Int)) = true := bne_iff_ne.2 hc
    have HI : Hid (icB s p gp T = false) := by show _ = _; unfold icB; rw [decide_eq_false hc]; rfl
    obtain ⟨C, hC⟩ : ∃ C, C = soC s p gp := ⟨_, rfl⟩
    rw [HI.out]
    go_enter Try.func37, Try.ntmps37
    go_wp2_with (go_at_call 56; rw [← hW0]; refine (c50 _ hP hp0 hle).mono ?_; rintro e w1 ⟨rfl, hb1⟩)
    go_ret2
    exact ⟨rfl, hB0.trans (hb1.mono hB0.size)⟩
end
end Go.Proofs.Ytbkjjefjnkkgbaa.sea
