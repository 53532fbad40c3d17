import Derived.Test.YtbkjjefjnkkgbaaTkc
import Derived.Test.YtbkjjefjnkkgbaaTk8
import Derived.Deep.RegionWith
namespace Go.Proofs.Ytbkjjefjnkkgbaa.sea
open Go Go.Ab Go.Proofs Go.RowKit Go.Shelf
attribute [local go_sem] Oper.semAt_some
set_option linter.unusedVariables false
section
variable {s : Sea} {w : World} {T : Tab} {gp : Nat → Int}
set_option maxRecDepth 100000 in
set_option maxHeartbeats 4000000 in
theorem ic39 {ev : Sea → Tab → Value} (H : Chk ev) {v pv tv : Value} {p : Nat} (hS : SeaV s w v) (hp : SlV gp w.heap.size w pv p) (hle : p ≤ 9223372036854775807) (hT : TabV T w tv) (hx : TabMx T) :
    Calls Try.prog 39 #[v, pv, tv] w fun e w' => e = .returned (.tuple #[.bool (icB s p gp T), .int .i64 (soC s p gp)]) ∧ Below w.heap.size w w' := by
  have hS' := hS
  obtain ⟨s1, s2, rfl, _⟩ := hS'
  obtain ⟨W0, hW0⟩ : ∃ W0, W0 = w.alloc (.cells #[s1, s2, .int .i64 (s.g 0), .int .i64 (s.g 1), .int .i64 (s.g 2), .int .i64 (s.g 3), .int .i64 (s.g 4)] 27) := ⟨_, rfl⟩
  have hB0 : Below w.heap.size w W0 := by rw [hW0]; exact (Below.refl _ w).alloc (Nat.le_refl _) _
  have hS0 := hS.below hB0
  have hp0 := hp.at hB0
  have hT0 := TabV.below hB0 hT
  have hz0 : w.heap.size < W0.heap.size := by rw [hW0]; simp
  have q (k : Nat) (u : Value) (h : #[s1, s2, Value.int .i64 (s.g 0), .int .i64 (s.g 1), .int .i64 (s.g 2), .int .i64 (s.g 3), .int .i64 (s.g 4)][k]? = some u) : W0.cell? ⟨w.heap.size, k, none⟩ = some u := by rw [hW0]; exact wcells (s := s) w 27 k u h
  obtain ⟨ta, tc, rfl⟩ := hT.slice
  by_cases hc : soC s p gp = 0
  · have hck : okSea s = true := by
      unfold soC at hc
      cases ho : okSea s with
      | true => rfl
      | false => rw [ho] at hc; simp at hc
    have o := okSea_ok hck
    obtain ⟨C, hC⟩ : ∃ C, Hid (C = coV s p gp) := ⟨_, rfl⟩
    rw [hc]
    cases hk : okT s T with
    | false =>
      have HI : icB s p gp T = false := by
        unfold icB
        unfold okT at hk
        cases hf : formB s T with
        | false => cases decide (soC s p gp = 0) <;> rfl
        | true => rw [hf] at hk; rw [show sound s T = false from hk]; cases decide (soC s p gp = 0) <;> rfl
      rw [HI]
      exact ic39_false H hc hk hS hp hle hT hx
    | true =>
      have hf : formB s T = true := by
        unfold okT at hk
        cases hf : formB s T with
        | true => rfl
        | false => rw [hf] at hk; cases hk
      have hso : sound s T = true := by unfold okT at hk; rw [hf] at hk; exact hk
      obtain ⟨f, hf3⟩ : ∃ f : Nat, f = (s.g 3).toNat := ⟨_, rfl⟩
      have hfi := o.first
      have hst := o.store
      have hwd := wdS_eq o
      have hfw : f < wdS s := by omega
      have hfw2 : s.g 3 < (wdS s : Int) := by omega
      have hfw3 : 0 ≤ s.g 3 := by omega
      obtain ⟨bt, ot, ct, e, hTn, hbt, hrows⟩ := tabCell hT o hf
      cases e
      obtain ⟨rb, ro, rc, hr0, hrb, hcell⟩ := hrows 0 (Nat.zero_le _)
      rw [Nat.add_zero] at hr0
      have hcf := hcell f hfw
      have hTp : 0 < T.n := by omega
      have hTq : (0 : Int) < (T.n : Int) := by omega
      obtain ⟨E, hE⟩ : ∃ E, Hid (E = T.e 0 f) := ⟨_, rfl⟩
      rw [← hE.out] at hcf
      have hic : icB s p gp T = decide (E = C) := by
        unfold icB
        rw [decide_eq_true hc, hf, hso, ← hf3, ← hE.out, ← hC.out]; rfl
      rw [hf3] at hcf
      clear hfi hst hcell hrows hwd hTn hf3
      cases he : (E == C) with
      | false =>
        have HI : Hid (icB s p gp T = false) := by show _ = _; rw [hic, decide_eq_false (beq_eq_false_iff_ne.1 he)]
        rw [HI.out]
        clear hic
        go_enter Try.func39, Try.ntmps39
        go_wp2_with (go_at_call 29; rw [← hW0]; refine (co28 hS0 hp0 hle).mono ?_; rintro e w1 ⟨rfl, hb1⟩; rw [hc, ← hC.out])
        have hS1 : SeaV s w1.drew _ := (hS0.below hb1).below (Below.refl _ _).drew
        have hT1 : TabV T w1.drew _ := TabV.below (Below.refl _ _).drew (TabV.below hb1 hT0)
        have c0 := (hb1.cell (p := ⟨w.heap.size, 0, none⟩) hz0).trans (q 0 _ rfl)
        have c1 := (hb1.cell (p := ⟨w.heap.size, 1, none⟩) hz0).trans (q 1 _ rfl)
        have c2 := (hb1.cell (p := ⟨w.heap.size, 2, none⟩) hz0).trans (q 2 _ rfl)
        have c3 := (hb1.cell (p := ⟨w.heap.size, 3, none⟩) hz0).trans (q 3 _ rfl)
        have c4 := (hb1.cell (p := ⟨w.heap.size, 4, none⟩) hz0).trans (q 4 _ rfl)
        have c5 := (hb1.cell (p := ⟨w.heap.size, 5, none⟩) hz0).trans (q 5 _ rfl)
        have c6 := (hb1.cell (p := ⟨w.heap.size, 6, none⟩) hz0).trans (q 6 _ rfl)
        have hz1 := hb1.size
        go_region_with (first
          | (go_at_call 65; refine (H.2 o hS1 hT1 hx).mono ?_; rintro e w2 ⟨rfl, hb2⟩; rw [(H.1 s T).1 hk]
             have hB2 : Below w.heap.size w w2 := (hB0.trans ((hb1.mono hB0.size).drew)).trans (hb2.mono (Nat.le_trans hB0.size hz1))
             have d1 := (hB2.cell (p := ⟨bt, ot, none⟩) hbt).trans hr0
             have d2 := (hB2.cell (p := ⟨rb, ro + (s.g 3).toNat, none⟩) hrb).trans hcf
             have d3 := (hb2.cell (p := ⟨w.heap.size, 5, none⟩) (by show w.heap.size < w1.heap.size; omega)).trans c5))
        all_goals (go_wp2; go_ret2; exact ⟨rfl, hB2⟩)
      | true =>
        have HI : Hid (icB s p gp T = true) := by show _ = _; rw [hic, decide_eq_true (beq_iff_eq.1 he)]
        rw [HI.out]
        clear hic
        go_enter Try.func39, Try.ntmps39
        go_wp2_with (go_at_call 29; rw [← hW0]; refine (co28 hS0 hp0 hle).mono ?_; rintro e w1 ⟨rfl, hb1⟩; rw [hc, ← hC.out])
        have hS1 : SeaV s w1.drew _ := (hS0.below hb1).below (Below.refl _ _).drew
        have hT1 : TabV T w1.drew _ := TabV.below (Below.refl _ _).drew (TabV.below hb1 hT0)
        have c0 := (hb1.cell (p := ⟨w.heap.size, 0, none⟩) hz0).trans (q 0 _ rfl)
        have c1 := (hb1.cell (p := ⟨w.heap.size, 1, none⟩) hz0).trans (q 1 _ rfl)
        have c2 := (hb1.cell (p := ⟨w.heap.size, 2, none⟩) hz0).trans (q 2 _ rfl)
        have c3 := (hb1.cell (p := ⟨w.heap.size, 3, none⟩) hz0).trans (q 3 _ rfl)
        have c4 := (hb1.cell (p := ⟨w.heap.size, 4, none⟩) hz0).trans (q 4 _ rfl)
        have c5 := (hb1.cell (p := ⟨w.heap.size, 5, none⟩) hz0).trans (q 5 _ rfl)
        have c6 := (hb1.cell (p := ⟨w.heap.size, 6, none⟩) hz0).trans (q 6 _ rfl)
        have hz1 := hb1.size
        go_region_with (first
          | (go_at_call 65; refine (H.2 o hS1 hT1 hx).mono ?_; rintro e w2 ⟨rfl, hb2⟩; rw [(H.1 s T).1 hk]
             have hB2 : Below w.heap.size w w2 := (hB0.trans ((hb1.mono hB0.size).drew)).trans (hb2.mono (Nat.le_trans hB0.size hz1))
             have d1 := (hB2.cell (p := ⟨bt, ot, none⟩) hbt).trans hr0
             have d2 := (hB2.cell (p := ⟨rb, ro + (s.g 3).toNat, none⟩) hrb).trans hcf
             have d3 := (hb2.cell (p := ⟨w.heap.size, 5, none⟩) (by show w.heap.size < w1.heap.size; omega)).trans c5))
        all_goals (go_wp2; go_ret2; exact ⟨rfl, hB2⟩)
  · have hc2 : (soC s p gp == (0 : Int)) = false := beq_eq_false_iff_ne.2 hc
    have hc3 : (soC s p gp != (0 : Int)) = true := bne_iff_ne.2 hc
    have HI : Hid (icB s p gp T = false) := by show _ = _; unfold icB; rw [decide_eq_false hc]; rfl
    rw [HI.out]
    have q0 := q 0 _ rfl
    go_enter Try.func39, Try.ntmps39
    go_wp2_with (go_at_call 29; rw [← hW0]; refine (co28 hS0 hp0 hle).mono ?_; rintro e w1 ⟨rfl, hb1⟩)
    go_ret2
    exact ⟨rfl, hB0.trans (hb1.mono hB0.size)⟩
end
end Go.Proofs.Ytbkjjefjnkkgbaa.sea
