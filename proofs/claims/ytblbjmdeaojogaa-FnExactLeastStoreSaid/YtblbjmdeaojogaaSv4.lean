import Derived.Test.YtblbjmdeaojogaaSv3
namespace Go.Proofs.Ytblbjmdeaojogaa.sea
open Go Go.Ab Go.Proofs Go.RowKit Go.Shelf
attribute [local go_sem] Oper.semAt_some
set_option linter.unusedVariables false
section
variable {s : Sea} {w : World}
theorem Blk7.pt {s : Sea} {W : World} {B : Nat} {s1 s2 : Value} {t : Int} (h : Blk7 W B s1 s2 (s.g 0) (s.g 1) t (s.g 3) (s.g 4)) (hS : SeaV (seaAt s t) W (.agg #[s1, s2, .int .i64 (s.g 0), .int .i64 (s.g 1), .int .i64 t, .int .i64 (s.g 3), .int .i64 (s.g 4)])) : SeaP (seaAt s t) W B 0 :=
  ⟨h.lt, [s1, s2, .int .i64 (s.g 0), .int .i64 (s.g 1), .int .i64 t, .int .i64 (s.g 3), .int .i64 (s.g 4)], hS, fun q u hq => by
    obtain ⟨y0, y1, y2, y3, y4, y5, y6⟩ := h.cells
    rw [Nat.zero_add]
    match q, hq with
    | 0, hq => cases hq; exact y0
    | 1, hq => cases hq; exact y1
    | 2, hq => cases hq; exact y2
    | 3, hq => cases hq; exact y3
    | 4, hq => cases hq; exact y4
    | 5, hq => cases hq; exact y5
    | 6, hq => cases hq; exact y6
    | n + 7, hq => simp at hq⟩
/-- The least cost with another store is -1 exactly where there is no plan. -/
theorem lsH_cost {s : Sea} (o : s.Ok) {j : Nat} (h1 : s.g 3 + (j : Int) ≤ 60) (h2 : s.g 2 ≤ 60) : decide (vt (seaAt s (s.g 3 + j)) 0 (s.g 3).toNat = -1) = !lsH s j := by
  have oj := seaAt_ok o (t := s.g 3 + (j : Int)) (by omega) (by omega)
  exact vt_all oj
set_option maxHeartbeats 1000000 in
theorem l33_bad (o : okSea s = false) {v : Value} (hS : SeaV s w v) :
    Calls Try.prog 33 #[v] w fun e w' => e = .returned (.tuple #[.int .i64 0, .int .i64 1]) ∧ Below w.heap.size w w' := by
  have hS' := hS
  obtain ⟨s1, s2, rfl, _⟩ := hS'
  have hB : Below w.heap.size w (w.alloc (.cells #[s1, s2, .int .i64 (s.g 0), .int .i64 (s.g 1), .int .i64 (s.g 2), .int .i64 (s.g 3), .int .i64 (s.g 4)] 27)) := (Below.refl _ w).alloc (Nat.le_refl _) _
  have hP := SeaP.box 27 hS
  go_enter Try.func33, Try.ntmps33
  go_wp2_with (go_at_call 36; refine (ok36 hP).mono ?_; rintro e w1 ⟨rfl, hb⟩; rw [o])
  go_ret2
  exact ⟨rfl, hB.trans (hb.mono (by simp))⟩
set_option maxRecDepth 100000 in
set_option maxHeartbeats 2000000 in
theorem l33_go (o : okSea s = true) {v : Value} (hS : SeaV s w v) :
    Calls Try.prog 33 #[v] w fun e w' => e = .returned (.tuple #[.int .i64 (cond (decide (lsN s < lsM s)) (s.g 3 + lsN s) 0), .int .i64 (cond (decide (lsN s < lsM s)) 0 6)]) ∧ Below w.heap.size w w' := by
  have ok := okSea_ok o
  have hf3 := ok.first
  have hst := ok.store
  have hle : lsN s ≤ lsM s := fstB_le _ _
  have hM : (lsM s : Int) = 61 - s.g 3 := by unfold lsM; omega
  have hS' := hS
  obtain ⟨s1, s2, rfl, hs1, hs2, hl1, hl2⟩ := hS'
  have hB : Below w.heap.size w (w.alloc (.cells #[s1, s2, .int .i64 (s.g 0), .int .i64 (s.g 1), .int .i64 (s.g 2), .int .i64 (s.g 3), .int .i64 (s.g 4)] 27)) := (Below.refl _ w).alloc (Nat.le_refl _) _
  have hP := SeaP.box 27 hS
  have hb7 : Blk7 (w.alloc (.cells #[s1, s2, .int .i64 (s.g 0), .int .i64 (s.g 1), .int .i64 (s.g 2), .int .i64 (s.g 3), .int .i64 (s.g 4)] 27)) w.heap.size s1 s2 (s.g 0) (s.g 1) (s.g 2) (s.g 3) (s.g 4) := World.alloc_heap_new w _
  go_enter Try.func33, Try.ntmps33
  go_wp2_with (go_at_call 36; refine (ok36 hP).mono ?_; rintro e w1 ⟨rfl, hb⟩; rw [o]; have h71 := hb7.below hb; obtain ⟨y0, y1, y2, y3, y4, y5, y6⟩ := h71.cells)
  have hBa : Below w.heap.size w w1 := hB.trans (hb.mono (by simp))
  clear y0 y1 y2 y3 y4 y5 y6
  go_loopw [4] (fun tv wr => ∃ (j : Nat) (t : Int), j ≤ lsN s ∧ tv = .int .i64 (s.g 3 + (j : Int)) ∧ Blk7 wr w.heap.size s1 s2 (s.g 0) (s.g 1) t (s.g 3) (s.g 4) ∧ Below w.heap.size w wr)
    (fun tv _ => (61 - RowKit.intOf tv).toNat)
  case atStart => exact ⟨0, s.g 2, Nat.zero_le _, by simp, h71, hBa⟩
  case round =>
    obtain ⟨j, t, hj, rfl, h7, hBw⟩ := hrel
    obtain ⟨y0, y1, y2, y3, y4, y5, y6⟩ := h7.cells
    have yf := h7.frozen 4
    have h7s := h7.set (s.g 3 + (j : Int))
    have hBs : Below w.heap.size w (wr.setCell ⟨w.heap.size, 4, none⟩ (.int .i64 (s.g 3 + (j : Int)))) := hBw.setCell (p := ⟨w.heap.size, 4, none⟩) (Nat.le_refl _) _
    by_cases hlt : j < lsM s
    · have oj := seaAt_ok ok (t := s.g 3 + (j : Int)) (by omega) (by omega)
      have hSj : SeaV (seaAt s (s.g 3 + (j : Int))) (wr.setCell ⟨w.heap.size, 4, none⟩ (.int .i64 (s.g 3 + (j : Int)))) (.agg #[s1, s2, .int .i64 (s.g 0), .int .i64 (s.g 1), .int .i64 (s.g 3 + (j : Int)), .int .i64 (s.g 3), .int .i64 (s.g 4)]) := ⟨s1, s2, rfl, hs1.at hBs, hs2.at hBs, hl1, hl2⟩
      have hPj := h7s.pt hSj
      have hsz : (wr.setCell ⟨w.heap.size, 4, none⟩ (.int .i64 (s.g 3 + (j : Int)))).heap.size = wr.heap.size := size_set _ _ _
      have hwz := hBw.size
      have hcj := lsH_cost ok (j := j) (by omega) hst.2
      obtain ⟨C, hC⟩ : ∃ C, Hid (C = vt (seaAt s (s.g 3 + (j : Int))) 0 (s.g 3).toNat) := ⟨_, rfl⟩
      rw [← hC.out] at hcj
      have hC' : vt (seaAt s (s.g 3 + (j : Int))) 0 ((seaAt s (s.g 3 + (j : Int))).g 3).toNat = C := hC.out.symm
      cases hd : lsH s j with
      | true =>
        have hfj : lsN s = j := by
          by_cases e : j < lsN s
          · have := fstB_not (lsH s) e; rw [this] at hd; cases hd
          · omega
        rw [hd] at hcj
        have hC1 : ¬ C = -1 := of_decide_eq_false hcj
        have hC2 : (C == (-1 : Int)) = false := beq_eq_false_iff_ne.2 hC1
        have hC3 : (C != (-1 : Int)) = true := bne_iff_ne.2 hC1
        have HA : Hid (decide (lsN s < lsM s) = true) := by show _ = _; rw [hfj]; exact decide_eq_true hlt
        have HF : Hid (lsN s = j) := hfj
        have HC : Hid (vt (seaAt s (s.g 3 + (j : Int))) 0 ((seaAt s (s.g 3 + (j : Int))).g 3).toNat = C) := hC'
        clear hfj hcj hC'
        go_wp2_with (go_at_call 55; refine (best55 oj _ hPj).mono ?_; rintro e w3 ⟨pv, rfl, hb3⟩; rw [HC.out])
        go_ret2
        rw [HA.out, HF.out]
        exact ⟨rfl, hBs.trans (hb3.mono (by omega))⟩
      | false =>
        have hne : j ≠ lsN s := fun e => by
          have : lsH s (lsN s) = true := fstB_does (lsH s) (j := lsM s) (by show lsN s < lsM s; omega)
          rw [← e, hd] at this; cases this
        rw [hd] at hcj
        have hC1 : C = -1 := of_decide_eq_true hcj
        subst hC1
        have HC : Hid (vt (seaAt s (s.g 3 + (j : Int))) 0 ((seaAt s (s.g 3 + (j : Int))).g 3).toNat = -1) := hC'
        clear hcj hC'
        go_wp2_with (go_at_call 55; refine (best55 oj _ hPj).mono ?_; rintro e w3 ⟨pv, rfl, hb3⟩; rw [HC.out])
        go_roundw
        case rel => exact ⟨j + 1, _, by omega, by go_num, h7s.below hb3, hBs.trans (hb3.mono (by omega))⟩
        case measure => simp [RowKit.intOf]; omega
    · have HA : Hid (decide (lsN s < lsM s) = false) := by show _ = _; exact decide_eq_false (by omega)
      have hgt : ¬ s.g 3 + (j : Int) ≤ 60 := by omega
      go_wp2
      go_ret2
      rw [HA.out]
      exact ⟨rfl, hBw⟩
theorem ls33 {v : Value} (hS : SeaV s w v) : Calls Try.prog 33 #[v] w fun e w' => e = .returned (.tuple #[.int .i64 (lsV s), .int .i64 (lsC s)]) ∧ Below w.heap.size w w' := by
  unfold lsV lsC
  cases o : okSea s with
  | false => exact l33_bad o hS
  | true => exact l33_go o hS
end
end Go.Proofs.Ytblbjmdeaojogaa.sea
