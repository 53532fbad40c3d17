import Derived.Test.YtblbjmdeaojogaaSr4
namespace Go.Proofs.Ytblbjmdeaojogaa.sea
open Go Go.Ab Go.Proofs Go.RowKit Go.Shelf
attribute [local go_sem] Oper.semAt_some
set_option linter.unusedVariables false
section
variable {s : Sea} {w : World} {gp : Nat → Int}
set_option maxRecDepth 100000 in
set_option maxHeartbeats 4000000 in
theorem r31_go (o : okSea s = true) {v pv : Value} {p : Nat} (hS : SeaV s w v) (hp : SlV gp w.heap.size w pv p) (hle : p ≤ 9223372036854775807) (hl : p = s.n) (hB2 : planB s p gp = true) :
    Calls Try.prog 31 #[v, pv] w (SlAns3 w (cond (s.all (rpw s gp)) s.n 0) (s.lg (rpw s gp)) (cond (s.all (rpw s gp)) (chg s gp s.n) 0) (cond (s.all (rpw s gp)) 0 6)) := by
  have ok := okSea_ok o
  have n1 := ok.n1
  have n2 := ok.n2
  have hfit0 : s.Fits (chP gp) := fitsP p (by unfold planOk; rw [decide_eq_true hl, hB2]; rfl)
  have hfit := rp_fits (gp := gp) ok hfit0
  subst hl
  obtain ⟨i0, hi, hz0, hz1, hz2⟩ := own_info
  have hS' := hS
  obtain ⟨s1, s2, rfl, hs1, _⟩ := hS'
  obtain ⟨a1, c1, rfl⟩ := hs1.slice
  have hp' := hp
  rcases hp' with ⟨a', e, e0⟩ | ⟨bp, off, cap, rfl, hcap, hE⟩
  · exact absurd e0 (by omega)
  have hP0 := SeaP.box 27 hS
  obtain ⟨W0, hW0⟩ : ∃ W0, w.alloc (.cells #[.slice a1 s.n c1, s2, .int .i64 (s.g 0), .int .i64 (s.g 1), .int .i64 (s.g 2), .int .i64 (s.g 3), .int .i64 (s.g 4)] 27) = W0 := ⟨_, rfl⟩
  have hB : Below w.heap.size w W0 := by rw [← hW0]; exact (Below.refl _ w).alloc (Nat.le_refl _) _
  have hP : SeaP s W0 w.heap.size 0 := by rw [← hW0]; exact hP0
  have hz : w.heap.size < W0.heap.size := by rw [← hW0]; simp
  have hcs : ∀ (q : Nat) (u : Value), #[.slice a1 s.n c1, s2, Value.int .i64 (s.g 0), .int .i64 (s.g 1), .int .i64 (s.g 2), .int .i64 (s.g 3), .int .i64 (s.g 4)][q]? = some u → W0.cell? ⟨w.heap.size, q, none⟩ = some u := fun q u h => by
    rw [← hW0]; exact alloc_cells (s := s) (s1 := .slice a1 s.n c1) (s2 := s2) w q u h
  have q0 := hcs 0 _ rfl
  have q2 := hcs 2 _ rfl
  have q5 := hcs 5 _ rfl
  have hp1 := hp.at hB
  clear hP0
  go_enter Try.func31, Try.ntmps31
  go_wp2_with (first
    | (go_at_call 36; refine (ok36 hP).mono ?_; rintro e w1 ⟨rfl, hb⟩; rw [o]; obtain ⟨hc, hf⟩ := bcell hb; have hp2 := hp1.at hb; have hbz : w.heap.size < w1.heap.size := Nat.lt_of_lt_of_le hz hb.size; have r0 := (hb.cell (p := ⟨w.heap.size, 0, none⟩) hz).trans q0; have r2 := (hb.cell (p := ⟨w.heap.size, 2, none⟩) hz).trans q2; have r5 := (hb.cell (p := ⟨w.heap.size, 5, none⟩) hz).trans q5)
    | (go_at_call 53; refine (bnd_any' (s := s) _ _ _ hle _ hp2).mono ?_; rintro e w' ⟨rfl, rfl⟩; rw [hB2]))
  have hBa : Below w.heap.size w (w1.alloc (.cells #[] 2)) := (hB.trans (hb.mono (by omega))).alloc (by omega) _
  have hBb : Below W0.heap.size W0 (w1.alloc (.cells #[] 2)) := hb.alloc hb.size _
  have hrow0 := row_lit w1 (base := w.heap.size + 1) hbz
  clear hp2
  go_loopw [7, 8, 9, 10] (fun ov av cv kv wr => ∃ (k : Nat), k ≤ s.n ∧ kv = .int .i64 (k : Int) ∧ av = .int .i64 (s.st (rpw s gp) k) ∧ cv = .int .i64 (chg s gp k) ∧ wr.ownsRow (w.heap.size + 1) 2 1 ov k (intsL (s.lg (rpw s gp)) k) ∧ (∀ j, j < k → s.dn (rpw s gp) j = true) ∧ Below (w.heap.size + 1) W0 wr)
    (fun _ _ _ kv _ => s.n - (RowKit.intOf kv).toNat)
  case atStart => exact ⟨0, Nat.zero_le _, rfl, rfl, rfl, hrow0, fun j h => absurd h (by omega), hBb.mono hz⟩
  case round =>
    obtain ⟨k, hk, rfl, rfl, rfl, hrow, hno, hBw⟩ := hrel
    have hwz : w.heap.size + 1 ≤ wr.heap.size := Nat.le_trans hz hBw.size
    have hBx : Below w.heap.size w wr := hB.trans (hBw.mono (by omega))
    have hPw : SeaP s wr w.heap.size 0 := ⟨by omega, [.slice a1 s.n c1, s2, .int .i64 (s.g 0), .int .i64 (s.g 1), .int .i64 (s.g 2), .int .i64 (s.g 3), .int .i64 (s.g 4)], hS.below hBx, fun q u hq => by rw [Nat.zero_add]; exact (hBw.cell (p := ⟨w.heap.size, q, none⟩) (by show w.heap.size < _; omega)).trans (hcs q u (by simpa using hq))⟩
    by_cases hlt : k < s.n
    · have hst := ok.st_bd hno
      have qk := (hBx.cell (p := ⟨bp, off + k, none⟩) hE.1).trans (hE.2 k hlt)
      have hgk : 0 ≤ gp k ∧ gp k ≤ s.g 0 := hfit0 k (s.st (rpw s gp) k) hlt hst.1 hst.2
      have hbd := chg_bd s gp k
      rcases rp_case (gp := gp) ok (k := k) (x := s.st (rpw s gp) k) hgk with ⟨hd, hr⟩ | ⟨hd, hf2, hr, hne⟩ | ⟨hd, hf2, hr⟩
      · have hnx := (ok.left_bd (of_decide_eq_true hd)).1
        have hnx : 0 ≤ s.next k (s.st (rpw s gp) k) (gp k) := hnx
        have HC : Hid (chg s gp (k + 1) = chg s gp k) := by
          show chg s gp k + cond (decide (rpw s gp k (s.st (rpw s gp) k) = gp k)) 0 1 = _
          rw [hr, decide_eq_true rfl]; simp
        have HD : Hid (s.dn (rpw s gp) k = true) := by show s.does k _ (rpw s gp k (s.st (rpw s gp) k)) = true; rw [hr, hd]
        have HS : Hid (s.st (rpw s gp) (k + 1) = s.next k (s.st (rpw s gp) k) (gp k)) := by show s.next k _ (rpw s gp k (s.st (rpw s gp) k)) = _; rw [hr]
        have HL : Hid (s.lg (rpw s gp) k = gp k) := hr
        clear hr
        go_wp2_with (first
          | (go_at_call 43; refine (after43 ok hPw hlt hst hgk).mono ?_; rintro e w3 ⟨rfl, hb3⟩; rw [hd]; have hr3 := row_below hrow hb3; have hz3 := hb3.size)
          | (at_builtin; refine wpList_append_own _ rfl _ _ 22 rfl (w.heap.size + 1) 2 i0 (.int .i64 0) 1 8 Try.underlying22 hi hz0 hz1 hz2 rfl (by decide) _ _ _ rfl (hr3.alloc _) ⟨w3.heap.size, 0, none⟩ 1 1 [.int .i64 (gp k)] rfl rfl (cell_one_new _ _ _) (by simp [Value.oneCell']) (by unfold maxLen; omega) (by omega) (by simp <;> omega) ?_; intro v' w4 o4 g4 _))
        go_roundw
        case rel => exact ⟨k + 1, by omega, by go_num, by rw [HS.out], by rw [HC.out], by rw [intsL_succ, HL.out]; exact o4, fun j hj => by
          by_cases e : j = k
          · subst e; exact HD.out
          · exact hno j (by omega), (hBw.trans ((hb3.mono hwz).alloc (by omega) _)).grown g4 (by simp <;> omega) (fun q e => (hr3.lt q e).1)⟩
        case measure => simp [RowKit.intOf]; omega
      · have hlg := fw_fits ok k (s.st (rpw s gp) k) hlt hst.1 hst.2
        have HC : Hid (chg s gp (k + 1) = chg s gp k + 1) := by
          show chg s gp k + cond (decide (rpw s gp k (s.st (rpw s gp) k) = gp k)) 0 1 = _
          rw [hr, decide_eq_false hne]; simp
        have HD : Hid (s.dn (rpw s gp) k = true) := by show s.does k _ (rpw s gp k (s.st (rpw s gp) k)) = true; rw [hr, hf2]
        have HS : Hid (s.st (rpw s gp) (k + 1) = s.next k (s.st (rpw s gp) k) (fw s k (s.st (rpw s gp) k))) := by show s.next k _ (rpw s gp k (s.st (rpw s gp) k)) = _; rw [hr]
        have HL : Hid (s.lg (rpw s gp) k = fw s k (s.st (rpw s gp) k)) := hr
        have HN : Hid (fN s k (s.st (rpw s gp) k) = fw s k (s.st (rpw s gp) k)) := by show _ = _; unfold fN; rw [hf2]; rfl
        have HX : Hid (fX s k (s.st (rpw s gp) k) = s.next k (s.st (rpw s gp) k) (fw s k (s.st (rpw s gp) k))) := by show _ = _; unfold fX; rw [hf2]; rfl
        clear hr hne
        go_wp2_with (first
          | (go_at_call 43; refine (after43 ok hPw hlt hst hgk).mono ?_; rintro e w3 ⟨rfl, hb3⟩; rw [hd]; have hz3 := hb3.size; have hP3 := hPw.below hb3)
          | (go_at_call 51; refine (few51 ok _ hP3 hlt hst).mono ?_; rintro e w5 ⟨rfl, hb5⟩; rw [HN.out, HX.out]; have hb6 := hb3.trans (hb5.mono hz3); have hr3 := row_below hrow hb6; have hz5 := hb6.size)
          | (at_builtin; refine wpList_append_own _ rfl _ _ 22 rfl (w.heap.size + 1) 2 i0 (.int .i64 0) 1 8 Try.underlying22 hi hz0 hz1 hz2 rfl (by decide) _ _ _ rfl (hr3.alloc _) ⟨w5.heap.size, 0, none⟩ 1 1 [.int .i64 (fw s k (s.st (rpw s gp) k))] rfl rfl (cell_one_new _ _ _) (by simp [Value.oneCell']) (by unfold maxLen; omega) (by omega) (by simp <;> omega) ?_; intro v' w4 o4 g4 _))
        go_roundw
        case rel => exact ⟨k + 1, by omega, by go_num, by rw [HS.out], by rw [HC.out], by rw [intsL_succ, HL.out]; exact o4, fun j hj => by
          by_cases e : j = k
          · subst e; exact HD.out
          · exact hno j (by omega), (hBw.trans ((hb6.mono hwz).alloc (by omega) _)).grown g4 (by simp <;> omega) (fun q e => (hr3.lt q e).1)⟩
        case measure => simp [RowKit.intOf]; omega
      · have hall : s.all (rpw s gp) = false := by
          cases ha : s.all (rpw s gp) with
          | false => rfl
          | true => have := allB_true ha k hlt; unfold Sea.dn Sea.lg at this; rw [hr] at this; cases this
        have HN : Hid (fN s k (s.st (rpw s gp) k) = -1) := by show _ = _; unfold fN; rw [hf2]; rfl
        have HX : Hid (fX s k (s.st (rpw s gp) k) = -1) := by show _ = _; unfold fX; rw [hf2]; rfl
        clear hr
        go_wp2_with (first
          | (go_at_call 43; refine (after43 ok hPw hlt hst hgk).mono ?_; rintro e w3 ⟨rfl, hb3⟩; rw [hd]; have hz3 := hb3.size; have hP3 := hPw.below hb3)
          | (go_at_call 51; refine (few51 ok _ hP3 hlt hst).mono ?_; rintro e w5 ⟨rfl, hb5⟩; rw [HN.out, HX.out]; have hb6 := hb3.trans (hb5.mono hz3)))
        go_ret3
        rw [hall]
        exact SlAns3.lit (hBx.trans (hb6.mono (by omega)))
    · obtain rfl : k = s.n := by omega
      have hall : s.all (rpw s gp) = true := allB_all hno
      go_wp2
      go_ret3
      rw [hall]
      exact ⟨_, rfl, row_base hrow (by omega), hBx⟩
theorem rp31 {v pv : Value} {p : Nat} (hS : SeaV s w v) (hp : SlV gp w.heap.size w pv p) (hle : p ≤ 9223372036854775807) : Calls Try.prog 31 #[v, pv] w (SlAns3 w (rpN s p gp) (s.lg (rpw s gp)) (rpX s p gp) (rpC s p gp)) := by
  unfold rpN rpX rpC planOk
  cases o : okSea s with
  | false => exact r31_bad o hS pv
  | true =>
    by_cases hl : p = s.n
    · rw [decide_eq_true hl]
      cases hB2 : planB s p gp with
      | false => exact r31_out o hS hp hle hl hB2
      | true => exact r31_go o hS hp hle hl hB2
    · rw [decide_eq_false hl]
      exact r31_len o hS hp hle hl
end
end Go.Proofs.Ytblbjmdeaojogaa.sea
