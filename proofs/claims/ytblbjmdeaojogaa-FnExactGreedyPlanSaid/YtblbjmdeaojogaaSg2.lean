import Derived.Test.YtblbjmdeaojogaaSg1
namespace Go.Proofs.Ytblbjmdeaojogaa.sea
open Go Go.Ab Go.Proofs Go.RowKit Go.Shelf
attribute [local go_sem] Oper.semAt_some
set_option linter.unusedVariables false
section
variable {s : Sea} {w : World}
set_option maxHeartbeats 1000000 in
theorem g29_bad (o : okSea s = false) {v : Value} (hS : SeaV s w v) :
    Calls Try.prog 29 #[v] w (SlAns w 0 (s.lg (fw s)) 1) := by
  have hS' := hS
  obtain ⟨s1, s2, rfl, _⟩ := hS'
  have hB : Below w.heap.size w (w.alloc (.cells #[s1, s2, .int .i64 (s.g 0), .int .i64 (s.g 1), .int .i64 (s.g 2), .int .i64 (s.g 3), .int .i64 (s.g 4)] 27)) := (Below.refl _ w).alloc (Nat.le_refl _) _
  have hP := SeaP.box 27 hS
  go_enter Try.func29, Try.ntmps29
  go_wp2_with (go_at_call 36; refine (ok36 hP).mono ?_; rintro e w1 ⟨rfl, hb⟩; rw [o])
  go_ret2
  exact SlAns.lit (hB.trans (hb.mono hB.size))
set_option maxRecDepth 100000 in
set_option maxHeartbeats 2000000 in
theorem g29_go (o : okSea s = true) {v : Value} (hS : SeaV s w v) :
    Calls Try.prog 29 #[v] w (SlAns w (cond (s.all (fw s)) s.n 0) (s.lg (fw s)) (cond (s.all (fw s)) 0 6)) := by
  have ok := okSea_ok o
  have n1 := ok.n1
  have n2 := ok.n2
  have hfit := fw_fits ok
  obtain ⟨i0, hi, hz0, hz1, hz2⟩ := own_info
  have hS' := hS
  obtain ⟨s1, s2, rfl, hs1, _⟩ := hS'
  obtain ⟨a1, c1, rfl⟩ := hs1.slice
  have hP0 := SeaP.box 27 hS
  obtain ⟨W0, hW0⟩ : ∃ W0, w.alloc (.cells #[.slice a1 s.n c1, s2, .int .i64 (s.g 0), .int .i64 (s.g 1), .int .i64 (s.g 2), .int .i64 (s.g 3), .int .i64 (s.g 4)] 27) = W0 := ⟨_, rfl⟩
  have hB : Below w.heap.size w W0 := by rw [← hW0]; exact (Below.refl _ w).alloc (Nat.le_refl _) _
  have hP : SeaP s W0 w.heap.size 0 := by rw [← hW0]; exact hP0
  have hz : w.heap.size < W0.heap.size := by rw [← hW0]; simp
  have hcs : ∀ (q : Nat) (u : Value), #[.slice a1 s.n c1, s2, Value.int .i64 (s.g 0), .int .i64 (s.g 1), .int .i64 (s.g 2), .int .i64 (s.g 3), .int .i64 (s.g 4)][q]? = some u → W0.cell? ⟨w.heap.size, q, none⟩ = some u := fun q u h => by
    rw [← hW0]; exact alloc_cells (s := s) (s1 := .slice a1 s.n c1) (s2 := s2) w q u h
  have q0 := hcs 0 _ rfl
  have q5 := hcs 5 _ rfl
  go_enter Try.func29, Try.ntmps29
  go_wp2_with (go_at_call 36; refine (ok36 hP).mono ?_; rintro e w1 ⟨rfl, hb⟩; rw [o]; obtain ⟨hc, hf⟩ := bcell hb; have hbz : w.heap.size < w1.heap.size := Nat.lt_of_lt_of_le hz hb.size; have r5 := (hb.cell (p := ⟨w.heap.size, 5, none⟩) hz).trans q5)
  have hB1 : Below w.heap.size w (w1.alloc (.cells #[] 2)) := (hB.trans (hb.mono hB.size)).alloc (by omega) _
  have hB2 : Below W0.heap.size W0 (w1.alloc (.cells #[] 2)) := hb.alloc hb.size _
  have hrow0 := row_lit w1 (base := w.heap.size + 1) hbz
  go_loopw [4, 5, 6] (fun ov av kv wr => ∃ (k : Nat), k ≤ s.n ∧ kv = .int .i64 (k : Int) ∧ av = .int .i64 (s.st (fw s) k) ∧ wr.ownsRow (w.heap.size + 1) 2 1 ov k (intsL (s.lg (fw s)) k) ∧ (∀ j, j < k → s.dn (fw s) j = true) ∧ Below (w.heap.size + 1) W0 wr)
    (fun _ _ kv _ => s.n - (RowKit.intOf kv).toNat)
  case atStart => exact ⟨0, Nat.zero_le _, rfl, rfl, hrow0, fun j h => absurd h (by omega), hB2.mono hz⟩
  case round =>
    obtain ⟨k, hk, rfl, rfl, hrow, hno, hBw⟩ := hrel
    have r0 := (hBw.cell (p := ⟨w.heap.size, 0, none⟩) (by show w.heap.size < _; omega)).trans q0
    have hwz : w.heap.size + 1 ≤ wr.heap.size := Nat.le_trans hz hBw.size
    have hBx : Below w.heap.size w wr := hB.trans (hBw.mono (by omega))
    have hPw : SeaP s wr w.heap.size 0 := ⟨by omega, [.slice a1 s.n c1, s2, .int .i64 (s.g 0), .int .i64 (s.g 1), .int .i64 (s.g 2), .int .i64 (s.g 3), .int .i64 (s.g 4)], hS.below hBx, fun q u hq => by rw [Nat.zero_add]; exact (hBw.cell (p := ⟨w.heap.size, q, none⟩) (by show w.heap.size < _; omega)).trans (hcs q u (by simpa using hq))⟩
    by_cases hlt : k < s.n
    · have hst := ok.st_bd hno
      have hlg : 0 ≤ fw s k (s.st (fw s) k) ∧ fw s k (s.st (fw s) k) ≤ s.g 0 := hfit k (s.st (fw s) k) hlt hst.1 hst.2
      cases hd : s.does k (s.st (fw s) k) (fw s k (s.st (fw s) k)) with
      | false =>
        have hall : s.all (fw s) = false := by
          cases ha : s.all (fw s) with
          | false => rfl
          | true => have := allB_true ha k hlt; unfold Sea.dn Sea.lg at this; rw [hd] at this; cases this
        go_wp2_with (go_at_call 51; refine (few51 ok _ hPw hlt hst).mono ?_; rintro e w3 ⟨rfl, hb3⟩; rw [show fN s k (s.st (fw s) k) = -1 by unfold fN; rw [hd]; rfl])
        go_ret2
        rw [hall]
        exact SlAns.lit (hBx.trans (hb3.mono (by omega)))
      | true =>
        go_wp2_with (first
          | (go_at_call 51; refine (few51 ok _ hPw hlt hst).mono ?_; rintro e w3 ⟨rfl, hb3⟩; rw [show fN s k (s.st (fw s) k) = fw s k (s.st (fw s) k) by unfold fN; rw [hd]; rfl, show fX s k (s.st (fw s) k) = s.next k (s.st (fw s) k) (fw s k (s.st (fw s) k)) by unfold fX; rw [hd]; rfl]; have hr3 := row_below hrow hb3; have hz3 := hb3.size)
          | (at_builtin; refine wpList_append_own _ rfl _ _ 22 rfl (w.heap.size + 1) 2 i0 (.int .i64 0) 1 8 Try.underlying22 hi hz0 hz1 hz2 rfl (by decide) _ _ _ rfl (hr3.alloc _) ⟨w3.heap.size, 0, none⟩ 1 1 [.int .i64 (fw s k (s.st (fw s) k))] rfl rfl (cell_one_new _ _ _) (by simp [Value.oneCell']) (by unfold maxLen; omega) (by omega) (by simp <;> omega) ?_; intro v' w4 o4 g4 _))
        go_roundw
        case rel => exact ⟨k + 1, by omega, by go_num, rfl, by rw [intsL_succ]; exact o4, fun j hj => by
          by_cases e : j = k
          · subst e; exact hd
          · exact hno j (by omega), (hBw.trans ((hb3.mono hwz).alloc (by omega) _)).grown g4 (by simp <;> omega) (fun q e => (hr3.lt q e).1)⟩
        case measure => simp [RowKit.intOf]; omega
    · obtain rfl : k = s.n := by omega
      have hall : s.all (fw s) = true := allB_all hno
      go_wp2
      go_ret2
      rw [hall]
      exact ⟨_, rfl, row_base hrow (by omega), hBx⟩
theorem gp29 {v : Value} (hS : SeaV s w v) : Calls Try.prog 29 #[v] w (SlAns w (gpN s) (s.lg (fw s)) (gpC s)) := by
  unfold gpN gpC
  cases o : okSea s with
  | false => exact g29_bad o hS
  | true => exact g29_go o hS
end
end Go.Proofs.Ytblbjmdeaojogaa.sea
