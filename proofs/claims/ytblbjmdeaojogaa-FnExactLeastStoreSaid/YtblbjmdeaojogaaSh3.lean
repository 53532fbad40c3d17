import Derived.Test.YtblbjmdeaojogaaSh2
namespace Go.Proofs.Ytblbjmdeaojogaa.sea
open Go Go.Ab Go.Proofs Go.RowKit Go.Shelf
attribute [local go_sem] Oper.semAt_some
set_option linter.unusedVariables false
/-- The season with another store. -/
def seaAt (s : Sea) (t : Int) : Sea := { s with g := seaG (s.g 0) (s.g 1) t (s.g 3) (s.g 4) }
theorem seaAt_ok {s : Sea} (o : s.Ok) {t : Int} (h1 : s.g 3 ≤ t) (h2 : t ≤ 60) : (seaAt s t).Ok :=
  ⟨o.n1, o.n2, o.m, o.gn, o.gm, o.most, o.yield, ⟨Int.le_trans o.first.1 h1, h2⟩, ⟨o.first.1, h1⟩, o.loss⟩
/-- The first number that holds, below a bound; that bound, if none does. -/
def fstB (p : Nat → Bool) : Nat → Nat
  | 0 => 0
  | j + 1 => cond (decide (fstB p j = j)) (cond (p j) j (j + 1)) (fstB p j)
theorem fstB_le (p : Nat → Bool) : ∀ j, fstB p j ≤ j
  | 0 => Nat.le_refl _
  | j + 1 => by
    have ih := fstB_le p j
    unfold fstB
    by_cases h : fstB p j = j
    · rw [decide_eq_true h]
      cases p j with
      | true => exact Nat.le_succ _
      | false => exact Nat.le_refl _
    · rw [decide_eq_false h]; exact Nat.le_succ_of_le ih
theorem fstB_not (p : Nat → Bool) : ∀ {j i : Nat}, i < fstB p j → p i = false
  | 0, i, h => absurd h (Nat.not_lt_zero _)
  | j + 1, i, h => by
    unfold fstB at h
    by_cases e : fstB p j = j
    · rw [decide_eq_true e] at h
      cases hd : p j with
      | true => rw [hd] at h; exact fstB_not p (j := j) (by rw [e]; exact h)
      | false =>
        rw [hd] at h
        have h : i < j + 1 := h
        by_cases e2 : i = j
        · subst e2; exact hd
        · exact fstB_not p (j := j) (by omega)
    · rw [decide_eq_false e] at h; exact fstB_not p h
theorem fstB_does (p : Nat → Bool) : ∀ {j : Nat}, fstB p j < j → p (fstB p j) = true
  | 0, h => absurd h (Nat.not_lt_zero _)
  | j + 1, h => by
    unfold fstB at h ⊢
    by_cases e : fstB p j = j
    · rw [decide_eq_true e] at h ⊢
      cases hd : p j with
      | true => simpa using hd
      | false => rw [hd] at h; exact absurd h (by simp)
    · rw [decide_eq_false e] at h ⊢
      have := fstB_le p j
      exact fstB_does p (by omega)
/-- A plan with the j-th store. -/
def lsH (s : Sea) (j : Nat) : Bool := (seaAt s (s.g 3 + j)).all (chM (seaAt s (s.g 3 + j)))
def lsM (s : Sea) : Nat := (61 - s.g 3).toNat
def lsN (s : Sea) : Nat := fstB (lsH s) (lsM s)
/-- LeastStore's answer and code. -/
def lsV (s : Sea) : Int := cond (okSea s) (cond (decide (lsN s < lsM s)) (s.g 3 + lsN s) 0) 0
def lsC (s : Sea) : Int := cond (okSea s) (cond (decide (lsN s < lsM s)) 0 6) 1
/-- A season's cells. -/
def Blk7 (W : World) (B : Nat) (s1 s2 : Value) (a b c d e : Int) : Prop := W.heap[B]? = some (.cells #[s1, s2, .int .i64 a, .int .i64 b, .int .i64 c, .int .i64 d, .int .i64 e] 27 (0, 0))
section
variable {W W' : World} {B : Nat} {s1 s2 : Value} {a b c d e : Int}
theorem Blk7.lt (h : Blk7 W B s1 s2 a b c d e) : B < W.heap.size := (Array.getElem?_eq_some_iff.1 h).1
theorem Blk7.below (h : Blk7 W B s1 s2 a b c d e) (hb : Below W.heap.size W W') : Blk7 W' B s1 s2 a b c d e := (hb.block B h.lt).trans h
theorem Blk7.cells (h : Blk7 W B s1 s2 a b c d e) : W.cell? ⟨B, 0, none⟩ = some s1 ∧ W.cell? ⟨B, 1, none⟩ = some s2 ∧ W.cell? ⟨B, 2, none⟩ = some (.int .i64 a) ∧ W.cell? ⟨B, 3, none⟩ = some (.int .i64 b) ∧ W.cell? ⟨B, 4, none⟩ = some (.int .i64 c) ∧ W.cell? ⟨B, 5, none⟩ = some (.int .i64 d) ∧ W.cell? ⟨B, 6, none⟩ = some (.int .i64 e) := by
  unfold Blk7 at h
  simp [World.cell?, h]
theorem Blk7.frozen (h : Blk7 W B s1 s2 a b c d e) (q : Nat) : W.frozen? ⟨B, q, none⟩ = false := by
  unfold Blk7 at h
  simp [World.frozen?, h]
theorem Blk7.set (h : Blk7 W B s1 s2 a b c d e) (c' : Int) : Blk7 (W.setCell ⟨B, 4, none⟩ (.int .i64 c')) B s1 s2 a b c' d e := by
  unfold Blk7 at h ⊢
  simp [World.setCell, Array.getElem?_modify, h]
end
section
variable {s : Sea} {w : World}
set_option maxHeartbeats 1000000 in
theorem l34_bad (o : okSea s = false) {v : Value} (hS : SeaV s w v) :
    Calls Try.prog 34 #[v] w fun e w' => e = .returned (.tuple #[.int .i64 0, .int .i64 1]) ∧ Below w.heap.size w w' := by
  have hS' := hS
  obtain ⟨s1, s2, rfl, _⟩ := hS'
  have hB : Below w.heap.size w (w.alloc (.cells #[s1, s2, .int .i64 (s.g 0), .int .i64 (s.g 1), .int .i64 (s.g 2), .int .i64 (s.g 3), .int .i64 (s.g 4)] 27)) := (Below.refl _ w).alloc (Nat.le_refl _) _
  have hS1 := hS.below hB
  go_enter Try.func34, Try.ntmps34
  go_wp2_with (go_at_call 14; refine (ok14 hS1).mono ?_; rintro e w1 ⟨rfl, hb⟩; rw [o]; obtain ⟨hc, hf⟩ := bcell hb)
  go_ret2
  exact ⟨rfl, hB.trans (hb.mono (by simp))⟩
set_option maxRecDepth 100000 in
set_option maxHeartbeats 2000000 in
theorem l34_go (o : okSea s = true) {v : Value} (hS : SeaV s w v) :
    Calls Try.prog 34 #[v] w fun e w' => e = .returned (.tuple #[.int .i64 (cond (decide (lsN s < lsM s)) (s.g 3 + lsN s) 0), .int .i64 (cond (decide (lsN s < lsM s)) 0 6)]) ∧ Below w.heap.size w w' := by
  have ok := okSea_ok o
  have hf3 := ok.first
  have hst := ok.store
  have hle : lsN s ≤ lsM s := fstB_le _ _
  have hM : (lsM s : Int) = 61 - s.g 3 := by unfold lsM; omega
  have hS' := hS
  obtain ⟨s1, s2, rfl, hs1, hs2, hl1, hl2⟩ := hS'
  have hB : Below w.heap.size w (w.alloc (.cells #[s1, s2, .int .i64 (s.g 0), .int .i64 (s.g 1), .int .i64 (s.g 2), .int .i64 (s.g 3), .int .i64 (s.g 4)] 27)) := (Below.refl _ w).alloc (Nat.le_refl _) _
  have hS1 := hS.below hB
  have hb7 : Blk7 (w.alloc (.cells #[s1, s2, .int .i64 (s.g 0), .int .i64 (s.g 1), .int .i64 (s.g 2), .int .i64 (s.g 3), .int .i64 (s.g 4)] 27)) w.heap.size s1 s2 (s.g 0) (s.g 1) (s.g 2) (s.g 3) (s.g 4) := World.alloc_heap_new w _
  go_enter Try.func34, Try.ntmps34
  go_wp2_with (go_at_call 14; refine (ok14 hS1).mono ?_; rintro e w1 ⟨rfl, hb⟩; rw [o]; have h71 := hb7.below hb; obtain ⟨y0, y1, y2, y3, y4, y5, y6⟩ := h71.cells)
  have hBa : Below w.heap.size w w1 := hB.trans (hb.mono (by simp))
  clear y0 y1 y2 y3 y4 y5 y6
  go_loopw [4] (fun tv wr => ∃ (j : Nat) (t : Int), j ≤ lsN s ∧ tv = .int .i64 (s.g 3 + (j : Int)) ∧ Blk7 wr w.heap.size s1 s2 (s.g 0) (s.g 1) t (s.g 3) (s.g 4) ∧ Below w.heap.size w wr)
    (fun tv _ => (61 - RowKit.intOf tv).toNat)
  case atStart => exact ⟨0, s.g 2, Nat.zero_le _, by simp, h71, hBa⟩
  case round =>
    obtain ⟨j, t, hj, rfl, h7, hBw⟩ := hrel
    obtain ⟨y0, y1, y2, y3, y4, y5, y6⟩ := h7.cells
    have yf := h7.frozen 4
    have h7s := h7.set (s.g 3 + (j : Int))
    have hBs : Below w.heap.size w (wr.setCell ⟨w.heap.size, 4, none⟩ (.int .i64 (s.g 3 + (j : Int)))) := hBw.setCell (p := ⟨w.heap.size, 4, none⟩) (Nat.le_refl _) _
    by_cases hlt : j < lsM s
    · have oj := seaAt_ok ok (t := s.g 3 + (j : Int)) (by omega) (by omega)
      have hSj : SeaV (seaAt s (s.g 3 + (j : Int))) (wr.setCell ⟨w.heap.size, 4, none⟩ (.int .i64 (s.g 3 + (j : Int)))) (.agg #[s1, s2, .int .i64 (s.g 0), .int .i64 (s.g 1), .int .i64 (s.g 3 + (j : Int)), .int .i64 (s.g 3), .int .i64 (s.g 4)]) := ⟨s1, s2, rfl, hs1.at hBs, hs2.at hBs, hl1, hl2⟩
      have hsz : (wr.setCell ⟨w.heap.size, 4, none⟩ (.int .i64 (s.g 3 + (j : Int)))).heap.size = wr.heap.size := size_set _ _ _
      have hwz := hBw.size
      cases hd : lsH s j with
      | true =>
        have hfj : lsN s = j := by
          by_cases e : j < lsN s
          · have := fstB_not (lsH s) e; rw [this] at hd; cases hd
          · omega
        have hd' : (seaAt s (s.g 3 + (j : Int))).all (chM (seaAt s (s.g 3 + (j : Int)))) = true := hd
        have HA : Hid (decide (lsN s < lsM s) = true) := by show _ = _; rw [hfj]; exact decide_eq_true hlt
        have HF : Hid (lsN s = j) := hfj
        clear hfj
        go_wp2_with (go_at_call 56; refine (has56 oj hSj).mono ?_; rintro e w3 ⟨rfl, hb3⟩; rw [hd'])
        go_ret2
        rw [HA.out, HF.out]
        exact ⟨rfl, hBs.trans (hb3.mono (by omega))⟩
      | false =>
        have hne : j ≠ lsN s := fun e => by
          have : lsH s (lsN s) = true := fstB_does (lsH s) (j := lsM s) (by show lsN s < lsM s; omega)
          rw [← e, hd] at this; cases this
        have hd' : (seaAt s (s.g 3 + (j : Int))).all (chM (seaAt s (s.g 3 + (j : Int)))) = false := hd
        go_wp2_with (go_at_call 56; refine (has56 oj hSj).mono ?_; rintro e w3 ⟨rfl, hb3⟩; rw [hd'])
        go_roundw
        case rel => exact ⟨j + 1, _, by omega, by go_num, h7s.below hb3, hBs.trans (hb3.mono (by omega))⟩
        case measure => simp [RowKit.intOf]; omega
    · have HA : Hid (decide (lsN s < lsM s) = false) := by show _ = _; exact decide_eq_false (by omega)
      have hgt : ¬ s.g 3 + (j : Int) ≤ 60 := by omega
      go_wp2
      go_ret2
      rw [HA.out]
      exact ⟨rfl, hBw⟩
theorem ls34 {v : Value} (hS : SeaV s w v) : Calls Try.prog 34 #[v] w fun e w' => e = .returned (.tuple #[.int .i64 (lsV s), .int .i64 (lsC s)]) ∧ Below w.heap.size w w' := by
  unfold lsV lsC
  cases o : okSea s with
  | false => exact l34_bad o hS
  | true => exact l34_go o hS
end
end Go.Proofs.Ytblbjmdeaojogaa.sea
