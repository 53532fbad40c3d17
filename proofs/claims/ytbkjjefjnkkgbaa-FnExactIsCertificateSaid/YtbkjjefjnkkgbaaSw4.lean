import Derived.Test.YtbkjjefjnkkgbaaSw3
namespace Go.Proofs.Ytbkjjefjnkkgbaa.sea
open Go Go.Ab Go.Proofs Go.RowKit Go.Shelf
attribute [local go_sem] Oper.semAt_some
set_option linter.unusedVariables false
section
variable {s : Sea} {w : World} {gp : Nat → Int}
theorem SeaP.cells {b off : Nat} (h : SeaP s w b off) : ∃ s1 s2 : Value, SlV s.gn w.heap.size w s1 s.n ∧ SlV s.gm w.heap.size w s2 s.m ∧ ∀ (q : Nat) (u : Value), [s1, s2, Value.int .i64 (s.g 0), .int .i64 (s.g 1), .int .i64 (s.g 2), .int .i64 (s.g 3), .int .i64 (s.g 4)][q]? = some u → w.cell? ⟨b, off + q, none⟩ = some u := by
  obtain ⟨hb, us, ⟨s1, s2, e, h1, h2, _⟩, hc⟩ := h
  have e : us = [s1, s2, .int .i64 (s.g 0), .int .i64 (s.g 1), .int .i64 (s.g 2), .int .i64 (s.g 3), .int .i64 (s.g 4)] := by injection e with e; injection e
  subst e
  exact ⟨s1, s2, h1, h2, hc⟩
theorem row_below {X Y : World} {n₀ k : Nat} {v : Value} {f : List Value} (hr : X.ownsRow n₀ 2 1 v k f) (h : Below X.heap.size X Y) : Y.ownsRow n₀ 2 1 v k f := row_keeps hr (grown_of_below h) (fun r e => by cases e)
theorem row_lit (W : World) {base : Nat} (h : base ≤ W.heap.size) : (W.alloc (.cells #[] 2)).ownsRow base 2 1 (.slice (some ⟨W.heap.size, 0, none⟩) 0 0) 0 [] := by
  refine ⟨rfl, .inr ⟨W.heap.size, 0, #[], rfl, h, World.alloc_heap_new W _, Nat.le_refl _, by unfold maxLen; omega, rfl, rfl⟩⟩
theorem SlAns.lit {w W : World} {gd : Nat → Int} {c : Int} (hb : Below w.heap.size w W) : SlAns w 0 gd c (.returned (.tuple #[.slice (some ⟨W.heap.size, 0, none⟩) 0 0, .int .i64 c])) (W.alloc (.cells #[] 2)) :=
  ⟨_, rfl, row_lit W hb.size, hb.alloc hb.size _⟩
set_option maxHeartbeats 1000000 in
theorem s46_bad (o : okSea s = false) (b : Nat) (hP : SeaP s w b 0) (pv : Value) :
    Calls Try.prog 52 #[.pointer (some ⟨b, 0, none⟩), pv] w (SlAns w 0 (fun k => s.st (chP gp) (k + 1)) 1) := by
  go_enter Try.func52, Try.ntmps52
  go_wp2_with (go_at_call 42; refine (ok36 hP).mono ?_; rintro e w1 ⟨rfl, hb⟩; rw [o])
  go_ret2
  exact SlAns.lit hb
theorem bnd_any' {s : Sea} {gp : Nat → Int} (p : Nat) (a : Option Addr) (cap : Nat) (hle : p ≤ 9223372036854775807) (w : World) (hE : SlV gp w.heap.size w (.slice a p cap) p) :
    Calls Try.prog 59 #[.slice a p cap, .int .i64 (s.g 0)] w fun e w' => e = .returned (.bool (planB s p gp)) ∧ w = w' := bnd_any (s.g 0) p w.heap.size a cap hle w hE
set_option maxHeartbeats 1000000 in
theorem s46_len (o : okSea s = true) (b : Nat) (hP : SeaP s w b 0) {pv : Value} {p : Nat} (hp : SlV gp w.heap.size w pv p) (hle : p ≤ 9223372036854775807) (hl : p ≠ s.n) :
    Calls Try.prog 52 #[.pointer (some ⟨b, 0, none⟩), pv] w (SlAns w 0 (fun k => s.st (chP gp) (k + 1)) 2) := by
  have n2 := (okSea_ok o).n2
  have hbl := hP.1
  obtain ⟨s1, s2, hs1, hs2, hcs⟩ := hP.cells
  obtain ⟨a1, c1, rfl⟩ := hs1.slice
  have q0 := hcs 0 _ rfl
  have q2 := hcs 2 _ rfl
  have q5 := hcs 5 _ rfl
  simp only [Nat.zero_add] at q0 q2 q5
  obtain ⟨a, c, rfl⟩ := hp.slice
  go_enter Try.func52, Try.ntmps52
  go_wp2_with (first
    | (go_at_call 42; refine (ok36 hP).mono ?_; rintro e w1 ⟨rfl, hb⟩; rw [o]; obtain ⟨hc, hf⟩ := bcell hb; have hp2 := hp.at hb; have hbz : b < w1.heap.size := Nat.lt_of_lt_of_le hbl hb.size))
  go_ret2
  exact SlAns.lit hb
set_option maxHeartbeats 1000000 in
theorem s46_out (o : okSea s = true) (b : Nat) (hP : SeaP s w b 0) {pv : Value} {p : Nat} (hp : SlV gp w.heap.size w pv p) (hle : p ≤ 9223372036854775807) (hl : p = s.n) (hB2 : planB s p gp = false) :
    Calls Try.prog 52 #[.pointer (some ⟨b, 0, none⟩), pv] w (SlAns w 0 (fun k => s.st (chP gp) (k + 1)) 2) := by
  have n2 := (okSea_ok o).n2
  subst hl
  have hbl := hP.1
  obtain ⟨s1, s2, hs1, hs2, hcs⟩ := hP.cells
  obtain ⟨a1, c1, rfl⟩ := hs1.slice
  have q0 := hcs 0 _ rfl
  have q2 := hcs 2 _ rfl
  have q5 := hcs 5 _ rfl
  simp only [Nat.zero_add] at q0 q2 q5
  obtain ⟨a, c, rfl⟩ := hp.slice
  go_enter Try.func52, Try.ntmps52
  go_wp2_with (first
    | (go_at_call 42; refine (ok36 hP).mono ?_; rintro e w1 ⟨rfl, hb⟩; rw [o]; obtain ⟨hc, hf⟩ := bcell hb; have hp2 := hp.at hb; have hbz : b < w1.heap.size := Nat.lt_of_lt_of_le hbl hb.size)
    | (go_at_call 59; refine (bnd_any' (s := s) _ _ _ hle _ hp2).mono ?_; rintro e w' ⟨rfl, rfl⟩; rw [hB2]))
  go_ret2
  exact SlAns.lit hb
theorem own_info : ∃ i0 : TypeInfo, Try.prog.info? 2 = some i0 ∧ i0.zero = some (.int .i64 0) ∧ i0.size = 1 ∧ i0.bytes = 8 := info_parts Try.info2
set_option maxRecDepth 100000 in
set_option maxHeartbeats 2000000 in
theorem s46_go (o : okSea s = true) (b : Nat) (hP : SeaP s w b 0) {pv : Value} {p : Nat} (hp : SlV gp w.heap.size w pv p) (hle : p ≤ 9223372036854775807) (hl : p = s.n) (hB2 : planB s p gp = true) :
    Calls Try.prog 52 #[.pointer (some ⟨b, 0, none⟩), pv] w (SlAns w (cond (s.all (chP gp)) s.n 0) (fun k => s.st (chP gp) (k + 1)) (cond (s.all (chP gp)) 0 4)) := by
  have ok := okSea_ok o
  have n1 := ok.n1
  have n2 := ok.n2
  have hfit : s.Fits (chP gp) := fitsP p (by unfold planOk; rw [decide_eq_true hl, hB2]; rfl)
  subst hl
  obtain ⟨i0, hi, hz0, hz1, hz2⟩ := own_info
  have hbl := hP.1
  obtain ⟨s1, s2, hs1, hs2, hcs⟩ := hP.cells
  obtain ⟨a1, c1, rfl⟩ := hs1.slice
  have q0 := hcs 0 _ rfl
  have q2 := hcs 2 _ rfl
  have q5 := hcs 5 _ rfl
  simp only [Nat.zero_add] at q0 q2 q5
  obtain ⟨a, c, rfl⟩ := hp.slice
  go_enter Try.func52, Try.ntmps52
  go_wp2_with (first
    | (go_at_call 42; refine (ok36 hP).mono ?_; rintro e w1 ⟨rfl, hb⟩; rw [o]; obtain ⟨hc, hf⟩ := bcell hb; have hp2 := hp.at hb; have hbz : b < w1.heap.size := Nat.lt_of_lt_of_le hbl hb.size)
    | (go_at_call 59; refine (bnd_any' (s := s) _ _ _ hle _ hp2).mono ?_; rintro e w' ⟨rfl, rfl⟩; rw [hB2]))
  have hB1 : Below w.heap.size w (w1.alloc (.cells #[] 2)) := hb.alloc hb.size _
  have hP1 := hP.below hB1
  have hrow0 := row_lit w1 hb.size
  have hzz : w.heap.size ≤ w1.heap.size := hb.size
  rcases hp with ⟨a', e, e0⟩ | ⟨bp, off, cap, e, hcap, hE⟩
  · exact absurd e0 (by omega)
  cases e
  clear hp2
  go_loopw [6, 7, 8] (fun ov av kv wr => ∃ (k : Nat), k ≤ s.n ∧ kv = .int .i64 (k : Int) ∧ av = .int .i64 (s.st (chP gp) k) ∧ wr.ownsRow w.heap.size 2 1 ov k (intsL (fun j => s.st (chP gp) (j + 1)) k) ∧ (∀ j, j < k → s.dn (chP gp) j = true) ∧ Below w.heap.size w wr)
    (fun _ _ kv _ => s.n - (RowKit.intOf kv).toNat)
  case atStart => exact ⟨0, Nat.zero_le _, rfl, rfl, hrow0, fun j h => absurd h (by omega), hB1⟩
  case round =>
    obtain ⟨k, hk, rfl, rfl, hrow, hno, hBw⟩ := hrel
    by_cases hlt : k < s.n
    · have qk := (hBw.cell (p := ⟨bp, off + k, none⟩) hE.1).trans (hE.2 k hlt)
      have hPw := hP.below hBw
      have hst := ok.st_bd hno
      have hlg : 0 ≤ gp k ∧ gp k ≤ s.g 0 := hfit k (s.st (chP gp) k) hlt hst.1 hst.2
      have hwz : w.heap.size ≤ wr.heap.size := hBw.size
      cases hd : s.does k (s.st (chP gp) k) (gp k) with
      | false =>
        have hall : s.all (chP gp) = false := by
          cases ha : s.all (chP gp) with
          | false => rfl
          | true => have := allB_true ha k hlt; unfold Sea.dn Sea.lg at this; rw [hd] at this; cases this
        go_wp2_with (go_at_call 49; refine (after43 ok hPw hlt hst hlg).mono ?_; rintro e w3 ⟨rfl, hb3⟩; rw [hd])
        go_ret2
        rw [hall]
        exact SlAns.lit (hBw.trans (hb3.mono hwz))
      | true =>
        have hnx := (ok.left_bd (of_decide_eq_true hd)).1
        have hnx : 0 ≤ s.next k (s.st (chP gp) k) (gp k) := hnx
        go_wp2_with (first
          | (go_at_call 49; refine (after43 ok hPw hlt hst hlg).mono ?_; rintro e w3 ⟨rfl, hb3⟩; rw [hd]; have hr3 := row_below hrow hb3; have hz3 := hb3.size)
          | (at_builtin; refine wpList_append_own _ rfl _ _ 22 rfl w.heap.size 2 i0 (.int .i64 0) 1 8 Try.underlying22 hi hz0 hz1 hz2 rfl (by decide) _ _ _ rfl (hr3.alloc _) ⟨w3.heap.size, 0, none⟩ 1 1 [.int .i64 (s.next k (s.st (chP gp) k) (gp k))] rfl rfl (cell_one_new _ _ _) (by simp [Value.oneCell']) (by unfold maxLen; omega) (by omega) (by simp <;> omega) ?_; intro v' w4 o4 g4 _))
        go_roundw
        case rel => exact ⟨k + 1, by omega, by go_num, rfl, by rw [intsL_succ]; exact o4, fun j hj => by
          by_cases e : j = k
          · subst e; exact hd
          · exact hno j (by omega), (hBw.trans ((hb3.mono hwz).alloc (by omega) _)).grown g4 (by simp <;> omega) (fun q e => (hr3.lt q e).1)⟩
        case measure => simp [RowKit.intOf]; omega
    · obtain rfl : k = s.n := by omega
      have hall : s.all (chP gp) = true := allB_all hno
      go_wp2
      go_ret2
      rw [hall]
      exact ⟨_, rfl, hrow, hBw⟩
theorem s46 (b : Nat) (hP : SeaP s w b 0) {pv : Value} {p : Nat} (hp : SlV gp w.heap.size w pv p) (hle : p ≤ 9223372036854775807) :
    Calls Try.prog 52 #[.pointer (some ⟨b, 0, none⟩), pv] w (SlAns w (soN s p gp) (fun k => s.st (chP gp) (k + 1)) (soC s p gp)) := by
  unfold soC soN planOk
  cases o : okSea s with
  | false => exact s46_bad o b hP pv
  | true =>
    by_cases hl : p = s.n
    · rw [decide_eq_true hl]
      cases hB2 : planB s p gp with
      | false => exact s46_out o b hP hp hle hl hB2
      | true => exact s46_go o b hP hp hle hl hB2
    · rw [decide_eq_false hl]
      exact s46_len o b hP hp hle hl
theorem SlAns.up {w W w' : World} {n : Nat} {gd : Nat → Int} {c : Int} {e : Ending} (hb : Below w.heap.size w W) : SlAns W n gd c e w' → SlAns w n gd c e w'
  | ⟨sv, h1, h2, h3⟩ => ⟨sv, h1, row_base h2 hb.size, hb.trans (h3.mono hb.size)⟩
theorem s20 {v pv : Value} {p : Nat} (hS : SeaV s w v) (hp : SlV gp w.heap.size w pv p) (hle : p ≤ 9223372036854775807) :
    Calls Try.prog 21 #[v, pv] w (SlAns w (soN s p gp) (fun k => s.st (chP gp) (k + 1)) (soC s p gp)) := by
  have hS' := hS
  obtain ⟨s1, s2, rfl, _⟩ := hS'
  have hB : Below w.heap.size w (w.alloc (.cells #[s1, s2, .int .i64 (s.g 0), .int .i64 (s.g 1), .int .i64 (s.g 2), .int .i64 (s.g 3), .int .i64 (s.g 4)] 27)) := (Below.refl _ w).alloc (Nat.le_refl _) _
  have hP := SeaP.box 27 hS
  have hp1 := hp.at hB
  go_enter Try.func21, Try.ntmps21
  go_wp2_with (go_at_call 52; refine (s46 _ hP hp1 hle).mono ?_; rintro e w' ⟨sv, rfl, hr, hb⟩)
  go_ret2
  exact SlAns.up hB ⟨_, rfl, hr, hb⟩
end
end Go.Proofs.Ytbkjjefjnkkgbaa.sea
