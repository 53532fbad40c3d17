import Derived.Test.YtbkjjefjnkkgbaaTk6
namespace Go.Proofs.Ytbkjjefjnkkgbaa.sea
open Go Go.Ab Go.Proofs Go.RowKit Go.Shelf
attribute [local go_sem] Oper.semAt_some
set_option linter.unusedVariables false
section
variable {s : Sea} {w : World} {T : Tab}
/-- What the search for a flaw answers. -/
def flV : Option (Nat × Nat × Nat) → Array Value
  | none => #[.int .i64 0, .int .i64 0, .int .i64 0, .bool false]
  | some (k, i, l) => #[.int .i64 (k : Int), .int .i64 (i : Int), .int .i64 (l : Int), .bool true]
theorem results_tmp4 {fn : Func} {t u v x : Tmp} (h : fn.results = #[.tmp t, .tmp u, .tmp v, .tmp x]) (tmps : Array Value) (P : Program) (w : World) :
    (results fn tmps).run P w = .ok (.tuple #[tmps.getD t undef, tmps.getD u undef, tmps.getD v undef, tmps.getD x undef]) w := by
  simp [results, h]
theorem moT_eq (o : s.Ok) : (moT s : Int) = s.g 0 + 1 := by have := o.most; unfold moT; omega
theorem wdS_eq (o : s.Ok) : (wdS s : Int) = s.g 2 + 1 := by have := o.store; unfold wdS; omega
/-- A number of a table of the form. -/
theorem tabCell {W : World} {v : Value} (h : TabV T W v) (o : s.Ok) (hf : formB s T = true) : ∃ b off cap, v = .slice (some ⟨b, off, none⟩) T.n cap ∧ T.n = s.n + 1 ∧ b < W.heap.size ∧ ∀ k, k ≤ s.n → ∃ rb ro rc, W.cell? ⟨b, off + k, none⟩ = some (.slice (some ⟨rb, ro, none⟩) (wdS s) rc) ∧ rb < W.heap.size ∧ ∀ i, i < wdS s → W.cell? ⟨rb, ro + i, none⟩ = some (.int .i64 (T.e k i)) := by
  obtain ⟨h1, h2⟩ := formB_true hf
  have hst := o.store
  obtain ⟨b, off, cap, e, hb, _⟩ := tabAt h (k := 0) (by omega)
  refine ⟨b, off, cap, e, h1, hb, fun k hk => ?_⟩
  obtain ⟨b', off', cap', e', hb', a, c, hc, hR⟩ := tabAt h (k := k) (by omega)
  rw [e] at e'
  cases e'
  have hw : T.w k = wdS s := by have := (h2 k hk).1; unfold wdS; omega
  obtain ⟨rb, ro, rfl, hrb, hcell⟩ := hR (by rw [hw]; unfold wdS; omega)
  rw [hw] at hc hcell
  exact ⟨rb, ro, c, hc, hrb, hcell⟩
set_option maxRecDepth 100000 in
set_option maxHeartbeats 8000000 in
theorem flaw64 (o : s.Ok) (b : Nat) (hP : SeaP s w b 0) {v : Value} (hT : TabV T w v) (hf : formB s T = true) (hmx : ∀ k, k ≤ s.n → ∀ i, i < wdS s → T.e k i ≤ 9223372036854775807) :
    Calls Try.prog 64 #[.pointer (some ⟨b, 0, none⟩), v] w fun e w' => ∃ r, e = .returned (.tuple (flV r)) ∧ FlawIs s T r ∧ Below w.heap.size w w' := by
  have n1 := o.n1
  have n2 := o.n2
  have hst := o.store
  have hmo := o.most
  have hmS := moT_eq o
  have hwd := wdS_eq o
  have hbl := hP.1
  obtain ⟨s1, s2, hs1, hs2, hcs⟩ := hP.cells
  obtain ⟨a1, c1, rfl⟩ := hs1.slice
  have q0 := hcs 0 _ rfl
  have q1 := hcs 1 _ rfl
  have q2 := hcs 2 _ rfl
  have q4 := hcs 4 _ rfl
  simp only [Nat.zero_add] at q0 q1 q2 q4
  clear hcs
  rcases hs2 with ⟨a', e, e0⟩ | ⟨bm, om, cm, rfl, hcm, hE⟩
  · exact absurd e0 (by rw [o.m]; omega)
  obtain ⟨bt, ot, ct, rfl, hTn, hbt, hrows⟩ := tabCell hT o hf
  obtain ⟨_, hfv⟩ := formB_true hf
  rw [hTn]
  go_enter Try.func64, Try.ntmps64
  go_wp2
  go_loopw [8] (fun kv wr => ∃ (k : Nat), k ≤ s.n ∧ kv = .int .i64 (k : Int) ∧ (∀ k', k' < k → ∀ i', i' < wdS s → ∀ l', l' < moT s → badB s T k' i' l' = false) ∧ Below w.heap.size w wr)
    (fun kv _ => s.n - (RowKit.intOf kv).toNat)
  case atStart => exact ⟨0, Nat.zero_le _, rfl, fun j h => absurd h (by omega), Below.refl _ _⟩
  case round =>
    obtain ⟨k, hk, rfl, hok1, hB1⟩ := hrel
    obtain ⟨w1, rfl⟩ : ∃ w1 : World, w1 = wr := ⟨_, rfl⟩
    have x0 := (hB1.cell (p := ⟨b, 0, none⟩) hbl).trans q0
    by_cases hlt : k < s.n
    · go_wp2
      go_loopw [9] (fun iv wr => ∃ (i : Nat), i ≤ wdS s ∧ iv = .int .i64 (i : Int) ∧ (∀ i', i' < i → ∀ l', l' < moT s → badB s T k i' l' = false) ∧ Below w.heap.size w wr)
        (fun iv _ => wdS s - (RowKit.intOf iv).toNat)
      case atStart => exact ⟨0, Nat.zero_le _, rfl, fun j h => absurd h (by omega), hB1⟩
      case round =>
        obtain ⟨i, hi, rfl, hok2, hB2⟩ := hrel
        obtain ⟨w2, rfl⟩ : ∃ w2 : World, w2 = wr := ⟨_, rfl⟩
        have x4 := (hB2.cell (p := ⟨b, 4, none⟩) hbl).trans q4
        by_cases hil : i < wdS s
        · have hle : (i : Int) ≤ s.g 2 := by omega
          go_wp2
          go_loopw [10] (fun lv wr => ∃ (l : Nat), l ≤ moT s ∧ lv = .int .i64 (l : Int) ∧ (∀ l', l' < l → badB s T k i l' = false) ∧ Below w.heap.size w wr)
            (fun lv _ => moT s - (RowKit.intOf lv).toNat)
          case atStart => exact ⟨0, Nat.zero_le _, rfl, fun j h => absurd h (by omega), hB2⟩
          case round =>
            obtain ⟨l, hl, rfl, hok3, hB3⟩ := hrel
            have y2 := (hB3.cell (p := ⟨b, 2, none⟩) hbl).trans q2
            by_cases hll : l < moT s
            · have hlg : (l : Int) ≤ s.g 0 := by omega
              have hP3 := hP.below hB3
              have hz3 := hB3.size
              cases hd : s.does k i l with
              | false =>
                have hbad : badB s T k i l = false := by unfold badB; rw [hd]; rfl
                go_wp2_with (go_at_call 49; refine (after43 o hP3 hlt ⟨by omega, hle⟩ ⟨by omega, hlg⟩).mono ?_; rintro e w3 ⟨rfl, hb3⟩; rw [hd])
                go_roundw
                case rel => exact ⟨l + 1, by omega, by go_num, fun j hj => by
                  by_cases e : j = l
                  · subst e; exact hbad
                  · exact hok3 j (by omega), (hB3.trans (hb3.mono hz3))⟩
                case measure => simp [RowKit.intOf]; omega
              | true =>
                have hnx := o.left_bd (of_decide_eq_true hd)
                have hnx : 0 ≤ s.next k i l ∧ s.next k i l ≤ s.g 2 := hnx
                obtain ⟨y, hy⟩ : ∃ y : Nat, s.next k i l = (y : Int) := ⟨(s.next k i l).toNat, by omega⟩
                have hyw : y < wdS s := by omega
                obtain ⟨rn, on_, cn, qn, hrn, hcn⟩ := hrows (k + 1) (by omega)
                obtain ⟨rk, ok_, ck_, qk, hrk, hck_⟩ := hrows k hk
                have qy := hcn y hyw
                have qe := hck_ i hil
                have hmm : k < s.m := by rw [o.m]; exact hlt
                have qp := hE.2 k hmm
                have hyt : (s.next k i l).toNat = y := by omega
                have hbdef : badB s T k i l = cond (decide (T.e (k + 1) y = -1)) false (cond (decide (T.e k i = -1)) true (decide (T.e (k + 1) y < T.e k i - s.gm k * l))) := by unfold badB; rw [hd, hyt]; rfl
                have hwk := (hfv k hk).1
                have hge : -1 ≤ T.e k i := ((hfv k hk).2 i (by omega)).1
                have hle2 := hmx k hk i hil
                have hone : 0 ≤ s.gm k * (l : Int) ∧ s.gm k * (l : Int) ≤ 20000 := by
                  have hp := o.gm k hlt
                  exact ⟨Int.mul_nonneg hp.1 (by omega), Int.le_trans (Int.mul_le_mul_of_nonneg_right hp.2 (by omega)) (Int.le_trans (Int.mul_le_mul_of_nonneg_left (show (l : Int) ≤ 20 by omega) (by omega)) (by omega))⟩
                obtain ⟨G, hG⟩ : ∃ G, Hid (G = T.e (k + 1) y) := ⟨_, rfl⟩
                obtain ⟨E, hEE⟩ : ∃ E, Hid (E = T.e k i) := ⟨_, rfl⟩
                rw [← hG.out] at qy hbdef
                rw [← hEE.out] at qe hbdef hge hle2
                clear hnx hyt hwk hcn hck_
                by_cases hG1 : G = -1
                · subst hG1
                  have hbad : badB s T k i l = false := hbdef
                  clear hbdef
                  go_wp2_with (go_at_call 49; refine (after43 o hP3 hlt ⟨by omega, hle⟩ ⟨by omega, hlg⟩).mono ?_; rintro e w3 ⟨rfl, hb3⟩; rw [hd, hy]; have z3 := (hB3.trans (hb3.mono hz3)); have c1 := (z3.cell (p := ⟨bt, ot + (k + 1), none⟩) hbt).trans qn; have c2 := (z3.cell (p := ⟨rn, on_ + y, none⟩) hrn).trans qy)
                  go_roundw
                  case rel => exact ⟨l + 1, by omega, by go_num, fun j hj => by
                    by_cases e : j = l
                    · subst e; exact hbad
                    · exact hok3 j (by omega), (hB3.trans (hb3.mono hz3))⟩
                  case measure => simp [RowKit.intOf]; omega
                · have hG2 : (G == (-1 : Int)) = false := beq_eq_false_iff_ne.2 hG1
                  have e1 : IntKind.i64.wrap (s.gm k * (l : Int)) = s.gm k * (l : Int) := IntWalk.i64_in _ (by omega)
                  have e2 : IntKind.i64.wrap (E - s.gm k * (l : Int)) = E - s.gm k * (l : Int) := IntWalk.i64_in _ (by omega)
                  by_cases hE1 : E = -1
                  · have hbad : badB s T k i l = true := by rw [hbdef, decide_eq_false hG1, decide_eq_true hE1]; rfl
                    have hE2 : (E == (-1 : Int)) = true := beq_iff_eq.2 hE1
                    subst hE1
                    clear hbdef hE2 e2
                    go_wp2_with (go_at_call 49; refine (after43 o hP3 hlt ⟨by omega, hle⟩ ⟨by omega, hlg⟩).mono ?_; rintro e w3 ⟨rfl, hb3⟩; rw [hd, hy]; have z3 := (hB3.trans (hb3.mono hz3)); have c1 := (z3.cell (p := ⟨bt, ot + (k + 1), none⟩) hbt).trans qn; have c2 := (z3.cell (p := ⟨rn, on_ + y, none⟩) hrn).trans qy; have c3 := (z3.cell (p := ⟨bt, ot + k, none⟩) hbt).trans qk; have c4 := (z3.cell (p := ⟨rk, ok_ + i, none⟩) hrk).trans qe; have c5 := (z3.cell (p := ⟨bm, om + k, none⟩) hE.1).trans qp; have c6 := (z3.cell (p := ⟨b, 1, none⟩) hbl).trans q1)
                    go_region
                    go_wp2
                    (try simp only [Exit.inBlock, Exit.then])
                    refine bodyPost_ret (results_tmp4 rfl _ _ _) rfl ?_
                    exact ⟨some (k, i, l), rfl, ⟨⟨hlt, hil, hll, hbad⟩, hok1, hok2, hok3⟩, (hB3.trans (hb3.mono hz3)).drew⟩
                  · have hE2 : (E == (-1 : Int)) = false := beq_eq_false_iff_ne.2 hE1
                    by_cases hgt : G < E - s.gm k * (l : Int)
                    · have hbad : badB s T k i l = true := by rw [hbdef, decide_eq_false hG1, decide_eq_false hE1, decide_eq_true hgt]; rfl
                      clear hbdef
                      go_wp2_with (go_at_call 49; refine (after43 o hP3 hlt ⟨by omega, hle⟩ ⟨by omega, hlg⟩).mono ?_; rintro e w3 ⟨rfl, hb3⟩; rw [hd, hy]; have z3 := (hB3.trans (hb3.mono hz3)); have c1 := (z3.cell (p := ⟨bt, ot + (k + 1), none⟩) hbt).trans qn; have c2 := (z3.cell (p := ⟨rn, on_ + y, none⟩) hrn).trans qy; have c3 := (z3.cell (p := ⟨bt, ot + k, none⟩) hbt).trans qk; have c4 := (z3.cell (p := ⟨rk, ok_ + i, none⟩) hrk).trans qe; have c5 := (z3.cell (p := ⟨bm, om + k, none⟩) hE.1).trans qp; have c6 := (z3.cell (p := ⟨b, 1, none⟩) hbl).trans q1)
                      go_region
                      go_wp2
                      (try simp only [Exit.inBlock, Exit.then])
                      refine bodyPost_ret (results_tmp4 rfl _ _ _) rfl ?_
                      exact ⟨some (k, i, l), rfl, ⟨⟨hlt, hil, hll, hbad⟩, hok1, hok2, hok3⟩, (hB3.trans (hb3.mono hz3)).drew⟩
                    · have hbad : badB s T k i l = false := by rw [hbdef, decide_eq_false hG1, decide_eq_false hE1, decide_eq_false hgt]; rfl
                      clear hbdef
                      go_wp2_with (go_at_call 49; refine (after43 o hP3 hlt ⟨by omega, hle⟩ ⟨by omega, hlg⟩).mono ?_; rintro e w3 ⟨rfl, hb3⟩; rw [hd, hy]; have z3 := (hB3.trans (hb3.mono hz3)); have c1 := (z3.cell (p := ⟨bt, ot + (k + 1), none⟩) hbt).trans qn; have c2 := (z3.cell (p := ⟨rn, on_ + y, none⟩) hrn).trans qy; have c3 := (z3.cell (p := ⟨bt, ot + k, none⟩) hbt).trans qk; have c4 := (z3.cell (p := ⟨rk, ok_ + i, none⟩) hrk).trans qe; have c5 := (z3.cell (p := ⟨bm, om + k, none⟩) hE.1).trans qp; have c6 := (z3.cell (p := ⟨b, 1, none⟩) hbl).trans q1)
                      go_region
                      go_wp2
                      go_roundw
                      case rel => exact ⟨l + 1, by omega, by go_num, fun j hj => by
                        by_cases e : j = l
                        · subst e; exact hbad
                        · exact hok3 j (by omega), (hB3.trans (hb3.mono hz3)).drew⟩
                      case measure => simp [RowKit.intOf]; omega
            · obtain rfl : l = moT s := by omega
              have hgt : ¬ ((moT s : Nat) : Int) ≤ s.g 0 := by omega
              go_wp2
              go_roundw
              case rel => exact ⟨i + 1, by omega, by go_num, fun j hj => by
                by_cases e : j = i
                · subst e; exact hok3
                · exact hok2 j (by omega), hB3⟩
              case measure => simp [RowKit.intOf]; omega
        · obtain rfl : i = wdS s := by omega
          have hgt : ¬ ((wdS s : Nat) : Int) ≤ s.g 2 := by omega
          go_wp2
          go_roundw
          case rel => exact ⟨k + 1, by omega, by go_num, fun j hj => by
            by_cases e : j = k
            · subst e; exact hok2
            · exact hok1 j (by omega), hB2⟩
          case measure => simp [RowKit.intOf]; omega
    · obtain rfl : k = s.n := by omega
      go_wp2
      (try simp only [Exit.inBlock, Exit.then])
      refine bodyPost_ret (results_tmp4 rfl _ _ _) rfl ?_
      exact ⟨none, rfl, hok1, hB1⟩
end
end Go.Proofs.Ytbkjjefjnkkgbaa.sea
