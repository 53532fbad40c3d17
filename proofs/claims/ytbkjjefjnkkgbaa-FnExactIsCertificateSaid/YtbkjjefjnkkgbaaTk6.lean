import Derived.Test.YtbkjjefjnkkgbaaTk5
import Derived.Test.YtbkjjefjnkkgbaaSx1
namespace Go.Proofs.Ytbkjjefjnkkgbaa.sea
open Go Go.Ab Go.Proofs Go.RowKit Go.Shelf
attribute [local go_sem] Oper.semAt_some
set_option linter.unusedVariables false
section
variable {s : Sea} {w : World} {T : Tab}
def celB (s : Sea) (T : Tab) (k i : Nat) : Bool := cond (decide (-1 ≤ T.e k i)) (cond (decide (k = s.n)) (decide (T.e k i = 0)) true) false
def rowB (s : Sea) (T : Tab) (k : Nat) : Bool := cond (decide ((T.w k : Int) = s.g 2 + 1)) (allB (T.w k) (celB s T k)) false
theorem formB_eq (s : Sea) (T : Tab) : formB s T = cond (decide (T.n = s.n + 1)) (allB T.n (rowB s T)) false := rfl
theorem allB_no {n : Nat} {p : Nat → Bool} {i : Nat} (hi : i < n) (h : p i = false) : allB n p = false := by
  cases ha : allB n p with
  | false => rfl
  | true => rw [allB_true ha i hi] at h; cases h
theorem rowB_no {k i : Nat} (hi : i < T.w k) (h : celB s T k i = false) : rowB s T k = false := by
  unfold rowB
  rw [allB_no hi h]
  cases decide ((T.w k : Int) = s.g 2 + 1) <;> rfl
theorem formB_no {k : Nat} (hk : k < T.n) (h : rowB s T k = false) : formB s T = false := by
  rw [formB_eq, allB_no hk h]
  cases decide (T.n = s.n + 1) <;> rfl
theorem tabAt {W : World} {v : Value} (h : TabV T W v) {k : Nat} (hk : k < T.n) : ∃ b off cap, v = .slice (some ⟨b, off, none⟩) T.n cap ∧ b < W.heap.size ∧ ∃ a c, W.cell? ⟨b, off + k, none⟩ = some (.slice a (T.w k) c) ∧ (0 < T.w k → ∃ rb ro, a = some ⟨rb, ro, none⟩ ∧ rb < W.heap.size ∧ ∀ i, i < T.w k → W.cell? ⟨rb, ro + i, none⟩ = some (.int .i64 (T.e k i))) := by
  rcases h with ⟨_, e, e0⟩ | ⟨b, off, cap, e, hcap, hb, hE⟩
  · omega
  · obtain ⟨u, h1, h2⟩ := hE k hk
    rcases h2 with ⟨a, e2, e0⟩ | ⟨rb, ro, rc, e2, hrc, hR⟩
    · exact ⟨b, off, cap, e, hb, a, 0, by rw [h1, e2, e0], fun h => absurd h (by omega)⟩
    · exact ⟨b, off, cap, e, hb, _, rc, by rw [h1, e2], fun _ => ⟨rb, ro, rfl, hR.1, hR.2⟩⟩
set_option maxRecDepth 100000 in
set_option maxHeartbeats 4000000 in
theorem form63 (o : s.Ok) (b : Nat) (hP : SeaP s w b 0) {v : Value} (hT : TabV T w v) (hTn : T.n ≤ 9223372036854775807) (hw : ∀ j, j < T.n → T.w j ≤ 9223372036854775807) :
    Calls Try.prog 63 #[.pointer (some ⟨b, 0, none⟩), v] w fun e w' => e = .returned (.bool (formB s T)) ∧ Below w.heap.size w w' := by
  have n2 := o.n2
  have hst := o.store
  have hbl := hP.1
  obtain ⟨s1, s2, hs1, hs2, hcs⟩ := hP.cells
  obtain ⟨a1, c1, rfl⟩ := hs1.slice
  have q0 := hcs 0 _ rfl
  have q4 := hcs 4 _ rfl
  simp only [Nat.zero_add] at q0 q4
  clear hcs
  obtain ⟨ta, tc, rfl⟩ := hT.slice
  by_cases hn : T.n = s.n + 1
  · have hni : (T.n : Int) = (s.n : Int) + 1 := by omega
    have HF : Hid (formB s T = allB T.n (rowB s T)) := by show _ = _; rw [formB_eq, decide_eq_true hn]; rfl
    go_enter Try.func63, Try.ntmps63
    go_wp2
    go_loopw [5] (fun kv wr => ∃ (k : Nat), k ≤ T.n ∧ kv = .int .i64 (k : Int) ∧ (∀ j, j < k → rowB s T j = true) ∧ Below w.heap.size w wr)
      (fun kv _ => T.n - (RowKit.intOf kv).toNat)
    case atStart => exact ⟨0, Nat.zero_le _, rfl, fun j h => absurd h (by omega), Below.refl _ _⟩
    case round =>
      obtain ⟨k, hk, rfl, hrows, hB⟩ := hrel
      obtain ⟨wo, rfl⟩ : ∃ wo : World, wo = wr := ⟨_, rfl⟩
      by_cases hlt : k < T.n
      · obtain ⟨bt, ot, ct, e, hbt, ra, rc, qk, hR⟩ := tabAt hT hlt
        cases e
        have qk0 := qk
        have qk := (hB.cell (p := ⟨bt, ot + k, none⟩) hbt).trans qk
        have x4 := (hB.cell (p := ⟨b, 4, none⟩) hbl).trans q4
        have hwk := hw k hlt
        by_cases hlen : (T.w k : Int) = s.g 2 + 1
        · obtain ⟨rb, ro, e, hrb, hcell⟩ := hR (by omega)
          subst e
          have HW : Hid (rowB s T k = allB (T.w k) (celB s T k)) := by show _ = _; unfold rowB; rw [decide_eq_true hlen]; rfl
          have hl2 : ((T.w k : Int) == s.g 2 + 1) = true := beq_iff_eq.2 hlen
          have hl3 : ((T.w k : Int) != s.g 2 + 1) = false := by rw [bne, hl2]; rfl
          have HL : Hid ((T.w k : Int) = s.g 2 + 1) := hlen
          clear hlen
          go_wp2
          go_region
          go_wp2
          clear hl2 hl3
          go_loopw [6] (fun iv wr => ∃ (i : Nat), i ≤ T.w k ∧ iv = .int .i64 (i : Int) ∧ (∀ j, j < i → celB s T k j = true) ∧ Below w.heap.size w wr)
            (fun iv _ => T.w k - (RowKit.intOf iv).toNat)
          case atStart => exact ⟨0, Nat.zero_le _, rfl, fun j h => absurd h (by omega), hB.drew⟩
          case round =>
            obtain ⟨i, hi, rfl, hcels, hBi⟩ := hrel
            have qk := (hBi.cell (p := ⟨bt, ot + k, none⟩) hbt).trans qk0
            have x0 := (hBi.cell (p := ⟨b, 0, none⟩) hbl).trans q0
            by_cases hil : i < T.w k
            · have qi := (hBi.cell (p := ⟨rb, ro + i, none⟩) hrb).trans (hcell i hil)
              by_cases h1 : T.e k i < -1
              · have HC : Hid (formB s T = false) := by show _ = _; exact formB_no hlt (rowB_no hil (by unfold celB; rw [decide_eq_false (by omega)]; rfl))
                go_wp2
                go_ret
                rw [HC.out]
                exact ⟨rfl, hBi⟩
              · by_cases hks : k = s.n
                · subst hks
                  by_cases h0 : T.e s.n i = 0
                  · have hcel : celB s T s.n i = true := by unfold celB; rw [decide_eq_true (by omega), decide_eq_true (rfl : s.n = s.n), decide_eq_true h0]; rfl
                    have h02 : (T.e s.n i == (0 : Int)) = true := beq_iff_eq.2 h0
                    have h03 : (T.e s.n i != (0 : Int)) = false := by rw [bne, h02]; rfl
                    go_wp2
                    go_roundw
                    case rel => exact ⟨i + 1, by omega, by go_num, fun j hj => by
                      by_cases e : j = i
                      · subst e; exact hcel
                      · exact hcels j (by omega), hBi⟩
                    case measure => simp [RowKit.intOf]; omega
                  · have HC : Hid (formB s T = false) := by show _ = _; exact formB_no hlt (rowB_no hil (by unfold celB; rw [decide_eq_true (show -1 ≤ T.e s.n i by omega), decide_eq_true (rfl : s.n = s.n), decide_eq_false h0]; rfl))
                    have h02 : (T.e s.n i == (0 : Int)) = false := beq_eq_false_iff_ne.2 h0
                    have h03 : (T.e s.n i != (0 : Int)) = true := bne_iff_ne.2 h0
                    go_wp2
                    go_ret
                    rw [HC.out]
                    exact ⟨rfl, hBi⟩
                · have hk2 : ((k : Int) == (s.n : Int)) = false := beq_eq_false_iff_ne.2 (by omega)
                  have hk4 : ¬ (k : Int) = (s.n : Int) := by omega
                  have hcel : celB s T k i = true := by unfold celB; rw [decide_eq_true (show -1 ≤ T.e k i by omega), decide_eq_false hks]; rfl
                  go_wp2
                  go_roundw
                  case rel => exact ⟨i + 1, by omega, by go_num, fun j hj => by
                    by_cases e : j = i
                    · subst e; exact hcel
                    · exact hcels j (by omega), hBi⟩
                  case measure => simp [RowKit.intOf]; omega
            · obtain rfl : i = T.w k := by omega
              go_wp2
              go_roundw
              case rel => exact ⟨k + 1, by omega, by go_num, fun j hj => by
                by_cases e : j = k
                · subst e; rw [HW.out]; exact allB_all hcels
                · exact hrows j (by omega), hBi⟩
              case measure => simp [RowKit.intOf]; omega
        · have HR : Hid (formB s T = false) := by show _ = _; exact formB_no hlt (by unfold rowB; rw [decide_eq_false hlen]; rfl)
          have hl2 : ((T.w k : Int) == s.g 2 + 1) = false := beq_eq_false_iff_ne.2 hlen
          have hl3 : ((T.w k : Int) != s.g 2 + 1) = true := bne_iff_ne.2 hlen
          go_wp2
          go_region
          go_wp2
          go_ret
          rw [HR.out]
          exact ⟨rfl, hB.drew⟩
      · obtain rfl : k = T.n := by omega
        go_wp2
        go_ret
        rw [HF.out, allB_all hrows]
        exact ⟨rfl, hB⟩
  · have hni : ¬ (T.n : Int) = (s.n : Int) + 1 := by omega
    have hn2 : ((T.n : Int) == (s.n : Int) + 1) = false := beq_eq_false_iff_ne.2 hni
    have hn3 : ((T.n : Int) != (s.n : Int) + 1) = true := bne_iff_ne.2 hni
    have HF : Hid (formB s T = false) := by show _ = _; rw [formB_eq, decide_eq_false hn]; rfl
    go_enter Try.func63, Try.ntmps63
    go_wp2
    go_ret
    rw [HF.out]
    exact ⟨rfl, Below.refl _ _⟩
end
end Go.Proofs.Ytbkjjefjnkkgbaa.sea
