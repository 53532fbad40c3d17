import Derived.Test.YtbkjjefjnkkgbaaSq4
namespace Go.Proofs.Ytbkjjefjnkkgbaa.sea
open Go Go.Ab Go.Proofs Go.RowKit
attribute [local go_sem] Oper.semAt_some
set_option linter.unusedVariables false
abbrev seaVal (s1 s2 : Value) (s : Sea) : Value := .agg #[s1, s2, .int .i64 (s.g 0), .int .i64 (s.g 1), .int .i64 (s.g 2), .int .i64 (s.g 3), .int .i64 (s.g 4)]
theorem sa19_bad {s : Sea} (o : okSea s = false) {w : World} {v : Value} (hS : SeaV s w v) (k st lg : Int) :
    Calls Try.prog 20 #[v, .int .i64 k, .int .i64 st, .int .i64 lg] w fun e w' => e = .returned (.tuple #[.int .i64 0, .int .i64 1]) ∧ Below w.heap.size w w' := by
  have hS' := hS
  obtain ⟨s1, s2, rfl, _⟩ := hS'
  have hB : Below w.heap.size w (w.alloc (.cells #[s1, s2, .int .i64 (s.g 0), .int .i64 (s.g 1), .int .i64 (s.g 2), .int .i64 (s.g 3), .int .i64 (s.g 4)] 27)) := (Below.refl _ w).alloc (Nat.le_refl _) _
  have hS1 := hS.below hB
  go_enter Try.func20, Try.ntmps20
  go_wp2_with (go_at_call 15; refine (ok14 hS1).mono ?_; rintro e w' ⟨rfl, hb⟩; rw [o])
  go_ret2
  exact ⟨rfl, hB.trans (hb.mono (by simp))⟩
/-- There is such a slot. -/
def Sea.slot (s : Sea) (k : Int) : Bool := cond (decide (k ≥ 0)) (decide (k < Int.ofNat s.n)) false
theorem Sea.slot_nat {s : Sea} {k : Int} (h : Sea.slot s k = true) : ∃ j : Nat, k = (j : Int) ∧ j < s.n := by
  unfold Sea.slot at h
  obtain ⟨h1, h2⟩ := cond_both h
  have h1 := of_decide_eq_true h1
  have h2 := of_decide_eq_true h2
  have h2 : k < (s.n : Int) := h2
  exact ⟨k.toNat, by omega, by omega⟩
theorem has44' {s : Sea} {w : World} {v : Value} (hS : SeaV s w v) (k : Int) : Calls Try.prog 50 #[v, .int .i64 k] w fun e w' => e = .returned (.bool (Sea.slot s k)) ∧ Below w.heap.size w w' := has44 hS k
def saOk (s : Sea) (k st lg : Int) : Bool := Sea.slot s k && (inB st 0 (s.g 2) && inB lg 0 (s.g 0))
theorem alloc_cells {s : Sea} {s1 s2 : Value} (w : World) (q : Nat) (u : Value) (h : #[s1, s2, Value.int .i64 (s.g 0), .int .i64 (s.g 1), .int .i64 (s.g 2), .int .i64 (s.g 3), .int .i64 (s.g 4)][q]? = some u) :
    (w.alloc (.cells #[s1, s2, .int .i64 (s.g 0), .int .i64 (s.g 1), .int .i64 (s.g 2), .int .i64 (s.g 3), .int .i64 (s.g 4)] 27)).cell? ⟨w.heap.size, q, none⟩ = some u := by
  have hnew := World.alloc_heap_new w (.cells #[s1, s2, .int .i64 (s.g 0), .int .i64 (s.g 1), .int .i64 (s.g 2), .int .i64 (s.g 3), .int .i64 (s.g 4)] 27)
  unfold World.cell?
  simp only [hnew]
  exact h
section
variable {s : Sea} {w : World}
theorem bcell {W w1 : World} (hb : Below W.heap.size W w1) : (∀ b o, b < W.heap.size → w1.cell? ⟨b, o, none⟩ = W.cell? ⟨b, o, none⟩) ∧ (∀ b o, b < W.heap.size → w1.frozen? ⟨b, o, none⟩ = W.frozen? ⟨b, o, none⟩) :=
  ⟨fun b o h => hb.cell (p := ⟨b, o, none⟩) h, fun b o h => hb.frozen (p := ⟨b, o, none⟩) h⟩
set_option maxHeartbeats 1000000 in
theorem sa19_slot (o : okSea s = true) {v : Value} (hS : SeaV s w v) (k st lg : Int) (hk : Sea.slot s k = false) :
    Calls Try.prog 20 #[v, .int .i64 k, .int .i64 st, .int .i64 lg] w fun e w' => e = .returned (.tuple #[.int .i64 0, .int .i64 2]) ∧ Below w.heap.size w w' := by
  have hS' := hS
  obtain ⟨s1, s2, rfl, _⟩ := hS'
  have hB : Below w.heap.size w (w.alloc (.cells #[s1, s2, .int .i64 (s.g 0), .int .i64 (s.g 1), .int .i64 (s.g 2), .int .i64 (s.g 3), .int .i64 (s.g 4)] 27)) := (Below.refl _ w).alloc (Nat.le_refl _) _
  have hS1 := hS.below hB
  go_enter Try.func20, Try.ntmps20
  go_wp2_with (first
    | (go_at_call 15; refine (ok14 hS1).mono ?_; rintro e w1 ⟨rfl, hb⟩; rw [o]; obtain ⟨hc, hf⟩ := bcell hb; have hS2 := hS1.below hb)
    | (go_at_call 50; refine (has44' hS2 k).mono ?_; rintro e w2 ⟨rfl, hb2⟩; rw [hk]))
  go_ret2
  exact ⟨rfl, hB.trans ((hb.mono (by simp)).trans (hb2.mono (Nat.le_trans hB.size hb.size)))⟩
set_option maxHeartbeats 1000000 in
theorem sa19_st (o : okSea s = true) {v : Value} (hS : SeaV s w v) (k st lg : Int) (hk : Sea.slot s k = true) (hst : inB st 0 (s.g 2) = false) :
    Calls Try.prog 20 #[v, .int .i64 k, .int .i64 st, .int .i64 lg] w fun e w' => e = .returned (.tuple #[.int .i64 0, .int .i64 2]) ∧ Below w.heap.size w w' := by
  have hS' := hS
  obtain ⟨s1, s2, rfl, _⟩ := hS'
  have hB : Below w.heap.size w (w.alloc (.cells #[s1, s2, .int .i64 (s.g 0), .int .i64 (s.g 1), .int .i64 (s.g 2), .int .i64 (s.g 3), .int .i64 (s.g 4)] 27)) := (Below.refl _ w).alloc (Nat.le_refl _) _
  have hS1 := hS.below hB
  go_enter Try.func20, Try.ntmps20
  go_wp2_with (first
    | (go_at_call 15; refine (ok14 hS1).mono ?_; rintro e w1 ⟨rfl, hb⟩; rw [o]; obtain ⟨hc, hf⟩ := bcell hb; have hS2 := hS1.below hb)
    | (go_at_call 50; refine (has44' hS2 k).mono ?_; rintro e w2 ⟨rfl, hb2⟩; rw [hk]; obtain ⟨hc2, hf2⟩ := bcell hb2; have hS3 := hS2.below hb2; have hz : w.heap.size < w1.heap.size := by have := hb.size; simp at this; omega)
    | (go_at_call 45; refine (btw_any _ _ _ _).mono ?_; rintro e w3 ⟨rfl, rfl⟩; rw [hst]))
  go_ret2
  exact ⟨rfl, hB.trans ((hb.mono (by simp)).trans (hb2.mono (Nat.le_trans hB.size hb.size)))⟩
set_option maxHeartbeats 1000000 in
theorem sa19_lg (o : okSea s = true) {v : Value} (hS : SeaV s w v) (k st lg : Int) (hk : Sea.slot s k = true) (hst : inB st 0 (s.g 2) = true) (hlg : inB lg 0 (s.g 0) = false) :
    Calls Try.prog 20 #[v, .int .i64 k, .int .i64 st, .int .i64 lg] w fun e w' => e = .returned (.tuple #[.int .i64 0, .int .i64 2]) ∧ Below w.heap.size w w' := by
  have hS' := hS
  obtain ⟨s1, s2, rfl, _⟩ := hS'
  have hB : Below w.heap.size w (w.alloc (.cells #[s1, s2, .int .i64 (s.g 0), .int .i64 (s.g 1), .int .i64 (s.g 2), .int .i64 (s.g 3), .int .i64 (s.g 4)] 27)) := (Below.refl _ w).alloc (Nat.le_refl _) _
  have hS1 := hS.below hB
  go_enter Try.func20, Try.ntmps20
  go_wp2_with (first
    | (go_at_call 15; refine (ok14 hS1).mono ?_; rintro e w1 ⟨rfl, hb⟩; rw [o]; obtain ⟨hc, hf⟩ := bcell hb; have hS2 := hS1.below hb)
    | (go_at_call 50; refine (has44' hS2 k).mono ?_; rintro e w2 ⟨rfl, hb2⟩; rw [hk]; obtain ⟨hc2, hf2⟩ := bcell hb2; have hS3 := hS2.below hb2; have hz : w.heap.size < w1.heap.size := by have := hb.size; simp at this; omega)
    | (go_at_call 45; refine (btw_any _ _ _ _).mono ?_; rintro e w3 ⟨rfl, rfl⟩; (first | rw [hst] | rw [hlg])))
  go_ret2
  exact ⟨rfl, hB.trans ((hb.mono (by simp)).trans (hb2.mono (Nat.le_trans hB.size hb.size)))⟩
set_option maxHeartbeats 1000000 in
theorem sa19_do (o : okSea s = true) {v : Value} (hS : SeaV s w v) (k st lg : Int) (hk : Sea.slot s k = true) (hst : inB st 0 (s.g 2) = true) (hlg : inB lg 0 (s.g 0) = true) :
    Calls Try.prog 20 #[v, .int .i64 k, .int .i64 st, .int .i64 lg] w fun e w' => e = .returned (.tuple #[.int .i64 (cond (s.does k.toNat st lg) (s.next k.toNat st lg) 0), .int .i64 (cond (s.does k.toNat st lg) 0 4)]) ∧ Below w.heap.size w w' := by
  obtain ⟨j, rfl, hj⟩ := Sea.slot_nat hk
  have ej : (j : Int).toNat = j := by omega
  rw [ej]
  cases hd : s.does j st lg
  all_goals
    have hS' := hS
    obtain ⟨s1, s2, rfl, _⟩ := hS'
    have hB : Below w.heap.size w (w.alloc (.cells #[s1, s2, .int .i64 (s.g 0), .int .i64 (s.g 1), .int .i64 (s.g 2), .int .i64 (s.g 3), .int .i64 (s.g 4)] 27)) := (Below.refl _ w).alloc (Nat.le_refl _) _
    have hS1 := hS.below hB
    go_enter Try.func20, Try.ntmps20
    go_wp2_with (first
      | (go_at_call 15; refine (ok14 hS1).mono ?_; rintro e w1 ⟨rfl, hb⟩; rw [o]; obtain ⟨hc, hf⟩ := bcell hb; have hS2 := hS1.below hb)
      | (go_at_call 50; refine (has44' hS2 j).mono ?_; rintro e w2 ⟨rfl, hb2⟩; rw [hk]; obtain ⟨hc2, hf2⟩ := bcell hb2; have hS3 := hS2.below hb2; have hz : w.heap.size < w1.heap.size := by have := hb.size; simp at this; omega)
      | (go_at_call 45; refine (btw_any _ _ _ _).mono ?_; rintro e w3 ⟨rfl, rfl⟩; (first | rw [hst] | rw [hlg]))
      | (go_at_call 51; refine (after45 (okSea_ok o) hS3 hj (inB_true.1 hst) (inB_true.1 hlg)).mono ?_; rintro e w4 ⟨rfl, hb4⟩; rw [hd]))
    go_ret2
    exact ⟨rfl, hB.trans ((hb.mono (by simp)).trans ((hb2.mono (Nat.le_trans hB.size hb.size)).trans (hb4.mono (Nat.le_trans (Nat.le_trans hB.size hb.size) hb2.size))))⟩
def saV (s : Sea) (k st lg : Int) : Int := cond (okSea s) (cond (saOk s k st lg) (cond (s.does k.toNat st lg) (s.next k.toNat st lg) 0) 0) 0
def saC (s : Sea) (k st lg : Int) : Int := cond (okSea s) (cond (saOk s k st lg) (cond (s.does k.toNat st lg) 0 4) 2) 1
theorem sa19 {v : Value} (hS : SeaV s w v) (k st lg : Int) :
    Calls Try.prog 20 #[v, .int .i64 k, .int .i64 st, .int .i64 lg] w fun e w' => e = .returned (.tuple #[.int .i64 (saV s k st lg), .int .i64 (saC s k st lg)]) ∧ Below w.heap.size w w' := by
  unfold saV saC saOk
  cases o : okSea s with
  | false => exact sa19_bad o hS k st lg
  | true =>
    cases hk : Sea.slot s k with
    | false => exact sa19_slot o hS k st lg hk
    | true =>
      cases hst : inB st 0 (s.g 2) with
      | false => exact sa19_st o hS k st lg hk hst
      | true =>
        cases hlg : inB lg 0 (s.g 0) with
        | false => exact sa19_lg o hS k st lg hk hst hlg
        | true => exact sa19_do o hS k st lg hk hst hlg
theorem slot_in (k : Int) : inB k 0 ((s.n : Int) - 1) = Sea.slot s k := by
  unfold inB Sea.slot
  by_cases h : 0 ≤ k
  · rw [decide_eq_true h]
    by_cases h2 : k < (s.n : Int)
    · rw [decide_eq_true (show k ≤ (s.n : Int) - 1 by omega), decide_eq_true (show k < Int.ofNat s.n from h2)]
    · rw [decide_eq_false (show ¬ k ≤ (s.n : Int) - 1 by omega), decide_eq_false (show ¬ k < Int.ofNat s.n from h2)]
  · rw [decide_eq_false h]; rfl
set_option maxHeartbeats 1000000 in
theorem sa18_bad (o : okSea s = false) {v : Value} (hS : SeaV s w v) (k st lg : Int)  :
    Calls Try.prog 19 #[v, .int .i64 k, .int .i64 st, .int .i64 lg] w fun e w' => e = .returned (.tuple #[.int .i64 0, .int .i64 1]) ∧ Below w.heap.size w w' := by
  have hS' := hS
  obtain ⟨s1, s2, rfl, hv1, hv2, _⟩ := hS'
  obtain ⟨c1, a1, rfl⟩ := hv1.slice
  obtain ⟨c2, a2, rfl⟩ := hv2.slice
  have hB : Below w.heap.size w (w.alloc (.cells #[.slice c1 s.n a1, .slice c2 s.m a2, .int .i64 (s.g 0), .int .i64 (s.g 1), .int .i64 (s.g 2), .int .i64 (s.g 3), .int .i64 (s.g 4)] 27)) := (Below.refl _ w).alloc (Nat.le_refl _) _
  have hS1 := SeaP.box 27 hS
  go_enter Try.func19, Try.ntmps19
  go_wp2_with (first
    | (go_at_call 42; refine (ok36 hS1).mono ?_; rintro e w1 ⟨rfl, hb⟩; rw [o]; obtain ⟨hc, hf⟩ := bcell hb; have hS2 := hS1.below hb))
  go_ret2
  exact ⟨rfl, hB.trans (hb.mono (by simp))⟩
set_option maxHeartbeats 1000000 in
theorem sa18_slot (o : okSea s = true) {v : Value} (hS : SeaV s w v) (k st lg : Int) (hk : Sea.slot s k = false) :
    Calls Try.prog 19 #[v, .int .i64 k, .int .i64 st, .int .i64 lg] w fun e w' => e = .returned (.tuple #[.int .i64 0, .int .i64 2]) ∧ Below w.heap.size w w' := by
  obtain ⟨n1, n2, -, -, -, -, -, -, -, -⟩ := okSea_ok o
  have hS' := hS
  obtain ⟨s1, s2, rfl, hv1, hv2, _⟩ := hS'
  obtain ⟨c1, a1, rfl⟩ := hv1.slice
  obtain ⟨c2, a2, rfl⟩ := hv2.slice
  have hB : Below w.heap.size w (w.alloc (.cells #[.slice c1 s.n a1, .slice c2 s.m a2, .int .i64 (s.g 0), .int .i64 (s.g 1), .int .i64 (s.g 2), .int .i64 (s.g 3), .int .i64 (s.g 4)] 27)) := (Below.refl _ w).alloc (Nat.le_refl _) _
  have hS1 := SeaP.box 27 hS
  go_enter Try.func19, Try.ntmps19
  go_wp2_with (first
    | (go_at_call 42; refine (ok36 hS1).mono ?_; rintro e w1 ⟨rfl, hb⟩; rw [o]; obtain ⟨hc, hf⟩ := bcell hb; have hS2 := hS1.below hb)
    | (go_at_call 48; refine (in42 _ _ _ _).mono ?_; rintro e w3 ⟨rfl, rfl⟩; rw [slot_in, hk]))
  go_ret2
  exact ⟨rfl, hB.trans (hb.mono (by simp))⟩
set_option maxHeartbeats 1000000 in
theorem sa18_st (o : okSea s = true) {v : Value} (hS : SeaV s w v) (k st lg : Int) (hk : Sea.slot s k = true) (hst : inB st 0 (s.g 2) = false) :
    Calls Try.prog 19 #[v, .int .i64 k, .int .i64 st, .int .i64 lg] w fun e w' => e = .returned (.tuple #[.int .i64 0, .int .i64 2]) ∧ Below w.heap.size w w' := by
  obtain ⟨n1, n2, -, -, -, -, -, -, -, -⟩ := okSea_ok o
  have hS' := hS
  obtain ⟨s1, s2, rfl, hv1, hv2, _⟩ := hS'
  obtain ⟨c1, a1, rfl⟩ := hv1.slice
  obtain ⟨c2, a2, rfl⟩ := hv2.slice
  have hB : Below w.heap.size w (w.alloc (.cells #[.slice c1 s.n a1, .slice c2 s.m a2, .int .i64 (s.g 0), .int .i64 (s.g 1), .int .i64 (s.g 2), .int .i64 (s.g 3), .int .i64 (s.g 4)] 27)) := (Below.refl _ w).alloc (Nat.le_refl _) _
  have hS1 := SeaP.box 27 hS
  go_enter Try.func19, Try.ntmps19
  go_wp2_with (first
    | (go_at_call 42; refine (ok36 hS1).mono ?_; rintro e w1 ⟨rfl, hb⟩; rw [o]; obtain ⟨hc, hf⟩ := bcell hb; have hS2 := hS1.below hb)
    | (go_at_call 48; refine (in42 _ _ _ _).mono ?_; rintro e w3 ⟨rfl, rfl⟩; (first | rw [slot_in, hk] | rw [hst])))
  go_ret2
  exact ⟨rfl, hB.trans (hb.mono (by simp))⟩
set_option maxHeartbeats 1000000 in
theorem sa18_lg (o : okSea s = true) {v : Value} (hS : SeaV s w v) (k st lg : Int) (hk : Sea.slot s k = true) (hst : inB st 0 (s.g 2) = true) (hlg : inB lg 0 (s.g 0) = false) :
    Calls Try.prog 19 #[v, .int .i64 k, .int .i64 st, .int .i64 lg] w fun e w' => e = .returned (.tuple #[.int .i64 0, .int .i64 2]) ∧ Below w.heap.size w w' := by
  obtain ⟨n1, n2, -, -, -, -, -, -, -, -⟩ := okSea_ok o
  have hS' := hS
  obtain ⟨s1, s2, rfl, hv1, hv2, _⟩ := hS'
  obtain ⟨c1, a1, rfl⟩ := hv1.slice
  obtain ⟨c2, a2, rfl⟩ := hv2.slice
  have hB : Below w.heap.size w (w.alloc (.cells #[.slice c1 s.n a1, .slice c2 s.m a2, .int .i64 (s.g 0), .int .i64 (s.g 1), .int .i64 (s.g 2), .int .i64 (s.g 3), .int .i64 (s.g 4)] 27)) := (Below.refl _ w).alloc (Nat.le_refl _) _
  have hS1 := SeaP.box 27 hS
  go_enter Try.func19, Try.ntmps19
  go_wp2_with (first
    | (go_at_call 42; refine (ok36 hS1).mono ?_; rintro e w1 ⟨rfl, hb⟩; rw [o]; obtain ⟨hc, hf⟩ := bcell hb; have hS2 := hS1.below hb)
    | (go_at_call 48; refine (in42 _ _ _ _).mono ?_; rintro e w3 ⟨rfl, rfl⟩; (first | rw [slot_in, hk] | rw [hst] | rw [hlg])))
  go_ret2
  exact ⟨rfl, hB.trans (hb.mono (by simp))⟩
set_option maxHeartbeats 1000000 in
theorem sa18_do (o : okSea s = true) {v : Value} (hS : SeaV s w v) (k st lg : Int) (hk : Sea.slot s k = true) (hst : inB st 0 (s.g 2) = true) (hlg : inB lg 0 (s.g 0) = true) :
    Calls Try.prog 19 #[v, .int .i64 k, .int .i64 st, .int .i64 lg] w fun e w' => e = .returned (.tuple #[.int .i64 (cond (s.does k.toNat st lg) (s.next k.toNat st lg) 0), .int .i64 (cond (s.does k.toNat st lg) 0 4)]) ∧ Below w.heap.size w w' := by
  obtain ⟨j, rfl, hj⟩ := Sea.slot_nat hk
  have ej : (j : Int).toNat = j := by omega
  rw [ej]
  have ok := okSea_ok o
  have n1 := ok.n1
  have n2 := ok.n2
  have hnx : s.does j st lg = true → 0 ≤ s.next j st lg := fun h => (ok.left_bd (of_decide_eq_true h)).1
  cases hd : s.does j st lg
  · clear hnx
    have hS' := hS
    obtain ⟨s1, s2, rfl, hv1, hv2, _⟩ := hS'
    obtain ⟨c1, a1, rfl⟩ := hv1.slice
    obtain ⟨c2, a2, rfl⟩ := hv2.slice
    have hB : Below w.heap.size w (w.alloc (.cells #[.slice c1 s.n a1, .slice c2 s.m a2, .int .i64 (s.g 0), .int .i64 (s.g 1), .int .i64 (s.g 2), .int .i64 (s.g 3), .int .i64 (s.g 4)] 27)) := (Below.refl _ w).alloc (Nat.le_refl _) _
    have hS1 := SeaP.box 27 hS
    go_enter Try.func19, Try.ntmps19
    go_wp2_with (first
      | (go_at_call 42; refine (ok36 hS1).mono ?_; rintro e w1 ⟨rfl, hb⟩; rw [o]; obtain ⟨hc, hf⟩ := bcell hb; have hS2 := hS1.below hb)
      | (go_at_call 48; refine (in42 _ _ _ _).mono ?_; rintro e w3 ⟨rfl, rfl⟩; (first | rw [slot_in, hk] | rw [hst] | rw [hlg]))
      | (go_at_call 49; refine (after43 ok hS2 hj (inB_true.1 hst) (inB_true.1 hlg)).mono ?_; rintro e w4 ⟨rfl, hb4⟩; rw [hd]))
    go_ret2
    exact ⟨rfl, hB.trans ((hb.mono (by simp)).trans (hb4.mono (Nat.le_trans hB.size hb.size)))⟩
  · have hnx := hnx hd
    have hS' := hS
    obtain ⟨s1, s2, rfl, hv1, hv2, _⟩ := hS'
    obtain ⟨c1, a1, rfl⟩ := hv1.slice
    obtain ⟨c2, a2, rfl⟩ := hv2.slice
    have hB : Below w.heap.size w (w.alloc (.cells #[.slice c1 s.n a1, .slice c2 s.m a2, .int .i64 (s.g 0), .int .i64 (s.g 1), .int .i64 (s.g 2), .int .i64 (s.g 3), .int .i64 (s.g 4)] 27)) := (Below.refl _ w).alloc (Nat.le_refl _) _
    have hS1 := SeaP.box 27 hS
    go_enter Try.func19, Try.ntmps19
    go_wp2_with (first
      | (go_at_call 42; refine (ok36 hS1).mono ?_; rintro e w1 ⟨rfl, hb⟩; rw [o]; obtain ⟨hc, hf⟩ := bcell hb; have hS2 := hS1.below hb)
      | (go_at_call 48; refine (in42 _ _ _ _).mono ?_; rintro e w3 ⟨rfl, rfl⟩; (first | rw [slot_in, hk] | rw [hst] | rw [hlg]))
      | (go_at_call 49; refine (after43 ok hS2 hj (inB_true.1 hst) (inB_true.1 hlg)).mono ?_; rintro e w4 ⟨rfl, hb4⟩; rw [hd]))
    go_ret2
    exact ⟨rfl, hB.trans ((hb.mono (by simp)).trans (hb4.mono (Nat.le_trans hB.size hb.size)))⟩
theorem sa18 {v : Value} (hS : SeaV s w v) (k st lg : Int) :
    Calls Try.prog 19 #[v, .int .i64 k, .int .i64 st, .int .i64 lg] w fun e w' => e = .returned (.tuple #[.int .i64 (saV s k st lg), .int .i64 (saC s k st lg)]) ∧ Below w.heap.size w w' := by
  unfold saV saC saOk
  cases o : okSea s with
  | false => exact sa18_bad o hS k st lg
  | true =>
    cases hk : Sea.slot s k with
    | false => exact sa18_slot o hS k st lg hk
    | true =>
      cases hst : inB st 0 (s.g 2) with
      | false => exact sa18_st o hS k st lg hk hst
      | true =>
        cases hlg : inB lg 0 (s.g 0) with
        | false => exact sa18_lg o hS k st lg hk hst hlg
        | true => exact sa18_do o hS k st lg hk hst hlg
end
end Go.Proofs.Ytbkjjefjnkkgbaa.sea
