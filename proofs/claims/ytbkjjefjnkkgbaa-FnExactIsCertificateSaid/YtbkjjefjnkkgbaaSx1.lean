import Derived.Test.YtbkjjefjnkkgbaaSw4
namespace Go.Proofs.Ytbkjjefjnkkgbaa.sea
open Go Go.Ab Go.Proofs Go.RowKit Go.Shelf
attribute [local go_sem] Oper.semAt_some
set_option linter.unusedVariables false
/-- The first logs that do, below a number; that number, if none do. -/
def few (s : Sea) (k : Nat) (x : Int) : Nat → Nat
  | 0 => 0
  | j + 1 => cond (decide (few s k x j = j)) (cond (s.does k x j) j (j + 1)) (few s k x j)
theorem few_le (s : Sea) (k : Nat) (x : Int) : ∀ j, few s k x j ≤ j
  | 0 => Nat.le_refl _
  | j + 1 => by
    have ih := few_le s k x j
    unfold few
    by_cases h : few s k x j = j
    · rw [decide_eq_true h]
      cases s.does k x j with
      | true => exact Nat.le_succ _
      | false => exact Nat.le_refl _
    · rw [decide_eq_false h]; exact Nat.le_succ_of_le ih
theorem few_not (s : Sea) (k : Nat) (x : Int) : ∀ {j i : Nat}, i < few s k x j → s.does k x i = false
  | 0, i, h => absurd h (Nat.not_lt_zero _)
  | j + 1, i, h => by
    unfold few at h
    by_cases e : few s k x j = j
    · rw [decide_eq_true e] at h
      cases hd : s.does k x j with
      | true => rw [hd] at h; exact few_not s k x (j := j) (by rw [e]; exact h)
      | false =>
        rw [hd] at h
        have h : i < j + 1 := h
        by_cases e2 : i = j
        · subst e2; exact hd
        · exact few_not s k x (j := j) (by omega)
    · rw [decide_eq_false e] at h; exact few_not s k x h
theorem few_does (s : Sea) (k : Nat) (x : Int) : ∀ {j : Nat}, few s k x j < j → s.does k x (few s k x j) = true
  | 0, h => absurd h (Nat.not_lt_zero _)
  | j + 1, h => by
    unfold few at h ⊢
    by_cases e : few s k x j = j
    · rw [decide_eq_true e] at h ⊢
      cases hd : s.does k x j with
      | true => simpa using hd
      | false => rw [hd] at h; exact absurd h (by simp)
    · rw [decide_eq_false e] at h ⊢
      have := few_le s k x j
      exact few_does s k x (by omega)
theorem does_mono {s : Sea} (o : s.Ok) {k : Nat} {x : Int} {i j : Nat} (h : i ≤ j) (hd : s.does k x i = true) : s.does k x j = true := by
  unfold Sea.does Sea.heat at hd ⊢
  have hd := of_decide_eq_true hd
  have hy := o.yield
  have : (i : Int) * s.g 1 ≤ (j : Int) * s.g 1 := Int.mul_le_mul_of_nonneg_right (by omega) (by omega)
  exact decide_eq_true (by omega)
/-- How many numbers of logs there are. -/
def moS (s : Sea) : Nat := (s.g 0).toNat + 1
/-- The ones that have come when j have been tried. -/
def prL (L j : Nat) : List Nat := (List.range (j - L)).map (L + ·)
theorem prL_lo {L j : Nat} (h : j < L) : prL L (j + 1) = prL L j := by
  unfold prL
  rw [show j + 1 - L = 0 by omega, show j - L = 0 by omega]
theorem prL_hi {L j : Nat} (h : L ≤ j) : prL L (j + 1) = prL L j ++ [j] := by
  unfold prL
  rw [show j + 1 - L = (j - L) + 1 by omega, List.range_succ]
  simp
  omega
theorem prL_len (L j : Nat) : (prL L j).length = j - L := by simp [prL]
def enC (s : Sea) (k : Nat) (x : Int) (j : Nat) : Array Value := #[.agg #[.int .i64 (j : Int), .int .i64 (s.gm k * j), .int .i64 (s.next k x j)]]
section
variable {s : Sea}
set_option maxRecDepth 100000 in
set_option maxHeartbeats 4000000 in
theorem cho_in (n : Nat) (hn : 1 ≤ n) (o : s.Ok) {k : Nat} (hk : k < s.n) {x : Int} (hx : 0 ≤ x ∧ x ≤ s.g 2) (l Bs Bk Bx n₀ : Nat) (J Jx : List Nat → World → Prop) (s1 s2 : Value)
    (hY : ∀ (pre : List Nat) (j : Nat) W, J pre W → pre.length < (moS s) → s.does k x j = true → j < moS s → YieldAt Fence.wide (n - 1) Try.prog l (enC s k x j) W fun e W' =>
      (e = .returned (.bool true) ∧ J (pre ++ [j]) W' ∧ Below n₀ W W') ∨ (e = .returned (.bool false) ∧ Jx (pre ++ [j]) W'))
    (W : World) (hJ : AbidesFrom W.heap.size J) (hBs : ∀ (q : Nat) (u : Value), #[s1, s2, Value.int .i64 (s.g 0), .int .i64 (s.g 1), .int .i64 (s.g 2), .int .i64 (s.g 3), .int .i64 (s.g 4)][q]? = some u → W.cell? ⟨Bs, q, none⟩ = some u) (hBsl : Bs < n₀) (hBkl : Bk < n₀) (hBxl : Bx < n₀)
    (hS : SeaV s W (seaVal s1 s2 s)) (hSn : ∀ W', Below n₀ W W' → n₀ ≤ W'.heap.size → SeaV s W' (seaVal s1 s2 s)) (hcn : ∀ W' : World, Below n₀ W W' → ∀ bm om cm, s2 = .slice (some ⟨bm, om, none⟩) s.m cm → W'.cell? ⟨bm, om + k, none⟩ = some (.int .i64 (s.gm k)))
    (hBk : W.cell? ⟨Bk, 0, none⟩ = some (.int .i64 (k : Int))) (hBx : W.cell? ⟨Bx, 0, none⟩ = some (.int .i64 x)) (hn₀ : n₀ ≤ W.heap.size) (h0 : J [] W) :
    CallsIn Fence.wide n Try.prog 80 #[.func (.yield l) #[] #[], .pointer (some ⟨Bs, 0, none⟩), .pointer (some ⟨Bk, 0, none⟩), .pointer (some ⟨Bx, 0, none⟩)] W fun e W' => (∃ v, e = .returned v) ∧
      ((∃ ys, ys = prL (few s k x (moS s)) (moS s) ∧ J ys W') ∨ (∃ pre, (∃ j, j ≤ (moS s) ∧ pre = prL (few s k x (moS s)) j) ∧ Jx pre W')) := by
  have hmo := o.most
  have hst := o.store
  have n2 := o.n2
  have HM : Hid (s.m = s.n) := o.m
  obtain ⟨t1, t2, et, hs1, hs2, hl1, hl2⟩ := hS
  obtain ⟨et1, et2⟩ : s1 = t1 ∧ s2 = t2 := by injection et with et; injection et with et; injection et with e1 et; injection et with e2 et; exact ⟨e1, e2⟩
  subst et1
  subst et2
  clear et hs1
  rcases hs2 with ⟨a', e, e0⟩ | ⟨bm, om, cm, e, hcm, hEm⟩
  · exact absurd e0 (by have := HM.out; omega)
  subst e
  have hsm : ((moS s) : Int) = s.g 0 + 1 := by unfold moS; omega
  have q2 := hBs 2 _ rfl
  refine callsIn_of_wp Try.func80 rfl trivial ?_ rfl
  simp only [Try.ntmps80, List.size_toArray, List.length_cons, List.length_nil, Nat.reduceAdd, Nat.reduceSub, Array.replicate_succ, Array.replicate_zero, List.push_toArray, List.append_toArray, List.nil_append, List.cons_append]
  have HS : Hid (((moS s) : Int) = s.g 0 + 1) := hsm
  clear hsm
  gi_wp2
  gi_loopw [11] (fun i wr => ∃ (j : Nat), j ≤ (moS s) ∧ i = .int .i64 (j : Int) ∧ J (prL (few s k x (moS s)) j) wr ∧ Below n₀ W wr)
    (fun i _ => (moS s) - (RowKit.intOf i).toNat)
  case atStart => exact ⟨0, Nat.zero_le _, rfl, by unfold prL; simpa using h0, Below.refl _ _⟩
  case round =>
    obtain ⟨j, hj, rfl, hJs, hnx⟩ := hrel
    by_cases hlt : j < (moS s)
    · have p0 := (hnx.cell (p := ⟨Bs, 0, none⟩) hBsl).trans (hBs 0 _ rfl)
      have p1 := (hnx.cell (p := ⟨Bs, 1, none⟩) hBsl).trans (hBs 1 _ rfl)
      have p2 := (hnx.cell (p := ⟨Bs, 2, none⟩) hBsl).trans (hBs 2 _ rfl)
      have p3 := (hnx.cell (p := ⟨Bs, 3, none⟩) hBsl).trans (hBs 3 _ rfl)
      have p4 := (hnx.cell (p := ⟨Bs, 4, none⟩) hBsl).trans (hBs 4 _ rfl)
      have p5 := (hnx.cell (p := ⟨Bs, 5, none⟩) hBsl).trans (hBs 5 _ rfl)
      have p6 := (hnx.cell (p := ⟨Bs, 6, none⟩) hBsl).trans (hBs 6 _ rfl)
      have pk := (hnx.cell (p := ⟨Bk, 0, none⟩) hBkl).trans hBk
      have px := (hnx.cell (p := ⟨Bx, 0, none⟩) hBxl).trans hBx
      have hwn : n₀ ≤ wr.heap.size := Nat.le_trans hn₀ hnx.size
      have hbsz : Bs < wr.heap.size := Nat.lt_of_lt_of_le hBsl hwn
      have hbkz : Bk < wr.heap.size := Nat.lt_of_lt_of_le hBkl hwn
      have hSw := hSn _ hnx hwn
      have hlj : 0 ≤ (j : Int) ∧ (j : Int) ≤ s.g 0 := by have := HS.out; omega
      have hj20 : (j : Int) ≤ 20 := by omega
      have hgm := o.gm k hk
      have hmul : 0 ≤ s.gm k * (j : Int) ∧ s.gm k * (j : Int) ≤ 20000 := ⟨Int.mul_nonneg hgm.1 hlj.1, Int.le_trans (Int.mul_le_mul_of_nonneg_right hgm.2 hlj.1) (by omega)⟩
      have hjg : (j : Int) < s.g 0 + 1 := by omega
      have hkm : k < s.m := by have := HM.out; omega
      clear q2
      cases hd : s.does k x j with
      | false =>
        have hL : j < few s k x (moS s) := by
          rcases Nat.lt_or_ge j (few s k x (moS s)) with h | h
          · exact h
          · have := does_mono o h (few_does s k x (by omega))
            rw [hd] at this; cases this
        gi_wp2_with (refine ⟨trivial, ?_⟩; gi_at_call 51; refine (callsIn_wide.2 (after45 o hSw hk hx hlj)).mono ?_; rintro e w4 ⟨rfl, hb4⟩; rw [hd])
        refine ⟨fun _ h => (by cases h), ?_⟩
        gi_wp2
        go_roundw
        case rel => exact ⟨j + 1, by omega, by go_num, by rw [prL_lo hL]; exact hJ _ _ _ none hJs (grown_of_below hb4) (fun r e => by cases e), hnx.trans (hb4.mono hwn)⟩
        case measure => simp [RowKit.intOf]; omega
      | true =>
        have hL : few s k x (moS s) ≤ j := by
          rcases Nat.lt_or_ge j (few s k x (moS s)) with h | h
          · rw [few_not s k x h] at hd; cases hd
          · exact h
        gi_wp2_with (refine ⟨trivial, ?_⟩; gi_at_call 51; refine (callsIn_wide.2 (after45 o hSw hk hx hlj)).mono ?_; rintro e w4 ⟨rfl, hb4⟩; rw [hd]; have hJ4 := hJ _ _ _ none hJs (grown_of_below hb4) (fun r e => by cases e); obtain ⟨hc4, hf4⟩ := bcell hb4; have hqm := hcn w4 (hnx.trans (hb4.mono hwn)) bm om cm rfl; obtain ⟨fn, tmps, assign, body, hy, hR⟩ := hY _ j w4 hJ4 (by rw [prL_len]; omega) hd hlt; dsimp only [enC] at hy)
        refine hR.mono ?_
        rintro e W3 (⟨rfl, hJ3, hk3⟩ | ⟨rfl, hJx3⟩)
        · gi_wp2
          go_roundw
          case rel => exact ⟨j + 1, by omega, by go_num, by rw [prL_hi hL]; exact hJ3, (hnx.trans (hb4.mono hwn)).trans hk3⟩
          case measure => simp [RowKit.intOf]; omega
        · gi_wp2
          refine bodyPost_ret (results_none rfl _ _ _) rfl ?_
          exact ⟨⟨_, rfl⟩, .inr ⟨_, ⟨j + 1, by omega, (prL_hi hL).symm⟩, hJx3⟩⟩
    · obtain rfl : j = (moS s) := by omega
      have hjg : ¬ (((moS s) : Int) < s.g 0 + 1) := by have := HS.out; omega
      gi_wp2
      go_end0
      exact ⟨⟨_, rfl⟩, .inl hJs⟩
end
end Go.Proofs.Ytbkjjefjnkkgbaa.sea
