import Derived.Test.YtbkjjefjnkkgbaaAbIo
namespace Go.Ab
/-! ### Seasons: what is told of them -/
structure Sea where
  n : Nat
  m : Nat
  gn : Nat → Int
  gm : Nat → Int
  g : Nat → Int
/-- A season is valid. -/
def okSea (s : Sea) : Bool := cond (cond (decide (Int.ofNat s.n ≥ 1)) (decide (Int.ofNat s.n ≤ 24)) false) (cond (decide (Int.ofNat s.m = Int.ofNat s.n)) (cond (allB s.n (fun k => inB (s.gn k) 0 200)) (cond (allB s.m (fun k => inB (s.gm k) 0 1000))
  (cond (cond (decide (s.g 0 ≥ 0)) (decide (s.g 0 ≤ 20)) false) (cond (cond (decide (s.g 1 ≥ 1)) (decide (s.g 1 ≤ 40)) false) (cond (cond (decide (s.g 2 ≥ 0)) (decide (s.g 2 ≤ 60)) false) (cond (cond (decide (s.g 3 ≥ 0)) (decide (s.g 3 ≤ s.g 2)) false)
  (cond (decide (s.g 4 ≥ 0)) (decide (s.g 4 ≤ 100)) false) false) false) false) false) false) false) false) false
theorem cond_both {a b : Bool} (h : cond a b false = true) : a = true ∧ b = true := by cases a <;> cases b <;> simp_all
theorem inB_true {a lo hi : Int} : inB a lo hi = true ↔ lo ≤ a ∧ a ≤ hi := by
  unfold inB
  by_cases h : lo ≤ a
  · rw [decide_eq_true h]; simp [h]
  · rw [decide_eq_false h]; simp [h]
structure Sea.Ok (s : Sea) : Prop where
  n1 : 1 ≤ s.n
  n2 : s.n ≤ 24
  m : s.m = s.n
  gn : ∀ k, k < s.n → 0 ≤ s.gn k ∧ s.gn k ≤ 200
  gm : ∀ k, k < s.n → 0 ≤ s.gm k ∧ s.gm k ≤ 1000
  most : 0 ≤ s.g 0 ∧ s.g 0 ≤ 20
  yield : 1 ≤ s.g 1 ∧ s.g 1 ≤ 40
  store : 0 ≤ s.g 2 ∧ s.g 2 ≤ 60
  first : 0 ≤ s.g 3 ∧ s.g 3 ≤ s.g 2
  loss : 0 ≤ s.g 4 ∧ s.g 4 ≤ 100
theorem okSea_ok {s : Sea} (h : okSea s = true) : s.Ok := by
  unfold okSea at h
  obtain ⟨h1, h⟩ := cond_both h
  obtain ⟨h2, h⟩ := cond_both h
  obtain ⟨h3, h⟩ := cond_both h
  obtain ⟨h4, h⟩ := cond_both h
  obtain ⟨h5, h⟩ := cond_both h
  obtain ⟨h6, h⟩ := cond_both h
  obtain ⟨h7, h⟩ := cond_both h
  obtain ⟨h8, h⟩ := cond_both h
  obtain ⟨h1a, h1b⟩ := cond_both h1
  obtain ⟨h5a, h5b⟩ := cond_both h5
  obtain ⟨h6a, h6b⟩ := cond_both h6
  obtain ⟨h7a, h7b⟩ := cond_both h7
  obtain ⟨h8a, h8b⟩ := cond_both h8
  obtain ⟨h9a, h9b⟩ := cond_both h
  have h1a := of_decide_eq_true h1a; have h1b := of_decide_eq_true h1b
  have h2 := of_decide_eq_true h2
  have h5a := of_decide_eq_true h5a; have h5b := of_decide_eq_true h5b
  have h6a := of_decide_eq_true h6a; have h6b := of_decide_eq_true h6b
  have h7a := of_decide_eq_true h7a; have h7b := of_decide_eq_true h7b
  have h8a := of_decide_eq_true h8a; have h8b := of_decide_eq_true h8b
  have h9a := of_decide_eq_true h9a; have h9b := of_decide_eq_true h9b
  have e1 : (1 : Int) ≤ (s.n : Int) := h1a
  have e2 : (s.n : Int) ≤ 24 := h1b
  have e3 : s.m = s.n := Int.ofNat.inj h2
  refine ⟨by omega, by omega, e3, fun k hk => inB_true.1 (allB_true h3 k hk), fun k hk => inB_true.1 (allB_true h4 k (by omega)), ⟨h5a, h5b⟩, ⟨h6a, h6b⟩, ⟨h7a, h7b⟩, ⟨h8a, h8b⟩, ⟨h9a, h9b⟩⟩
/-- The heat of a slot. -/
def Sea.heat (s : Sea) (k : Nat) (store logs : Int) : Int := store + logs * s.g 1 - s.gn k
/-- What is left of it. -/
def Sea.left (s : Sea) (h : Int) : Int := cond (decide (s.g 2 < h - h * s.g 4 / 100)) (s.g 2) (h - h * s.g 4 / 100)
def Sea.does (s : Sea) (k : Nat) (store logs : Int) : Bool := decide (0 ≤ s.heat k store logs)
def Sea.next (s : Sea) (k : Nat) (store logs : Int) : Int := s.left (s.heat k store logs)
theorem Sea.Ok.heat_bd {s : Sea} (o : s.Ok) {k : Nat} (hk : k < s.n) {store logs : Int} (h1 : 0 ≤ store ∧ store ≤ 60) (h2 : 0 ≤ logs ∧ logs ≤ 20) : -200 ≤ s.heat k store logs ∧ s.heat k store logs ≤ 860 := by
  have hg := o.gn k hk
  have hy := o.yield
  have h3 : 0 ≤ logs * s.g 1 := Int.mul_nonneg h2.1 (by omega)
  have h4 : logs * s.g 1 ≤ 20 * 40 := Int.le_trans (Int.mul_le_mul_of_nonneg_right h2.2 (by omega)) (Int.mul_le_mul_of_nonneg_left hy.2 (by omega))
  unfold Sea.heat
  omega
theorem loss_bd {h l : Int} (hh : 0 ≤ h) (hl : 0 ≤ l ∧ l ≤ 100) : 0 ≤ h * l / 100 ∧ h * l / 100 ≤ h := by
  have h1 : 0 ≤ h * l := Int.mul_nonneg hh hl.1
  have h2 : h * l ≤ h * 100 := Int.mul_le_mul_of_nonneg_left hl.2 hh
  omega
theorem Sea.Ok.left_bd {s : Sea} (o : s.Ok) {h : Int} (hh : 0 ≤ h) : 0 ≤ s.left h ∧ s.left h ≤ s.g 2 := by
  have hb := loss_bd hh o.loss
  have hs := o.store
  unfold Sea.left
  by_cases hlt : s.g 2 < h - h * s.g 4 / 100
  · rw [decide_eq_true hlt]; exact ⟨hs.1, Int.le_refl _⟩
  · rw [decide_eq_false hlt]; simp only [cond_false]; omega
/-! Walks. -/
/-- The store ahead of a slot. -/
def Sea.st (s : Sea) (ch : Nat → Int → Int) : Nat → Int
  | 0 => s.g 3
  | k + 1 => s.next k (s.st ch k) (ch k (s.st ch k))
/-- The logs of a slot. -/
def Sea.lg (s : Sea) (ch : Nat → Int → Int) (k : Nat) : Int := ch k (s.st ch k)
def Sea.dn (s : Sea) (ch : Nat → Int → Int) (k : Nat) : Bool := s.does k (s.st ch k) (s.lg ch k)
/-- How many slots do. -/
def Sea.run (s : Sea) (ch : Nat → Int → Int) : Nat → Nat
  | 0 => 0
  | k + 1 => cond (allB k (s.dn ch)) (cond (s.dn ch k) (k + 1) k) (s.run ch k)
theorem Sea.run_all {s : Sea} {ch : Nat → Int → Int} {k : Nat} (h : ∀ j, j < k → s.dn ch j = true) : s.run ch k = k := by
  cases k with
  | zero => rfl
  | succ k =>
    unfold Sea.run
    rw [allB_all (fun j hj => h j (by omega)), h k (by omega)]; rfl
theorem Sea.run_at {s : Sea} {ch : Nat → Int → Int} {j : Nat} (hj : s.dn ch j = false) (hk : ∀ k, k < j → s.dn ch k = true) : ∀ {n : Nat}, j < n → s.run ch n = j
  | 0, h => absurd h (by omega)
  | n + 1, h => by
    unfold Sea.run
    by_cases e : j = n
    · subst e
      rw [allB_all hk, hj]; rfl
    · have : allB n (s.dn ch) = false := by
        cases ha : allB n (s.dn ch) with
        | false => rfl
        | true => rw [allB_true ha j (by omega)] at hj; cases hj
      rw [this]
      exact Sea.run_at hj hk (by omega)
/-- The walk does in each slot. -/
def Sea.all (s : Sea) (ch : Nat → Int → Int) : Bool := allB s.n (s.dn ch)
theorem Sea.run_eq {s : Sea} {ch : Nat → Int → Int} (h : s.all ch = true) : s.run ch s.n = s.n := Sea.run_all (allB_true h)
theorem Sea.run_lt {s : Sea} {ch : Nat → Int → Int} (h : s.all ch = false) : s.run ch s.n < s.n := by
  obtain ⟨j, hj, h1, h2⟩ := allB_false h
  rw [Sea.run_at h1 h2 hj]; exact hj
/-- The chooser keeps to the bounds. -/
def Sea.Fits (s : Sea) (ch : Nat → Int → Int) : Prop := ∀ k x, k < s.n → 0 ≤ x → x ≤ s.g 2 → 0 ≤ ch k x ∧ ch k x ≤ s.g 0
theorem Sea.Ok.st_bd {s : Sea} (o : s.Ok) {ch : Nat → Int → Int} : ∀ {k : Nat}, (∀ j, j < k → s.dn ch j = true) → 0 ≤ s.st ch k ∧ s.st ch k ≤ s.g 2
  | 0, _ => o.first
  | k + 1, h => by
    have hd := h k (by omega)
    unfold Sea.dn Sea.does at hd
    have hd := of_decide_eq_true hd
    exact o.left_bd hd
end Go.Ab
