import Derived.Test.YtmegbdgnnbjbmaaFk
namespace Go.Ab
open Go
set_option linter.unusedVariables false
/-! ### ROUNDING IS MONOTONE -/
theorem cut_def (s : Bool) (n d : Nat) (h : d ≤ n.log2 + 2) : Ieee.Toward.even.cut s n d = n / 2 ^ d + (2 ^ d < 2 * (n % 2 ^ d) || (2 ^ d == 2 * (n % 2 ^ d) && n / 2 ^ d % 2 == 1) : Bool).toNat := by
  unfold Ieee.Toward.cut
  have e : min d (n.log2 + 2) = d := by omega
  simp only [e, Nat.one_shiftLeft]

theorem cut_mono (s : Bool) {n n' d : Nat} (h : d ≤ n.log2 + 2) (h' : d ≤ n'.log2 + 2) (hn : n ≤ n') : Ieee.Toward.even.cut s n d ≤ Ieee.Toward.even.cut s n' d := by
  rw [cut_def s n d h, cut_def s n' d h']
  have hq : n / 2 ^ d ≤ n' / 2 ^ d := Nat.div_le_div_right hn
  have b1 := Bool.toNat_le (2 ^ d < 2 * (n % 2 ^ d) || (2 ^ d == 2 * (n % 2 ^ d) && n / 2 ^ d % 2 == 1))
  rcases Nat.lt_or_eq_of_le hq with hlt | heq
  · omega
  · have e1 := Nat.div_add_mod n (2 ^ d)
    have e2 := Nat.div_add_mod n' (2 ^ d)
    rw [← heq] at e2 ⊢
    have hr : n % 2 ^ d ≤ n' % 2 ^ d := by omega
    refine Nat.add_le_add_left ?_ _
    generalize n % 2 ^ d = r at hr
    generalize n' % 2 ^ d = r' at hr
    generalize (n / 2 ^ d % 2 == 1) = o
    generalize 2 ^ d = g
    by_cases h1 : g < 2 * r
    · have h2 : g < 2 * r' := by omega
      simp [h1, h2]
    · by_cases h3 : g = 2 * r
      · by_cases h4 : g < 2 * r'
        · simp only [h4, decide_true, Bool.true_or]; exact Bool.toNat_le _
        · have h5 : g = 2 * r' := by omega
          have : r = r' := by omega
          subst this
          exact Nat.le_refl _
      · have : (decide (g < 2 * r) || (g == 2 * r && o)) = false := by simp [h1, h3]
        rw [this]; exact Nat.zero_le _

/-- The rung of a number of a place that is not too low. -/
def rg (m : Nat) (E : Nat) : Nat :=
  if m.log2 ≤ 23 then (if E + m.log2 ≤ 23 then m * 2 ^ E else (E + m.log2 - 23) * 8388608 + m * 2 ^ (23 - m.log2))
  else (E + m.log2 - 23) * 8388608 + Ieee.Toward.even.cut false m (m.log2 - 23)

theorem near_rg {m : Nat} (E : Nat) (hm : m ≠ 0) : Ieee.single.nearest false m (-149 + (E : Int)) = min (rg m E) 2139095040 := by
  have hl : Ieee.single.leastPlace = -149 := rfl
  have hb : Ieee.single.binade = 8388608 := rfl
  have hf : Ieee.single.fractionBits = 23 := rfl
  unfold Ieee.Format.nearest
  rw [if_neg hm]
  simp only [hl, hb, hf, isub, word_pos]
  congr 1
  unfold rg
  by_cases h1 : m.log2 ≤ 23
  · rw [if_pos h1]
    by_cases h2 : E + m.log2 ≤ 23
    · rw [if_pos h2]
      have e : max (-149 + (E : Int) + (m.log2 : Int) - ((23 : Nat) : Int)) (-149) = -149 := by omega
      rw [e]
      have a : (-149 - (-149 + (E : Int))).toNat = 0 := by omega
      have b : (-149 + (E : Int) - -149).toNat = E := by omega
      have c : (-149 - -149 : Int).toNat = 0 := by omega
      rw [a, b, c, cut_zero, Nat.shiftLeft_eq, Nat.zero_mul, Nat.zero_add]
    · rw [if_neg h2]
      have e : max (-149 + (E : Int) + (m.log2 : Int) - ((23 : Nat) : Int)) (-149) = -149 + ((E + m.log2 - 23 : Nat) : Int) := by omega
      rw [e]
      have a : (-149 + ((E + m.log2 - 23 : Nat) : Int) - (-149 + (E : Int))).toNat = 0 := by omega
      have b : (-149 + (E : Int) - (-149 + ((E + m.log2 - 23 : Nat) : Int))).toNat = 23 - m.log2 := by omega
      have c : (-149 + ((E + m.log2 - 23 : Nat) : Int) - -149 : Int).toNat = E + m.log2 - 23 := by omega
      rw [a, b, c, cut_zero, Nat.shiftLeft_eq]
  · rw [if_neg h1]
    have e : max (-149 + (E : Int) + (m.log2 : Int) - ((23 : Nat) : Int)) (-149) = -149 + ((E + m.log2 - 23 : Nat) : Int) := by omega
    rw [e]
    have a : (-149 + ((E + m.log2 - 23 : Nat) : Int) - (-149 + (E : Int))).toNat = m.log2 - 23 := by omega
    have b : (-149 + (E : Int) - (-149 + ((E + m.log2 - 23 : Nat) : Int))).toNat = 0 := by omega
    have c : (-149 + ((E + m.log2 - 23 : Nat) : Int) - -149 : Int).toNat = E + m.log2 - 23 := by omega
    rw [a, b, c, Nat.shiftLeft_zero]

theorem rg_low {m E : Nat} (hm : m ≠ 0) (h : E + m.log2 ≤ 23) : rg m E = m * 2 ^ E ∧ m * 2 ^ E < 16777216 := by
  have h1 : m.log2 ≤ 23 := by omega
  unfold rg
  rw [if_pos h1, if_pos h]
  refine ⟨rfl, ?_⟩
  have hlt : m < 2 ^ (m.log2 + 1) := Nat.lt_log2_self
  calc m * 2 ^ E < 2 ^ (m.log2 + 1) * 2 ^ E := Nat.mul_lt_mul_of_pos_right hlt (Nat.two_pow_pos _)
    _ = 2 ^ (m.log2 + 1 + E) := by rw [← Nat.pow_add]
    _ ≤ 2 ^ 24 := Nat.pow_le_pow_right (by decide) (by omega)

theorem rg_high {m E : Nat} (hm : m ≠ 0) (h : 23 < E + m.log2) : ∃ k, rg m E = (E + m.log2 - 23) * 8388608 + k ∧ 8388608 ≤ k ∧ k ≤ 16777216 ∧ k = if m.log2 ≤ 23 then m * 2 ^ (23 - m.log2) else Ieee.Toward.even.cut false m (m.log2 - 23) := by
  have hlt : m < 2 ^ (m.log2 + 1) := Nat.lt_log2_self
  have hle : 2 ^ m.log2 ≤ m := Nat.log2_self_le hm
  unfold rg
  by_cases h1 : m.log2 ≤ 23
  · rw [if_pos h1, if_neg (by omega), if_pos h1]
    refine ⟨_, rfl, ?_, ?_, rfl⟩
    · calc 8388608 = 2 ^ m.log2 * 2 ^ (23 - m.log2) := by rw [← Nat.pow_add]; have : m.log2 + (23 - m.log2) = 23 := by omega
                                                          rw [this]
        _ ≤ m * 2 ^ (23 - m.log2) := Nat.mul_le_mul_right _ hle
    · have : m * 2 ^ (23 - m.log2) ≤ 2 ^ (m.log2 + 1) * 2 ^ (23 - m.log2) := Nat.mul_le_mul_right _ (Nat.le_of_lt hlt)
      rw [← Nat.pow_add] at this
      have e : m.log2 + 1 + (23 - m.log2) = 24 := by omega
      rw [e] at this
      exact this
  · rw [if_neg h1, if_neg h1]
    refine ⟨_, rfl, ?_, ?_, rfl⟩
    · rw [cut_def false m _ (by omega)]
      have : 8388608 ≤ m / 2 ^ (m.log2 - 23) := by
        rw [Nat.le_div_iff_mul_le (Nat.two_pow_pos _)]
        calc 8388608 * 2 ^ (m.log2 - 23) = 2 ^ 23 * 2 ^ (m.log2 - 23) := rfl
          _ = 2 ^ m.log2 := by rw [← Nat.pow_add]; congr 1; omega
          _ ≤ m := hle
      exact Nat.le_trans this (Nat.le_add_right _ _)
    · refine Nat.le_trans (cut_le _ _ _) ?_
      have e : min (m.log2 - 23) (m.log2 + 2) = m.log2 - 23 := by omega
      rw [e]
      have : m / 2 ^ (m.log2 - 23) < 16777216 := by
        rw [Nat.div_lt_iff_lt_mul (Nat.two_pow_pos _)]
        calc m < 2 ^ (m.log2 + 1) := hlt
          _ = 2 ^ 24 * 2 ^ (m.log2 - 23) := by rw [← Nat.pow_add]; congr 1; omega
      omega

theorem rg_mono {m n : Nat} (E : Nat) (hm : m ≠ 0) (h : m ≤ n) : rg m E ≤ rg n E := by
  have hn : n ≠ 0 := by omega
  have hll : m.log2 ≤ n.log2 := by
    have h1 : 2 ^ m.log2 ≤ n := Nat.le_trans (Nat.log2_self_le hm) h
    exact (Nat.le_log2 hn).2 h1
  by_cases c1 : E + n.log2 ≤ 23
  · rw [(rg_low hn c1).1, (rg_low hm (by omega)).1]
    exact Nat.mul_le_mul_right _ h
  · obtain ⟨k, h1, h2, h3, h4⟩ := rg_high hn (E := E) (by omega)
    rw [h1]
    by_cases c2 : E + m.log2 ≤ 23
    · obtain ⟨g1, g2⟩ := rg_low hm c2
      rw [g1]
      have : 1 * 8388608 ≤ (E + n.log2 - 23) * 8388608 := Nat.mul_le_mul_right _ (by omega)
      omega
    · obtain ⟨j, g1, g2, g3, g4⟩ := rg_high hm (E := E) (by omega)
      rw [g1]
      by_cases c3 : m.log2 = n.log2
      · rw [← c3] at h4 ⊢
        refine Nat.add_le_add_left ?_ _
        rw [g4, h4]
        split
        · exact Nat.mul_le_mul_right _ h
        · exact cut_mono false (by omega) (by omega) h
      · have e : (E + m.log2 - 23 + 1) * 8388608 ≤ (E + n.log2 - 23) * 8388608 := Nat.mul_le_mul_right _ (by omega)
        rw [Nat.add_mul] at e
        omega

/-- Rounding is monotone. -/
theorem near_mono {m n : Nat} (E : Nat) (h : m ≤ n) : Ieee.single.nearest false m (-149 + (E : Int)) ≤ Ieee.single.nearest false n (-149 + (E : Int)) := by
  by_cases hm : m = 0
  · subst hm
    have : Ieee.single.nearest false 0 (-149 + (E : Int)) = 0 := by simp [Ieee.Format.nearest, Ieee.Format.word]
    rw [this]; exact Nat.zero_le _
  · rw [near_rg E hm, near_rg E (by omega)]
    have := rg_mono E hm h
    omega
end Go.Ab
