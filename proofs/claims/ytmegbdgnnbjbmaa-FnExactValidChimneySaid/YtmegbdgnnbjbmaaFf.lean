import Derived.Test.YtmegbdgnnbjbmaaAbN
namespace Go.Ab
open Go
set_option linter.unusedVariables false
/-! ### WHAT ROUNDING GIVES -/
theorem log2_scale {m : Nat} (k : Nat) (h : m ≠ 0) : (m * 2 ^ k).log2 = m.log2 + k := by
  have h1 : 2 ^ m.log2 ≤ m := Nat.log2_self_le h
  have h2 : m < 2 ^ (m.log2 + 1) := Nat.lt_log2_self
  have hk : 0 < 2 ^ k := Nat.two_pow_pos k
  have hne : m * 2 ^ k ≠ 0 := Nat.mul_ne_zero h (by omega)
  refine (Nat.log2_eq_iff hne).2 ⟨?_, ?_⟩
  · rw [Nat.pow_add]; exact Nat.mul_le_mul_right _ h1
  · have : m.log2 + k + 1 = m.log2 + 1 + k := by omega
    rw [this, Nat.pow_add]; exact Nat.mul_lt_mul_of_pos_right h2 hk

theorem cut_scale (s : Bool) {m : Nat} (k d : Nat) (h : m ≠ 0) : Ieee.Toward.even.cut s (m * 2 ^ k) (k + d) = Ieee.Toward.even.cut s m d := by
  have hk : 0 < 2 ^ k := Nat.two_pow_pos k
  unfold Ieee.Toward.cut
  have e : min (k + d) ((m * 2 ^ k).log2 + 2) = k + min d (m.log2 + 2) := by rw [log2_scale k h]; omega
  simp only [e, Nat.one_shiftLeft]
  have e1 : m * 2 ^ k / 2 ^ (k + min d (m.log2 + 2)) = m / 2 ^ min d (m.log2 + 2) := by
    rw [Nat.pow_add, Nat.mul_comm m, Nat.mul_div_mul_left _ _ hk]
  have e2 : m * 2 ^ k % 2 ^ (k + min d (m.log2 + 2)) = 2 ^ k * (m % 2 ^ min d (m.log2 + 2)) := by
    rw [Nat.pow_add, Nat.mul_comm m, Nat.mul_mod_mul_left]
  rw [e1, e2, Nat.pow_add]
  have e3 : decide (2 ^ k * 2 ^ min d (m.log2 + 2) < 2 * (2 ^ k * (m % 2 ^ min d (m.log2 + 2)))) = decide (2 ^ min d (m.log2 + 2) < 2 * (m % 2 ^ min d (m.log2 + 2))) := by
    rw [Nat.mul_left_comm 2]
    exact decide_eq_decide.2 (Nat.mul_lt_mul_left hk)
  have e4 : (2 ^ k * 2 ^ min d (m.log2 + 2) == 2 * (2 ^ k * (m % 2 ^ min d (m.log2 + 2)))) = (2 ^ min d (m.log2 + 2) == 2 * (m % 2 ^ min d (m.log2 + 2))) := by
    rw [Nat.mul_left_comm 2]
    have : (2 ^ k * 2 ^ min d (m.log2 + 2) = 2 ^ k * (2 * (m % 2 ^ min d (m.log2 + 2)))) ↔ (2 ^ min d (m.log2 + 2) = 2 * (m % 2 ^ min d (m.log2 + 2))) := Nat.mul_right_inj (by omega)
    rw [Bool.eq_iff_iff]; simp only [beq_iff_eq]; exact this
  simp only [e3, e4]

theorem cut_zero (s : Bool) (n : Nat) : Ieee.Toward.even.cut s n 0 = n := by
  unfold Ieee.Toward.cut
  simp [Nat.mod_one]

theorem cut_exact (s : Bool) {m : Nat} {k d : Nat} (h : m ≠ 0) (hd : d ≤ k) : Ieee.Toward.even.cut s (m * 2 ^ k) d = m * 2 ^ (k - d) := by
  have e : m * 2 ^ k = (m * 2 ^ (k - d)) * 2 ^ d := by
    rw [Nat.mul_assoc, ← Nat.pow_add]; congr 2; omega
  have hne : m * 2 ^ (k - d) ≠ 0 := Nat.mul_ne_zero h (by have := Nat.two_pow_pos (k - d); omega)
  have := cut_scale s d 0 hne
  rw [Nat.add_zero] at this
  rw [e, this, cut_zero]

/-- A number may be written with more digits. -/
theorem near_scale (f : Ieee.Format) (s : Bool) (m k : Nat) (e : Int) : f.nearest s (m * 2 ^ k) (e - k) = f.nearest s m e := by
  have hk : 0 < 2 ^ k := Nat.two_pow_pos k
  by_cases h : m = 0
  · subst h; simp [Ieee.Format.nearest]
  have hne : m * 2 ^ k ≠ 0 := Nat.mul_ne_zero h (by omega)
  unfold Ieee.Format.nearest
  rw [if_neg hne, if_neg h]
  have el : max (e - (k : Int) + ((m * 2 ^ k).log2 : Nat) - (f.fractionBits : Int)) f.leastPlace = max (e + (m.log2 : Nat) - (f.fractionBits : Int)) f.leastPlace := by
    rw [log2_scale k h]; congr 1; omega
  simp only [el]
  generalize max (e + (m.log2 : Nat) - (f.fractionBits : Int)) f.leastPlace = last
  have key : Ieee.Toward.even.cut s ((m * 2 ^ k) <<< (e - (k : Int) - last).toNat) (last - (e - (k : Int))).toNat = Ieee.Toward.even.cut s (m <<< (e - last).toNat) (last - e).toNat := by
    rcases Int.lt_or_le (e - last) 0 with h1 | h1
    · have a1 : (e - (k : Int) - last).toNat = 0 := by omega
      have a2 : (e - last).toNat = 0 := by omega
      have a3 : (last - (e - (k : Int))).toNat = k + (last - e).toNat := by omega
      rw [a1, a2, a3]
      simp only [Nat.shiftLeft_zero]
      exact cut_scale s k _ h
    · have a2 : (last - e).toNat = 0 := by omega
      rw [a2, cut_zero]
      rcases Int.lt_or_le (e - (k : Int) - last) 0 with h2 | h2
      · have a1 : (e - (k : Int) - last).toNat = 0 := by omega
        rw [a1, Nat.shiftLeft_zero, Nat.shiftLeft_eq, cut_exact s h (by omega)]
        congr 2; omega
      · have a1 : (last - (e - (k : Int))).toNat = 0 := by omega
        rw [a1, cut_zero, Nat.shiftLeft_eq, Nat.shiftLeft_eq, Nat.mul_assoc, ← Nat.pow_add]
        congr 2; omega
  rw [key]

/-- The rung of a rounding. -/
theorem near_pos (m : Nat) (e : Int) : Ieee.single.nearest false m e ≤ 2139095040 := by
  have hi : Ieee.single.infRung = 2139095040 := rfl
  unfold Ieee.Format.nearest
  split
  · simp only [Ieee.Format.word, Bool.false_eq_true, if_false]; exact Nat.zero_le _
  · simp only [Ieee.Format.word, Bool.false_eq_true, if_false, hi]
    exact Nat.min_le_right _ _

theorem near_nz {m : Nat} {e : Int} (hm : m ≠ 0) (he : -149 ≤ e) : 0 < Ieee.single.nearest false m e := by
  have hl : Ieee.single.leastPlace = -149 := rfl
  have hb : Ieee.single.binade = 8388608 := rfl
  have hf : Ieee.single.fractionBits = 23 := rfl
  have hi : Ieee.single.infRung = 2139095040 := rfl
  unfold Ieee.Format.nearest
  rw [if_neg hm]
  simp only [hl, hb, hf, hi, Ieee.Format.word, Bool.false_eq_true, if_false]
  refine Nat.lt_min.2 ⟨?_, Nat.zero_lt_succ _⟩
  generalize hlast : max (e + (m.log2 : Int) - ((23 : Nat) : Int)) (-149) = last
  rcases Int.lt_or_le (-149) last with h | h
  · have h1 : 1 ≤ (last - -149).toNat := by omega
    have := Nat.mul_le_mul_right 8388608 h1
    exact Nat.lt_of_lt_of_le (by decide) (Nat.le_trans this (Nat.le_add_right _ _))
  · have h' : last = -149 := by omega
    rw [h']
    have a : (-149 - e).toNat = 0 := by omega
    rw [a, cut_zero, Nat.shiftLeft_eq]
    have : 0 < m * 2 ^ (e - -149).toNat := Nat.mul_pos (by omega) (Nat.two_pow_pos _)
    exact Nat.lt_of_lt_of_le this (Nat.le_add_left _ _)

/-- Halving is multiplying by a half. -/
theorem half_quo (x : Nat) : fop .quo .f32 x 1073741824 = fop .mul .f32 1056964608 x := by
  have r2 : FloatKind.f32.format.read 1073741824 = .number false 8388608 (-22) := by decide +kernel
  have rh : FloatKind.f32.format.read 1056964608 = .number false 8388608 (-24) := by decide +kernel
  rw [fop_eq]; unfold fopImpl floatBits
  simp only [Ieee.Format.div, Ieee.Format.mul, r2, rh]
  cases hx : FloatKind.f32.format.read x with
  | nan s t => rfl
  | infinity s => cases s <;> rfl
  | number s m i =>
    have e1 : (Ieee.Datum.quotient (FloatKind.f32.format.fractionBits + 2) (.number s m i) (.number false 8388608 (-22))) = some (.number (s ^^ false) (2 * ((m <<< (25 + 23 - m.log2)) / 8388608) + ((m <<< (25 + 23 - m.log2)) % 8388608 != 0).toNat) (i - -22 - ((25 + 23 - m.log2 : Nat) : Int) - 1)) := by
      have hlog : Nat.log2 8388608 = 23 := by decide +kernel
      unfold Ieee.Datum.quotient
      simp only [show (8388608 : Nat) ≠ 0 by decide, if_false, hlog]
      rfl
    rw [e1]
    simp only [Ieee.Datum.product, Option.map_some, Option.getD_some, Ieee.Format.write, Bool.false_xor, Bool.xor_false]
    by_cases hm : m = 0
    · subst hm; simp [Ieee.Format.nearest]
    have hmlt : m.log2 ≤ 23 := by
      have hb : m < 2 ^ 24 := (single_number hx).1
      have := (Nat.log2_lt hm).2 hb
      omega
    obtain ⟨q, hq⟩ : ∃ q, 25 + 23 - m.log2 = q + 23 := ⟨25 - m.log2, by omega⟩
    rw [hq, Nat.shiftLeft_eq, Nat.pow_add, ← Nat.mul_assoc]
    have hdiv : m * 2 ^ q * 2 ^ 23 / 8388608 = m * 2 ^ q := Nat.mul_div_cancel _ (by decide)
    have hmod : m * 2 ^ q * 2 ^ 23 % 8388608 = 0 := Nat.mul_mod_left _ _
    rw [hdiv, hmod]
    have hA := near_scale FloatKind.f32.format s m (q + 1) (i - 1)
    have hB := near_scale FloatKind.f32.format s m 23 (i - 1)
    have eA : 2 * (m * 2 ^ q) + ((0 : Nat) != 0).toNat = m * 2 ^ (q + 1) := by
      show 2 * (m * 2 ^ q) + 0 = _
      rw [Nat.add_zero, Nat.pow_succ, ← Nat.mul_assoc m]; exact Nat.mul_comm _ _
    have eB : 8388608 * m = m * 2 ^ 23 := by rw [Nat.mul_comm]
    rw [eA, eB]
    have pA : i - -22 - ((q + 23 : Nat) : Int) - 1 = i - 1 - ((q + 1 : Nat) : Int) := by omega
    have pB : (-24 : Int) + i = i - 1 - ((23 : Nat) : Int) := by omega
    rw [pA, pB, hA, hB]
end Go.Ab
