import Derived.Test.YtmegbdgnnbjbmaaFg
namespace Go.Ab
open Go
set_option linter.unusedVariables false
theorem cut_le (s : Bool) (n d : Nat) : Ieee.Toward.even.cut s n d ≤ n / 2 ^ min d (n.log2 + 2) + 1 := by
  unfold Ieee.Toward.cut
  simp only [Nat.one_shiftLeft]
  exact Nat.add_le_add_left (Bool.toNat_le _) _

/-- A rounding that stays below infinity. -/
theorem near_fin {m : Nat} {e : Int} (h : e + (m.log2 : Int) ≤ 125) : Ieee.single.nearest false m e < 2139095040 := by
  have hl : Ieee.single.leastPlace = -149 := rfl
  have hb : Ieee.single.binade = 8388608 := rfl
  have hf : Ieee.single.fractionBits = 23 := rfl
  unfold Ieee.Format.nearest
  split
  · rw [word_pos]; decide
  · rename_i hm
    simp only [hl, hb, hf, isub, word_pos]
    have hlt : m < 2 ^ (m.log2 + 1) := Nat.lt_log2_self
    have kept : Ieee.Toward.even.cut false (m <<< (e - max (e + (m.log2 : Int) - ((23 : Nat) : Int)) (-149)).toNat) (max (e + (m.log2 : Int) - ((23 : Nat) : Int)) (-149) - e).toNat ≤ 16777216 := by
      generalize hlast : max (e + (m.log2 : Int) - ((23 : Nat) : Int)) (-149) = last
      rcases Int.lt_or_le e last with h1 | h1
      · have a : (e - last).toNat = 0 := by omega
        rw [a, Nat.shiftLeft_zero]
        refine Nat.le_trans (cut_le _ _ _) ?_
        generalize hd : min (last - e).toNat (m.log2 + 2) = d
        have h2 : m < 2 ^ d * 16777216 := by
          have : m.log2 + 1 ≤ d + 24 := by omega
          calc m < 2 ^ (m.log2 + 1) := hlt
            _ ≤ 2 ^ (d + 24) := Nat.pow_le_pow_right (by decide) this
            _ = 2 ^ d * 16777216 := by rw [Nat.pow_add]
        have := Nat.div_lt_of_lt_mul h2
        omega
      · have a : (last - e).toNat = 0 := by omega
        rw [a, cut_zero, Nat.shiftLeft_eq]
        have : m * 2 ^ (e - last).toNat < 2 ^ (m.log2 + 1) * 2 ^ (e - last).toNat := Nat.mul_lt_mul_of_pos_right hlt (Nat.two_pow_pos _)
        rw [← Nat.pow_add] at this
        have h3 : m.log2 + 1 + (e - last).toNat ≤ 24 := by omega
        have h4 : 2 ^ (m.log2 + 1 + (e - last).toNat) ≤ 2 ^ 24 := Nat.pow_le_pow_right (by decide) h3
        have h5 : (2 : Nat) ^ 24 = 16777216 := by decide
        omega
    have hr : (max (e + (m.log2 : Int) - ((23 : Nat) : Int)) (-149) - -149).toNat ≤ 251 := by omega
    have := Nat.mul_le_mul_right 8388608 hr
    exact Nat.lt_of_le_of_lt (Nat.min_le_left _ _) (by omega)

theorem log2_mul {m n : Nat} (hm : m < 16777216) (hn : n < 16777216) : (m * n).log2 ≤ 47 := by
  by_cases h : m * n = 0
  · rw [h]; decide
  · have h1 : m * n < 2 ^ 48 := by
      have : m * n ≤ 16777215 * 16777215 := Nat.mul_le_mul (by omega) (by omega)
      have e : (2 : Nat) ^ 48 = 281474976710656 := by decide
      omega
    have := (Nat.log2_lt h).2 h1
    omega

/-- A product below infinity. -/
theorem mul_fin {x y : Nat} (hx : x < 2139095040) (hy : y < 2139095040) (h : x / 8388608 + y / 8388608 ≤ 376) : fop .mul .f32 x y < 2139095040 := by
  obtain ⟨m, p, hr, h1, h2, _⟩ := read_fin hx
  obtain ⟨n, q, hs, h3, h4, _⟩ := read_fin hy
  rw [fop_eq]; unfold fopImpl floatBits
  simp only [Ieee.Format.mul, hr, hs, Ieee.Datum.product, Option.map_some, Option.getD_some, Ieee.Format.write, Bool.xor_false]
  refine near_fin ?_
  have := log2_mul h1 h3
  omega

theorem keyp {x : Nat} (h : x < 2147483648) : key FloatKind.f32.format x = (x : Int) := by
  rw [show FloatKind.f32.format = Ieee.single from rfl, key32 (by omega), if_pos h]
theorem nanp {x : Nat} (h : x ≤ 2139095040) : nanB .f32 x = false := by rw [nan32]; simp; omega

/-- More than a hundred, less a hundred. -/
theorem sub_hundred {h : Nat} (h1 : 1120403456 < h) (h2 : h ≤ 1153138688) : fop .sub .f32 h 1120403456 < 2139095040 := by
  obtain ⟨m, p, hr, hm1, hp, _⟩ := read_fin (x := h) (by omega)
  have r1 : FloatKind.f32.format.read 1120403456 = .number false 13107200 (-149 + ((132 : Nat) : Int)) := by decide +kernel
  have hs : FloatKind.f32.format.signWeight = 2147483648 := rfl
  have hi : FloatKind.f32.format.infRung = 2139095040 := rfl
  have hl : FloatKind.f32.format.leastPlace = -149 := rfl
  have e1 : h % 2147483648 = h := Nat.mod_eq_of_lt (by omega)
  obtain ⟨m', p', hr', hg⟩ := read_number .f32 (x := h) (by rw [hs, hi, e1]; omega)
  obtain ⟨n', q', hq', hg'⟩ := read_number .f32 (x := 1120403456) (by rw [hs, hi]; decide)
  rw [hr] at hr'; rw [r1] at hq'
  rw [hl] at hr' hq'
  simp only [Ieee.Datum.number.injEq] at hr' hq'
  obtain ⟨_, rfl, hpp⟩ := hr'
  obtain ⟨_, rfl, hqq⟩ := hq'
  have hpp : p' = p := by omega
  have hqq : q' = 132 := by omega
  subst hpp; subst hqq
  rw [hs] at hg hg'
  have hmg := mg_lt FloatKind.f32.format h1
  rw [e1] at hg
  have e2 : (1120403456 : Nat) % 2147483648 = 1120403456 := by decide
  rw [e2] at hg'
  rw [← hg, ← hg'] at hmg
  have hb : min (-149 + (p' : Int)) (-149 + ((132 : Nat) : Int)) = -149 + ((min p' 132 : Nat) : Int) := by omega
  have a1 : (-149 + (p' : Int) - (-149 + ((min p' 132 : Nat) : Int))).toNat = p' - min p' 132 := by omega
  have a2 : (-149 + ((132 : Nat) : Int) - (-149 + ((min p' 132 : Nat) : Int))).toNat = 132 - min p' 132 := by omega
  have hlt : 13107200 * 2 ^ (132 - min p' 132) < m * 2 ^ (p' - min p' 132) := by
    have c1 : m * 2 ^ p' = (m * 2 ^ (p' - min p' 132)) * 2 ^ min p' 132 := by rw [Nat.mul_assoc, ← Nat.pow_add]; congr 2; omega
    have c2 : 13107200 * 2 ^ 132 = (13107200 * 2 ^ (132 - min p' 132)) * 2 ^ min p' 132 := by rw [Nat.mul_assoc, ← Nat.pow_add]; congr 2; omega
    rw [c1, c2] at hmg
    exact Nat.lt_of_mul_lt_mul_right hmg
  have hA : m * 2 ^ (p' - min p' 132) < 2 ^ (24 + (p' - min p' 132)) := by
    rw [Nat.pow_add]; exact Nat.mul_lt_mul_of_pos_right hm1 (Nat.two_pow_pos _)
  rw [fop_eq]; unfold fopImpl floatBits
  simp only [Ieee.Format.sub, hr, r1, Ieee.Datum.opposite, Ieee.Datum.sum, Ieee.signed, hb, a1, a2, Bool.not_false, Bool.false_eq_true, if_false, if_true, Nat.shiftLeft_eq, Option.map_some, Option.getD_some, Ieee.Format.write]
  generalize m * 2 ^ (p' - min p' 132) = A at hlt hA
  generalize 13107200 * 2 ^ (132 - min p' 132) = B at hlt
  have t1 : (if (A : Int) + -(B : Int) = 0 then false && true else decide ((A : Int) + -(B : Int) < 0)) = false := by
    split
    · rfl
    · simp only [decide_eq_false_iff_not]; omega
  have t2 : ((A : Int) + -(B : Int)).natAbs = A - B := by omega
  rw [t1, t2]
  refine near_fin ?_
  have hT : A - B ≠ 0 := by omega
  have := (Nat.log2_lt hT).2 (Nat.lt_of_le_of_lt (Nat.sub_le A B) hA)
  omega

theorem fmin_less {a x : Nat} (ha : a ≤ 2139095040) (hx : x ≤ 2139095040) : fmin .f32 a x = cond (fltB .f32 x a) x a := by
  rw [flt_key .f32 (nanp hx) (nanp ha), keyp (by omega), keyp (by omega), fmin_eq]; unfold fminImpl
  rw [ord_key .f32 (nanp ha) (nanp hx), keyp (by omega), keyp (by omega)]
  rcases Int.lt_trichotomy (a : Int) (x : Int) with h | h | h
  · rw [cmp_lt h]
    have : decide ((x : Int) < a) = false := by simp; omega
    rw [this]; rfl
  · have : a = x := by omega
    subst this
    rw [cmp_eq rfl]; simp
  · rw [cmp_gt h]
    have : decide ((x : Int) < a) = true := by simp; omega
    rw [this]; rfl

theorem fmax_more {q c : Nat} (hq : nanB .f32 q = false) (hw : q < 4294967296) (hc : c ≤ 2139095040) (hc0 : 0 < c) : fmax .f32 q c = cond (fltB .f32 q c) c q := by
  rw [flt_key .f32 hq (nanp hc), fmax_eq]; unfold fmaxImpl
  rw [ord_key .f32 hq (nanp hc)]
  rcases Int.lt_trichotomy (key FloatKind.f32.format q) (key FloatKind.f32.format c) with h | h | h
  · rw [cmp_lt h]
    have : decide (key FloatKind.f32.format q < key FloatKind.f32.format c) = true := by simp; omega
    rw [this]; rfl
  · have : q = c := by
      rw [keyp (x := c) (by omega)] at h
      rw [show FloatKind.f32.format = Ieee.single from rfl, key32 hw] at h
      split at h <;> omega
    subst this
    rw [cmp_eq rfl]; simp
  · rw [cmp_gt h]
    have : decide (key FloatKind.f32.format q < key FloatKind.f32.format c) = false := by simp; omega
    rw [this]; rfl
end Go.Ab
