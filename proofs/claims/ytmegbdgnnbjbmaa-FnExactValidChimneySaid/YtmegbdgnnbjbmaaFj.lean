import Derived.Test.YtmegbdgnnbjbmaaFi
namespace Go.Ab
open Go
set_option linter.unusedVariables false
theorem near_bd {m : Nat} {e : Int} (L : Nat) (h : e + (m.log2 : Int) + 128 ≤ L) (h2 : 2 ≤ L) : Ieee.single.nearest false m e ≤ L * 8388608 := by
  have hl : Ieee.single.leastPlace = -149 := rfl
  have hb : Ieee.single.binade = 8388608 := rfl
  have hf : Ieee.single.fractionBits = 23 := rfl
  unfold Ieee.Format.nearest
  split
  · rw [word_pos]; exact Nat.zero_le _
  · rename_i hm
    simp only [hl, hb, hf, isub, word_pos]
    have hlt : m < 2 ^ (m.log2 + 1) := Nat.lt_log2_self
    have kept : Ieee.Toward.even.cut false (m <<< (e - max (e + (m.log2 : Int) - ((23 : Nat) : Int)) (-149)).toNat) (max (e + (m.log2 : Int) - ((23 : Nat) : Int)) (-149) - e).toNat ≤ 16777216 := by
      generalize hlast : max (e + (m.log2 : Int) - ((23 : Nat) : Int)) (-149) = last
      rcases Int.lt_or_le e last with h1 | h1
      · have a : (e - last).toNat = 0 := by omega
        rw [a, Nat.shiftLeft_zero]
        refine Nat.le_trans (cut_le _ _ _) ?_
        generalize hd : min (last - e).toNat (m.log2 + 2) = d
        have h2 : m < 2 ^ d * 16777216 := by
          have : m.log2 + 1 ≤ d + 24 := by omega
          calc m < 2 ^ (m.log2 + 1) := hlt
            _ ≤ 2 ^ (d + 24) := Nat.pow_le_pow_right (by decide) this
            _ = 2 ^ d * 16777216 := by rw [Nat.pow_add]
        have := Nat.div_lt_of_lt_mul h2
        omega
      · have a : (last - e).toNat = 0 := by omega
        rw [a, cut_zero, Nat.shiftLeft_eq]
        have : m * 2 ^ (e - last).toNat < 2 ^ (m.log2 + 1) * 2 ^ (e - last).toNat := Nat.mul_lt_mul_of_pos_right hlt (Nat.two_pow_pos _)
        rw [← Nat.pow_add] at this
        have h3 : m.log2 + 1 + (e - last).toNat ≤ 24 := by omega
        have h4 : 2 ^ (m.log2 + 1 + (e - last).toNat) ≤ 2 ^ 24 := Nat.pow_le_pow_right (by decide) h3
        have h5 : (2 : Nat) ^ 24 = 16777216 := by decide
        omega
    have hr : (max (e + (m.log2 : Int) - ((23 : Nat) : Int)) (-149) - -149).toNat ≤ L - 2 := by omega
    have := Nat.mul_le_mul_right 8388608 hr
    generalize (max (e + (m.log2 : Int) - ((23 : Nat) : Int)) (-149) - -149).toNat = R at hr this ⊢
    generalize Ieee.Toward.even.cut false (m <<< (e - max (e + (m.log2 : Int) - ((23 : Nat) : Int)) (-149)).toNat) (max (e + (m.log2 : Int) - ((23 : Nat) : Int)) (-149) - e).toNat = K at kept ⊢
    have e5 : R * 8388608 + K ≤ L * 8388608 := by
      have e6 : L * 8388608 = (L - 2) * 8388608 + 2 * 8388608 := by
        rw [← Nat.add_mul]; congr 1; omega
      rw [e6]; exact Nat.add_le_add this kept
    refine Nat.le_trans (Nat.min_le_left _ _) ?_
    exact e5

theorem mul_bd {x y : Nat} (L : Nat) (hx : x < 2139095040) (hy : y < 2139095040) (h : x / 8388608 + y / 8388608 ≤ L + 123) (h2 : 2 ≤ L) : fop .mul .f32 x y ≤ L * 8388608 := by
  obtain ⟨m, p, hr, h1, h2', _⟩ := read_fin hx
  obtain ⟨n, q, hs, h3, h4, _⟩ := read_fin hy
  rw [fop_eq]; unfold fopImpl floatBits
  simp only [Ieee.Format.mul, hr, hs, Ieee.Datum.product, Option.map_some, Option.getD_some, Ieee.Format.write, Bool.xor_false]
  refine near_bd L ?_ h2
  have := log2_mul h1 h3
  omega

theorem mul_zero {x : Nat} (hx : x < 2139095040) : fop .mul .f32 x 0 = 0 := by
  obtain ⟨m, p, hr, h1, _⟩ := read_fin hx
  have r0 : FloatKind.f32.format.read 0 = .number false 0 (-149 + ((0 : Nat) : Int)) := by decide +kernel
  rw [fop_eq]; unfold fopImpl floatBits
  simp only [Ieee.Format.mul, hr, r0, Ieee.Datum.product, Option.map_some, Option.getD_some, Ieee.Format.write, Bool.xor_false, Nat.mul_zero]
  simp [Ieee.Format.nearest, Ieee.Format.word]

/-- A difference that is not below nought. -/
theorem sub_ge {h c : Nat} (h1 : c ≤ h) (h2 : h ≤ 1153138688) : fop .sub .f32 h c ≤ 139 * 8388608 := by
  obtain ⟨m, p, hr, hm1, hp, _⟩ := read_fin (x := h) (by omega)
  obtain ⟨n, q, r1, _⟩ := read_fin (x := c) (by omega)
  have hs : FloatKind.f32.format.signWeight = 2147483648 := rfl
  have hi : FloatKind.f32.format.infRung = 2139095040 := rfl
  have hl : FloatKind.f32.format.leastPlace = -149 := rfl
  have e1 : h % 2147483648 = h := Nat.mod_eq_of_lt (by omega)
  have e2 : c % 2147483648 = c := Nat.mod_eq_of_lt (by omega)
  obtain ⟨m', p', hr', hg⟩ := read_number .f32 (x := h) (by rw [hs, hi, e1]; omega)
  obtain ⟨n', q', hq', hg'⟩ := read_number .f32 (x := c) (by rw [hs, hi, e2]; omega)
  rw [hr] at hr'; rw [r1] at hq'
  rw [hl] at hr' hq'
  simp only [Ieee.Datum.number.injEq] at hr' hq'
  obtain ⟨_, rfl, hpp⟩ := hr'
  obtain ⟨_, rfl, hqq⟩ := hq'
  have hpp : p' = p := by omega
  have hqq : q' = q := by omega
  subst hpp; subst hqq
  rw [hs] at hg hg'
  have hmg := mg_le FloatKind.f32.format h1
  rw [e1] at hg
  rw [e2] at hg'
  rw [← hg, ← hg'] at hmg
  have hb : min (-149 + (p' : Int)) (-149 + (q' : Int)) = -149 + ((min p' q' : Nat) : Int) := by omega
  have a1 : (-149 + (p' : Int) - (-149 + ((min p' q' : Nat) : Int))).toNat = p' - min p' q' := by omega
  have a2 : (-149 + (q' : Int) - (-149 + ((min p' q' : Nat) : Int))).toNat = q' - min p' q' := by omega
  have hlt : n * 2 ^ (q' - min p' q') ≤ m * 2 ^ (p' - min p' q') := by
    have c1 : m * 2 ^ p' = (m * 2 ^ (p' - min p' q')) * 2 ^ min p' q' := by rw [Nat.mul_assoc, ← Nat.pow_add]; congr 2; omega
    have c2 : n * 2 ^ q' = (n * 2 ^ (q' - min p' q')) * 2 ^ min p' q' := by rw [Nat.mul_assoc, ← Nat.pow_add]; congr 2; omega
    rw [c1, c2] at hmg
    exact Nat.le_of_mul_le_mul_right hmg (Nat.two_pow_pos _)
  have hA : m * 2 ^ (p' - min p' q') < 2 ^ (24 + (p' - min p' q')) := by
    rw [Nat.pow_add]; exact Nat.mul_lt_mul_of_pos_right hm1 (Nat.two_pow_pos _)
  rw [fop_eq]; unfold fopImpl floatBits
  simp only [Ieee.Format.sub, hr, r1, Ieee.Datum.opposite, Ieee.Datum.sum, Ieee.signed, hb, a1, a2, Bool.not_false, Bool.false_eq_true, if_false, if_true, Nat.shiftLeft_eq, Option.map_some, Option.getD_some, Ieee.Format.write]
  generalize m * 2 ^ (p' - min p' q') = A at hlt hA
  generalize n * 2 ^ (q' - min p' q') = B at hlt
  have t1 : (if (A : Int) + -(B : Int) = 0 then false && true else decide ((A : Int) + -(B : Int) < 0)) = false := by
    split
    · rfl
    · simp only [decide_eq_false_iff_not]; omega
  have t2 : ((A : Int) + -(B : Int)).natAbs = A - B := by omega
  rw [t1, t2]
  by_cases hT : A - B = 0
  · rw [hT]
    simp [Ieee.Format.nearest, Ieee.Format.word]
  · refine near_bd 139 ?_ (by decide)
    have := (Nat.log2_lt hT).2 (Nat.lt_of_le_of_lt (Nat.sub_le A B) hA)
    omega
end Go.Ab
