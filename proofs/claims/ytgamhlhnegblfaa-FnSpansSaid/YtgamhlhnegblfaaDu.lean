import Derived.Test.YtgamhlhnegblfaaDy
namespace Go.Ab
open Go
set_option linter.unusedVariables false
set_option linter.unusedSimpArgs false
/-! ### The next number and the number before, by order -/
theorem u32_wrap (n : Int) : IntKind.u32.wrap n = n % 4294967296 := by
  unfold IntKind.wrap
  simp [IntKind.bits, IntKind.signed]
theorem key_of {x : Nat} (h : x < 4294967296) : key FloatKind.f32.format x = if x < 2147483648 then (x : Int) else 2147483648 - (x : Int) := key32 h
theorem up_key {a : Nat} (hw : a < 4294967296) (hn : nanB .f32 a = false) : upW a < 4294967296 ∧ nanB .f32 (upW a) = false ∧ (a = 2139095040 ∧ upW a = a ∨ a ≠ 2139095040 ∧ key FloatKind.f32.format (upW a) = key FloatKind.f32.format a + 1) := by
  have hN : a % 2147483648 ≤ 2139095040 := by rw [nan32] at hn; simpa using hn
  have n1 : nanB .f32 2139095039 = false := by rw [nan32]; decide
  have n2 : nanB .f32 0 = false := by rw [nan32]; decide
  have k1 : key FloatKind.f32.format 2139095039 = 2139095039 := by rw [key_of (by decide)]; decide
  have k2 : key FloatKind.f32.format 0 = 0 := by rw [key_of (by decide)]; decide
  have ka := key_of hw
  rw [upW_eq]; unfold upI
  rw [feq_self, hn, flt_key .f32 n1 hn, feq_key .f32 hn n2, flt_key .f32 n2 hn, k1, k2]
  simp only [Bool.not_false, Bool.not_true, cond_false]
  by_cases h1 : (2139095039 : Int) < key FloatKind.f32.format a
  · rw [decide_eq_true h1]
    have : a = 2139095040 := by rw [ka] at h1; split at h1 <;> omega
    subst this
    exact ⟨hw, hn, Or.inl ⟨rfl, rfl⟩⟩
  · rw [decide_eq_false h1, cond_false]
    have hne : a ≠ 2139095040 := by rintro rfl; rw [ka] at h1; simp at h1
    by_cases h2 : key FloatKind.f32.format a = 0
    · rw [decide_eq_true h2, cond_true]
      refine ⟨by decide, by rw [nan32]; decide, Or.inr ⟨hne, ?_⟩⟩
      rw [h2, key_of (by decide)]; decide
    · rw [decide_eq_false h2, cond_false]
      by_cases h3 : 0 < key FloatKind.f32.format a
      · rw [decide_eq_true h3, cond_true, u32_wrap]
        have hlt : a < 2139095040 := by rw [ka] at h1 h3; split at h3 <;> (first | omega | (split at h1 <;> omega))
        have e : ((Int.ofNat a + 1) % 4294967296).toNat = a + 1 := by simp only [Int.ofNat_eq_natCast]; omega
        rw [e]
        refine ⟨by omega, by rw [nan32]; simp; omega, Or.inr ⟨hne, ?_⟩⟩
        rw [key_of (by omega), ka, if_pos (by omega), if_pos (by omega)]; omega
      · rw [decide_eq_false h3, cond_false, u32_wrap]
        have hge : 2147483648 < a := by
          rw [ka] at h2 h3
          rcases Nat.lt_or_ge a 2147483648 with g | g
          · rw [if_pos g] at h2 h3; omega
          · rw [if_neg (by omega)] at h2; omega
        have e : ((Int.ofNat a - 1) % 4294967296).toNat = a - 1 := by simp only [Int.ofNat_eq_natCast]; omega
        rw [e]
        refine ⟨by omega, by rw [nan32]; simp; omega, Or.inr ⟨hne, ?_⟩⟩
        rw [key_of (by omega), ka]
        rw [if_neg (by omega), if_neg (by omega)]; omega
theorem up_nan {a : Nat} (hn : nanB .f32 a = true) : upW a = a := by
  rw [upW_eq]; unfold upI
  rw [feq_self, hn]; rfl
theorem nan_fneg {a : Nat} (hw : a < 4294967296) : nanB .f32 (fneg .f32 a) = nanB .f32 a := by rw [nan32, nan32, fneg_mod]
theorem fneg_lt {a : Nat} (hw : a < 4294967296) : fneg .f32 a < 4294967296 := fneg_wf (k := .f32) (show a < 4294967296 from hw)
theorem fneg_bit {x : Nat} (h : x < 4294967296) : fneg .f32 x = if x < 2147483648 then x + 2147483648 else x - 2147483648 := by
  have hm := fneg_mod x
  have hlt := fneg_lt h
  rcases Nat.lt_or_ge x 2147483648 with g | g
  · rw [if_pos g]
    have hge : ¬ fneg .f32 x < 2147483648 := by
      show ¬ (x ^^^ 2 ^ 31 < 2147483648)
      have : (x ^^^ 2 ^ 31) / 2 ^ 31 = 1 := by
        rw [← Nat.shiftRight_eq_div_pow, Nat.shiftRight_xor_distrib, Nat.shiftRight_eq_div_pow, Nat.shiftRight_eq_div_pow, Nat.div_eq_of_lt g]; rfl
      omega
    omega
  · rw [if_neg (by omega)]
    have := fneg_pos g h
    omega
theorem key_fneg {x : Nat} (h : x < 4294967296) : key FloatKind.f32.format (fneg .f32 x) = -key FloatKind.f32.format x := by
  rw [key_of h, key_of (fneg_lt h), fneg_bit h]
  split
  · rename_i g; rw [if_neg (by omega)]; omega
  · rename_i g; rw [if_pos (by omega)]; omega
/-- The number before. -/
noncomputable def dnW (a : Nat) : Nat := fneg .f32 (upW (fneg .f32 a))
theorem up_ge {a : Nat} (hw : a < 4294967296) (hn : nanB .f32 a = false) : key FloatKind.f32.format a ≤ key FloatKind.f32.format (upW a) := by
  obtain ⟨_, _, ⟨_, e⟩ | ⟨_, e⟩⟩ := up_key hw hn
  · rw [e]; exact Int.le_refl _
  · omega
theorem dn_le {a : Nat} (hw : a < 4294967296) (hn : nanB .f32 a = false) : dnW a < 4294967296 ∧ nanB .f32 (dnW a) = false ∧ key FloatKind.f32.format (dnW a) ≤ key FloatKind.f32.format a := by
  have h1 := fneg_lt hw
  have h2 : nanB .f32 (fneg .f32 a) = false := by rw [nan_fneg hw]; exact hn
  obtain ⟨k1, k2, _⟩ := up_key h1 h2
  have k3 := up_ge h1 h2
  rw [key_fneg hw] at k3
  refine ⟨fneg_lt k1, by unfold dnW; rw [nan_fneg k1]; exact k2, ?_⟩
  unfold dnW
  rw [key_fneg k1]; omega
theorem up_flt {a : Nat} (hw : a < 4294967296) : fltB .f32 (upW a) a = false := by
  cases hn : nanB .f32 a with
  | true => exact flt_nan .f32 (Or.inr hn)
  | false =>
    obtain ⟨k1, k2, _⟩ := up_key hw hn
    rw [flt_key .f32 k2 hn]
    have := up_ge hw hn
    exact decide_eq_false (by omega)
theorem dn_flt {a : Nat} (hw : a < 4294967296) : fltB .f32 a (dnW a) = false := by
  cases hn : nanB .f32 a with
  | true => exact flt_nan .f32 (Or.inl hn)
  | false =>
    obtain ⟨k1, k2, k3⟩ := dn_le hw hn
    rw [flt_key .f32 hn k2]
    exact decide_eq_false (by omega)
/-- Of a number that is finite the next one is another than the one before. -/
theorem up_dn {a : Nat} (hw : a < 4294967296) : cond (cond (feqB .f32 a a) (feqB .f32 (upW a) (dnW a)) false) (!(!feqB .f32 (fop .sub .f32 a a) (fop .sub .f32 a a))) false = false := by
  rw [feq_self .f32 a]
  cases hn : nanB .f32 a with
  | true => rfl
  | false =>
    obtain ⟨k1, k2, k3⟩ := up_key hw hn
    obtain ⟨d1, d2, d3⟩ := dn_le hw hn
    rw [feq_key .f32 k2 d2]
    rcases k3 with ⟨e, eu⟩ | ⟨e, k3⟩
    · subst e
      have h0 : nanB .f32 (fop .sub .f32 2139095040 2139095040) = true := by
        rw [fop_eq, nanB_eq]; decide +kernel
      rw [feq_self, h0]
      simp
    · rw [decide_eq_false (by omega)]; rfl
end Go.Ab
