import Derived.Test.YtmegbdgnnbjbmaaFf
namespace Go.Ab
open Go
set_option linter.unusedVariables false
/-! ### WORDS THAT ARE NOT BELOW NOUGHT -/
theorem isub : Ieee.single.infRung = 2139095040 := rfl
theorem word_pos (r : Nat) : Ieee.single.word false r = r := by simp only [Ieee.Format.word, Bool.false_eq_true, if_false]

/-- The number of a word below infinity. -/
theorem read_fin {x : Nat} (h : x < 2139095040) : ∃ (m p : Nat), FloatKind.f32.format.read x = .number false m (-149 + p) ∧ m < 16777216 ∧ p ≤ x / 8388608 ∧ (x ≠ 0 → m ≠ 0) ∧ Ieee.single.nearest false m (-149 + p) = x := by
  have hs : Ieee.single.signWeight = 2147483648 := rfl
  have hb : Ieee.single.binade = 8388608 := rfl
  have hl : Ieee.single.leastPlace = -149 := rfl
  have hf : Ieee.single.fractionBits = 23 := rfl
  have e1 : x / 2147483648 = 0 := Nat.div_eq_of_lt (by omega)
  have e2 : x % 2147483648 = x := Nat.mod_eq_of_lt (by omega)
  change ∃ (m p : Nat), Ieee.single.read x = _ ∧ _
  simp only [Ieee.Format.read, hs, hb, hl, isub, e1, e2]
  by_cases h1 : x < 8388608
  · refine ⟨x, 0, ?_, by omega, Nat.zero_le _, fun h => h, ?_⟩
    · simp [h1]
    · by_cases h0 : x = 0
      · subst h0; simp [Ieee.Format.nearest, Ieee.Format.word]
      · unfold Ieee.Format.nearest
        rw [if_neg h0]
        have hlog : x.log2 < 23 := (Nat.log2_lt h0).2 (by omega)
        simp only [hl, hb, hf, isub]
        have e : max (-149 + ((0 : Nat) : Int) + (x.log2 : Int) - ((23 : Nat) : Int)) (-149) = -149 := by omega
        rw [e]
        have a : (-149 - (-149 + ((0 : Nat) : Int))).toNat = 0 := by omega
        have b : (-149 + ((0 : Nat) : Int) - -149).toNat = 0 := by omega
        rw [a, b, cut_zero, Nat.shiftLeft_zero]
        have c : (-149 - -149 : Int).toNat = 0 := by omega
        rw [c, word_pos, Nat.zero_mul, Nat.zero_add]
        exact Nat.min_eq_left (by omega)
  · have hq1 : 1 ≤ x / 8388608 := (Nat.one_le_div_iff (by decide)).2 (by omega)
    have hml : x % 8388608 < 8388608 := Nat.mod_lt _ (by decide)
    have hdm := Nat.div_add_mod x 8388608
    refine ⟨8388608 + x % 8388608, x / 8388608 - 1, ?_, by omega, by omega, fun _ => by omega, ?_⟩
    · simp [h1, h]
    · unfold Ieee.Format.nearest
      rw [if_neg (by omega)]
      have hlog : (8388608 + x % 8388608).log2 = 23 := (Nat.log2_eq_iff (by omega)).2 ⟨by omega, by omega⟩
      simp only [hl, hb, hf, isub, hlog]
      have e : max (-149 + ((x / 8388608 - 1 : Nat) : Int) + ((23 : Nat) : Int) - ((23 : Nat) : Int)) (-149) = -149 + ((x / 8388608 - 1 : Nat) : Int) := by omega
      rw [e]
      generalize hP : x / 8388608 - 1 = P
      have a : (-149 + (P : Int) - (-149 + (P : Int))).toNat = 0 := by omega
      rw [a, cut_zero, Nat.shiftLeft_zero]
      have c : (-149 + (P : Int) - -149).toNat = P := by omega
      rw [c, word_pos]
      have hx : P * 8388608 + (8388608 + x % 8388608) = x := by
        have : x / 8388608 = P + 1 := by omega
        rw [this] at hdm
        omega
      rw [hx]
      exact Nat.min_eq_left (by omega)

theorem read_top : FloatKind.f32.format.read 2139095040 = .infinity false := by decide +kernel

/-- Products. -/
theorem mul_nn {x y : Nat} (hx : x < 2139095040) (hy : y < 2139095040) : fop .mul .f32 x y ≤ 2139095040 := by
  obtain ⟨m, p, hr, _⟩ := read_fin hx
  obtain ⟨n, q, hs, _⟩ := read_fin hy
  rw [fop_eq]; unfold fopImpl floatBits
  simp only [Ieee.Format.mul, hr, hs, Ieee.Datum.product, Option.map_some, Option.getD_some, Ieee.Format.write, Bool.xor_false]
  exact near_pos _ _

/-- Sums. -/
theorem sum_fin (m n p q : Nat) : (Ieee.Datum.number false m (-149 + (p : Int))).sum (.number false n (-149 + (q : Int))) =
    some (.number false (m * 2 ^ (p - min p q) + n * 2 ^ (q - min p q)) (-149 + ((min p q : Nat) : Int))) := by
  have hb : min (-149 + (p : Int)) (-149 + (q : Int)) = -149 + ((min p q : Nat) : Int) := by omega
  have h1 : (-149 + (p : Int) - (-149 + ((min p q : Nat) : Int))).toNat = p - min p q := by omega
  have h2 : (-149 + (q : Int) - (-149 + ((min p q : Nat) : Int))).toNat = q - min p q := by omega
  simp only [Ieee.Datum.sum, Ieee.signed, hb, h1, h2, Bool.false_eq_true, if_false, Nat.shiftLeft_eq]
  generalize m * 2 ^ (p - min p q) = a
  generalize n * 2 ^ (q - min p q) = b
  have e1 : (if (a : Int) + (b : Int) = 0 then false && false else decide ((a : Int) + (b : Int) < 0)) = false := by
    split
    · rfl
    · simp only [decide_eq_false_iff_not]; omega
  have e2 : ((a : Int) + (b : Int)).natAbs = a + b := by omega
  rw [e1, e2]

theorem add_fin {x y : Nat} (hx : x < 2139095040) (hy : y < 2139095040) : fop .add .f32 x y ≤ 2139095040 := by
  obtain ⟨m, p, hr, _⟩ := read_fin hx
  obtain ⟨n, q, hs, _⟩ := read_fin hy
  rw [fop_eq]; unfold fopImpl floatBits
  simp only [Ieee.Format.add, hr, hs, sum_fin, Option.map_some, Option.getD_some, Ieee.Format.write]
  exact near_pos _ _

theorem add_top_l {y : Nat} (hy : y ≤ 2139095040) : fop .add .f32 2139095040 y = 2139095040 := by
  rw [fop_eq]; unfold fopImpl floatBits
  simp only [Ieee.Format.add, read_top]
  rcases Nat.lt_or_eq_of_le hy with h | h
  · obtain ⟨n, q, hs, _⟩ := read_fin h
    rw [hs]; rfl
  · subst h; rw [read_top]; rfl
theorem add_top_r {x : Nat} (hx : x ≤ 2139095040) : fop .add .f32 x 2139095040 = 2139095040 := by
  rw [fop_eq]; unfold fopImpl floatBits
  simp only [Ieee.Format.add, read_top]
  rcases Nat.lt_or_eq_of_le hx with h | h
  · obtain ⟨n, q, hs, _⟩ := read_fin h
    rw [hs]; rfl
  · subst h; rw [read_top]; rfl

theorem add_nn {x y : Nat} (hx : x ≤ 2139095040) (hy : y ≤ 2139095040) : fop .add .f32 x y ≤ 2139095040 := by
  rcases Nat.lt_or_eq_of_le hx with h | h
  · rcases Nat.lt_or_eq_of_le hy with h' | h'
    · exact add_fin h h'
    · subst h'; rw [add_top_r hx]; exact Nat.le_refl _
  · subst h; rw [add_top_l hy]; exact Nat.le_refl _

/-- Nought added. -/
theorem add_zero {x : Nat} (hx : x ≤ 2139095040) : fop .add .f32 x 0 = x ∧ fop .add .f32 0 x = x := by
  rcases Nat.lt_or_eq_of_le hx with h | h
  · obtain ⟨m, p, hr, _, _, _, hn⟩ := read_fin h
    have r0 : FloatKind.f32.format.read 0 = .number false 0 (-149 + ((0 : Nat) : Int)) := by decide +kernel
    have hsc := near_scale Ieee.single false m p (-149 + (p : Int))
    have ep : -149 + (p : Int) - (p : Int) = -149 + ((0 : Nat) : Int) := by omega
    rw [ep, hn] at hsc
    rw [fop_eq]; unfold fopImpl floatBits
    simp only [Ieee.Format.add, hr, r0, sum_fin, Option.map_some, Option.getD_some, Ieee.Format.write, Nat.min_zero, Nat.zero_min, Nat.sub_zero, Nat.zero_mul, Nat.add_zero, Nat.zero_add]
    exact ⟨hsc, hsc⟩
  · subst h; exact ⟨add_top_l (by decide), add_top_r (by decide)⟩

/-- A sum with something is something. -/
theorem add_nz {x y : Nat} (hx : x ≤ 2139095040) (hy : y < 2139095040) (h0 : y ≠ 0) : 0 < fop .add .f32 x y := by
  rcases Nat.lt_or_eq_of_le hx with h | h
  · obtain ⟨m, p, hr, _⟩ := read_fin h
    obtain ⟨n, q, hs, _, _, hn, _⟩ := read_fin hy
    rw [fop_eq]; unfold fopImpl floatBits
    simp only [Ieee.Format.add, hr, hs, sum_fin, Option.map_some, Option.getD_some, Ieee.Format.write]
    refine near_nz ?_ (by omega)
    have : 0 < n * 2 ^ (q - min p q) := Nat.mul_pos (Nat.pos_of_ne_zero (hn h0)) (Nat.two_pow_pos _)
    omega
  · subst h; rw [add_top_l (Nat.le_of_lt hy)]; decide

/-- Quotients. -/
theorem quo_nn {x y : Nat} (hx : x < 2139095040) (hy : y ≤ 2139095040) (h0 : y ≠ 0) : fop .quo .f32 x y ≤ 2139095040 := by
  obtain ⟨m, p, hr, _⟩ := read_fin hx
  rw [fop_eq]; unfold fopImpl floatBits
  rcases Nat.lt_or_eq_of_le hy with h | h
  · obtain ⟨n, q, hs, _, _, hn, _⟩ := read_fin h
    simp only [Ieee.Format.div, hr, hs, Ieee.Datum.quotient, if_neg (hn h0), Option.map_some, Option.getD_some, Ieee.Format.write, Bool.xor_false]
    exact near_pos _ _
  · subst h
    simp only [Ieee.Format.div, hr, read_top, Ieee.Datum.quotient, Option.map_some, Option.getD_some, Ieee.Format.write, Bool.xor_false]
    exact near_pos _ _

/-- A difference that is a number. -/
theorem sub_num {x y : Nat} (hx : x % 2147483648 < 2139095040) (hy : y ≤ 2139095040) : nanB .f32 (fop .sub .f32 x y) = false := by
  obtain ⟨m, p, hr, _⟩ := read_number .f32 (x := x) hx
  have key : ∀ s r, r ≤ 2139095040 → nanB .f32 (Ieee.single.word s r) = false := by
    intro s r hrr
    have hs : Ieee.single.signWeight = 2147483648 := rfl
    rw [nan32]
    simp only [Ieee.Format.word, hs]
    cases s
    · simp only [Bool.false_eq_true, if_false, decide_eq_false_iff_not]; omega
    · simp only [if_true, decide_eq_false_iff_not]; omega
  have near : ∀ s m e, nanB .f32 (Ieee.single.nearest s m e) = false := by
    intro s m e
    unfold Ieee.Format.nearest
    split
    · exact key s 0 (Nat.zero_le _)
    · exact key s _ (by rw [isub]; exact Nat.min_le_right _ _)
  rw [fop_eq]; unfold fopImpl floatBits
  rcases Nat.lt_or_eq_of_le hy with h | h
  · obtain ⟨n, q, hs, _⟩ := read_fin h
    simp only [Ieee.Format.sub, hr, hs, Ieee.Datum.opposite, Ieee.Datum.sum, Option.map_some, Option.getD_some, Ieee.Format.write]
    exact near _ _ _
  · subst h
    simp only [Ieee.Format.sub, hr, read_top, Ieee.Datum.opposite, Ieee.Datum.sum, Option.map_some, Option.getD_some, Ieee.Format.write]
    exact key _ _ (by rw [show FloatKind.f32.format = Ieee.single from rfl, isub]; exact Nat.le_refl _)
end Go.Ab
