import Derived.Test.YtmegbdgnnbjbmaaFm
namespace Go.Ab
open Go
set_option linter.unusedVariables false
/-! ### WORDS WITH A SIGN -/
theorem near_word (s : Bool) (m : Nat) (e : Int) : Ieee.single.nearest s m e = Ieee.single.word s (Ieee.single.nearest false m e) := by
  unfold Ieee.Format.nearest
  split
  · rw [word_pos]
  · rw [word_pos]; rfl

theorem word_mod (s : Bool) {r : Nat} (h : r ≤ 2139095040) : Ieee.single.word s r % 2147483648 = r := by
  have hs : Ieee.single.signWeight = 2147483648 := rfl
  simp only [Ieee.Format.word, hs]
  cases s
  · simp only [Bool.false_eq_true, if_false]; omega
  · simp only [if_true]; omega

theorem word_num (s : Bool) {r : Nat} (h : r ≤ 2139095040) : nanB .f32 (Ieee.single.word s r) = false := by
  rw [nan32, word_mod s h]; simp only [decide_eq_false_iff_not]; omega

theorem near_mod (s : Bool) (m : Nat) (e : Int) : Ieee.single.nearest s m e % 2147483648 = Ieee.single.nearest false m e := by
  rw [near_word]; exact word_mod s (near_pos m e)

theorem near_num (s : Bool) (m : Nat) (e : Int) : nanB .f32 (Ieee.single.nearest s m e) = false := by
  rw [near_word]; exact word_num s (near_pos m e)

/-- A finite word with its sign. -/
theorem read_sgn {x : Nat} (h : x % 2147483648 < 2139095040) : ∃ (s : Bool) (m p : Nat), FloatKind.f32.format.read x = .number s m (-149 + p) ∧ FloatKind.f32.format.read (x % 2147483648) = .number false m (-149 + p) ∧ m < 16777216 ∧ p ≤ x % 2147483648 / 8388608 := by
  obtain ⟨m, p, hr, h1, h2, _⟩ := read_fin h
  have hs : Ieee.single.signWeight = 2147483648 := rfl
  have key : ∀ (m : Nat) (i : Int), Ieee.single.read (x % 2147483648) = .number false m i → ∃ s, Ieee.single.read x = .number s m i := by
    intro m i hh
    unfold Ieee.Format.read at hh ⊢
    simp only [hs, Nat.mod_mod] at hh ⊢
    have e0 : x % 2147483648 / 2147483648 = 0 := Nat.div_eq_of_lt (Nat.mod_lt _ (by decide))
    rw [e0] at hh
    split at hh
    · rename_i g
      simp only [Ieee.Datum.number.injEq] at hh
      exact ⟨_, by rw [if_pos g, hh.2.1, hh.2.2]⟩
    · rename_i g
      split at hh
      · rename_i g2
        simp only [Ieee.Datum.number.injEq] at hh
        exact ⟨_, by rw [if_neg g, if_pos g2, hh.2.1, hh.2.2]⟩
      · split at hh <;> cases hh
  obtain ⟨s, hk⟩ := key m _ hr
  exact ⟨s, m, p, hk, hr, h1, h2⟩

theorem sum_num (x y : Nat) (s t : Bool) (m n : Nat) (i j : Int) (hx : FloatKind.f32.format.read x = .number s m i) (hy : FloatKind.f32.format.read y = .number t n j) : nanB .f32 (fop .add .f32 x y) = false ∧ nanB .f32 (fop .sub .f32 x y) = false := by
  rw [fop_eq]; unfold fopImpl floatBits
  simp only [Ieee.Format.add, Ieee.Format.sub, hx, hy, Ieee.Datum.opposite, Ieee.Datum.sum, Option.map_some, Option.getD_some, Ieee.Format.write]
  exact ⟨near_num _ _ _, near_num _ _ _⟩

/-- What is no NaN is a number or infinity. -/
theorem num_cases {x : Nat} (h : nanB .f32 x = false) : x % 2147483648 < 2139095040 ∨ ∃ s, FloatKind.f32.format.read x = .infinity s := by
  rw [nan32] at h
  have h := of_decide_eq_false h
  rcases Nat.lt_or_ge (x % 2147483648) 2139095040 with g | g
  · exact Or.inl g
  · have e : x % 2147483648 = 2139095040 := by omega
    exact Or.inr ⟨_, read_inf .f32 (x := x) e⟩

theorem inf_num {s : Bool} : nanB .f32 (FloatKind.f32.format.word s FloatKind.f32.format.infRung) = false := word_num s (Nat.le_refl _)

/-- A number and what is no NaN. -/
theorem add_num {x y : Nat} (hx : x % 2147483648 < 2139095040) (hy : nanB .f32 y = false) : nanB .f32 (fop .add .f32 x y) = false := by
  obtain ⟨s, m, p, hr, _⟩ := read_sgn hx
  rcases num_cases hy with h | ⟨t, h⟩
  · obtain ⟨t, n, q, hq, _⟩ := read_sgn h
    exact (sum_num x y _ _ _ _ _ _ hr hq).1
  · rw [fop_eq]; unfold fopImpl floatBits
    simp only [Ieee.Format.add, hr, h, Ieee.Datum.sum, Option.map_some, Option.getD_some, Ieee.Format.write]
    exact inf_num

theorem sub_num2 {x y : Nat} (hx : x % 2147483648 < 2139095040) (hy : nanB .f32 y = false) : nanB .f32 (fop .sub .f32 x y) = false := by
  obtain ⟨s, m, p, hr, _⟩ := read_sgn hx
  rcases num_cases hy with h | ⟨t, h⟩
  · obtain ⟨t, n, q, hq, _⟩ := read_sgn h
    exact (sum_num x y _ _ _ _ _ _ hr hq).2
  · rw [fop_eq]; unfold fopImpl floatBits
    simp only [Ieee.Format.sub, hr, h, Ieee.Datum.opposite, Ieee.Datum.sum, Option.map_some, Option.getD_some, Ieee.Format.write]
    exact inf_num

/-- What is no NaN by a number that is not nought. -/
theorem quo_num {x y : Nat} (hx : nanB .f32 x = false) (hy : y < 2139095040) (h0 : y ≠ 0) : nanB .f32 (fop .quo .f32 x y) = false := by
  obtain ⟨n, q, hs, _, _, hn, _⟩ := read_fin hy
  rw [fop_eq]; unfold fopImpl floatBits
  rcases num_cases hx with h | ⟨t, h⟩
  · obtain ⟨t, m, p, hq, _⟩ := read_sgn h
    simp only [Ieee.Format.div, hq, hs, Ieee.Datum.quotient, if_neg (hn h0), Option.map_some, Option.getD_some, Ieee.Format.write]
    exact near_num _ _ _
  · simp only [Ieee.Format.div, h, hs, Ieee.Datum.quotient, Option.map_some, Option.getD_some, Ieee.Format.write]
    exact inf_num

/-- The size of a product. -/
theorem mul_size {x y : Nat} (L : Nat) (hx : x % 2147483648 < 2139095040) (hy : y % 2147483648 < 2139095040) (h : x % 2147483648 / 8388608 + y % 2147483648 / 8388608 ≤ L + 123) (h2 : 2 ≤ L) : fop .mul .f32 x y % 2147483648 ≤ L * 8388608 := by
  obtain ⟨s, m, p, hr, _, h1, h2'⟩ := read_sgn hx
  obtain ⟨t, n, q, hs, _, h3, h4⟩ := read_sgn hy
  rw [fop_eq]; unfold fopImpl floatBits
  simp only [Ieee.Format.mul, hr, hs, Ieee.Datum.product, Option.map_some, Option.getD_some, Ieee.Format.write]
  rw [show FloatKind.f32.format = Ieee.single from rfl, near_mod]
  refine near_bd L ?_ h2
  have := log2_mul h1 h3
  omega

theorem signed_abs (s : Bool) (m k : Nat) : (Ieee.signed s m k).natAbs = m * 2 ^ k := by
  unfold Ieee.signed; cases s <;> simp [Nat.shiftLeft_eq, Int.natAbs_mul, Int.natAbs_pow]

/-- The size of a difference. -/
theorem sub_size {x y : Nat} (hx : x % 2147483648 ≤ 1153138688) (hy : y % 2147483648 ≤ 1153138688) : fop .sub .f32 x y % 2147483648 ≤ 140 * 8388608 := by
  obtain ⟨s, m, p, hr, _, h1, h2⟩ := read_sgn (x := x) (by omega)
  obtain ⟨t, n, q, hs, _, h3, h4⟩ := read_sgn (x := y) (by omega)
  have hb : min (-149 + (p : Int)) (-149 + (q : Int)) = -149 + ((min p q : Nat) : Int) := by omega
  have a1 : (-149 + (p : Int) - (-149 + ((min p q : Nat) : Int))).toNat = p - min p q := by omega
  have a2 : (-149 + (q : Int) - (-149 + ((min p q : Nat) : Int))).toNat = q - min p q := by omega
  rw [fop_eq]; unfold fopImpl floatBits
  simp only [Ieee.Format.sub, hr, hs, Ieee.Datum.opposite, Ieee.Datum.sum, hb, a1, a2, Nat.shiftLeft_eq, Option.map_some, Option.getD_some, Ieee.Format.write]
  rw [show FloatKind.f32.format = Ieee.single from rfl, near_mod]
  have hA : m * 2 ^ (p - min p q) < 2 ^ (24 + (p - min p q)) := by
    rw [Nat.pow_add]; exact Nat.mul_lt_mul_of_pos_right h1 (Nat.two_pow_pos _)
  have hB : n * 2 ^ (q - min p q) < 2 ^ (24 + (q - min p q)) := by
    rw [Nat.pow_add]; exact Nat.mul_lt_mul_of_pos_right h3 (Nat.two_pow_pos _)
  have s1 := signed_abs s m (p - min p q)
  have s2 := signed_abs (!t) n (q - min p q)
  generalize m * 2 ^ (p - min p q) = A at hA s1
  generalize n * 2 ^ (q - min p q) = B at hB s2
  have hT : (Ieee.signed s m (p - min p q) + Ieee.signed (!t) n (q - min p q)).natAbs ≤ A + B := by omega
  generalize (Ieee.signed s m (p - min p q) + Ieee.signed (!t) n (q - min p q)).natAbs = T at hT
  have hT2 : T < 2 ^ (25 + (max p q - min p q)) := by
    have g1 : 2 ^ (24 + (p - min p q)) ≤ 2 ^ (24 + (max p q - min p q)) := Nat.pow_le_pow_right (by decide) (by omega)
    have g2 : 2 ^ (24 + (q - min p q)) ≤ 2 ^ (24 + (max p q - min p q)) := Nat.pow_le_pow_right (by decide) (by omega)
    have g3 : 2 ^ (25 + (max p q - min p q)) = 2 ^ (24 + (max p q - min p q)) + 2 ^ (24 + (max p q - min p q)) := by
      have : 25 + (max p q - min p q) = 24 + (max p q - min p q) + 1 := by omega
      rw [this, Nat.pow_succ]; omega
    omega
  by_cases h0 : T = 0
  · subst h0
    simp [Ieee.Format.nearest, Ieee.Format.word]
  · refine near_bd 140 ?_ (by decide)
    have := (Nat.log2_lt h0).2 hT2
    omega

/-- A difference of what is not below nought. -/
theorem sub_split {a d : Nat} (ha : a < 2139095040) (hd : d < 2139095040) : ∃ (A B g : Nat), FloatKind.f32.format.read a ≠ .nan false 0 ∧ fop .sub .f32 a d = Ieee.single.nearest (if (A : Int) - B = 0 then false else decide ((A : Int) - B < 0)) ((A : Int) - B).natAbs (-149 + (g : Int)) ∧ Ieee.single.nearest false A (-149 + (g : Int)) = a ∧ (d ≤ a → B ≤ A) ∧ (a < d → A < B) := by
  obtain ⟨m, p, hr, hm1, hp, _, hna⟩ := read_fin ha
  obtain ⟨n, q, r1, _⟩ := read_fin hd
  have hs : FloatKind.f32.format.signWeight = 2147483648 := rfl
  have hi : FloatKind.f32.format.infRung = 2139095040 := rfl
  have hl : FloatKind.f32.format.leastPlace = -149 := rfl
  have e1 : a % 2147483648 = a := Nat.mod_eq_of_lt (by omega)
  have e2 : d % 2147483648 = d := Nat.mod_eq_of_lt (by omega)
  obtain ⟨m', p', hr', hg⟩ := read_number .f32 (x := a) (by rw [hs, hi, e1]; omega)
  obtain ⟨n', q', hq', hg'⟩ := read_number .f32 (x := d) (by rw [hs, hi, e2]; omega)
  have hr0 := hr
  rw [hr] at hr'; rw [r1] at hq'
  rw [hl] at hr' hq'
  simp only [Ieee.Datum.number.injEq] at hr' hq'
  obtain ⟨_, rfl, hpp⟩ := hr'
  obtain ⟨_, rfl, hqq⟩ := hq'
  have hpp : p' = p := by omega
  have hqq : q' = q := by omega
  subst hpp; subst hqq
  rw [hs] at hg hg'
  rw [e1] at hg
  rw [e2] at hg'
  have hb : min (-149 + (p' : Int)) (-149 + (q' : Int)) = -149 + ((min p' q' : Nat) : Int) := by omega
  have a1 : (-149 + (p' : Int) - (-149 + ((min p' q' : Nat) : Int))).toNat = p' - min p' q' := by omega
  have a2 : (-149 + (q' : Int) - (-149 + ((min p' q' : Nat) : Int))).toNat = q' - min p' q' := by omega
  have c1 : m * 2 ^ p' = (m * 2 ^ (p' - min p' q')) * 2 ^ min p' q' := by rw [Nat.mul_assoc, ← Nat.pow_add]; congr 2; omega
  have c2 : n * 2 ^ q' = (n * 2 ^ (q' - min p' q')) * 2 ^ min p' q' := by rw [Nat.mul_assoc, ← Nat.pow_add]; congr 2; omega
  refine ⟨m * 2 ^ (p' - min p' q'), n * 2 ^ (q' - min p' q'), min p' q', by rw [hr0]; simp, ?_, ?_, ?_, ?_⟩
  · rw [fop_eq]; unfold fopImpl floatBits
    simp only [Ieee.Format.sub, hr, r1, Ieee.Datum.opposite, Ieee.Datum.sum, Ieee.signed, hb, a1, a2, Bool.not_false, Bool.false_eq_true, if_false, if_true, Nat.shiftLeft_eq, Option.map_some, Option.getD_some, Ieee.Format.write]
    generalize m * 2 ^ (p' - min p' q') = A
    generalize n * 2 ^ (q' - min p' q') = B
    rfl
  · have hsc := near_scale Ieee.single false m (p' - min p' q') (-149 + (p' : Int))
    have ep : -149 + (p' : Int) - ((p' - min p' q' : Nat) : Int) = -149 + ((min p' q' : Nat) : Int) := by omega
    rw [ep] at hsc
    rw [hsc]; exact hna
  · intro hle
    have hmg := mg_le FloatKind.f32.format hle
    rw [← hg, ← hg', c1, c2] at hmg
    exact Nat.le_of_mul_le_mul_right hmg (Nat.two_pow_pos _)
  · intro hlt
    have hmg := mg_lt FloatKind.f32.format hlt
    rw [← hg, ← hg', c1, c2] at hmg
    exact Nat.lt_of_mul_lt_mul_right hmg

/-- What is taken away leaves no more. -/
theorem sub_le_self {a d : Nat} (ha : a < 2139095040) (h : d ≤ a) : fop .sub .f32 a d ≤ a := by
  obtain ⟨A, B, g, _, h1, h2, h3, _⟩ := sub_split ha (d := d) (by omega)
  have h3 := h3 h
  rw [h1]
  have t1 : (if (A : Int) - B = 0 then false else decide ((A : Int) - B < 0)) = false := by
    split
    · rfl
    · simp only [decide_eq_false_iff_not]; omega
  have t2 : ((A : Int) - B).natAbs = A - B := by omega
  rw [t1, t2]
  calc _ ≤ Ieee.single.nearest false A (-149 + (g : Int)) := near_mono g (Nat.sub_le _ _)
    _ = a := h2

theorem key_word (s : Bool) {r : Nat} (h : r ≤ 2139095040) : key FloatKind.f32.format (Ieee.single.word s r) = if s then -(r : Int) else r := by
  have hs : Ieee.single.signWeight = 2147483648 := rfl
  have hw : Ieee.single.word s r < 4294967296 := by
    simp only [Ieee.Format.word, hs]; cases s <;> simp <;> omega
  rw [show FloatKind.f32.format = Ieee.single from rfl, key32 hw]
  have hm := word_mod s h
  cases s
  · have : Ieee.single.word false r = r := word_pos r
    rw [this, if_pos (by omega)]; simp
  · have e : Ieee.single.word true r = r + 2147483648 ∨ Ieee.single.word true r = 2147483648 + r := by
      simp only [Ieee.Format.word, hs, if_true]; omega
    rw [if_neg (by omega)]
    simp only [if_true]
    omega

/-- More taken away than there is: below nought. -/
theorem sub_below {a d : Nat} (ha : a < 2139095040) (h : a < d) (hd : d ≤ 2139095040) : key FloatKind.f32.format (fop .sub .f32 a d) ≤ 0 := by
  rcases Nat.lt_or_eq_of_le hd with g | g
  · obtain ⟨A, B, e, _, h1, h2, _, h4⟩ := sub_split ha g
    have h4 := h4 h
    rw [h1]
    have t1 : (if (A : Int) - B = 0 then false else decide ((A : Int) - B < 0)) = true := by
      rw [if_neg (by omega)]; simp only [decide_eq_true_eq]; omega
    rw [t1, near_word, key_word true (near_pos _ _)]
    simp
  · subst g
    obtain ⟨m, p, hr, _⟩ := read_fin ha
    have : fop .sub .f32 a 2139095040 = Ieee.single.word true 2139095040 := by
      rw [fop_eq]; unfold fopImpl floatBits
      simp only [Ieee.Format.sub, hr, read_top, Ieee.Datum.opposite, Ieee.Datum.sum, Option.map_some, Option.getD_some, Ieee.Format.write]
      rfl
    rw [this, key_word true (Nat.le_refl _)]
    decide
end Go.Ab
