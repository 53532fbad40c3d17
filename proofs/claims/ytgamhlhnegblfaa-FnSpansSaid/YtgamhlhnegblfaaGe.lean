import Derived.Test.YtgamhlhnegblfaaGd
namespace Go.Ab
open Go
set_option linter.unusedVariables false
/-! ### A step leaves a log that is valid -/
structure LayS (a h c : Nat) : Prop where
  lay : Lay a h c
  siz : h % 2147483648 ≤ 1153138688

theorem held_siz {v : Nat} (hv : nanB .f32 v = false) (hw : v < 4294967296) : hO v 3262119936 1153138688 % 2147483648 ≤ 1153138688 := by
  have n1 : nanB .f32 3262119936 = false := by rw [nan32]; decide
  have n2 : nanB .f32 1153138688 = false := nanp (by decide)
  rw [hO_eq]; unfold heldI
  rw [flt_key .f32 hv n1, flt_key .f32 n2 hv, key_lo, keyp (x := 1153138688) (by decide)]
  cases h1 : decide (key FloatKind.f32.format v < -1114636288) with
  | true => show (3262119936 : Nat) % _ ≤ _; decide
  | false =>
    have h1 := of_decide_eq_false h1
    cases h2 : decide (((1153138688 : Nat) : Int) < key FloatKind.f32.format v) with
    | true => show (1153138688 : Nat) % _ ≤ _; decide
    | false =>
      have h2 := of_decide_eq_false h2
      show v % 2147483648 ≤ _
      rw [show FloatKind.f32.format = Ieee.single from rfl, key32 hw] at h1 h2
      split at h1 <;> rename_i hs <;> simp only [hs, if_true, if_false] at h2 <;> omega

theorem lays_warm {f g a h c : Nat} (L : Lay a h c) (hn : nanB .f32 (fop .sub .f32 f g) = false) : LayS a (hW f g a h c) c := by
  obtain ⟨m1, m2⟩ := mas_fin L.wet L.fuel
  exact ⟨lay_warm L hn, held_siz (add_num L.fin (quo_num hn m1 m2)) (fop_wf _ .f32 _ _)⟩

/-- More than a hundred is a word. -/
theorem siz_pos {h : Nat} (hw : h < 4294967296) (hl : 0 ≤ key FloatKind.f32.format h) (ht : key FloatKind.f32.format h ≤ 1153138688) : h % 2147483648 ≤ 1153138688 := by
  rw [show FloatKind.f32.format = Ieee.single from rfl, key32 hw] at hl ht
  split at hl <;> rename_i hs <;> simp only [hs, if_true, if_false] at ht <;> omega

theorem lays_dry {a h c t : Nat} (L : LayS a h c) (ht : t ≤ 1065353216) : LayS (wetS a h t) (heatS a h c t) c := by
  have L1 := lay_dry L.lay ht
  refine ⟨L1, ?_⟩
  unfold heatS at L1 ⊢
  cases hf : fltB .f32 1120403456 h with
  | false => exact L.siz
  | true =>
    rw [hf] at L1
    show (cond (fltB .f32 (hqF (dL a h t) a h c) 1120403456) 1120403456 (hqF (dL a h t) a h c)) % 2147483648 ≤ _
    cases hq : fltB .f32 (hqF (dL a h t) a h c) 1120403456 with
    | true => show (1120403456 : Nat) % _ ≤ _; decide
    | false =>
      rw [hq] at L1
      have L1 : Lay _ (hqF (dL a h t) a h c) c := L1
      rw [flt_key .f32 L1.num (nanp (by decide)), keyp (x := 1120403456) (by decide)] at hq
      have hq := of_decide_eq_false hq
      show hqF (dL a h t) a h c % 2147483648 ≤ _
      exact siz_pos L1.wf (by omega) L1.top

theorem lays_burn {a h c x t : Nat} (L : LayS a h c) (hx : x ≤ 1065353216) (ht : t ≤ 1065353216) : LayS a (bhS a h c x t) (bfS a h c x t) := by
  unfold bhS bfS
  cases hk : bK a h with
  | false => exact L
  | true =>
    have hd := b_L L.lay hx ht hk
    have ha := L.lay.wet
    have hc := L.lay.fuel
    obtain ⟨g1, g2⟩ := b_hot L.lay hk
    have hX := b_X L.lay hx ht hk
    have hle : bL c h x t ≤ c := by
      unfold bL
      rw [flt_key .f32 (nanp hX) (nanp (by omega)), keyp (by omega), keyp (by omega)]
      cases hd : decide ((bX h x t : Int) < c) with
      | true => have := of_decide_eq_true hd; show bX h x t ≤ _; omega
      | false => exact Nat.le_refl _
    have hf := sub_le_self (a := c) (by omega) hle
    have h1 : fop .mul .f32 1157234688 (bL c h x t) < 2139095040 := mul_fin (by decide) (by omega) (by omega)
    obtain ⟨m1, m2⟩ := mas_fin ha hc
    have h5 := quo_nn h1 (Nat.le_of_lt m1) m2
    have h6 : bQ (bL c h x t) a h c ≤ 2139095040 := add_nn (by omega) h5
    show LayS a (cond (fltB .f32 1153138688 (bQ (bL c h x t) a h c)) 1153138688 (bQ (bL c h x t) a h c)) (fop .sub .f32 c (bL c h x t))
    have hfc : fop .sub .f32 c (bL c h x t) ≤ 1092616192 := by omega
    rw [flt_key .f32 (nanp (by decide)) (nanp h6), keyp (x := 1153138688) (by decide), keyp (by omega)]
    cases hq : decide (((1153138688 : Nat) : Int) < (bQ (bL c h x t) a h c : Int)) with
    | true => exact ⟨⟨ha, hfc, by show (1153138688 : Nat) < _; decide, nanp (by show (1153138688 : Nat) ≤ _; decide), by show (1153138688 : Nat) % _ < _; decide, by show key _ 1153138688 ≤ _; rw [keyp (by decide)]; decide⟩, by show (1153138688 : Nat) % _ ≤ _; decide⟩
    | false =>
      have hq := of_decide_eq_false hq
      have hb : bQ (bL c h x t) a h c ≤ 1153138688 := by omega
      exact ⟨⟨ha, hfc, by show bQ _ _ _ _ < _; omega, nanp (by show bQ _ _ _ _ ≤ _; omega), by show bQ _ _ _ _ % _ < _; omega, by show key _ (bQ _ _ _ _) ≤ _; rw [keyp (by omega)]; omega⟩, by show bQ _ _ _ _ % _ ≤ _; omega⟩

/-- What a step leaves, layer by layer. -/
theorem lays_step {a h c x t : Nat} (L : LayS a h c) (hx : x ≤ 1065353216) (ht : t ≤ 1065353216) : LayS (sA true a h t) (sH true a h c x t) (sC true a h c x t) :=
  lays_burn (lays_dry L ht) hx ht
end Go.Ab

namespace Go.Ab
open Go
set_option linter.unusedVariables false
/-! ### Square roots of numbers of single precision, made narrow -/
theorem rootFrom_lt (n : Nat) : ∀ (todo root : Nat), Ieee.Datum.rootFrom n todo root < root + 2 ^ todo
  | 0, root => by simp [Ieee.Datum.rootFrom]
  | todo + 1, root => by
    unfold Ieee.Datum.rootFrom
    simp only [Nat.one_shiftLeft]
    have e : 2 ^ (todo + 1) = 2 ^ todo + 2 ^ todo := by rw [Nat.pow_succ]; omega
    rw [e]
    split
    · have := rootFrom_lt n todo (root + 2 ^ todo)
      generalize 2 ^ todo = t at *
      omega
    · have := rootFrom_lt n todo root
      generalize 2 ^ todo = t at *
      omega

theorem dbl_near {s : Bool} {m : Nat} {e : Int} (K : Nat) (h : e + (m.log2 : Int) + 1024 ≤ (K : Int)) (hK : 2 ≤ K) :
    ∃ rung, rung ≤ K * 4503599627370496 ∧ Ieee.double.nearest s m e = Ieee.double.word s rung := by
  have hl : Ieee.double.leastPlace = -1074 := rfl
  have hb : Ieee.double.binade = 4503599627370496 := rfl
  have hf : Ieee.double.fractionBits = 52 := rfl
  unfold Ieee.Format.nearest
  split
  · exact ⟨0, by omega, rfl⟩
  · rename_i hm
    simp only [hl, hb, hf]
    have hlt : m < 2 ^ (m.log2 + 1) := Nat.lt_log2_self
    refine ⟨_, ?_, rfl⟩
    have kept : Ieee.Toward.even.cut s (m <<< (e - max (e + (m.log2 : Int) - ((52 : Nat) : Int)) (-1074)).toNat) (max (e + (m.log2 : Int) - ((52 : Nat) : Int)) (-1074) - e).toNat ≤ 9007199254740992 := by
      generalize hlast : max (e + (m.log2 : Int) - ((52 : Nat) : Int)) (-1074) = last
      rcases Int.lt_or_le e last with h1 | h1
      · have a : (e - last).toNat = 0 := by omega
        rw [a, Nat.shiftLeft_zero]
        refine Nat.le_trans (cut_le _ _ _) ?_
        generalize hd : min (last - e).toNat (m.log2 + 2) = d
        have h2 : m < 2 ^ d * 9007199254740992 := by
          have : m.log2 + 1 ≤ d + 53 := by omega
          calc m < 2 ^ (m.log2 + 1) := hlt
            _ ≤ 2 ^ (d + 53) := Nat.pow_le_pow_right (by decide) this
            _ = 2 ^ d * 9007199254740992 := by rw [Nat.pow_add]
        have := Nat.div_lt_of_lt_mul h2
        omega
      · have a : (last - e).toNat = 0 := by omega
        rw [a, cut_zero, Nat.shiftLeft_eq]
        have : m * 2 ^ (e - last).toNat < 2 ^ (m.log2 + 1) * 2 ^ (e - last).toNat := Nat.mul_lt_mul_of_pos_right hlt (Nat.two_pow_pos _)
        rw [← Nat.pow_add] at this
        have h3 : m.log2 + 1 + (e - last).toNat ≤ 53 := by omega
        have h4 : 2 ^ (m.log2 + 1 + (e - last).toNat) ≤ 2 ^ 53 := Nat.pow_le_pow_right (by decide) h3
        have h5 : (2 : Nat) ^ 53 = 9007199254740992 := by decide
        omega
    have hr : (max (e + (m.log2 : Int) - ((52 : Nat) : Int)) (-1074) - -1074).toNat ≤ K - 2 := by omega
    have h9 := Nat.mul_le_mul_right 4503599627370496 hr
    obtain ⟨K', rfl⟩ : ∃ K', K = K' + 2 := ⟨K - 2, by omega⟩
    rw [Nat.add_sub_cancel] at h9
    refine Nat.le_trans (Nat.min_le_left _ _) ?_
    rw [Nat.add_mul, show 2 * 4503599627370496 = 9007199254740992 from rfl]
    exact Nat.add_le_add h9 kept

theorem dbl_read {s : Bool} {r K : Nat} (h : r ≤ K * 4503599627370496) (hK : K ≤ 2046) :
    ∃ m e, FloatKind.f64.format.read (Ieee.double.word s r) = .number s m e ∧ e + (m.log2 : Int) ≤ (K : Int) - 1023 := by
  have hs : Ieee.double.signWeight = 9223372036854775808 := rfl
  have hb : Ieee.double.binade = 4503599627370496 := rfl
  have hi : Ieee.double.infRung = 9218868437227405312 := rfl
  have hl : Ieee.double.leastPlace = -1074 := rfl
  have hr : r < 9218868437227405312 := by
    have := Nat.mul_le_mul_right 4503599627370496 hK
    omega
  have e1 : Ieee.double.word s r % 9223372036854775808 = r := by
    unfold Ieee.Format.word; rw [hs]; cases s <;> simp <;> omega
  have e2 : (Ieee.double.word s r / 9223372036854775808 % 2 == 1) = s := by
    unfold Ieee.Format.word; rw [hs]; cases s <;> simp <;> omega
  show ∃ m e, Ieee.double.read _ = _ ∧ _
  simp only [Ieee.Format.read, hs, hb, hl, hi, e1, e2]
  by_cases h1 : r < 4503599627370496
  · refine ⟨r, -1074, ?_, ?_⟩
    · simp [hr, h1]
    · by_cases h0 : r = 0
      · subst h0; simp only [Nat.log2_zero]; omega
      · have := (Nat.log2_lt h0).2 (show r < 2 ^ 52 by omega)
        omega
  · have hm : r % 4503599627370496 < 4503599627370496 := Nat.mod_lt _ (by decide)
    have hd := Nat.div_add_mod r 4503599627370496
    have hlog : (4503599627370496 + r % 4503599627370496).log2 = 52 := (Nat.log2_eq_iff (by omega)).2 ⟨by omega, by omega⟩
    refine ⟨4503599627370496 + r % 4503599627370496, -1074 + ((r / 4503599627370496 - 1 : Nat) : Int), ?_, ?_⟩
    · simp [hr, h1]
    · rw [hlog]
      have : r / 4503599627370496 ≤ K := Nat.div_le_of_le_mul (by omega)
      omega

/-- A root of a number of doubled precision. -/
theorem root_small {x : Nat} {s : Bool} {m : Nat} {e : Int} (hr : FloatKind.f64.format.read x = .number s m e) (h : e + (m.log2 : Int) ≤ 128) : nrwOk (sqrtW x) = true := by
  -- what is written and read again
  have wr : ∀ (t : Bool) (q : Nat) (i : Int), i + (q.log2 : Int) ≤ 80 → nrwOk (FloatKind.f64.encode (.number t q i)) = true := by
    intro t q i hq
    obtain ⟨rung, h1, h2⟩ := dbl_near (s := t) (m := q) (e := i) 1104 (by omega) (by decide)
    obtain ⟨n, j, h3, h4⟩ := dbl_read (s := t) h1 (by decide)
    have e1 : FloatKind.f64.encode (.number t q i) = Ieee.double.word t rung := h2
    rw [e1, nrwOk_eq]
    unfold nrwOkImpl FloatKind.decode
    rw [show FloatKind.f64.format.read (Ieee.double.word t rung) = _ from h3]
    have hm : FloatKind.f32.encode (.number t n j) % 2147483648 < 2139095040 := by
      show Ieee.single.nearest t n j % 2147483648 < 2139095040
      rw [near_mod]
      exact near_fin (by omega)
    obtain ⟨s1, m1, p1, h5, _⟩ := read_sgn hm
    show (!(FloatKind.f32.format.read (FloatKind.f32.encode (.number t n j))).isInfinity) = true
    rw [h5]; rfl
  rw [sqrtW_eq]
  unfold sqrtImpl Ieee.Format.sqrt
  rw [hr]
  unfold Ieee.Datum.root
  dsimp only
  by_cases hm : m = 0
  · rw [if_pos hm]
    show nrwOk (Ieee.double.nearest s m e) = true
    unfold Ieee.Format.nearest
    rw [if_pos hm, nrwOk_eq]
    cases s <;> decide +kernel
  · rw [if_neg hm]
    cases s with
    | true => rw [if_pos rfl]; rw [nrwOk_eq]; decide +kernel
    | false =>
      rw [if_neg (by decide)]
      simp only [Option.map_some, Option.getD_some]
      refine wr false _ _ ?_
      generalize hmo : 2 * (FloatKind.f64.format.fractionBits + 2) - m.log2 + ((e - ((2 * (FloatKind.f64.format.fractionBits + 2) - m.log2 : Nat) : Int)) % 2).toNat = more
      have hn : (m <<< more).log2 = m.log2 + more := by rw [Nat.shiftLeft_eq]; exact log2_scale more hm
      have hw := rootFrom_lt (m <<< more) ((m <<< more).log2 / 2 + 1) 0
      generalize hW : Ieee.Datum.rootFrom (m <<< more) ((m <<< more).log2 / 2 + 1) 0 = W at *
      rw [hn, Nat.zero_add] at hw
      have hb : (W * W != m <<< more).toNat ≤ 1 := Bool.toNat_le _
      generalize (W * W != m <<< more).toNat = b at *
      have hq : 2 * W + b < 2 ^ ((m.log2 + more) / 2 + 1 + 1) := by
        rw [Nat.pow_succ]
        generalize 2 ^ ((m.log2 + more) / 2 + 1) = T at *
        omega
      by_cases h0 : 2 * W + b = 0
      · rw [h0, Nat.log2_zero]; omega
      · have := (Nat.log2_lt h0).2 hq
        omega

theorem wide_num {x : Nat} {s : Bool} {m : Nat} {e : Int} (hr : FloatKind.f32.format.read x = .number s m e) : wide x = Ieee.double.nearest s m e := by
  rw [wide_eq]; unfold wideImpl floatToFloatBits FloatKind.decode
  rw [if_neg (by decide), hr]
  simp only [wide_finite hr]
  rfl

theorem wide_small {x : Nat} {s : Bool} {m : Nat} {e : Int} (hr : FloatKind.f32.format.read x = .number s m e) :
    ∃ n j, FloatKind.f64.format.read (wide x) = .number s n j ∧ j + (n.log2 : Int) ≤ 128 := by
  obtain ⟨hm, he1, he2⟩ := single_number hr
  have hl : m.log2 ≤ 23 := by
    by_cases h0 : m = 0
    · rw [h0, Nat.log2_zero]; omega
    · have := (Nat.log2_lt h0).2 (show m < 2 ^ 24 from hm)
      omega
  obtain ⟨rung, h1, h2⟩ := dbl_near (s := s) (m := m) (e := e) 1151 (by omega) (by decide)
  obtain ⟨n, j, h3, h4⟩ := dbl_read (s := s) h1 (by decide)
  refine ⟨n, j, ?_, by omega⟩
  rw [wide_num hr, h2]
  exact h3

/-- No root of a number of single precision is too great. -/
theorem nrwOk_all (x : Nat) : nrwOk (sqrtW (wide x)) = true := by
  cases hr : FloatKind.f32.format.read x with
  | number s m e =>
    obtain ⟨n, j, h1, h2⟩ := wide_small hr
    exact root_small h1 h2
  | infinity s =>
    have : wide x = FloatKind.f64.encode (.infinity s) := by
      rw [wide_eq]; unfold wideImpl floatToFloatBits FloatKind.decode
      rw [if_neg (by decide), hr]; rfl
    rw [this, nrwOk_eq, sqrtW_eq]
    cases s <;> decide +kernel
  | nan s f =>
    have : wide x = nanW .f64 := by
      rw [wide_eq]; unfold wideImpl floatToFloatBits FloatKind.decode
      rw [if_neg (by decide), hr]; rfl
    rw [this, nrwOk_eq, sqrtW_eq]
    decide +kernel
end Go.Ab

namespace Go.Ab
open Go
set_option linter.unusedVariables false
/-! ### How great and how small: sums, quotients -/
theorem near_low {m : Nat} {e : Int} (L : Nat) (h0 : m ≠ 0) (h : (L : Int) ≤ e + (m.log2 : Int) + 127) (h1 : 1 ≤ L) (h2 : L ≤ 254) : L * 8388608 ≤ Ieee.single.nearest false m e := by
  have hl : Ieee.single.leastPlace = -149 := rfl
  have hb : Ieee.single.binade = 8388608 := rfl
  have hf : Ieee.single.fractionBits = 23 := rfl
  unfold Ieee.Format.nearest
  rw [if_neg h0]
  simp only [hl, hb, hf, isub, word_pos]
  have hlo : 2 ^ m.log2 ≤ m := Nat.log2_self_le h0
  have elast : max (e + (m.log2 : Int) - ((23 : Nat) : Int)) (-149) = e + (m.log2 : Int) - 23 := by omega
  rw [elast]
  have kept : 8388608 ≤ Ieee.Toward.even.cut false (m <<< (e - (e + (m.log2 : Int) - 23)).toNat) ((e + (m.log2 : Int) - 23) - e).toNat := by
    rcases Nat.lt_or_ge 23 m.log2 with h3 | h3
    · have a : (e - (e + (m.log2 : Int) - 23)).toNat = 0 := by omega
      have b : ((e + (m.log2 : Int) - 23) - e).toNat = m.log2 - 23 := by omega
      rw [a, b, Nat.shiftLeft_zero, cut_def _ _ _ (by omega)]
      refine Nat.le_trans ?_ (Nat.le_add_right _ _)
      rw [Nat.le_div_iff_mul_le (Nat.two_pow_pos _)]
      calc 8388608 * 2 ^ (m.log2 - 23) = 2 ^ (23 + (m.log2 - 23)) := by rw [Nat.pow_add]
        _ = 2 ^ m.log2 := by congr 1; omega
        _ ≤ m := hlo
    · have a : (e - (e + (m.log2 : Int) - 23)).toNat = 23 - m.log2 := by omega
      have b : ((e + (m.log2 : Int) - 23) - e).toNat = 0 := by omega
      rw [a, b, cut_zero, Nat.shiftLeft_eq]
      calc 8388608 = 2 ^ (m.log2 + (23 - m.log2)) := by rw [show m.log2 + (23 - m.log2) = 23 by omega]
        _ = 2 ^ m.log2 * 2 ^ (23 - m.log2) := Nat.pow_add _ _ _
        _ ≤ m * 2 ^ (23 - m.log2) := Nat.mul_le_mul_right _ hlo
  have hr : L - 1 ≤ (e + (m.log2 : Int) - 23 - -149).toNat := by omega
  have := Nat.mul_le_mul_right 8388608 hr
  refine Nat.le_min.2 ⟨?_, Nat.le_trans (Nat.mul_le_mul_right 8388608 h2) (by decide)⟩
  obtain ⟨L', rfl⟩ : ∃ L', L = L' + 1 := ⟨L - 1, by omega⟩
  rw [Nat.add_mul, Nat.one_mul]
  exact Nat.add_le_add this kept

/-- A number that isn't below the normal ones. -/
theorem read_norm {y : Nat} (h1 : 8388608 ≤ y) (h : y < 2139095040) : ∃ n q, FloatKind.f32.format.read y = .number false n (-149 + ((q : Nat) : Int)) ∧ n.log2 = 23 ∧ q + 1 = y / 8388608 := by
  have hs : Ieee.single.signWeight = 2147483648 := rfl
  have hb : Ieee.single.binade = 8388608 := rfl
  have hl : Ieee.single.leastPlace = -149 := rfl
  have e1 : y / 2147483648 = 0 := Nat.div_eq_of_lt (by omega)
  have e2 : y % 2147483648 = y := Nat.mod_eq_of_lt (by omega)
  have hq1 : 1 ≤ y / 8388608 := (Nat.one_le_div_iff (by decide)).2 (by omega)
  have hml : y % 8388608 < 8388608 := Nat.mod_lt _ (by decide)
  refine ⟨8388608 + y % 8388608, y / 8388608 - 1, ?_, (Nat.log2_eq_iff (by omega)).2 ⟨by omega, by omega⟩, by omega⟩
  change Ieee.single.read y = _
  simp only [Ieee.Format.read, hs, hb, hl, isub, e1, e2]
  have h1' : ¬ y < 8388608 := by omega
  simp [h1', h]

theorem log_le {m k : Nat} (h : m < 2 ^ (k + 1)) : m.log2 ≤ k := by
  by_cases h0 : m = 0
  · subst h0; rw [Nat.log2_zero]; omega
  · have := (Nat.log2_lt h0).2 h; omega

/-- The size of a quotient. -/
theorem quo_size {x y : Nat} (L : Nat) (hx : x % 2147483648 < 2139095040) (h1 : 8388608 ≤ y) (hy : y < 2139095040) (h : x % 2147483648 / 8388608 + 129 ≤ L + y / 8388608) (h2 : 2 ≤ L) : fop .quo .f32 x y % 2147483648 ≤ L * 8388608 := by
  obtain ⟨s, m, p, hr, _, hm, hp⟩ := read_sgn hx
  obtain ⟨n, q, hs, hn, hq⟩ := read_norm h1 hy
  have hn0 : n ≠ 0 := fun h => by rw [h, Nat.log2_zero] at hn; omega
  have hfb : FloatKind.f32.format.fractionBits = 23 := rfl
  rw [fop_eq]; unfold fopImpl floatBits
  simp only [Ieee.Format.div, hr, hs, Ieee.Datum.quotient, if_neg hn0, Option.map_some, Option.getD_some, Ieee.Format.write, hfb, hn]
  rw [show FloatKind.f32.format = Ieee.single from rfl, near_mod]
  have hml : m.log2 ≤ 23 := log_le (by omega)
  have hlt : m < 2 ^ (m.log2 + 1) := Nat.lt_log2_self
  have hlo : 2 ^ n.log2 ≤ n := Nat.log2_self_le hn0
  rw [hn] at hlo
  refine near_bd L ?_ h2
  have hb : (m <<< (23 + 2 + 23 - m.log2) % n != 0).toNat ≤ 1 := Bool.toNat_le _
  have hd : m <<< (23 + 2 + 23 - m.log2) < n * 67108864 := by
    rw [Nat.shiftLeft_eq]
    calc m * 2 ^ (23 + 2 + 23 - m.log2) < 2 ^ (m.log2 + 1) * 2 ^ (23 + 2 + 23 - m.log2) := Nat.mul_lt_mul_of_pos_right hlt (Nat.two_pow_pos _)
      _ = 2 ^ 49 := by rw [← Nat.pow_add]; congr 1; omega
      _ = 2 ^ 23 * 67108864 := by decide
      _ ≤ n * 67108864 := Nat.mul_le_mul_right _ hlo
  have hd := Nat.div_lt_of_lt_mul hd
  have hlog := log_le (m := 2 * (m <<< (23 + 2 + 23 - m.log2) / n) + (m <<< (23 + 2 + 23 - m.log2) % n != 0).toNat) (k := 26) (by omega)
  omega

/-- A quotient isn't small. -/
theorem quo_low {x y : Nat} (L : Nat) (h1 : 8388608 ≤ x) (hx : x < 2139095040) (hy : y < 2139095040) (h0 : y ≠ 0) (h : L + y / 8388608 ≤ x / 8388608 + 125) (h2 : 1 ≤ L) (h3 : L ≤ 254) : L * 8388608 ≤ fop .quo .f32 x y := by
  obtain ⟨m, p, hr, hm, hp⟩ := read_norm h1 hx
  obtain ⟨n, q, hs, hn, hq, hnz, _⟩ := read_fin hy
  have hn0 := hnz h0
  have hfb : FloatKind.f32.format.fractionBits = 23 := rfl
  rw [fop_eq]; unfold fopImpl floatBits
  simp only [Ieee.Format.div, hr, hs, Ieee.Datum.quotient, if_neg hn0, Option.map_some, Option.getD_some, Ieee.Format.write, Bool.xor_false, hfb, hm]
  rw [show FloatKind.f32.format = Ieee.single from rfl]
  have hnl : n.log2 ≤ 23 := log_le (by omega)
  have hlt : n < 2 ^ (n.log2 + 1) := Nat.lt_log2_self
  have hlo : 2 ^ m.log2 ≤ m := Nat.log2_self_le (fun h => by rw [h, Nat.log2_zero] at hm; omega)
  rw [hm] at hlo
  have hd : 16777216 ≤ m <<< (23 + 2 + n.log2 - 23) / n := by
    rw [Nat.le_div_iff_mul_le (by omega), Nat.shiftLeft_eq]
    calc 16777216 * n ≤ 2 ^ 24 * 2 ^ (n.log2 + 1) := Nat.mul_le_mul (by decide) (Nat.le_of_lt hlt)
      _ = 2 ^ 23 * 2 ^ (23 + 2 + n.log2 - 23) := by rw [← Nat.pow_add, ← Nat.pow_add]; congr 1; omega
      _ ≤ m * 2 ^ (23 + 2 + n.log2 - 23) := Nat.mul_le_mul_right _ hlo
  generalize m <<< (23 + 2 + n.log2 - 23) / n = Q at *
  generalize (m <<< (23 + 2 + n.log2 - 23) % n != 0).toNat = b at *
  have hlog : 25 ≤ (2 * Q + b).log2 := (Nat.le_log2 (by omega)).2 (by omega)
  exact near_low L (by omega) (by omega) h2 h3

/-- The size of a sum, and of a difference. -/
theorem sum_size {x y : Nat} (L : Nat) (hx : x % 2147483648 < 2139095040) (hy : y % 2147483648 < 2139095040) (g1 : x % 2147483648 / 8388608 + 3 ≤ L) (g2 : y % 2147483648 / 8388608 + 3 ≤ L) :
    fop .add .f32 x y % 2147483648 ≤ L * 8388608 ∧ fop .sub .f32 x y % 2147483648 ≤ L * 8388608 := by
  obtain ⟨s, m, p, hr, _, h1, h2⟩ := read_sgn hx
  obtain ⟨t, n, q, hs, _, h3, h4⟩ := read_sgn hy
  have hb : min (-149 + (p : Int)) (-149 + (q : Int)) = -149 + ((min p q : Nat) : Int) := by omega
  have a1 : (-149 + (p : Int) - (-149 + ((min p q : Nat) : Int))).toNat = p - min p q := by omega
  have a2 : (-149 + (q : Int) - (-149 + ((min p q : Nat) : Int))).toNat = q - min p q := by omega
  have hA : m * 2 ^ (p - min p q) < 2 ^ (24 + (p - min p q)) := by
    rw [Nat.pow_add]; exact Nat.mul_lt_mul_of_pos_right h1 (Nat.two_pow_pos _)
  have hB : n * 2 ^ (q - min p q) < 2 ^ (24 + (q - min p q)) := by
    rw [Nat.pow_add]; exact Nat.mul_lt_mul_of_pos_right h3 (Nat.two_pow_pos _)
  have fin : ∀ t', (Ieee.signed s m (p - min p q) + Ieee.signed t' n (q - min p q)).natAbs < 2 ^ (25 + (max p q - min p q)) := by
    intro t'
    have s1 := signed_abs s m (p - min p q)
    have s2 := signed_abs t' n (q - min p q)
    generalize m * 2 ^ (p - min p q) = A at hA s1
    generalize n * 2 ^ (q - min p q) = B at hB s2
    have hT : (Ieee.signed s m (p - min p q) + Ieee.signed t' n (q - min p q)).natAbs ≤ A + B := by omega
    have g1 : 2 ^ (24 + (p - min p q)) ≤ 2 ^ (24 + (max p q - min p q)) := Nat.pow_le_pow_right (by decide) (by omega)
    have g2 : 2 ^ (24 + (q - min p q)) ≤ 2 ^ (24 + (max p q - min p q)) := Nat.pow_le_pow_right (by decide) (by omega)
    have g3 : 2 ^ (25 + (max p q - min p q)) = 2 ^ (24 + (max p q - min p q)) + 2 ^ (24 + (max p q - min p q)) := by
      have : 25 + (max p q - min p q) = 24 + (max p q - min p q) + 1 := by omega
      rw [this, Nat.pow_succ]; omega
    omega
  rw [fop_eq]; unfold fopImpl floatBits
  simp only [Ieee.Format.add, Ieee.Format.sub, hr, hs, Ieee.Datum.opposite, Ieee.Datum.sum, hb, a1, a2, Option.map_some, Option.getD_some, Ieee.Format.write]
  rw [show FloatKind.f32.format = Ieee.single from rfl, near_mod, near_mod]
  have last : ∀ T : Nat, T < 2 ^ (25 + (max p q - min p q)) → Ieee.single.nearest false T (-149 + ((min p q : Nat) : Int)) ≤ L * 8388608 := by
    intro T hT
    have hl := log_le (m := T) (k := 24 + (max p q - min p q)) (by rw [show 24 + (max p q - min p q) + 1 = 25 + (max p q - min p q) by omega]; exact hT)
    exact near_bd L (by omega) (by omega)
  exact ⟨last _ (fin t), last _ (fin (!t))⟩

/-- What is greater than nought and added leaves what is as great. -/
theorem add_one {y : Nat} (hy : y < 2139095040) : 127 * 8388608 ≤ fop .add .f32 1065353216 y := by
  obtain ⟨n, q, hs, _⟩ := read_fin hy
  have hr : FloatKind.f32.format.read 1065353216 = .number false 8388608 (-149 + ((126 : Nat) : Int)) := by decide +kernel
  rw [fop_eq]; unfold fopImpl floatBits
  simp only [Ieee.Format.add, hr, hs, sum_fin, Option.map_some, Option.getD_some, Ieee.Format.write]
  rw [show FloatKind.f32.format = Ieee.single from rfl]
  have hT : 2 ^ (23 + (126 - min 126 q)) ≤ 8388608 * 2 ^ (126 - min 126 q) + n * 2 ^ (q - min 126 q) := by
    rw [Nat.pow_add]; exact Nat.le_add_right _ _
  generalize 8388608 * 2 ^ (126 - min 126 q) + n * 2 ^ (q - min 126 q) = T at *
  have hp := Nat.two_pow_pos (23 + (126 - min 126 q))
  have hl : 23 + (126 - min 126 q) ≤ T.log2 := (Nat.le_log2 (by omega)).2 hT
  exact near_low 127 (by omega) (by omega) (by decide) (by decide)

/-- 273 and a heat that isn't below -60. -/
theorem abs_heat {a : Nat} (hw : a < 4294967296) (h1 : fleB .f32 3262119936 a = true) (h2 : fleB .f32 a 1153138688 = true) :
    134 * 8388608 ≤ fop .add .f32 a 1133019136 ∧ fop .add .f32 a 1133019136 ≤ 140 * 8388608 := by
  obtain ⟨_, hn⟩ := num_of_fle h1
  rw [fle_key .f32 (by rw [nan32]; decide) hn, key_lo] at h1
  rw [fle_key .f32 hn (nanp (by decide)), keyp (x := 1153138688) (by decide)] at h2
  have h1 := of_decide_eq_true h1
  have h2 := of_decide_eq_true h2
  rw [show FloatKind.f32.format = Ieee.single from rfl, key32 hw] at h1 h2
  have hsz : a % 2147483648 < 2139095040 := by split at h1 <;> rename_i hs <;> simp only [hs, if_true, if_false] at h2 <;> omega
  have hup := (sum_size (x := a) (y := 1133019136) 140 hsz (by decide) (by split at h1 <;> rename_i hs <;> simp only [hs, if_true, if_false] at h2 <;> omega) (by decide)).1
  have hr : FloatKind.f32.format.read 1133019136 = .number false 8945664 (-149 + ((134 : Nat) : Int)) := by decide +kernel
  have low : 134 * 8388608 ≤ fop .add .f32 a 1133019136 ∧ fop .add .f32 a 1133019136 < 2147483648 := by
    rcases Nat.lt_or_ge a 2147483648 with hlt | hge
    · have e2 : a % 2147483648 = a := Nat.mod_eq_of_lt hlt
      rw [e2] at hsz
      obtain ⟨m, p, hs, _⟩ := read_fin hsz
      rw [fop_eq]; unfold fopImpl floatBits
      simp only [Ieee.Format.add, hr, hs, sum_fin, Option.map_some, Option.getD_some, Ieee.Format.write]
      rw [show FloatKind.f32.format = Ieee.single from rfl]
      have hT : 2 ^ (23 + (134 - min p 134)) ≤ m * 2 ^ (p - min p 134) + 8945664 * 2 ^ (134 - min p 134) := by
        rw [Nat.pow_add]
        refine Nat.le_trans ?_ (Nat.le_add_left _ _)
        exact Nat.mul_le_mul_right _ (by decide)
      generalize m * 2 ^ (p - min p 134) + 8945664 * 2 ^ (134 - min p 134) = T at *
      have hp := Nat.two_pow_pos (23 + (134 - min p 134))
      have hl : 23 + (134 - min p 134) ≤ T.log2 := (Nat.le_log2 (by omega)).2 hT
      exact ⟨near_low 134 (by omega) (by omega) (by decide) (by decide), Nat.lt_of_le_of_lt (near_pos _ _) (by decide)⟩
    · have hsm : a % 2147483648 ≤ 1114636288 := by
        rw [if_neg (by omega)] at h1
        omega
      obtain ⟨s, m, p, hs, _, hm, hp⟩ := read_sgn hsz
      have hp2 : p ≤ 132 := by omega
      have hb : min (-149 + (p : Int)) (-149 + ((134 : Nat) : Int)) = -149 + (p : Int) := by omega
      have a1 : (-149 + (p : Int) - (-149 + (p : Int))).toNat = 0 := by omega
      have a2 : (-149 + ((134 : Nat) : Int) - (-149 + (p : Int))).toNat = 134 - p := by omega
      rw [fop_eq]; unfold fopImpl floatBits
      simp only [Ieee.Format.add, hr, hs, Ieee.Datum.sum, hb, a1, a2, Option.map_some, Option.getD_some, Ieee.Format.write]
      rw [show FloatKind.f32.format = Ieee.single from rfl]
      have s1 := signed_abs s m 0
      rw [Nat.pow_zero, Nat.mul_one] at s1
      have s2 : Ieee.signed false 8945664 (134 - p) = ((8945664 * 2 ^ (134 - p) : Nat) : Int) := by
        unfold Ieee.signed; simp [Nat.shiftLeft_eq]
      have e4 : 8945664 * 2 ^ (134 - p) = 35782656 * 2 ^ (132 - p) := by
        rw [show 134 - p = 2 + (132 - p) by omega, Nat.pow_add, ← Nat.mul_assoc]
      rw [e4] at s2
      have e5 : 2 ^ (24 + (132 - p)) = 16777216 * 2 ^ (132 - p) := by rw [Nat.pow_add]
      have hp3 := Nat.two_pow_pos (132 - p)
      rw [s2]
      have hT1 : (16777216 * 2 ^ (132 - p) : Nat) ≤ (Ieee.signed s m 0 + ((35782656 * 2 ^ (132 - p) : Nat) : Int)).natAbs ∧ 0 < Ieee.signed s m 0 + ((35782656 * 2 ^ (132 - p) : Nat) : Int) := by
        generalize 2 ^ (132 - p) = T at *
        omega
      rw [← e5] at hT1
      generalize Ieee.signed s m 0 + ((35782656 * 2 ^ (132 - p) : Nat) : Int) = U at *
      have t1 : (if U = 0 then s && false else decide (U < 0)) = false := by
        rw [if_neg (by omega)]; simp only [decide_eq_false_iff_not]; omega
      rw [t1]
      have hp := Nat.two_pow_pos (24 + (132 - p))
      have hl : 24 + (132 - p) ≤ U.natAbs.log2 := (Nat.le_log2 (by omega)).2 hT1.1
      exact ⟨near_low 134 (by omega) (by omega) (by decide) (by decide), Nat.lt_of_le_of_lt (near_pos _ _) (by decide)⟩
  refine ⟨low.1, ?_⟩
  rwa [Nat.mod_eq_of_lt low.2] at hup

/-- How dense air is. -/
theorem dn_size {a : Nat} (hw : a < 4294967296) (h1 : fleB .f32 3262119936 a = true) (h2 : fleB .f32 a 1153138688 = true) : dnF a % 2147483648 ≤ 130 * 8388608 := by
  obtain ⟨l, u⟩ := abs_heat hw h1 h2
  unfold dnF
  exact quo_size 130 (by decide) (by omega) (by omega) (by omega) (by decide)

theorem dr_size {h t o : Nat} (hh : h ≤ 1106247680) (wt : t < 4294967296) (wo : o < 4294967296) (t1 : fleB .f32 3262119936 t = true) (t2 : fleB .f32 t 1153138688 = true) (o1 : fleB .f32 3262119936 o = true) (o2 : fleB .f32 o 1153138688 = true) :
    drF h t o % 2147483648 ≤ 148 * 8388608 := by
  have d1 := dn_size wt t1 t2
  have d2 := dn_size wo o1 o2
  have s1 := (sum_size (x := dnF o) (y := dnF t) 133 (by omega) (by omega) (by omega) (by omega)).2
  have m1 := mul_size (x := 1092354048) (y := h) 138 (by decide) (by omega) (by omega) (by decide)
  unfold drF
  exact mul_size 148 (by omega) (by omega) (by omega) (by decide)

/-- The resistance isn't small. -/
theorem re_low {h w d : Nat} (hh : h ≤ 1106247680) (hw : w ≤ 1082130432) (hd : d ≤ 1065353216) : reF h w d ≤ 2139095040 ∧ (109 * 8388608 ≤ reF h w d) := by
  have b1 := mul_bd (x := 1048576000) (y := h) 133 (by decide) (by omega) (by omega) (by decide)
  have b2 := add_bd (x := 1065353216) (y := fop .mul .f32 1048576000 h) 136 (by decide) (by omega) (by omega) (by omega)
  have b3 := add_one (y := fop .mul .f32 1048576000 h) (by omega)
  have b4 := mul_bd (x := w) (y := d) 133 (by omega) (by omega) (by omega) (by decide)
  have b5 := mul_bd (x := fop .mul .f32 w d) (y := fop .mul .f32 w d) 143 (by omega) (by omega) (by omega) (by decide)
  unfold reF
  generalize fop .add .f32 1065353216 (fop .mul .f32 1048576000 h) = N at *
  generalize fop .mul .f32 (fop .mul .f32 w d) (fop .mul .f32 w d) = Q at *
  by_cases h0 : Q = 0
  · subst h0
    obtain ⟨m, p, hr, _, _, hnz, _⟩ := read_fin (x := N) (by omega)
    have hm : m ≠ 0 := hnz (by omega)
    have r0 : FloatKind.f32.format.read 0 = .number false 0 (-149 + ((0 : Nat) : Int)) := by decide +kernel
    have : fop .quo .f32 N 0 = 2139095040 := by
      rw [fop_eq]; unfold fopImpl floatBits
      simp only [Ieee.Format.div, hr, r0, Ieee.Datum.quotient, if_true, if_neg hm, Option.map_some, Option.getD_some, Ieee.Format.write]
      rfl
    rw [this]; decide
  · exact ⟨quo_nn (by omega) (by omega) h0, quo_low 109 (by omega) (by omega) (by omega) h0 (by omega) (by decide) (by decide)⟩

/-- What presses, by what resists, is finite. -/
theorem quo_re {a r : Nat} (ha : a % 2147483648 ≤ 151 * 8388608) (h1 : 109 * 8388608 ≤ r) (h2 : r ≤ 2139095040) : fop .quo .f32 a r % 2147483648 < 2139095040 := by
  rcases Nat.lt_or_eq_of_le h2 with h | h
  · have := quo_size (x := a) (y := r) 171 (by omega) (by omega) h (by omega) (by decide)
    omega
  · subst h
    obtain ⟨s, m, p, hr, _⟩ := read_sgn (x := a) (by omega)
    rw [fop_eq]; unfold fopImpl floatBits
    simp only [Ieee.Format.div, hr, read_top, Ieee.Datum.quotient, Option.map_some, Option.getD_some, Ieee.Format.write]
    cases s <;> decide +kernel
end Go.Ab

namespace Go.Ab
open Go
set_option linter.unusedVariables false
/-! ### Flows -/
/-- A root, made narrow. -/
noncomputable def rtF (a : Nat) : Nat := nrw (sqrtW (wide a))

theorem nrw_num {x : Nat} {s : Bool} {m : Nat} {e : Int} (hr : FloatKind.f64.format.read x = .number s m e) : nrw x = Ieee.single.nearest s m e := by
  rw [nrw_eq]; unfold nrwImpl FloatKind.decode
  rw [hr]; rfl

theorem root_fin {x : Nat} {m : Nat} {e : Int} (hr : FloatKind.f64.format.read x = .number false m e) (h : e + (m.log2 : Int) ≤ 128) : finF (nrw (sqrtW x)) = true := by
  have wr : ∀ (t : Bool) (q : Nat) (i : Int), i + (q.log2 : Int) ≤ 80 → finF (nrw (FloatKind.f64.encode (.number t q i))) = true := by
    intro t q i hq
    obtain ⟨rung, h1, h2⟩ := dbl_near (s := t) (m := q) (e := i) 1104 (by omega) (by decide)
    obtain ⟨n, j, h3, h4⟩ := dbl_read (s := t) h1 (by decide)
    have e1 : FloatKind.f64.encode (.number t q i) = Ieee.double.word t rung := h2
    rw [e1, nrw_num h3]
    unfold finF
    rw [near_mod]
    exact decide_eq_true (near_fin (by omega))
  rw [sqrtW_eq]
  unfold sqrtImpl Ieee.Format.sqrt
  rw [hr]
  unfold Ieee.Datum.root
  dsimp only
  by_cases hm : m = 0
  · rw [if_pos hm]
    show finF (nrw (Ieee.double.nearest false m e)) = true
    unfold Ieee.Format.nearest
    rw [if_pos hm, nrw_eq]
    decide +kernel
  · rw [if_neg hm, if_neg (by decide)]
    simp only [Option.map_some, Option.getD_some]
    refine wr false _ _ ?_
    generalize hmo : 2 * (FloatKind.f64.format.fractionBits + 2) - m.log2 + ((e - ((2 * (FloatKind.f64.format.fractionBits + 2) - m.log2 : Nat) : Int)) % 2).toNat = more
    have hn : (m <<< more).log2 = m.log2 + more := by rw [Nat.shiftLeft_eq]; exact log2_scale more hm
    have hw := rootFrom_lt (m <<< more) ((m <<< more).log2 / 2 + 1) 0
    generalize hW : Ieee.Datum.rootFrom (m <<< more) ((m <<< more).log2 / 2 + 1) 0 = W at *
    rw [hn, Nat.zero_add] at hw
    have hb : (W * W != m <<< more).toNat ≤ 1 := Bool.toNat_le _
    generalize (W * W != m <<< more).toNat = b at *
    have hq : 2 * W + b < 2 ^ ((m.log2 + more) / 2 + 1 + 1) := by
      rw [Nat.pow_succ]
      generalize 2 ^ ((m.log2 + more) / 2 + 1) = T at *
      omega
    have := log_le hq
    omega

theorem rt_fin {y : Nat} (h : y < 2139095040 ∨ y = 2147483648) : finF (rtF y) = true := by
  unfold rtF
  rcases h with h | h
  · obtain ⟨m, p, hr, _⟩ := read_fin h
    obtain ⟨n, j, h1, h2⟩ := wide_small hr
    exact root_fin h1 h2
  · subst h
    rw [wide_eq, sqrtW_eq, nrw_eq]; decide +kernel

theorem fneg_mod (b : Nat) : fneg .f32 b % 2147483648 = b % 2147483648 := by
  show (b ^^^ 2 ^ 31) % 2 ^ 31 = b % 2 ^ 31
  rw [Nat.xor_mod_two_pow, Nat.mod_self, Nat.xor_zero]
theorem fneg_pos {b : Nat} (h1 : 2147483648 ≤ b) (h2 : b < 4294967296) : fneg .f32 b < 2147483648 := by
  show b ^^^ 2 ^ 31 < 2147483648
  have h3 : (b ^^^ 2 ^ 31) / 2 ^ 31 = 0 := by
    rw [← Nat.shiftRight_eq_div_pow, Nat.shiftRight_xor_distrib, Nat.shiftRight_eq_div_pow, Nat.shiftRight_eq_div_pow]
    have : b / 2 ^ 31 = 1 := by omega
    rw [this]; decide
  omega

noncomputable def flX (h w t d o p : Nat) : Nat := fop .quo .f32 (fop .add .f32 (drF h t o) p) (reF h w d)
noncomputable def flF (h w t d o p : Nat) : Nat := cond (feqB .f32 d 0) 0 (cond (fltB .f32 (flX h w t d o p) 0) (fneg .f32 (rtF (fneg .f32 (flX h w t d o p)))) (rtF (flX h w t d o p)))

theorem bw_size {a : Nat} (ha : a < 4294967296) (h : bw 3296329728 a 1148846080 = true) : a % 2147483648 ≤ 1148846080 := by
  unfold bw at h
  cases h1 : fleB .f32 3296329728 a with
  | false => rw [h1] at h; cases h
  | true =>
    rw [h1] at h
    have h2 : fleB .f32 a 1148846080 = true := h
    obtain ⟨_, hn⟩ := num_of_fle h1
    rw [fle_key .f32 (by rw [nan32]; decide) hn] at h1
    rw [fle_key .f32 hn (nanp (by decide))] at h2
    have h1 := of_decide_eq_true h1
    have h2 := of_decide_eq_true h2
    rw [show FloatKind.f32.format = Ieee.single from rfl, key32 ha] at h1 h2
    have k1 : key Ieee.single 3296329728 = -1148846080 := by rw [key32 (by decide)]; decide
    have k2 : key Ieee.single 1148846080 = 1148846080 := by rw [key32 (by decide)]; decide
    rw [k1] at h1
    rw [k2] at h2
    split at h1 <;> rename_i hs <;> simp only [hs, if_true, if_false] at h1 h2 <;> omega

/-- A flow is finite. -/
theorem flow_fin {h w t d o p : Nat} (hh : h < 4294967296) (hw : w < 4294967296) (ht : t < 4294967296) (ho : o < 4294967296) (hp : p < 4294967296)
    (hf : flI h w t d = true) (hO : bw 3262119936 o 1114636288 = true) (hP : bw 3296329728 p 1148846080 = true) : finF (flF h w t d o p) = true := by
  obtain ⟨⟨_, h1⟩, ⟨_, w1⟩, ⟨t1, t2⟩, d1⟩ := fl_facts hh hw hf
  have hps := bw_size hp hP
  have o12 : fleB .f32 3262119936 o = true ∧ fleB .f32 o 1153138688 = true := by
    unfold bw at hO
    cases g1 : fleB .f32 3262119936 o with
    | false => rw [g1] at hO; cases hO
    | true =>
      rw [g1] at hO
      have g2 : fleB .f32 o 1114636288 = true := hO
      refine ⟨rfl, ?_⟩
      obtain ⟨hn, _⟩ := num_of_fle g2
      rw [fle_key .f32 hn (nanp (by decide)), keyp (x := 1114636288) (by decide)] at g2
      rw [fle_key .f32 hn (nanp (by decide)), keyp (x := 1153138688) (by decide)]
      have := of_decide_eq_true g2
      exact decide_eq_true (by omega)
  have dr := dr_size h1 ht ho t1 t2 o12.1 o12.2
  have ad := (sum_size (x := drF h t o) (y := p) 151 (by omega) (by omega) (by omega) (by omega)).1
  obtain ⟨r2, r1⟩ := re_low h1 w1 d1
  have hx := quo_re ad r1 r2
  have hwf : flX h w t d o p < 4294967296 := fop_wf .quo .f32 _ _
  change flX h w t d o p % 2147483648 < 2139095040 at hx
  unfold flF
  generalize flX h w t d o p = x at *
  cases feqB .f32 d 0 with
  | true => show finF 0 = true; decide
  | false =>
    show finF (cond (fltB .f32 x 0) (fneg .f32 (rtF (fneg .f32 x))) (rtF x)) = true
    have hn : nanB .f32 x = false := by rw [nan32]; simp; omega
    have hk : fltB .f32 x 0 = decide (key FloatKind.f32.format x < 0) := by
      rw [flt_key .f32 hn (nanp (by decide)), keyp (x := 0) (by decide)]; rfl
    rw [show FloatKind.f32.format = Ieee.single from rfl, key32 hwf] at hk
    rcases Nat.lt_or_ge x 2147483648 with hs | hs
    · rw [if_pos hs] at hk
      rw [hk, decide_eq_false (by omega)]
      exact rt_fin (Or.inl (by omega))
    · rw [if_neg (by omega)] at hk
      rcases Nat.lt_or_eq_of_le hs with hs2 | hs2
      · rw [hk, decide_eq_true (by omega)]
        show finF (fneg .f32 (rtF (fneg .f32 x))) = true
        have g1 := fneg_pos hs hwf
        have g2 := fneg_mod x
        have g3 := rt_fin (y := fneg .f32 x) (Or.inl (by omega))
        unfold finF at g3 ⊢
        rw [fneg_mod]; exact g3
      · rw [hk, decide_eq_false (by omega)]
        exact rt_fin (Or.inr hs2.symm)
end Go.Ab

namespace Go.Ab
open Go Go.RowKit
set_option linter.unusedVariables false
/-! ### Contracts with conditions that always hold -/
section
variable {P : Program}
theorem sat_flatN {Γ : List (Nat × Ctr)} (hΓ : Good P Γ) (hm : P.follows .mixedOrders = true) {f : FuncId} {fn : Func} {c : Ctr} (hf : P.funcs[f]? = some fn)
    (hcall : ∀ (args : Array Value) (w : World), (callFunc f args).run P w = .ok (.enter f args) w)
    (h : ∀ args S out, c.fn args S = some out → out.nd = true → AVal.flat.flatL args = true ∧ ∃ fuel v0 nd, evBody P Γ fuel fn args St0 = some ⟨v0, [], [], [], nd, none⟩ ∧ nd = true ∧ v0.flat = true ∧ out = ⟨v0, [], [], [], true, none⟩) (hx : c.x = none) : Sat P f c := by
  unfold Sat
  rw [hx]
  refine ⟨hcall, fun args S out hfn hnd M w0 ρ w vs hM hv => ?_⟩
  obtain ⟨hfl, fuel, v0, nd, he, hn, hf0, hout⟩ := h args S out hfn hnd
  have hs : SatC P f (inl P Γ fuel fn) := inl_sat hΓ hm hf hcall fuel
  refine (hs.sat args St0 _ he hn NoM w noRho w vs (mem_nil w) (VL_flat' _ _ hfl hv)).mono ?_
  intro e w' hr
  cases e with
  | outgrown => exact hr.elim
  | panicked ch =>
    obtain ⟨v, u, hp, _⟩ := hr
    cases hp
  | returned u =>
    obtain ⟨_, ρ', _, hu, hm'⟩ := hr
    rw [hout]
    exact ⟨fun b v h => (by cases h), ρ, ExtS.refl _ _, V_flat _ _ hf0 hu, (hM.quiet hm'.fr).put_nil⟩

theorem sat_viewN {n : Nat} {Γ : List (Nat × Ctr)} (hΓ : Good P Γ) (hm : P.follows .mixedOrders = true) {f : FuncId} {fn : Func} {c : Ctr} (hf : P.funcs[f]? = some fn)
    (hcall : ∀ (args : Array Value) (w : World), (callFunc f args).run P w = .ok (.enter f args) w)
    (h : ∀ args S out, c.fn args S = some out → out.nd = true → ∃ i o l rest, args = .ptr i o :: rest ∧ AVal.flat.flatL rest = true ∧ S.cellsAt i o n = some l ∧ AVal.flat.flatL l = true ∧ ∃ fuel v0 nd, evBody P Γ fuel fn (.ptr 0 0 :: rest) (St1 l) = some ⟨v0, [], [], [], nd, none⟩ ∧ nd = true ∧ v0.flat = true ∧ out = ⟨v0, [], [], [], true, none⟩) (hx : c.x = none) (hn1 : 1 ≤ n := by decide) : Sat P f c := by
  unfold Sat
  rw [hx]
  refine ⟨hcall, fun args S out hfn hnd M w0 ρ w vs hM hv => ?_⟩
  obtain ⟨i, o, l, rest, rfl, hfr, hl, hfl, fuel, v0, nd, he, hn, hf0, hout⟩ := h args S out hfn hnd
  have hs : SatC P f (inl P Γ fuel fn) := inl_sat hΓ hm hf hcall fuel
  unfold VL at hv
  obtain ⟨v, vs', rfl, hv1, hv2⟩ := hv
  obtain ⟨ρ1, hM1, hv3⟩ := view_mem hM hl hn1 hfl hv1
  have hvl : VL ρ1 (.ptr 0 0 :: rest) (v :: vs') := by
    unfold VL
    exact ⟨v, vs', rfl, hv3, VL_flat' _ _ hfr hv2⟩
  refine (hs.sat (.ptr 0 0 :: rest) (St1 l) _ he hn NoM w ρ1 w _ hM1 hvl).mono ?_
  intro e w' hr
  cases e with
  | outgrown => exact hr.elim
  | panicked ch =>
    obtain ⟨v, u, hp, _⟩ := hr
    cases hp
  | returned u =>
    obtain ⟨_, ρ', _, hu, hm'⟩ := hr
    rw [hout]
    exact ⟨fun b v h => (by cases h), ρ, ExtS.refl _ _, V_flat _ _ hf0 hu, (hM.quiet hm'.fr).put_nil⟩

/-- A root of a number of single precision. -/
noncomputable def rtC : Ctr := ⟨fun args _ => match args with | [.flt .f32 a] => some ⟨.flt .f32 (rtF a), [], [], [], true, none⟩ | _ => none, none⟩
theorem sat_rt {Γ : List (Nat × Ctr)} (hΓ : Good P Γ) (hm : P.follows .mixedOrders = true) {f : FuncId} {fn : Func} (hf : P.funcs[f]? = some fn)
    (hcall : ∀ (args : Array Value) (w : World), (callFunc f args).run P w = .ok (.enter f args) w) (fuel : Nat) (nd : Nat → Bool)
    (he : ∀ a, evBody P Γ fuel fn [.flt .f32 a] St0 = some ⟨.flt .f32 (rtF a), [], [], [], nd a, none⟩) (hn : ∀ a, nd a = true) : Sat P f rtC :=
  sat_flatN hΓ hm hf hcall (fun args S out hfn _ => by
    simp only [rtC] at hfn
    split at hfn
    · rename_i a
      cases hfn
      exact ⟨rfl, fuel, _, _, he a, hn a, rfl, rfl⟩
    · cases hfn) rfl

/-- A flow in a flue that is pointed to. -/
noncomputable def flowC : Ctr := ⟨fun args S => match args with
  | [.ptr i o, .flt .f32 a, .flt .f32 p] => match S.cellsAt i o 5 with
    | some [.flt .f32 h, .flt .f32 w, .flt .f32 t, .flt .f32 d, .sint .i64 z] => some ⟨.flt .f32 (flF h w t d a p), [], [], [], true, none⟩
    | _ => none
  | _ => none, none⟩
theorem sat_flow {Γ : List (Nat × Ctr)} (hΓ : Good P Γ) (hm : P.follows .mixedOrders = true) {f : FuncId} {fn : Func} (hf : P.funcs[f]? = some fn)
    (hcall : ∀ (args : Array Value) (w : World), (callFunc f args).run P w = .ok (.enter f args) w) (fuel : Nat) (nd : Nat → Nat → Nat → Nat → Nat → Nat → Bool)
    (he : ∀ (h w t d : Nat) (z : Int) (a p : Nat), evBody P Γ fuel fn [.ptr 0 0, .flt .f32 a, .flt .f32 p] (St1 [.flt .f32 h, .flt .f32 w, .flt .f32 t, .flt .f32 d, .sint .i64 z]) = some ⟨.flt .f32 (flF h w t d a p), [], [], [], nd h w t d a p, none⟩) (hn : ∀ h w t d a p, nd h w t d a p = true) : Sat P f flowC :=
  sat_viewN (n := 5) hΓ hm hf hcall (fun args S out hfn _ => by
    simp only [flowC] at hfn
    split at hfn
    · rename_i i o a p
      split at hfn
      · rename_i h w t d z hc
        cases hfn
        exact ⟨i, o, _, [.flt .f32 a, .flt .f32 p], rfl, rfl, hc, rfl, fuel, _, _, he h w t d z a p, hn h w t d a p, rfl, rfl⟩
      · cases hfn
    · cases hfn) rfl
end
/-- The model asks whether a flow is finite; it always is. -/
theorem through_eq {h w t d o p : Nat} (hh : h < 4294967296) (hw : w < 4294967296) (ht : t < 4294967296) (ho : wfW .f32 o) (hp : wfW .f32 p) :
    outX (cond (!flI h w t d) 0 (cond (cond (!bw 3262119936 o 1114636288) true (!bw 3296329728 p 1148846080)) 0 (flF h w t d o p))) (cond (!flI h w t d) (1 : Int) (cond (cond (!bw 3262119936 o 1114636288) true (!bw 3296329728 p 1148846080)) 2 0)) =
    outX (cond (!flI h w t d) 0 (cond (cond (!bw 3262119936 o 1114636288) true (!bw 3296329728 p 1148846080)) 0 (cond (!finF (flF h w t d o p)) 0 (flF h w t d o p)))) (cond (!flI h w t d) (1 : Int) (cond (cond (!bw 3262119936 o 1114636288) true (!bw 3296329728 p 1148846080)) 2 (cond (!finF (flF h w t d o p)) 4 0))) := by
  cases h1 : flI h w t d with
  | false => rfl
  | true =>
    cases h2 : bw 3262119936 o 1114636288 with
    | false => rfl
    | true =>
      cases h3 : bw 3296329728 p 1148846080 with
      | false => rfl
      | true => rw [flow_fin hh hw ht ho hp h1 h2 h3]; rfl
end Go.Ab
