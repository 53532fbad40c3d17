import Derived.Test.YtgamhlhnegblfaaGg
import Derived.Test.YtgamhlhnegblfaaGe
namespace Go.Ab
open Go
set_option linter.unusedVariables false
set_option linter.unusedSimpArgs false
/-! ### Words that stand for a whole number of small parts -/
theorem near_shift (f : Ieee.Format) (s : Bool) {T U b c : Nat} (e0 : Int) (h : T * 2 ^ b = U * 2 ^ c) : f.nearest s T (e0 + b) = f.nearest s U (e0 + c) := by
  rcases Nat.le_total b c with g | g
  · have e1 : T = U * 2 ^ (c - b) := by
      have : T * 2 ^ b = (U * 2 ^ (c - b)) * 2 ^ b := by rw [h, Nat.mul_assoc, ← Nat.pow_add]; congr 2; omega
      exact Nat.eq_of_mul_eq_mul_right (Nat.two_pow_pos b) this
    rw [e1, ← near_scale f s U (c - b) (e0 + c)]
    congr 1; omega
  · have e1 : U = T * 2 ^ (b - c) := by
      have : U * 2 ^ c = (T * 2 ^ (b - c)) * 2 ^ c := by rw [← h, Nat.mul_assoc, ← Nat.pow_add]; congr 2; omega
      exact Nat.eq_of_mul_eq_mul_right (Nat.two_pow_pos c) this
    rw [e1, ← near_scale f s T (b - c) (e0 + b)]
    congr 1; omega

/-- The word stands for v / 2 ^ k. -/
def Iz (k : Nat) (x : Nat) (v : Int) : Prop := x < 4294967296 ∧ x % 2147483648 < 2139095040 ∧ sz Ieee.single x = v * ((2 ^ (149 - k) : Nat) : Int)

theorem Iz.num {k x : Nat} {v : Int} (h : Iz k x v) : nanB .f32 x = false := by rw [nan32]; simp; have := h.2.1; omega

theorem iz_read {k x : Nat} {v : Int} (h : Iz k x v) : ∃ (s : Bool) (m p : Nat), FloatKind.f32.format.read x = .number s m (-149 + (p : Int)) ∧ Ieee.signed s m p = v * ((2 ^ (149 - k) : Nat) : Int) := by
  obtain ⟨m, p, hr, hg⟩ := read_number .f32 (x := x) h.2.1
  exact ⟨_, m, p, hr, by rw [signed_sz .f32 hg]; exact h.2.2⟩

theorem iz_of_read {k x : Nat} {s : Bool} {m p : Nat} {v : Int} (hx : x < 4294967296) (hm : x % 2147483648 < 2139095040) (hr : FloatKind.f32.format.read x = .number s m (-149 + (p : Int))) (h : Ieee.signed s m p = v * ((2 ^ (149 - k) : Nat) : Int)) : Iz k x v := by
  obtain ⟨m', p', hr', hg⟩ := read_number .f32 (x := x) hm
  rw [hr] at hr'
  have hl : FloatKind.f32.format.leastPlace = -149 := rfl
  rw [hl] at hr'
  simp only [Ieee.Datum.number.injEq] at hr'
  obtain ⟨e1, e2, e3⟩ := hr'
  have e4 : p' = p := by omega
  subst e4; subst e2
  refine ⟨hx, hm, ?_⟩
  rw [← h, e1]
  exact (signed_sz .f32 hg).symm

theorem near_lt (s : Bool) (m : Nat) (e : Int) : Ieee.single.nearest s m e < 4294967296 := by
  rw [near_word]
  have := near_pos m e
  simp only [Ieee.Format.word, show Ieee.single.signWeight = 2147483648 from rfl]
  cases s <;> simp <;> omega

theorem iz_near (s : Bool) (u : Int) {k : Nat} (hu : u.natAbs < 16777216) (hk : k ≤ 126) (hs : u ≠ 0 → s = decide (u < 0)) : Iz k (Ieee.single.nearest s u.natAbs (-(k : Int))) u := by
  by_cases h0 : u = 0
  · subst h0
    have e : Ieee.single.nearest s (0 : Int).natAbs (-(k : Int)) = Ieee.single.word s 0 := by
      unfold Ieee.Format.nearest; rw [if_pos (by rfl)]
    rw [e]
    cases s
    · refine ⟨by decide, by decide, ?_⟩
      rw [Int.zero_mul]; decide +kernel
    · refine ⟨by decide, by decide, ?_⟩
      rw [Int.zero_mul]; decide +kernel
  · have hs := hs h0
    have hn : u.natAbs ≠ 0 := by omega
    have hl := log_24 hu
    have hr := exact32 s (m := u.natAbs) (e := -(k : Int)) hn hl (by omega) (by omega)
    have hp : -(k : Int) - ((23 - u.natAbs.log2 : Nat) : Int) = -149 + ((149 - k - (23 - u.natAbs.log2) : Nat) : Int) := by omega
    rw [hp] at hr
    refine iz_of_read (near_lt _ _ _) ?_ hr ?_
    · rw [near_mod]; exact near_fin (by omega)
    · unfold Ieee.signed
      rw [Nat.shiftLeft_eq, Nat.mul_assoc, ← Nat.pow_add]
      have : 23 - u.natAbs.log2 + (149 - k - (23 - u.natAbs.log2)) = 149 - k := by omega
      rw [this, hs]
      by_cases hneg : u < 0
      · simp only [hneg, decide_true, if_true]
        have : (u.natAbs : Int) = -u := by omega
        rw [Int.natCast_mul, this]; rw [Int.neg_mul, Int.neg_neg]
      · simp only [hneg, decide_false, Bool.false_eq_true, if_false]
        have : (u.natAbs : Int) = u := by omega
        rw [Int.natCast_mul, this]

theorem signed_opp (s : Bool) (m p : Nat) : Ieee.signed (!s) m p = -Ieee.signed s m p := by
  unfold Ieee.signed; cases s <;> simp

/-- A sum as it is written. -/
theorem sum_near {k : Nat} {s t : Bool} {m n p q : Nat} {u : Int} (hu : u.natAbs < 16777216) (hk : k ≤ 126) (h : Ieee.signed s m p + Ieee.signed t n q = u * ((2 ^ (149 - k) : Nat) : Int)) :
    Iz k ((((Ieee.Datum.number s m (-149 + (p : Int))).sum (.number t n (-149 + (q : Int)))).map Ieee.single.write).getD (nanW .f32)) u := by
  have hb : min (-149 + (p : Int)) (-149 + (q : Int)) = -149 + ((min p q : Nat) : Int) := by omega
  have a1 : (-149 + (p : Int) - (-149 + ((min p q : Nat) : Int))).toNat = p - min p q := by omega
  have a2 : (-149 + (q : Int) - (-149 + ((min p q : Nat) : Int))).toNat = q - min p q := by omega
  simp only [Ieee.Datum.sum, hb, a1, a2, Option.map_some, Option.getD_some, Ieee.Format.write]
  have hT : (Ieee.signed s m (p - min p q) + Ieee.signed t n (q - min p q)) * ((2 ^ min p q : Nat) : Int) = u * ((2 ^ (149 - k) : Nat) : Int) := by
    rw [Int.add_mul, signed_mul, signed_mul, ← h]
    congr 2 <;> omega
  generalize hT0 : Ieee.signed s m (p - min p q) + Ieee.signed t n (q - min p q) = T at *
  generalize hg : (if T = 0 then s && t else decide (T < 0)) = g
  have hN : T.natAbs * 2 ^ min p q = u.natAbs * 2 ^ (149 - k) := by
    have := congrArg Int.natAbs hT
    simpa [Int.natAbs_mul] using this
  have e1 : Ieee.single.nearest g T.natAbs (-149 + ((min p q : Nat) : Int)) = Ieee.single.nearest g u.natAbs (-(k : Int)) := by
    rw [near_shift Ieee.single g (-149) hN]; congr 1; omega
  rw [e1]
  refine iz_near g u hu hk (fun h0 => ?_)
  have p1 : (0 : Int) < ((2 ^ min p q : Nat) : Int) := by have := Nat.two_pow_pos (min p q); omega
  have p2 : (0 : Int) < ((2 ^ (149 - k) : Nat) : Int) := by have := Nat.two_pow_pos (149 - k); omega
  have hiff : T < 0 ↔ u < 0 := by
    constructor
    · intro h
      have h1 : T * ((2 ^ min p q : Nat) : Int) < 0 := Int.mul_neg_of_neg_of_pos h p1
      rw [hT] at h1
      rcases Int.lt_or_le u 0 with g | g
      · exact g
      · have := Int.mul_nonneg g (Int.le_of_lt p2); omega
    · intro h
      have h1 : u * ((2 ^ (149 - k) : Nat) : Int) < 0 := Int.mul_neg_of_neg_of_pos h p2
      rw [← hT] at h1
      rcases Int.lt_or_le T 0 with g | g
      · exact g
      · have := Int.mul_nonneg g (Int.le_of_lt p1); omega
  have hT1 : T ≠ 0 := by
    rintro rfl
    rw [Int.zero_mul] at hT
    exact h0 ((Int.mul_eq_zero.1 hT.symm).resolve_right (by omega))
  rw [← hg, if_neg hT1]
  exact decide_eq_decide.2 hiff

theorem iz_add {k x y : Nat} {v w : Int} (hx : Iz k x v) (hy : Iz k y w) (hu : (v + w).natAbs < 16777216) (hk : k ≤ 126) : Iz k (fop .add .f32 x y) (v + w) := by
  obtain ⟨s, m, p, r1, e1⟩ := iz_read hx
  obtain ⟨t, n, q, r2, e2⟩ := iz_read hy
  rw [fop_eq]; unfold fopImpl floatBits
  simp only [Ieee.Format.add, r1, r2]
  exact sum_near hu hk (by rw [e1, e2, Int.add_mul])

theorem iz_sub {k x y : Nat} {v w : Int} (hx : Iz k x v) (hy : Iz k y w) (hu : (v - w).natAbs < 16777216) (hk : k ≤ 126) : Iz k (fop .sub .f32 x y) (v - w) := by
  obtain ⟨s, m, p, r1, e1⟩ := iz_read hx
  obtain ⟨t, n, q, r2, e2⟩ := iz_read hy
  rw [fop_eq]; unfold fopImpl floatBits
  simp only [Ieee.Format.sub, r1, r2, Ieee.Datum.opposite]
  exact sum_near hu hk (by rw [signed_opp, e1, e2, Int.sub_mul]; omega)

theorem signed_neg {s : Bool} {m p : Nat} {v : Int} {c : Nat} (h : Ieee.signed s m p = v * ((2 ^ c : Nat) : Int)) (h0 : v ≠ 0) : s = decide (v < 0) := by
  have p2 : (0 : Int) < ((2 ^ c : Nat) : Int) := by have := Nat.two_pow_pos c; omega
  have hnn : (0 : Int) ≤ ((m <<< p : Nat) : Int) := Int.natCast_nonneg _
  cases s
  · simp only [Ieee.signed, Bool.false_eq_true, if_false] at h
    symm; rw [decide_eq_false_iff_not]
    intro g
    have := Int.mul_neg_of_neg_of_pos g p2
    omega
  · simp only [Ieee.signed, if_true] at h
    symm; rw [decide_eq_true_eq]
    rcases Int.lt_or_le v 0 with g | g
    · exact g
    · have := Int.mul_pos (show 0 < v by omega) p2
      omega
theorem signed_size {s : Bool} {m p : Nat} {v : Int} {c : Nat} (h : Ieee.signed s m p = v * ((2 ^ c : Nat) : Int)) : m * 2 ^ p = v.natAbs * 2 ^ c := by
  have := congrArg Int.natAbs h
  rw [signed_abs, Int.natAbs_mul] at this
  simpa using this

theorem iz_mul {k j x y : Nat} {v w : Int} (hx : Iz k x v) (hy : Iz j y w) (hu : (v * w).natAbs < 16777216) (hk : k + j ≤ 126) : Iz (k + j) (fop .mul .f32 x y) (v * w) := by
  obtain ⟨s, m, p, r1, e1⟩ := iz_read hx
  obtain ⟨t, n, q, r2, e2⟩ := iz_read hy
  rw [fop_eq]; unfold fopImpl floatBits
  simp only [Ieee.Format.mul, r1, r2, Ieee.Datum.product, Option.map_some, Option.getD_some, Ieee.Format.write]
  have h1 := signed_size e1
  have h2 := signed_size e2
  have hN : m * n * 2 ^ (p + q) = (v * w).natAbs * 2 ^ (149 - k + (149 - j)) := by
    rw [Int.natAbs_mul, Nat.pow_add, Nat.pow_add]
    have : m * n * (2 ^ p * 2 ^ q) = (m * 2 ^ p) * (n * 2 ^ q) := by ac_rfl
    rw [this, h1, h2]; ac_rfl
  have e3 : -149 + (p : Int) + (-149 + (q : Int)) = -298 + ((p + q : Nat) : Int) := by omega
  rw [e3]
  have e4 : FloatKind.f32.format.nearest (s ^^ t) (m * n) (-298 + ((p + q : Nat) : Int)) = Ieee.single.nearest (s ^^ t) (v * w).natAbs (-((k + j : Nat) : Int)) := by
    rw [near_shift FloatKind.f32.format (s ^^ t) (-298) hN]
    show Ieee.single.nearest _ _ _ = _
    congr 1; omega
  rw [e4]
  refine iz_near _ _ hu hk (fun h0 => ?_)
  have hv : v ≠ 0 := fun h => h0 (by rw [h, Int.zero_mul])
  have hw : w ≠ 0 := fun h => h0 (by rw [h, Int.mul_zero])
  rw [signed_neg e1 hv, signed_neg e2 hw]
  rcases Int.lt_or_gt_of_ne hv with a | a <;> rcases Int.lt_or_gt_of_ne hw with b | b
  · have := Int.mul_pos_of_neg_of_neg a b
    rw [decide_eq_true a, decide_eq_true b, decide_eq_false (by omega)]; rfl
  · have := Int.mul_neg_of_neg_of_pos a b
    rw [decide_eq_true a, decide_eq_false (by omega), decide_eq_true this]; rfl
  · have := Int.mul_neg_of_pos_of_neg a b
    rw [decide_eq_false (by omega), decide_eq_true b, decide_eq_true this]; rfl
  · have := Int.mul_pos a b
    rw [decide_eq_false (by omega), decide_eq_false (by omega), decide_eq_false (by omega)]; rfl

theorem iz_fneg {k x : Nat} {v : Int} (hx : Iz k x v) : Iz k (fneg .f32 x) (-v) := by
  obtain ⟨h1, h2, h3⟩ := hx
  have hm := fneg_mod x
  have hlt : fneg .f32 x < 4294967296 := fneg_wf (k := .f32) (show x < 4294967296 from h1)
  refine ⟨hlt, by rw [hm]; exact h2, ?_⟩
  have hb : fneg .f32 x / 2147483648 % 2 = 1 - x / 2147483648 % 2 := by
    rcases Nat.lt_or_ge x 2147483648 with g | g
    · have hge : ¬ fneg .f32 x < 2147483648 := by
        show ¬ (x ^^^ 2 ^ 31 < 2147483648)
        have : (x ^^^ 2 ^ 31) / 2 ^ 31 = 1 := by
          rw [← Nat.shiftRight_eq_div_pow, Nat.shiftRight_xor_distrib, Nat.shiftRight_eq_div_pow, Nat.shiftRight_eq_div_pow, Nat.div_eq_of_lt g]; rfl
        omega
      omega
    · have := fneg_pos g h1
      omega
  unfold sz at h3 ⊢
  have hs : Ieee.single.signWeight = 2147483648 := rfl
  rw [hs] at h3 ⊢
  rw [hm, Int.neg_mul, ← h3, hb]
  have := Nat.mod_two_eq_zero_or_one (x / 2147483648)
  rcases this with e | e <;> rw [e] <;> simp

theorem iz_quo {k j x y : Nat} {v : Int} (hx : Iz k x v) (hy : FloatKind.f32.format.read y = .number false 8388608 ((j : Int) - 23)) (hu : v.natAbs < 16777216) (hk : k + j ≤ 126) : Iz (k + j) (fop .quo .f32 x y) v := by
  obtain ⟨s, m, p, r1, e1⟩ := iz_read hx
  have hM : m.log2 ≤ 23 := by
    obtain ⟨s', m', p', hr, _, hm, _⟩ := read_sgn hx.2.1
    rw [r1] at hr
    simp only [Ieee.Datum.number.injEq] at hr
    rw [hr.2.1]; exact log_24 hm
  rw [fop_eq]; unfold fopImpl floatBits
  have hl : (8388608 : Nat).log2 = 23 := by decide
  have hf : FloatKind.f32.format.fractionBits = 23 := rfl
  simp only [Ieee.Format.div, r1, hy, Ieee.Datum.quotient, hl, hf, Option.map_some, Option.getD_some, Ieee.Format.write]
  rw [if_neg (by decide)]
  simp only [Option.map_some, Option.getD_some, Ieee.Format.write]
  have hd : m <<< (23 + 2 + 23 - m.log2) = (m * 2 ^ (25 - m.log2)) * 8388608 := by
    rw [Nat.shiftLeft_eq, Nat.mul_assoc]
    congr 1
    rw [show (8388608 : Nat) = 2 ^ 23 from rfl, ← Nat.pow_add]; congr 1; omega
  have q1 : m <<< (23 + 2 + 23 - m.log2) / 8388608 = m * 2 ^ (25 - m.log2) := by rw [hd, Nat.mul_div_cancel _ (by decide)]
  have q2 : m <<< (23 + 2 + 23 - m.log2) % 8388608 = 0 := by rw [hd, Nat.mul_mod_left]
  rw [q1, q2]
  simp only [bne_self_eq_false, Bool.toNat_false, Nat.add_zero, Bool.xor_false]
  have hN : 2 * (m * 2 ^ (25 - m.log2)) * 2 ^ p = v.natAbs * 2 ^ (149 - k + (26 - m.log2)) := by
    have h1 := signed_size e1
    have e : (2 : Nat) ^ (26 - m.log2) = 2 * 2 ^ (25 - m.log2) := by rw [← Nat.pow_succ']; congr 1; omega
    have : 2 * (m * 2 ^ (25 - m.log2)) * 2 ^ p = (m * 2 ^ p) * (2 * 2 ^ (25 - m.log2)) := by ac_rfl
    rw [this, h1, ← e, Nat.mul_assoc, ← Nat.pow_add]
  have e3 : -149 + (p : Int) - ((j : Int) - 23) - ((23 + 2 + 23 - m.log2 : Nat) : Int) - 1 = (-149 - (j : Int) - ((26 - m.log2 : Nat) : Int)) + (p : Int) := by omega
  rw [e3]
  have e4 : FloatKind.f32.format.nearest s (2 * (m * 2 ^ (25 - m.log2))) ((-149 - (j : Int) - ((26 - m.log2 : Nat) : Int)) + (p : Int)) = Ieee.single.nearest s v.natAbs (-((k + j : Nat) : Int)) := by
    rw [near_shift FloatKind.f32.format s _ hN]
    show Ieee.single.nearest _ _ _ = _
    congr 1; omega
  rw [e4]
  exact iz_near _ _ hu hk (fun h0 => signed_neg e1 h0)

theorem iz_int (z : Int) (hz : z.natAbs < 16777216) : Iz 0 (ofInt .f32 z) z := by
  rw [ofInt_eq]; unfold floatOfInt
  exact iz_near _ z hz (by decide) (fun _ => rfl)

theorem iz_lt {k x y : Nat} {v w : Int} (hx : Iz k x v) (hy : Iz k y w) : fltB .f32 x y = decide (v < w) := by
  rw [flt_key .f32 hx.num hy.num]
  refine decide_eq_decide.2 ?_
  rw [← sz_lt_iff .f32]
  show sz Ieee.single x < sz Ieee.single y ↔ _
  rw [hx.2.2, hy.2.2]
  exact Int.mul_lt_mul_right (by have := Nat.two_pow_pos (149 - k); omega)
theorem iz_eq {k x y : Nat} {v w : Int} (hx : Iz k x v) (hy : Iz k y w) : feqB .f32 x y = decide (v = w) := by
  rw [feq_key .f32 hx.num hy.num]
  refine decide_eq_decide.2 ?_
  rw [← sz_eq_iff .f32]
  show sz Ieee.single x = sz Ieee.single y ↔ _
  rw [hx.2.2, hy.2.2]
  exact Int.mul_eq_mul_right_iff (by have := Nat.two_pow_pos (149 - k); omega)
theorem iz_le {k x y : Nat} {v w : Int} (hx : Iz k x v) (hy : Iz k y w) : fleB .f32 x y = decide (v ≤ w) := by
  unfold fleB
  rw [iz_lt hx hy, iz_eq hx hy]
  by_cases a : v < w
  · simp [a]; omega
  · by_cases b : v = w
    · simp [b]
    · simp [a, b]; omega
/-- In smaller parts. -/
theorem iz_fine {k x : Nat} {v : Int} (j : Nat) (hx : Iz k x v) (h : k + j ≤ 149) : Iz (k + j) x (v * ((2 ^ j : Nat) : Int)) := by
  refine ⟨hx.1, hx.2.1, ?_⟩
  rw [hx.2.2, Int.mul_assoc, ← Int.natCast_mul, ← Nat.pow_add]
  congr 3; omega
end Go.Ab
