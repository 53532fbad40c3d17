import Derived.Test.YtmegbdgnnbjbmaaAbM
namespace Go.Ab
open Go

/-! ### FLOATS BY THEIR WORDS -/
theorem cmp_lt {a b : Int} (h : a < b) : compare a b = .lt := by
  show compareOfLessAndEq a b = _
  unfold compareOfLessAndEq; rw [if_pos h]
theorem cmp_eq {a b : Int} (h : a = b) : compare a b = .eq := by
  show compareOfLessAndEq a b = _
  unfold compareOfLessAndEq; rw [if_neg (by omega), if_pos h]
theorem cmp_gt {a b : Int} (h : b < a) : compare a b = .gt := by
  show compareOfLessAndEq a b = _
  unfold compareOfLessAndEq; rw [if_neg (by omega), if_neg (by omega)]
section
variable (f : Ieee.Format)

/-- The place of a word on the line. -/
def key (x : Nat) : Int := if x / f.signWeight % 2 = 1 then -((x % f.signWeight : Nat) : Int) else ((x % f.signWeight : Nat) : Int)

/-- The size that a rung stands for, in units of the least place. -/
def mg (r : Nat) : Nat := if r < f.binade then r else (f.binade + r % f.binade) * 2 ^ (r / f.binade - 1)

theorem binade_pos : 0 < f.binade := Nat.two_pow_pos _

theorem mg_lt {r s : Nat} (h : r < s) : mg f r < mg f s := by
  have hB := binade_pos f
  unfold mg
  by_cases hr : r < f.binade
  · rw [if_pos hr]
    by_cases hs : s < f.binade
    · rw [if_pos hs]; exact h
    · rw [if_neg hs]
      have h1 : 1 ≤ 2 ^ (s / f.binade - 1) := Nat.one_le_two_pow
      calc r < f.binade := hr
        _ ≤ f.binade + s % f.binade := Nat.le_add_right _ _
        _ = (f.binade + s % f.binade) * 1 := by omega
        _ ≤ (f.binade + s % f.binade) * 2 ^ (s / f.binade - 1) := Nat.mul_le_mul_left _ h1
  · have hs : ¬ s < f.binade := by omega
    rw [if_neg hr, if_neg hs]
    have hq1 : 1 ≤ r / f.binade := (Nat.one_le_div_iff hB).2 (by omega)
    have hqle : r / f.binade ≤ s / f.binade := Nat.div_le_div_right (by omega)
    by_cases hq : r / f.binade = s / f.binade
    · rw [hq]
      have e1 := Nat.div_add_mod r f.binade
      have e2 := Nat.div_add_mod s f.binade
      rw [hq] at e1
      exact Nat.mul_lt_mul_of_pos_right (by omega) (Nat.two_pow_pos _)
    · have hlt : r / f.binade + 1 ≤ s / f.binade := by omega
      have hm : r % f.binade < f.binade := Nat.mod_lt _ hB
      calc (f.binade + r % f.binade) * 2 ^ (r / f.binade - 1) < (f.binade + f.binade) * 2 ^ (r / f.binade - 1) := Nat.mul_lt_mul_of_pos_right (by omega) (Nat.two_pow_pos _)
        _ = f.binade * 2 ^ (r / f.binade) := by
          have : r / f.binade = (r / f.binade - 1) + 1 := by omega
          rw [this, Nat.pow_succ]
          have e : r / f.binade - 1 + 1 - 1 = r / f.binade - 1 := by omega
          rw [e, ← Nat.two_mul, Nat.mul_assoc, Nat.mul_left_comm, Nat.mul_comm 2 (2 ^ _)]
        _ ≤ f.binade * 2 ^ (s / f.binade - 1) := Nat.mul_le_mul_left _ (Nat.pow_le_pow_right (by omega) (by omega))
        _ ≤ (f.binade + s % f.binade) * 2 ^ (s / f.binade - 1) := Nat.mul_le_mul_right _ (Nat.le_add_right _ _)

theorem mg_le {r s : Nat} (h : r ≤ s) : mg f r ≤ mg f s := by
  rcases Nat.lt_or_ge r s with h1 | h1
  · exact Nat.le_of_lt (mg_lt f h1)
  · have : r = s := by omega
    rw [this]; exact Nat.le_refl _

theorem mg_zero : mg f 0 = 0 := by unfold mg; rw [if_pos (binade_pos f)]

end

section
variable (k : FloatKind)

theorem inf_binade : k.format.binade < k.format.infRung := by cases k <;> decide
theorem inf_sign : k.format.infRung < k.format.signWeight := by cases k <;> decide

/-- A word that is a number. -/
theorem read_number {x : Nat} (h : x % k.format.signWeight < k.format.infRung) :
    ∃ (m : Nat) (p : Nat), k.format.read x = .number (x / k.format.signWeight % 2 == 1) m (k.format.leastPlace + p) ∧ m * 2 ^ p = mg k.format (x % k.format.signWeight) := by
  unfold Ieee.Format.read
  simp only
  by_cases h1 : x % k.format.signWeight < k.format.binade
  · simp only [h1, if_true]
    exact ⟨x % k.format.signWeight, 0, by simp, by unfold mg; rw [if_pos h1]; simp⟩
  · simp only [h1, if_false, h, if_true]
    exact ⟨_, _, rfl, by unfold mg; rw [if_neg h1]⟩

theorem read_inf {x : Nat} (h : x % k.format.signWeight = k.format.infRung) : k.format.read x = .infinity (x / k.format.signWeight % 2 == 1) := by
  have hB := inf_binade k
  unfold Ieee.Format.read
  simp only [h]
  rw [if_neg (by omega), if_neg (by omega), if_pos trivial]

theorem nan_iff (x : Nat) : isNaNW k x = decide (k.format.infRung < x % k.format.signWeight) := by
  rcases Nat.lt_trichotomy (x % k.format.signWeight) k.format.infRung with h | h | h
  · obtain ⟨m, p, hr, _⟩ := read_number k h
    unfold isNaNW; rw [hr]
    simp [Ieee.Datum.isNaN]; omega
  · unfold isNaNW; rw [read_inf k h]
    simp [Ieee.Datum.isNaN]; omega
  · have hB := inf_binade k
    unfold isNaNW Ieee.Format.read
    simp only
    rw [if_neg (by omega), if_neg (by omega), if_neg (by omega)]
    simp [Ieee.Datum.isNaN, h]

theorem nanB_iff (x : Nat) : nanB k x = decide (k.format.infRung < x % k.format.signWeight) := by rw [nanB_eq]; exact nan_iff k x

theorem compare_mul (a b : Int) (c : Nat) (hc : 0 < c) : compare (a * c) (b * c) = compare a b := by
  have hc' : (0 : Int) < c := by omega
  rcases Int.lt_trichotomy a b with h | h | h
  · rw [cmp_lt h, cmp_lt (Int.mul_lt_mul_of_pos_right h hc')]
  · subst h; rw [cmp_eq rfl, cmp_eq rfl]
  · rw [cmp_gt h, cmp_gt (Int.mul_lt_mul_of_pos_right h hc')]

theorem signed_mul (s : Bool) (m p c : Nat) : Ieee.signed s m p * (2 ^ c : Nat) = Ieee.signed s m (p + c) := by
  unfold Ieee.signed
  cases s <;> simp [Nat.shiftLeft_eq, Nat.pow_add, Int.mul_assoc, Int.neg_mul]

/-- Of two numbers: their sizes. -/
theorem order_numbers {s t : Bool} {m n p q : Nat} {b : Int} : (Ieee.Datum.number s m (b + p)).order (.number t n (b + q)) = some (compare (Ieee.signed s m p) (Ieee.signed t n q)) := by
  unfold Ieee.Datum.order
  simp only [Option.some.injEq]
  by_cases h : p ≤ q
  · have e1 : (b + (p : Int) - min (b + p) (b + q)).toNat = 0 := by omega
    have e2 : (b + (q : Int) - min (b + p) (b + q)).toNat = q - p := by omega
    rw [e1, e2, ← compare_mul _ _ (2 ^ p) (Nat.two_pow_pos _), signed_mul, signed_mul]
    have : q - p + p = q := by omega
    rw [this, Nat.zero_add]
  · have e1 : (b + (p : Int) - min (b + p) (b + q)).toNat = p - q := by omega
    have e2 : (b + (q : Int) - min (b + p) (b + q)).toNat = 0 := by omega
    rw [e1, e2, ← compare_mul _ _ (2 ^ q) (Nat.two_pow_pos _), signed_mul, signed_mul]
    have : p - q + q = p := by omega
    rw [this, Nat.zero_add]

/-- The size that a word stands for, signed. -/
def sz (f : Ieee.Format) (x : Nat) : Int := if x / f.signWeight % 2 = 1 then -((mg f (x % f.signWeight) : Nat) : Int) else ((mg f (x % f.signWeight) : Nat) : Int)

theorem signed_sz {x m p : Nat} (h : m * 2 ^ p = mg k.format (x % k.format.signWeight)) : Ieee.signed (x / k.format.signWeight % 2 == 1) m p = sz k.format x := by
  unfold Ieee.signed sz
  rw [Nat.shiftLeft_eq, h]
  by_cases hs : x / k.format.signWeight % 2 = 1 <;> simp [hs]

theorem sz_lt_iff (x y : Nat) : sz k.format x < sz k.format y ↔ key k.format x < key k.format y := by
  have key1 : ∀ r s, mg k.format r < mg k.format s ↔ r < s := fun r s => ⟨fun h => by
    rcases Nat.lt_or_ge r s with h1 | h1
    · exact h1
    · have := mg_le k.format h1; omega, mg_lt k.format⟩
  have h0 : mg k.format 0 = 0 := mg_zero _
  unfold sz key
  generalize x % k.format.signWeight = r
  generalize y % k.format.signWeight = s
  have hrs := key1 r s
  have hsr := key1 s r
  have hr0 := key1 0 r
  have hs0 := key1 0 s
  rw [h0] at hr0 hs0
  split <;> split <;> omega

theorem sz_eq_iff (x y : Nat) : sz k.format x = sz k.format y ↔ key k.format x = key k.format y := by
  have h1 := sz_lt_iff k x y
  have h2 := sz_lt_iff k y x
  omega

theorem compare_congr {a b c d : Int} (h1 : a < b ↔ c < d) (h2 : a = b ↔ c = d) : compare a b = compare c d := by
  rcases Int.lt_trichotomy a b with h | h | h
  · rw [cmp_lt h, cmp_lt (h1.1 h)]
  · rw [cmp_eq h, cmp_eq (h2.1 h)]
  · have : d < c := by omega
    rw [cmp_gt h, cmp_gt this]

theorem ord_key {x y : Nat} (hx : nanB k x = false) (hy : nanB k y = false) : k.format.order x y = some (compare (key k.format x) (key k.format y)) := by
  rw [nanB_iff] at hx hy
  simp only [decide_eq_false_iff_not, Nat.not_lt] at hx hy
  have hlt := inf_sign k
  unfold Ieee.Format.order
  rcases Nat.lt_or_ge (x % k.format.signWeight) k.format.infRung with h1 | h1
  · obtain ⟨m, p, e1, e2⟩ := read_number k h1
    rcases Nat.lt_or_ge (y % k.format.signWeight) k.format.infRung with h2 | h2
    · obtain ⟨n, q, e3, e4⟩ := read_number k h2
      rw [e1, e3, order_numbers, signed_sz k e2, signed_sz k e4]
      exact congrArg some (compare_congr (sz_lt_iff k x y) (sz_eq_iff k x y))
    · have h2 : y % k.format.signWeight = k.format.infRung := by omega
      rw [e1, read_inf k h2]
      simp only [Ieee.Datum.order, Option.some.injEq]
      unfold key
      by_cases hs : y / k.format.signWeight % 2 = 1
      · simp only [hs, beq_self_eq_true, if_true]
        symm; refine cmp_gt ?_
        split <;> omega
      · have : (y / k.format.signWeight % 2 == 1) = false := by simp [hs]
        simp only [this, hs, Bool.false_eq_true, if_false]
        symm; refine cmp_lt ?_
        split <;> omega
  · have h1 : x % k.format.signWeight = k.format.infRung := by omega
    rw [read_inf k h1]
    rcases Nat.lt_or_ge (y % k.format.signWeight) k.format.infRung with h2 | h2
    · obtain ⟨n, q, e3, e4⟩ := read_number k h2
      rw [e3]
      simp only [Ieee.Datum.order, Option.some.injEq]
      unfold key
      by_cases hs : x / k.format.signWeight % 2 = 1
      · simp only [hs, beq_self_eq_true, if_true]
        symm; refine cmp_lt ?_
        split <;> omega
      · have : (x / k.format.signWeight % 2 == 1) = false := by simp [hs]
        simp only [this, hs, Bool.false_eq_true, if_false]
        symm; refine cmp_gt ?_
        split <;> omega
    · have h2 : y % k.format.signWeight = k.format.infRung := by omega
      rw [read_inf k h2]
      simp only [Ieee.Datum.order, Option.some.injEq]
      have hB := inf_binade k
      unfold key
      by_cases hs : x / k.format.signWeight % 2 = 1 <;> by_cases ht : y / k.format.signWeight % 2 = 1
      · simp only [hs, ht, h1, h2, beq_self_eq_true, if_true]
        rw [cmp_eq rfl]; decide
      · have h4 : (y / k.format.signWeight % 2 == 1) = false := by simp [ht]
        simp only [hs, ht, h4, beq_self_eq_true, if_true, if_false, h1, h2]
        rw [cmp_lt (a := -((k.format.infRung : Nat) : Int)) (by omega)]; decide
      · have h4 : (x / k.format.signWeight % 2 == 1) = false := by simp [hs]
        simp only [hs, ht, h4, beq_self_eq_true, if_true, if_false, h1, h2]
        rw [cmp_gt (b := -((k.format.infRung : Nat) : Int)) (by omega)]; decide
      · have h3 : (x / k.format.signWeight % 2 == 1) = false := by simp [hs]
        have h4 : (y / k.format.signWeight % 2 == 1) = false := by simp [ht]
        simp only [hs, ht, h3, h4, if_false, h1, h2]
        rw [cmp_eq rfl]; decide

theorem ord_nan {x y : Nat} (h : nanB k x = true ∨ nanB k y = true) : k.format.order x y = none := by
  rw [nanB_eq] at h
  rcases h with h | h
  · exact order_nan_left _ h
  · exact order_nan_right _ h

theorem flt_key {x y : Nat} (hx : nanB k x = false) (hy : nanB k y = false) : fltB k x y = decide (key k.format x < key k.format y) := by
  rw [fltB_eq]; unfold fltImpl; rw [ord_key k hx hy]
  rcases Int.lt_trichotomy (key k.format x) (key k.format y) with h | h | h
  · rw [cmp_lt h]; simp [h]
  · rw [cmp_eq h]; simp [h]
  · rw [cmp_gt h]; simp; omega
theorem feq_key {x y : Nat} (hx : nanB k x = false) (hy : nanB k y = false) : feqB k x y = decide (key k.format x = key k.format y) := by
  rw [feqB_eq]; unfold feqImpl; rw [ord_key k hx hy]
  rcases Int.lt_trichotomy (key k.format x) (key k.format y) with h | h | h
  · rw [cmp_lt h]; simp; omega
  · rw [cmp_eq h]; simp [h]
  · rw [cmp_gt h]; simp; omega
theorem fle_key {x y : Nat} (hx : nanB k x = false) (hy : nanB k y = false) : fleB k x y = decide (key k.format x ≤ key k.format y) := by
  unfold fleB; rw [flt_key k hx hy, feq_key k hx hy]
  rw [← Bool.decide_or]
  congr 1
  simp only [eq_iff_iff]; omega
theorem flt_nan {x y : Nat} (h : nanB k x = true ∨ nanB k y = true) : fltB k x y = false := by
  rw [fltB_eq]; unfold fltImpl; rw [ord_nan k h]; rfl
theorem feq_nan {x y : Nat} (h : nanB k x = true ∨ nanB k y = true) : feqB k x y = false := by
  rw [feqB_eq]; unfold feqImpl; rw [ord_nan k h]; rfl
theorem fle_nan {x y : Nat} (h : nanB k x = true ∨ nanB k y = true) : fleB k x y = false := by
  unfold fleB; rw [flt_nan k h, feq_nan k h]; rfl

theorem feq_self (x : Nat) : feqB k x x = !nanB k x := by
  cases h : nanB k x with
  | true => rw [feq_nan k (Or.inl h)]; rfl
  | false => rw [feq_key k h h]; simp

/-- One is less, or the other is at most as great. -/
theorem flt_not_fle {x y : Nat} (hx : nanB k x = false) (hy : nanB k y = false) : fltB k x y = !fleB k y x := by
  rw [flt_key k hx hy, fle_key k hy hx]
  by_cases h : key k.format x < key k.format y
  · simp [h]
  · simp [h]; omega
end

/-! ### single words -/
theorem key32 {x : Nat} (h : x < 4294967296) : key Ieee.single x = if x < 2147483648 then (x : Int) else 2147483648 - (x : Int) := by
  have hs : Ieee.single.signWeight = 2147483648 := rfl
  unfold key
  rw [hs]
  by_cases hx : x < 2147483648
  · have : x / 2147483648 = 0 := Nat.div_eq_of_lt hx
    rw [this, Nat.mod_eq_of_lt hx]; simp [hx]
  · have e1 : x / 2147483648 = 1 := by omega
    have e2 : x % 2147483648 = x - 2147483648 := by omega
    rw [e1, e2]; simp [hx]; omega

theorem nan32 (x : Nat) : nanB .f32 x = decide (2139095040 < x % 2147483648) := nanB_iff .f32 x

/-- Finite. -/
def finF (a : Nat) : Bool := decide (a % 2147483648 < 2139095040)

theorem fin_sub (a : Nat) : feqB .f32 (fop .sub .f32 a a) 0 = finF a := by
  have hinf : Ieee.single.infRung = 2139095040 := rfl
  have hsw : Ieee.single.signWeight = 2147483648 := rfl
  unfold finF
  rcases Nat.lt_or_ge (a % 2147483648) 2139095040 with h | h
  · obtain ⟨m, p, hr, _⟩ := read_number .f32 (x := a) h
    have : fop .sub .f32 a a = 0 := by
      rw [fop_eq]; unfold fopImpl floatBits Ieee.Format.sub
      rw [hr]
      have hs : Ieee.signed (a / 2147483648 % 2 == 1) m 0 + Ieee.signed (!(a / 2147483648 % 2 == 1)) m 0 = 0 := by
        unfold Ieee.signed; cases (a / 2147483648 % 2 == 1) <;> simp <;> omega
      show ((Ieee.Datum.sum (.number (a / 2147483648 % 2 == 1) m _) (.number (!(a / 2147483648 % 2 == 1)) m _)).map _).getD _ = 0
      simp only [Ieee.Datum.sum, Int.min_self, Int.sub_self, Int.toNat_zero, hs, if_true, Int.natAbs_zero, Option.map_some, Option.getD_some]
      cases (a / 2147483648 % 2 == 1) <;> rfl
    rw [this]
    have h0 : nanB .f32 0 = false := by rw [nan32]; decide
    rw [feq_self, h0]; simp [h]
  · have : nanB .f32 (fop .sub .f32 a a) = true := by
      rw [fop_eq]; unfold fopImpl
      have hn : floatBits .sub .f32 a a = none := by
        rcases Nat.lt_or_ge 2139095040 (a % 2147483648) with h1 | h1
        · exact floatBits_nan_left _ (by rw [← nanB_eq, nan32]; simpa using h1)
        · have h2 : a % 2147483648 = 2139095040 := by omega
          have hr := read_inf .f32 (x := a) h2
          unfold floatBits Ieee.Format.sub
          rw [hr]
          simp only [Ieee.Datum.opposite, Ieee.Datum.sum]
          cases (a / FloatKind.f32.format.signWeight % 2 == 1) <;> rfl
      rw [hn]; rw [nanB_eq]; exact nanW_isNaN .f32
    rw [feq_nan .f32 (Or.inl this)]
    symm; simp; omega

theorem fin_between {a : Nat} (hw : wfW .f32 a) : cond (fleB .f32 4286578687 a) (fleB .f32 a 2139095039) false = finF a := by
  have hw : a < 4294967296 := hw
  have n1 : nanB .f32 4286578687 = false := by rw [nan32]; decide
  have n2 : nanB .f32 2139095039 = false := by rw [nan32]; decide
  have k1 : key FloatKind.f32.format 4286578687 = -2139095039 := by rw [show FloatKind.f32.format = Ieee.single from rfl, key32 (by decide)]; decide
  have k2 : key FloatKind.f32.format 2139095039 = 2139095039 := by rw [show FloatKind.f32.format = Ieee.single from rfl, key32 (by decide)]; decide
  unfold finF
  cases hn : nanB .f32 a with
  | true =>
    rw [fle_nan .f32 (Or.inr hn)]
    rw [nan32] at hn
    have := of_decide_eq_true hn
    symm; simp; omega
  | false =>
    rw [fle_key .f32 n1 hn, fle_key .f32 hn n2, k1, k2, show FloatKind.f32.format = Ieee.single from rfl, key32 hw]
    rw [nan32] at hn
    have := of_decide_eq_false hn
    by_cases hx : a < 2147483648
    · simp only [hx, if_true]
      have e : a % 2147483648 = a := Nat.mod_eq_of_lt hx
      rw [e] at this ⊢
      have : decide ((-2139095039 : Int) ≤ (a : Int)) = true := by simp
      rw [this]; simp only [cond_true]
      congr 1; simp only [eq_iff_iff]; omega
    · simp only [hx, if_false]
      have e : a % 2147483648 = a - 2147483648 := by omega
      rw [e] at this ⊢
      by_cases hy : a - 2147483648 < 2139095040
      · have h1 : decide ((-2139095039 : Int) ≤ 2147483648 - (a : Int)) = true := by simp; omega
        rw [h1]; simp only [cond_true]
        have h2 : decide (2147483648 - (a : Int) ≤ 2139095039) = true := by simp; omega
        rw [h2]; simp [hy]
      · have h1 : decide ((-2139095039 : Int) ≤ 2147483648 - (a : Int)) = false := by simp; omega
        rw [h1]; simp [hy]

/-- An amount. -/
def amtF (a : Nat) : Bool := decide (a < 2139095040)

theorem amt_spec {a : Nat} (hw : wfW .f32 a) : cond (finF a) (cond (fltB .f32 0 a) true (Int.ofNat a == 0)) false = amtF a := by
  have hw : a < 4294967296 := hw
  have n0 : nanB .f32 0 = false := by rw [nan32]; decide
  unfold finF amtF
  by_cases hx : a < 2147483648
  · have e : a % 2147483648 = a := Nat.mod_eq_of_lt hx
    rw [e]
    by_cases hf : a < 2139095040
    · have hn : nanB .f32 a = false := by rw [nan32, e]; simp; omega
      rw [flt_key .f32 n0 hn, show FloatKind.f32.format = Ieee.single from rfl, key32 hw, key32 (by decide)]
      simp only [hx, hf, decide_true, cond_true, if_true]
      by_cases h0 : a = 0
      · subst h0; rfl
      · have : (0 : Int) < (a : Int) := by omega
        simp; omega
    · simp [hf]
  · have e : a % 2147483648 = a - 2147483648 := by omega
    rw [e]
    have hf : ¬ a < 2139095040 := by omega
    simp only [hf, decide_false]
    by_cases hy : a - 2147483648 < 2139095040
    · have hn : nanB .f32 a = false := by rw [nan32, e]; simp; omega
      rw [flt_key .f32 n0 hn, show FloatKind.f32.format = Ieee.single from rfl, key32 hw, key32 (by decide)]
      simp only [hx, hy, decide_true, cond_true, if_false]
      have h1 : ¬ ((if 0 < 2147483648 then ((0 : Nat) : Int) else 2147483648 - ((0 : Nat) : Int)) < 2147483648 - (a : Int)) := by simp; omega
      simp only [h1, decide_false, cond_false]
      simp; omega
    · simp [hy]

theorem amt_cond (a : Nat) : cond (finF a) (cond (fltB .f32 0 a) true (!nanB .f32 a && true)) true = true := by
  unfold finF
  by_cases h : a % 2147483648 < 2139095040
  · have hn : nanB .f32 a = false := by rw [nan32]; simp; omega
    simp [h, hn]
  · simp [h]
end Go.Ab
