import Derived.Test.YtmegbdgnnbjbmaaAbS14
namespace Go.Ab
open Go

theorem wide_rung {x : Nat} {s : Bool} {m : Nat} {e : Int} (h : FloatKind.f32.format.read x = .number s m e) :
    ∃ rung, rung < 2047 * 2 ^ 52 ∧ FloatKind.f64.encode (.number s m e) = Ieee.double.word s rung := by
  obtain ⟨hm, he1, he2⟩ := single_number h
  have hb : Ieee.double.binade = 2 ^ 52 := rfl
  have hi : Ieee.double.infRung = 2047 * 2 ^ 52 := rfl
  have hl : Ieee.double.leastPlace = -1074 := rfl
  have hf : Ieee.double.fractionBits = 52 := rfl
  show ∃ rung, rung < 2047 * 2 ^ 52 ∧ Ieee.double.nearest s m e = Ieee.double.word s rung
  unfold Ieee.Format.nearest
  split
  · exact ⟨0, by decide, rfl⟩
  · rename_i hm0
    have hlog : m.log2 < 24 := (Nat.log2_lt hm0).2 hm
    have hlo : 2 ^ m.log2 ≤ m := Nat.log2_self_le hm0
    have hhi : m < 2 ^ (m.log2 + 1) := Nat.lt_log2_self
    simp only [hl, hf, hb, hi]
    have elast : max (e + (m.log2 : Int) - ((52 : Nat) : Int)) (-1074) = e + (m.log2 : Int) - 52 := by omega
    rw [elast]
    have e1 : (e - (e + (m.log2 : Int) - 52)).toNat = 52 - m.log2 := by omega
    have e2 : (e + (m.log2 : Int) - 52 - e).toNat = 0 := by omega
    rw [e1, e2]
    have ecut : Ieee.Toward.even.cut s (m <<< (52 - m.log2)) 0 = m <<< (52 - m.log2) := by
      simp [Ieee.Toward.cut, Nat.mod_one]
    rw [ecut, Nat.shiftLeft_eq]
    have hk : m * 2 ^ (52 - m.log2) < 2 ^ 53 := by
      calc m * 2 ^ (52 - m.log2) < 2 ^ (m.log2 + 1) * 2 ^ (52 - m.log2) := Nat.mul_lt_mul_of_pos_right hhi (Nat.two_pow_pos _)
        _ = 2 ^ 53 := by rw [← Nat.pow_add]; congr 1; omega
    have hq : (e + (m.log2 : Int) - 52 - -1074).toNat ≤ 1149 := by omega
    have hq2 : (e + (m.log2 : Int) - 52 - -1074).toNat * 2 ^ 52 ≤ 1149 * 2 ^ 52 := Nat.mul_le_mul_right _ hq
    exact ⟨_, Nat.lt_of_le_of_lt (Nat.min_le_left _ _) (by omega), rfl⟩

theorem wide_word {x : Nat} (h : finF x = true) : ∃ rung, rung < 2047 * 2 ^ 52 ∧ wide x = Ieee.double.word (x / 2147483648 % 2 == 1) rung := by
  unfold finF at h
  have h := of_decide_eq_true h
  obtain ⟨m, p, hr, _⟩ := read_number .f32 (x := x) h
  obtain ⟨rung, h1, h2⟩ := wide_rung hr
  refine ⟨rung, h1, ?_⟩
  rw [wide_eq]; unfold wideImpl floatToFloatBits FloatKind.decode
  rw [if_neg (by decide), hr]
  simp only [wide_finite hr]
  exact h2

theorem wide_nan {a : Nat} : cond (finF a) (!nanB .f64 (wide a) && true) true = true := by
  cases h : finF a with
  | false => rfl
  | true =>
    obtain ⟨rung, h1, h2⟩ := wide_word h
    have hs : FloatKind.f64.format.signWeight = 2 ^ 63 := rfl
    have hi : FloatKind.f64.format.infRung = 2047 * 2 ^ 52 := rfl
    have e1 : Ieee.double.word (a / 2147483648 % 2 == 1) rung % 2 ^ 63 = rung := by
      have hs : Ieee.double.signWeight = 2 ^ 63 := rfl
      unfold Ieee.Format.word; rw [hs]; cases (a / 2147483648 % 2 == 1) <;> simp <;> omega
    have : nanB .f64 (wide a) = false := by
      rw [nanB_iff, h2, hs, hi, e1]; simp; omega
    rw [this]; rfl

theorem wrap_pos (n : Nat) (h : n < 2 ^ 63) : IntKind.i64.wrap (Int.ofNat n) = (n : Int) := by
  unfold IntKind.wrap
  have e1 : (2 ^ IntKind.i64.bits : Int) = 18446744073709551616 := by decide
  have e2 : (2 ^ (IntKind.i64.bits - 1) : Int) = 9223372036854775808 := by decide
  have e3 : IntKind.i64.signed = true := rfl
  rw [e1, e2, e3]
  have : (Int.ofNat n) % 18446744073709551616 = n := by
    show (n : Int) % _ = _
    omega
  simp only [this]
  split
  · rename_i h1; simp at h1; omega
  · rfl
theorem wrap_neg (n : Nat) (h : n < 2 ^ 63) : IntKind.i64.wrap (Int.ofNat (2 ^ 63 + n)) = (n : Int) - 9223372036854775808 := by
  unfold IntKind.wrap
  have e1 : (2 ^ IntKind.i64.bits : Int) = 18446744073709551616 := by decide
  have e2 : (2 ^ (IntKind.i64.bits - 1) : Int) = 9223372036854775808 := by decide
  have e3 : IntKind.i64.signed = true := rfl
  rw [e1, e2, e3]
  have : (Int.ofNat (2 ^ 63 + n)) % 18446744073709551616 = 9223372036854775808 + n := by
    show ((2 ^ 63 + n : Nat) : Int) % _ = _
    omega
  simp only [this]
  split
  · omega
  · rename_i h1; simp at h1; omega

theorem wide_neg {a : Nat} (hw : wfW .f32 a) : cond (finF a) (!decide (IntKind.i64.wrap (Int.ofNat (wide a)) < 0)) false = amtF a := by
  have hw : a < 4294967296 := hw
  cases h : finF a with
  | false =>
    unfold finF at h; unfold amtF
    have := of_decide_eq_false h
    symm; simp; omega
  | true =>
    obtain ⟨rung, h1, h2⟩ := wide_word h
    unfold finF at h; unfold amtF
    have h := of_decide_eq_true h
    have hs : Ieee.double.signWeight = 2 ^ 63 := rfl
    rw [h2]
    unfold Ieee.Format.word; rw [hs]
    by_cases hx : a < 2147483648
    · have e : a / 2147483648 = 0 := Nat.div_eq_of_lt hx
      rw [e]
      have : a < 2139095040 := by omega
      have hr := wrap_pos rung (by omega)
      simp only [this, decide_true, cond_true]
      simp only [Nat.zero_mod, if_false, hr, beq_iff_eq, Nat.zero_ne_one]
      simp
    · have e : a / 2147483648 = 1 := by omega
      rw [e]
      have : ¬ a < 2139095040 := by omega
      have hr := wrap_neg rung (by omega)
      simp only [this, decide_false, cond_true]
      have e2 : (if (1 % 2 == 1) = true then 2 ^ 63 + rung else rung) = 2 ^ 63 + rung := by simp
      first | rw [e2] | simp only [Nat.one_mod, beq_self_eq_true, if_true]
      rw [hr]; simp; omega
end Go.Ab
