import Derived.Test.YtmegbdgnnbjbmaaAbL
namespace Go.Ab
open Go
noncomputable def nbF (a : Nat) : Int := cond (!feqB .f32 a a) 2143289344 (Int.ofNat a)
theorem nb_cond (a : Nat) : cond (!feqB .f32 a a) true (!nanB .f32 a) = true := by
  rw [feq_self]; cases nanB .f32 a <;> rfl
theorem same_cond (a b : Nat) : cond (cond (!feqB .f32 a a) true (!feqB .f32 b b)) true (!nanB .f32 a && !nanB .f32 b) = true := by
  rw [feq_self, feq_self]; cases nanB .f32 a <;> cases nanB .f32 b <;> rfl
theorem same_spec (a b : Nat) : cond (cond (!feqB .f32 a a) true (!feqB .f32 b b)) (cond (!feqB .f32 a a) (!feqB .f32 b b) false) (Int.ofNat a == Int.ofNat b) = (nbF a == nbF b) := by
  have key : ∀ x, nanB .f32 x = false → ¬ Int.ofNat x = 2143289344 := by
    intro x hx h
    rw [nan32] at hx
    have := of_decide_eq_false hx
    have h : (x : Int) = 2143289344 := h
    omega
  unfold nbF
  rw [feq_self, feq_self]
  cases ha : nanB .f32 a <;> cases hb : nanB .f32 b
  · simp
  · have := key a ha
    simp only [Bool.not_false, Bool.not_true, cond_true, cond_false]
    symm; simpa using this
  · have := key b hb
    simp only [Bool.not_false, Bool.not_true, cond_true, cond_false]
    symm; simpa using fun h => this h.symm
  · simp
/-- Kilos. -/
def kilF (a : Nat) : Bool := decide (a ≤ 1092616192)
theorem fle_ten {a : Nat} (h : amtF a = true) : fleB .f32 a 1092616192 = kilF a ∧ fltB .f32 1092616192 a = !kilF a := by
  have h := of_decide_eq_true (show decide (a < 2139095040) = true from h)
  have hn : nanB .f32 a = false := by rw [nan32]; simp; omega
  have n1 : nanB .f32 1092616192 = false := by rw [nan32]; decide
  rw [fle_key .f32 hn n1, flt_key .f32 n1 hn, show FloatKind.f32.format = Ieee.single from rfl, key32 (by omega), key32 (by decide)]
  have hx : a < 2147483648 := by omega
  simp only [hx, if_true]
  unfold kilF
  constructor
  · simp; omega
  · by_cases h2 : a ≤ 1092616192
    · simp [h2]; omega
    · simp [h2]; omega
theorem kil_amt (a : Nat) (h : amtF a = false) : kilF a = false := by
  have := of_decide_eq_false (show decide (a < 2139095040) = false from h)
  unfold kilF; simp; omega
theorem kil_impl (a : Nat) : cond (amtF a) (fleB .f32 a 1092616192) false = kilF a := by
  cases h : amtF a with
  | false => rw [kil_amt a h]; rfl
  | true => rw [(fle_ten h).1]; rfl
/-- As the model asks it. -/
theorem kil_spec (a : Nat) (x : Bool) : cond (!amtF a) true (cond (fltB .f32 1092616192 a) true x) = cond (!kilF a) true x := by
  cases h : amtF a with
  | false => rw [kil_amt a h]; rfl
  | true => rw [(fle_ten h).2]; cases kilF a <;> rfl
end Go.Ab
