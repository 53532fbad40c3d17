import Derived.Test.YtmegbdgnnbjbmaaFo
namespace Go.Ab
open Go
set_option linter.unusedVariables false
/-! ### Flues -/
noncomputable def bw (lo a hi : Nat) : Bool := cond (fleB .f32 lo a) (fleB .f32 a hi) false
noncomputable def flI (h w t d : Nat) : Bool := cond (bw 1031798784 h 1106247680) (cond (bw 1015021568 w 1082130432) (cond (bw 3262119936 t 1153138688) (shO d) false) false) false
noncomputable def flS (h w t d : Nat) : Bool := cond (amtF h) (cond (fleB .f32 1031798784 h) (cond (fleB .f32 h 1106247680) (cond (amtF w) (cond (fleB .f32 1015021568 w) (cond (fleB .f32 w 1082130432) (cond (bw 3262119936 t 1153138688) (shO d) false) false) false) false) false) false) false

theorem num_of_fle {a b : Nat} (h : fleB .f32 a b = true) : nanB .f32 a = false ∧ nanB .f32 b = false := by
  constructor
  · cases hh : nanB .f32 a with
    | false => rfl
    | true => rw [fle_nan .f32 (Or.inl hh)] at h; cases h
  · cases hh : nanB .f32 b with
    | false => rfl
    | true => rw [fle_nan .f32 (Or.inr hh)] at h; cases h

/-- What lies between two words is a word between them. -/
theorem bw_word {lo a hi : Nat} (ha : a < 4294967296) (h1 : fleB .f32 lo a = true) (h2 : fleB .f32 a hi = true) (l0 : 0 < lo) (l1 : lo ≤ 2139095040) (l2 : hi ≤ 2139095040) : lo ≤ a ∧ a ≤ hi := by
  obtain ⟨_, hn⟩ := num_of_fle h1
  rw [fle_key .f32 (nanp l1) hn, keyp (x := lo) (by omega)] at h1
  rw [fle_key .f32 hn (nanp l2), keyp (x := hi) (by omega)] at h2
  have h1 := of_decide_eq_true h1
  have h2 := of_decide_eq_true h2
  rw [show FloatKind.f32.format = Ieee.single from rfl, key32 ha] at h1 h2
  split at h1 <;> rename_i hs <;> simp only [hs, if_true, if_false] at h2 <;> omega

theorem amt_bw {lo a hi : Nat} (ha : a < 4294967296) (h1 : fleB .f32 lo a = true) (h2 : fleB .f32 a hi = true) (l0 : 0 < lo) (l1 : lo ≤ 2139095040) (l2 : hi < 2139095040) : amtF a = true := by
  have := bw_word ha h1 h2 l0 l1 (by omega)
  unfold amtF
  exact decide_eq_true (by omega)

theorem fl_eq {h w t d : Nat} (hh : h < 4294967296) (hw : w < 4294967296) : flS h w t d = flI h w t d := by
  unfold flS flI bw
  cases h1 : fleB .f32 1031798784 h with
  | false => cases amtF h <;> rfl
  | true =>
    cases h2 : fleB .f32 h 1106247680 with
    | false => cases amtF h <;> rfl
    | true =>
      rw [amt_bw hh h1 h2 (by decide) (by decide) (by decide)]
      cases h3 : fleB .f32 1015021568 w with
      | false => cases amtF w <;> rfl
      | true =>
        cases h4 : fleB .f32 w 1082130432 with
        | false => cases amtF w <;> rfl
        | true =>
          rw [amt_bw hw h3 h4 (by decide) (by decide) (by decide)]
          rfl

theorem fl_facts {h w t d : Nat} (hh : h < 4294967296) (hw : w < 4294967296) (hf : flI h w t d = true) : (1031798784 ≤ h ∧ h ≤ 1106247680) ∧ (1015021568 ≤ w ∧ w ≤ 1082130432) ∧ (fleB .f32 3262119936 t = true ∧ fleB .f32 t 1153138688 = true) ∧ d ≤ 1065353216 := by
  unfold flI bw at hf
  cases h1 : fleB .f32 1031798784 h with
  | false => rw [h1] at hf; cases hf
  | true =>
    cases h2 : fleB .f32 h 1106247680 with
    | false => rw [h1, h2] at hf; cases hf
    | true =>
      cases h3 : fleB .f32 1015021568 w with
      | false => rw [h1, h2, h3] at hf; cases hf
      | true =>
        cases h4 : fleB .f32 w 1082130432 with
        | false => rw [h1, h2, h3, h4] at hf; cases hf
        | true =>
          cases h5 : fleB .f32 3262119936 t with
          | false => rw [h1, h2, h3, h4, h5] at hf; cases hf
          | true =>
            cases h6 : fleB .f32 t 1153138688 with
            | false => rw [h1, h2, h3, h4, h5, h6] at hf; cases hf
            | true =>
              rw [h1, h2, h3, h4, h5, h6] at hf
              exact ⟨bw_word hh h1 h2 (by decide) (by decide) (by decide), bw_word hw h3 h4 (by decide) (by decide) (by decide), ⟨rfl, rfl⟩, sh_le hf⟩

/-- The resistance. -/
noncomputable def reF (h w d : Nat) : Nat := fop .quo .f32 (fop .add .f32 1065353216 (fop .mul .f32 1048576000 h)) (fop .mul .f32 (fop .mul .f32 w d) (fop .mul .f32 w d))

theorem quo_zero {x : Nat} (hx : x < 2139095040) : finF (fop .quo .f32 x 0) = false := by
  obtain ⟨m, p, hr, _⟩ := read_fin hx
  have r0 : FloatKind.f32.format.read 0 = .number false 0 (-149 + ((0 : Nat) : Int)) := by decide +kernel
  rw [fop_eq]; unfold fopImpl floatBits
  simp only [Ieee.Format.div, hr, r0, Ieee.Datum.quotient, if_true]
  by_cases hm : m = 0
  · simp only [hm, if_true, Option.map_none, Option.getD_none]
    unfold finF nanW; decide
  · simp only [hm, if_false, Option.map_some, Option.getD_some, Ieee.Format.write]
    decide

theorem re_zero {h w t d : Nat} (hh : h < 4294967296) (hw : w < 4294967296) (hf : flI h w t d = true) (hd : feqB .f32 d 0 = true) : finF (reF h w d) = false := by
  obtain ⟨⟨_, h1⟩, ⟨_, w1⟩, _, d1⟩ := fl_facts hh hw hf
  have hd0 : d = 0 := by
    rw [feq_key .f32 (nanp (by omega)) (nanp (by decide)), keyp (by omega), keyp (by decide)] at hd
    have := of_decide_eq_true hd
    omega
  subst hd0
  have z1 := mul_zero (x := w) (by omega)
  have z2 := mul_zero (x := 0) (by decide)
  have b1 := mul_bd (x := 1048576000) (y := h) 140 (by decide) (by omega) (by omega) (by decide)
  have b2 := add_bd (x := 1065353216) (y := fop .mul .f32 1048576000 h) 145 (by decide) (by omega) (by omega) (by omega)
  unfold reF
  rw [z1, z2]
  exact quo_zero (by omega)

/-- A gate of two tests. -/
noncomputable def gt2 (v o : Bool) (x : Nat) : Nat := cond (!v) 0 (cond (!o) 0 x)
noncomputable def cd2 (v o : Bool) (e : Int) : Int := cond (!v) 1 (cond (!o) e 0)
noncomputable def outX (x : Nat) (c : Int) : Option AVal := some (.tuple [.flt .f32 x, .sint .i64 c])
noncomputable def dnF (a : Nat) : Nat := fop .quo .f32 1135640576 (fop .add .f32 a 1133019136)
noncomputable def drF (h t o : Nat) : Nat := fop .mul .f32 (fop .mul .f32 1092354048 h) (fop .sub .f32 (dnF o) (dnF t))
/-- The model asks for the damper first. -/
theorem re_gate {h w t d : Nat} (hh : h < 4294967296) (hw : w < 4294967296) :
    cond (!flI h w t d) 0 (cond (feqB .f32 d 0) 0 (cond (!finF (reF h w d)) 0 (reF h w d))) = gt2 (flI h w t d) (finF (reF h w d)) (reF h w d) ∧
    cond (!flI h w t d) (1 : Int) (cond (feqB .f32 d 0) 4 (cond (!finF (reF h w d)) 4 0)) = cd2 (flI h w t d) (finF (reF h w d)) 4 := by
  unfold gt2 cd2
  cases hf : flI h w t d with
  | false => exact ⟨rfl, rfl⟩
  | true =>
    cases hd : feqB .f32 d 0 with
    | false => exact ⟨rfl, rfl⟩
    | true =>
      rw [re_zero hh hw hf hd]; exact ⟨rfl, rfl⟩
end Go.Ab
