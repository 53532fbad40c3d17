import Derived.Test.YtmegbdgnnbjbmaaFn
namespace Go.Ab
open Go
set_option linter.unusedVariables false
/-- The size of a sum of what is not below nought. -/
theorem add_bd {x y : Nat} (L : Nat) (hx : x < 2139095040) (hy : y < 2139095040) (h1 : x / 8388608 + 3 ≤ L) (h2 : y / 8388608 + 3 ≤ L) : fop .add .f32 x y ≤ L * 8388608 := by
  obtain ⟨m, p, hr, hm, hp, _⟩ := read_fin hx
  obtain ⟨n, q, hs, hn, hq, _⟩ := read_fin hy
  rw [fop_eq]; unfold fopImpl floatBits
  simp only [Ieee.Format.add, hr, hs, sum_fin, Option.map_some, Option.getD_some, Ieee.Format.write]
  rw [show FloatKind.f32.format = Ieee.single from rfl]
  have hA : m * 2 ^ (p - min p q) < 2 ^ (24 + (p - min p q)) := by
    rw [Nat.pow_add]; exact Nat.mul_lt_mul_of_pos_right hm (Nat.two_pow_pos _)
  have hB : n * 2 ^ (q - min p q) < 2 ^ (24 + (q - min p q)) := by
    rw [Nat.pow_add]; exact Nat.mul_lt_mul_of_pos_right hn (Nat.two_pow_pos _)
  generalize m * 2 ^ (p - min p q) = A at hA
  generalize n * 2 ^ (q - min p q) = B at hB
  have hT2 : A + B < 2 ^ (25 + (max p q - min p q)) := by
    have g1 : 2 ^ (24 + (p - min p q)) ≤ 2 ^ (24 + (max p q - min p q)) := Nat.pow_le_pow_right (by decide) (by omega)
    have g2 : 2 ^ (24 + (q - min p q)) ≤ 2 ^ (24 + (max p q - min p q)) := Nat.pow_le_pow_right (by decide) (by omega)
    have g3 : 2 ^ (25 + (max p q - min p q)) = 2 ^ (24 + (max p q - min p q)) + 2 ^ (24 + (max p q - min p q)) := by
      have : 25 + (max p q - min p q) = 24 + (max p q - min p q) + 1 := by omega
      rw [this, Nat.pow_succ]; omega
    omega
  by_cases h0 : A + B = 0
  · rw [h0]
    simp [Ieee.Format.nearest, Ieee.Format.word]
  · refine near_bd L ?_ (by omega)
    have := (Nat.log2_lt h0).2 hT2
    omega

/-- The mass of a layer is a number, and not nought. -/
theorem mas_fin {a c : Nat} (ha : a ≤ 1092616192) (hc : c ≤ 1092616192) : masF a c < 2139095040 ∧ masF a c ≠ 0 := by
  have h1 := mul_bd (x := a) (y := 1082130432) 136 (by omega) (by decide) (by omega) (by decide)
  have h2 := mul_bd (x := c) (y := 1073741824) 136 (by omega) (by decide) (by omega) (by decide)
  have h3 := add_bd (x := fop .mul .f32 a 1082130432) (y := fop .mul .f32 c 1073741824) 140 (by omega) (by omega) (by omega) (by omega)
  have h4 := add_bd (x := fop .add .f32 (fop .mul .f32 a 1082130432) (fop .mul .f32 c 1073741824)) (y := 1048576000) 144 (by omega) (by omega) (by omega) (by omega)
  refine ⟨?_, ?_⟩
  · unfold masF; omega
  · have := add_nz (x := fop .add .f32 (fop .mul .f32 a 1082130432) (fop .mul .f32 c 1073741824)) (y := 1048576000) (by omega) (by decide) (by decide)
    unfold masF; omega

/-- A heat that is held. -/
noncomputable def hW (f g a h c : Nat) : Nat := hO (fop .add .f32 h (fop .quo .f32 (fop .sub .f32 f g) (masF a c))) 3262119936 1153138688

theorem key_lo : key FloatKind.f32.format 3262119936 = -1114636288 := by
  rw [show FloatKind.f32.format = Ieee.single from rfl, key32 (by decide)]; decide

/-- What is held lies between -60 and 1500. -/
theorem held_lay {a v c : Nat} (ha : a ≤ 1092616192) (hc : c ≤ 1092616192) (hv : nanB .f32 v = false) (hw : v < 4294967296) : Lay a (hO v 3262119936 1153138688) c := by
  have n1 : nanB .f32 3262119936 = false := by rw [nan32]; decide
  have n2 : nanB .f32 1153138688 = false := nanp (by decide)
  rw [hO_eq]; unfold heldI
  rw [flt_key .f32 hv n1, flt_key .f32 n2 hv, key_lo, keyp (x := 1153138688) (by decide)]
  cases h1 : decide (key FloatKind.f32.format v < -1114636288) with
  | true =>
    show Lay a 3262119936 c
    exact ⟨ha, hc, by decide, n1, by decide, by show key _ 3262119936 ≤ _; rw [key_lo]; decide⟩
  | false =>
    have h1 := of_decide_eq_false h1
    cases h2 : decide (((1153138688 : Nat) : Int) < key FloatKind.f32.format v) with
    | true =>
      show Lay a 1153138688 c
      exact ⟨ha, hc, by decide, n2, by decide, by show key _ 1153138688 ≤ _; rw [keyp (by decide)]; decide⟩
    | false =>
      have h2 := of_decide_eq_false h2
      refine ⟨ha, hc, hw, hv, ?_, by show key _ v ≤ _; omega⟩
      show v % 2147483648 < _
      rw [show FloatKind.f32.format = Ieee.single from rfl, key32 hw] at h1 h2
      split at h1 <;> rename_i hs <;> simp only [hs, if_true, if_false] at h2 <;> omega

theorem lay_warm {f g a h c : Nat} (L : Lay a h c) (hn : nanB .f32 (fop .sub .f32 f g) = false) : Lay a (hW f g a h c) c := by
  obtain ⟨m1, m2⟩ := mas_fin L.wet L.fuel
  unfold hW
  exact held_lay L.wet L.fuel (add_num L.fin (quo_num hn m1 m2)) (fop_wf _ .f32 _ _)

/-- What flows between two layers. -/
noncomputable def flw (h h' t : Nat) : Nat := fop .mul .f32 (fop .mul .f32 1048576000 (fop .sub .f32 h h')) t

theorem lay_size {a h c : Nat} (L : Lay a h c) (hl : fleB .f32 3262119936 h = true) : h % 2147483648 ≤ 1153138688 := by
  have n1 : nanB .f32 3262119936 = false := by rw [nan32]; decide
  rw [fle_key .f32 n1 L.num, key_lo] at hl
  have hl := of_decide_eq_true hl
  have ht := L.top
  have hw := L.wf
  rw [show FloatKind.f32.format = Ieee.single from rfl, key32 hw] at hl ht
  split at hl <;> rename_i hs <;> simp only [hs, if_true, if_false] at ht <;> omega

theorem flw_fin {h h' t : Nat} (h1 : h % 2147483648 ≤ 1153138688) (h2 : h' % 2147483648 ≤ 1153138688) (ht : t ≤ 1065353216) : flw h h' t % 2147483648 < 2139095040 := by
  have a := sub_size h1 h2
  have b := mul_size (x := 1048576000) (y := fop .sub .f32 h h') 143 (by decide) (by omega) (by omega) (by decide)
  have c := mul_size (x := fop .mul .f32 1048576000 (fop .sub .f32 h h')) (y := t) 150 (by omega) (by omega) (by omega) (by decide)
  unfold flw; omega

/-- A layer that has dried is a layer. -/
theorem lay_dry {a h c t : Nat} (L : Lay a h c) (ht : t ≤ 1065353216) : Lay (wetS a h t) (heatS a h c t) c := by
  unfold wetS heatS
  cases hf : fltB .f32 1120403456 h with
  | false => exact L
  | true =>
    have hfe : fleB .f32 h 1120403456 = false := by rw [lay_flt L] at hf; simpa using hf
    have hX := lay_dX L ht hfe
    have ha := L.wet
    have hc := L.fuel
    obtain ⟨g1, g2⟩ := lay_hot L hfe
    have hd : dL a h t ≤ a := by
      unfold dL
      rw [flt_key .f32 (nanp hX) (nanp (by omega)), keyp (by omega), keyp (by omega)]
      cases hd : decide ((dX h t : Int) < a) with
      | true => have := of_decide_eq_true hd; show dX h t ≤ _; omega
      | false => exact Nat.le_refl _
    have hw := sub_le_self (a := a) (by omega) hd
    show Lay (fop .sub .f32 a (dL a h t)) (cond (fltB .f32 (hqF (dL a h t) a h c) 1120403456) 1120403456 (hqF (dL a h t) a h c)) c
    have h1 : fop .mul .f32 1157234688 (dL a h t) < 2139095040 := mul_fin (by decide) (by omega) (by omega)
    obtain ⟨m1, m2⟩ := mas_fin ha hc
    have h5 := quo_nn h1 (Nat.le_of_lt m1) m2
    have h6 : nanB .f32 (hqF (dL a h t) a h c) = false := sub_num L.fin h5
    rw [flt_key .f32 h6 (nanp (by decide)), keyp (x := 1120403456) (by decide)]
    cases hq : decide (key FloatKind.f32.format (hqF (dL a h t) a h c) < ((1120403456 : Nat) : Int)) with
    | true =>
      show Lay _ 1120403456 c
      exact ⟨by omega, hc, by decide, nanp (by decide), by decide, by show key _ 1120403456 ≤ _; rw [keyp (by decide)]; decide⟩
    | false =>
      have hq := of_decide_eq_false hq
      have hle : hqF (dL a h t) a h c ≤ h := by
        rcases Nat.lt_or_ge h (fop .quo .f32 (fop .mul .f32 1157234688 (dL a h t)) (masF a c)) with hlt | hge
        · have := sub_below (a := h) (by omega) hlt h5
          unfold hqF at hq
          omega
        · exact sub_le_self (by omega) hge
      refine ⟨by omega, hc, ?_, h6, ?_, ?_⟩
      · show hqF _ _ _ _ < _; omega
      · show hqF _ _ _ _ % _ < _; omega
      · show key _ (hqF _ _ _ _) ≤ _
        rw [keyp (by omega)]; omega

theorem siz_of {a h c : Nat} {x : Bool} (hw : h < 4294967296) (hk : okL a h c x = true) : h % 2147483648 ≤ 1153138688 := by
  have L := (lay_of hw hk).1
  unfold okL at hk
  cases h1 : kilF a with
  | false => rw [h1] at hk; cases hk
  | true =>
    cases h2 : kilF c with
    | false => rw [h1, h2] at hk; cases hk
    | true =>
      cases h3 : btwF h with
      | false => rw [h1, h2, h3] at hk; cases hk
      | true =>
        unfold btwF at h3
        cases h4 : fleB .f32 3262119936 h with
        | false => rw [h4] at h3; cases h3
        | true => exact lay_size L h4

theorem sizes_of {a0 a1 a2 a3 a4 a5 h0 h1 h2 h3 h4 h5 c0 c1 c2 c3 c4 c5 : Nat} (hw : ∀ n ∈ [a0, a1, a2, a3, a4, a5, h0, h1, h2, h3, h4, h5, c0, c1, c2, c3, c4, c5], wfW .f32 n) (hv : vOp [a0, a1, a2, a3, a4, a5, h0, h1, h2, h3, h4, h5, c0, c1, c2, c3, c4, c5] = true) :
    h0 % 2147483648 ≤ 1153138688 ∧ h1 % 2147483648 ≤ 1153138688 ∧ h2 % 2147483648 ≤ 1153138688 ∧ h3 % 2147483648 ≤ 1153138688 ∧ h4 % 2147483648 ≤ 1153138688 ∧ h5 % 2147483648 ≤ 1153138688 := by
  rw [vOp_eq] at hv
  simp only [validI] at hv
  have s0 := siz_of (hw h0 (by simp)) hv
  obtain ⟨_, hv⟩ := lay_of (hw h0 (by simp)) hv
  have s1 := siz_of (hw h1 (by simp)) hv
  obtain ⟨_, hv⟩ := lay_of (hw h1 (by simp)) hv
  have s2 := siz_of (hw h2 (by simp)) hv
  obtain ⟨_, hv⟩ := lay_of (hw h2 (by simp)) hv
  have s3 := siz_of (hw h3 (by simp)) hv
  obtain ⟨_, hv⟩ := lay_of (hw h3 (by simp)) hv
  have s4 := siz_of (hw h4 (by simp)) hv
  obtain ⟨_, hv⟩ := lay_of (hw h4 (by simp)) hv
  have s5 := siz_of (hw h5 (by simp)) hv
  exact ⟨s0, s1, s2, s3, s4, s5⟩
end Go.Ab
