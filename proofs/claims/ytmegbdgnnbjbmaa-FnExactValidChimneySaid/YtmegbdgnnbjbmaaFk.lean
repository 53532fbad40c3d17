import Derived.Test.YtmegbdgnnbjbmaaFj
namespace Go.Ab
open Go
set_option linter.unusedVariables false
/-! ### A layer that burns -/
noncomputable def bK (a h : Nat) : Bool := cond (fleB .f32 1132068864 h) (fltB .f32 a 1040187392) false
noncomputable def bSk (a h : Nat) : Bool := cond (fltB .f32 h 1132068864) true (!fltB .f32 a 1040187392)
noncomputable def bX (h x t : Nat) : Nat := fop .mul .f32 (fop .mul .f32 (fop .mul .f32 (fop .sub .f32 h 1132068864) 981668463) x) t
noncomputable def bL (c h x t : Nat) : Nat := cond (fltB .f32 (bX h x t) c) (bX h x t) c
noncomputable def bM (c h x t : Nat) : Nat := fmin .f32 c (bX h x t)
noncomputable def bQ (d a h c : Nat) : Nat := fop .add .f32 h (fop .quo .f32 (fop .mul .f32 1157234688 d) (masF a c))
noncomputable def bfS (a h c x t : Nat) : Nat := cond (bK a h) (fop .sub .f32 c (bL c h x t)) c
noncomputable def bfI (a h c x t : Nat) : Nat := cond (bSk a h) c (fop .sub .f32 c (bM c h x t))
noncomputable def bhS (a h c x t : Nat) : Nat := cond (bK a h) (cond (fltB .f32 1153138688 (bQ (bL c h x t) a h c)) 1153138688 (bQ (bL c h x t) a h c)) h
noncomputable def bhI (a h c x t : Nat) : Nat := cond (bSk a h) h (fmin .f32 (bQ (bM c h x t) a h c) 1153138688)
noncomputable def bS (a h c x t : Nat) : Nat := cond (bK a h) (bL c h x t) 0
noncomputable def bsI (s a h c x t : Nat) : Nat := cond (bSk a h) s (fop .add .f32 s (bM c h x t))
noncomputable def beI (s a h c x t : Nat) : Nat := cond (bSk a h) s (fop .add .f32 s (fop .mul .f32 1167867904 (bM c h x t)))

variable {a h c x t : Nat}
theorem b_skip (L : Lay a h c) : bSk a h = !bK a h := by
  unfold bSk bK
  rw [flt_not_fle .f32 L.num (nanp (by decide))]
  cases fleB .f32 1132068864 h <;> rfl

theorem b_hot (L : Lay a h c) (hk : bK a h = true) : 1132068864 ≤ h ∧ h ≤ 1153138688 := by
  unfold bK at hk
  cases hf : fleB .f32 1132068864 h with
  | false => rw [hf] at hk; cases hk
  | true =>
    rw [fle_key .f32 (nanp (by decide)) L.num, keyp (x := 1132068864) (by decide)] at hf
    have hf := of_decide_eq_true hf
    have ht := L.top
    have hw := L.wf
    rw [show FloatKind.f32.format = Ieee.single from rfl, key32 hw] at hf ht
    split at hf <;> rename_i hs <;> simp only [hs, if_true, if_false] at ht <;> omega

theorem b_X (L : Lay a h c) (hx : x ≤ 1065353216) (ht : t ≤ 1065353216) (hk : bK a h = true) : bX h x t ≤ 2139095040 := by
  obtain ⟨h1, h2⟩ := b_hot L hk
  have hy := sub_ge h1 h2
  unfold bX
  generalize fop .sub .f32 h 1132068864 = y at hy
  have y1 : y / 8388608 ≤ 139 := by omega
  have hz := mul_bd (x := y) (y := 981668463) 133 (by omega) (by decide) (by omega) (by decide)
  generalize fop .mul .f32 y 981668463 = z at hz
  have z1 : z / 8388608 ≤ 133 := by omega
  have hu := mul_bd (x := z) (y := x) 137 (by omega) (by omega) (by omega) (by decide)
  exact mul_nn (by omega) (by omega)

theorem b_L (L : Lay a h c) (hx : x ≤ 1065353216) (ht : t ≤ 1065353216) (hk : bK a h = true) : bL c h x t ≤ 1092616192 := by
  have hX := b_X L hx ht hk
  have hc := L.fuel
  unfold bL
  rw [flt_key .f32 (nanp hX) (nanp (by omega)), keyp (by omega), keyp (by omega)]
  cases hd : decide ((bX h x t : Int) < c) with
  | true => have := of_decide_eq_true hd; show bX h x t ≤ _; omega
  | false => exact hc

theorem b_M (L : Lay a h c) (hx : x ≤ 1065353216) (ht : t ≤ 1065353216) (hk : bK a h = true) : bM c h x t = bL c h x t := by
  have hc := L.fuel
  exact fmin_less (by omega) (b_X L hx ht hk)

theorem bf_eq (L : Lay a h c) (hx : x ≤ 1065353216) (ht : t ≤ 1065353216) : bfI a h c x t = bfS a h c x t := by
  unfold bfI bfS
  rw [b_skip L]
  cases hk : bK a h with
  | false => rfl
  | true => rw [b_M L hx ht hk]; rfl

theorem bh_eq (L : Lay a h c) (hx : x ≤ 1065353216) (ht : t ≤ 1065353216) : bhI a h c x t = bhS a h c x t := by
  unfold bhI bhS
  rw [b_skip L]
  cases hk : bK a h with
  | false => rfl
  | true =>
    rw [b_M L hx ht hk]
    have hd := b_L L hx ht hk
    have ha := L.wet
    have hc := L.fuel
    obtain ⟨g1, g2⟩ := b_hot L hk
    have h1 : fop .mul .f32 1157234688 (bL c h x t) < 2139095040 := mul_fin (by decide) (by omega) (by omega)
    have h2 : fop .add .f32 (fop .mul .f32 a 1082130432) (fop .mul .f32 c 1073741824) ≤ 2139095040 := add_nn (mul_nn (by omega) (by decide)) (mul_nn (by omega) (by decide))
    have h3 : masF a c ≤ 2139095040 := add_nn h2 (by decide)
    have h4 : 0 < masF a c := add_nz h2 (by decide) (by decide)
    have h5 := quo_nn h1 h3 (by omega)
    have h6 : bQ (bL c h x t) a h c ≤ 2139095040 := add_nn (by omega) h5
    exact fmin_less h6 (by decide)

theorem b_nn (L : Lay a h c) (hx : x ≤ 1065353216) (ht : t ≤ 1065353216) : bS a h c x t ≤ 1092616192 := by
  unfold bS
  cases hk : bK a h with
  | false => exact Nat.zero_le _
  | true => exact b_L L hx ht hk

theorem be_nn (L : Lay a h c) (hx : x ≤ 1065353216) (ht : t ≤ 1065353216) : fop .mul .f32 1167867904 (bS a h c x t) ≤ 2139095040 := by
  have := b_nn L hx ht
  exact mul_nn (by decide) (by omega)

theorem bs_eq (L : Lay a h c) (hx : x ≤ 1065353216) (ht : t ≤ 1065353216) {s : Nat} (hs : s ≤ 2139095040) : bsI s a h c x t = fop .add .f32 s (bS a h c x t) := by
  unfold bsI bS
  rw [b_skip L]
  cases hk : bK a h with
  | false => exact (add_zero hs).1.symm
  | true => rw [b_M L hx ht hk]; rfl

theorem be_eq (L : Lay a h c) (hx : x ≤ 1065353216) (ht : t ≤ 1065353216) {s : Nat} (hs : s ≤ 2139095040) : beI s a h c x t = fop .add .f32 s (fop .mul .f32 1167867904 (bS a h c x t)) := by
  unfold beI bS
  rw [b_skip L]
  cases hk : bK a h with
  | false =>
    show s = fop .add .f32 s (fop .mul .f32 1167867904 0)
    rw [mul_zero (by decide)]; exact (add_zero hs).1.symm
  | true => rw [b_M L hx ht hk]; rfl

theorem bsums_eq {x t a0 a1 a2 a3 a4 a5 h0 h1 h2 h3 h4 h5 c0 c1 c2 c3 c4 c5 : Nat} (hx : x ≤ 1065353216) (ht : t ≤ 1065353216) (L0 : Lay a0 h0 c0) (L1 : Lay a1 h1 c1) (L2 : Lay a2 h2 c2) (L3 : Lay a3 h3 c3) (L4 : Lay a4 h4 c4) (L5 : Lay a5 h5 c5) :
    bsI (bsI (bsI (bsI (bsI (bsI 0 a0 h0 c0 x t) a1 h1 c1 x t) a2 h2 c2 x t) a3 h3 c3 x t) a4 h4 c4 x t) a5 h5 c5 x t =
      fop .add .f32 (fop .add .f32 (fop .add .f32 (fop .add .f32 (fop .add .f32 (bS a0 h0 c0 x t) (bS a1 h1 c1 x t)) (bS a2 h2 c2 x t)) (bS a3 h3 c3 x t)) (bS a4 h4 c4 x t)) (bS a5 h5 c5 x t) := by
  have m0 := b_nn L0 hx ht
  have m1 := b_nn L1 hx ht
  have m2 := b_nn L2 hx ht
  have m3 := b_nn L3 hx ht
  have m4 := b_nn L4 hx ht
  have n0 : bS a0 h0 c0 x t ≤ 2139095040 := by omega
  have n1 := add_nn n0 (y := bS a1 h1 c1 x t) (by omega)
  have n2 := add_nn n1 (y := bS a2 h2 c2 x t) (by omega)
  have n3 := add_nn n2 (y := bS a3 h3 c3 x t) (by omega)
  have n4 := add_nn n3 (y := bS a4 h4 c4 x t) (by omega)
  rw [bs_eq L0 hx ht (Nat.zero_le _), (add_zero n0).2, bs_eq L1 hx ht n0, bs_eq L2 hx ht n1, bs_eq L3 hx ht n2, bs_eq L4 hx ht n3, bs_eq L5 hx ht n4]

theorem besums_eq {x t a0 a1 a2 a3 a4 a5 h0 h1 h2 h3 h4 h5 c0 c1 c2 c3 c4 c5 : Nat} (hx : x ≤ 1065353216) (ht : t ≤ 1065353216) (L0 : Lay a0 h0 c0) (L1 : Lay a1 h1 c1) (L2 : Lay a2 h2 c2) (L3 : Lay a3 h3 c3) (L4 : Lay a4 h4 c4) (L5 : Lay a5 h5 c5) :
    beI (beI (beI (beI (beI (beI 0 a0 h0 c0 x t) a1 h1 c1 x t) a2 h2 c2 x t) a3 h3 c3 x t) a4 h4 c4 x t) a5 h5 c5 x t =
      fop .add .f32 (fop .add .f32 (fop .add .f32 (fop .add .f32 (fop .add .f32 (fop .mul .f32 1167867904 (bS a0 h0 c0 x t)) (fop .mul .f32 1167867904 (bS a1 h1 c1 x t))) (fop .mul .f32 1167867904 (bS a2 h2 c2 x t))) (fop .mul .f32 1167867904 (bS a3 h3 c3 x t))) (fop .mul .f32 1167867904 (bS a4 h4 c4 x t))) (fop .mul .f32 1167867904 (bS a5 h5 c5 x t)) := by
  have n0 := be_nn L0 hx ht
  have n1 := add_nn n0 (be_nn L1 hx ht)
  have n2 := add_nn n1 (be_nn L2 hx ht)
  have n3 := add_nn n2 (be_nn L3 hx ht)
  have n4 := add_nn n3 (be_nn L4 hx ht)
  rw [be_eq L0 hx ht (Nat.zero_le _), (add_zero n0).2, be_eq L1 hx ht n0, be_eq L2 hx ht n1, be_eq L3 hx ht n2, be_eq L4 hx ht n3, be_eq L5 hx ht n4]

/-- Two shares are asked. -/
noncomputable def gat2 (v s r : Bool) (x : Nat) : Nat := cond (!v) 0 (cond (cond (!s) true (!r)) 0 x)
noncomputable def cod2 (v s r : Bool) : Int := cond (!v) 1 (cond (cond (!s) true (!r)) 2 0)
theorem gat2_eq {v s r : Bool} {x y : Nat} (h : v = true → s = true → r = true → x = y) : gat2 v r s x = gat2 v s r y := by
  cases v <;> cases s <;> cases r <;> first | rfl | exact h rfl rfl rfl
theorem cod2_eq (v s r : Bool) : cod2 v r s = cod2 v s r := by cases v <;> cases s <;> cases r <;> rfl
noncomputable def outF2 (ws : List Nat) (s u : Nat) (c : Int) : Option AVal := some (.tuple [.agg (encF ws), .flt .f32 s, .flt .f32 u, .sint .i64 c])
end Go.Ab
