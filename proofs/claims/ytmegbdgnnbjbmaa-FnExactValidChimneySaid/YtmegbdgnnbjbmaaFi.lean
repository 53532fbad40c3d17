import Derived.Test.YtmegbdgnnbjbmaaFh
namespace Go.Ab
open Go
set_option linter.unusedVariables false
/-- What a valid layer tells. -/
structure Lay (a h c : Nat) : Prop where
  wet : a ≤ 1092616192
  fuel : c ≤ 1092616192
  wf : h < 4294967296
  num : nanB .f32 h = false
  fin : h % 2147483648 < 2139095040
  top : key FloatKind.f32.format h ≤ 1153138688

theorem lay_of {a h c : Nat} {x : Bool} (hw : h < 4294967296) (hk : okL a h c x = true) : Lay a h c ∧ x = true := by
  unfold okL at hk
  cases h1 : kilF a with
  | false => rw [h1] at hk; cases hk
  | true =>
    cases h2 : kilF c with
    | false => rw [h1, h2] at hk; cases hk
    | true =>
      cases h3 : btwF h with
      | false => rw [h1, h2, h3] at hk; cases hk
      | true =>
        rw [h1, h2, h3] at hk
        refine ⟨?_, hk⟩
        have g1 : a ≤ 1092616192 := of_decide_eq_true h1
        have g2 : c ≤ 1092616192 := of_decide_eq_true h2
        unfold btwF at h3
        cases h4 : fleB .f32 3262119936 h with
        | false => rw [h4] at h3; cases h3
        | true =>
          rw [h4] at h3
          have h3 : fleB .f32 h 1153138688 = true := h3
          have hn : nanB .f32 h = false := by
            cases hh : nanB .f32 h with
            | false => rfl
            | true => rw [fle_nan .f32 (Or.inl hh)] at h3; cases h3
          have n1 : nanB .f32 3262119936 = false := by rw [nan32]; decide
          rw [fle_key .f32 hn (nanp (by decide)), keyp (x := 1153138688) (by decide)] at h3
          rw [fle_key .f32 n1 hn] at h4
          have h3 := of_decide_eq_true h3
          have h4 := of_decide_eq_true h4
          have k1 : key FloatKind.f32.format 3262119936 = -1114636288 := by rw [show FloatKind.f32.format = Ieee.single from rfl, key32 (by decide)]; decide
          rw [k1] at h4
          refine ⟨g1, g2, hw, hn, ?_, h3⟩
          rw [show FloatKind.f32.format = Ieee.single from rfl, key32 hw] at h3 h4
          split at h3 <;> rename_i hs <;> simp only [hs, if_true, if_false] at h4 <;> omega

noncomputable def dX (h t : Nat) : Nat := fop .mul .f32 (fop .mul .f32 (fop .sub .f32 h 1120403456) 990057071) t
noncomputable def dL (a h t : Nat) : Nat := cond (fltB .f32 (dX h t) a) (dX h t) a
noncomputable def dM (a h t : Nat) : Nat := fmin .f32 a (dX h t)
noncomputable def masF (a c : Nat) : Nat := fop .add .f32 (fop .add .f32 (fop .mul .f32 a 1082130432) (fop .mul .f32 c 1073741824)) 1048576000
noncomputable def hqF (d a h c : Nat) : Nat := fop .sub .f32 h (fop .quo .f32 (fop .mul .f32 1157234688 d) (masF a c))
noncomputable def wetS (a h t : Nat) : Nat := cond (fltB .f32 1120403456 h) (fop .sub .f32 a (dL a h t)) a
noncomputable def wetI (a h t : Nat) : Nat := cond (fleB .f32 h 1120403456) a (fop .sub .f32 a (dM a h t))
noncomputable def heatS (a h c t : Nat) : Nat := cond (fltB .f32 1120403456 h) (cond (fltB .f32 (hqF (dL a h t) a h c) 1120403456) 1120403456 (hqF (dL a h t) a h c)) h
noncomputable def heatI (a h c t : Nat) : Nat := cond (fleB .f32 h 1120403456) h (fmax .f32 (hqF (dM a h t) a h c) 1120403456)
noncomputable def dS (a h t : Nat) : Nat := cond (fltB .f32 1120403456 h) (dL a h t) 0
noncomputable def sumI (s a h t : Nat) : Nat := cond (fleB .f32 h 1120403456) s (fop .add .f32 s (dM a h t))

variable {a h c t : Nat}
theorem lay_flt (L : Lay a h c) : fltB .f32 1120403456 h = !fleB .f32 h 1120403456 := flt_not_fle .f32 (nanp (by decide)) L.num

theorem lay_hot (L : Lay a h c) (hf : fleB .f32 h 1120403456 = false) : 1120403456 < h ∧ h ≤ 1153138688 := by
  rw [fle_key .f32 L.num (nanp (by decide)), keyp (x := 1120403456) (by decide)] at hf
  have hf := of_decide_eq_false hf
  have ht := L.top
  have hw := L.wf
  rw [show FloatKind.f32.format = Ieee.single from rfl, key32 hw] at hf ht
  split at hf <;> rename_i hs <;> simp only [hs, if_true, if_false] at ht <;> omega

theorem lay_dX (L : Lay a h c) (ht : t ≤ 1065353216) (hf : fleB .f32 h 1120403456 = false) : dX h t ≤ 2139095040 := by
  obtain ⟨h1, h2⟩ := lay_hot L hf
  have hy := sub_hundred h1 h2
  unfold dX
  refine mul_nn (mul_fin hy (by decide) ?_) (by omega)
  have : fop .sub .f32 h 1120403456 / 8388608 ≤ 254 := by omega
  omega

theorem lay_dL (L : Lay a h c) (ht : t ≤ 1065353216) (hf : fleB .f32 h 1120403456 = false) : dL a h t ≤ 1092616192 := by
  have hx := lay_dX L ht hf
  have ha := L.wet
  unfold dL
  rw [flt_key .f32 (nanp hx) (nanp (by omega)), keyp (by omega), keyp (by omega)]
  cases hd : decide ((dX h t : Int) < a) with
  | true => have := of_decide_eq_true hd; show dX h t ≤ _; omega
  | false => exact ha

theorem lay_dM (L : Lay a h c) (ht : t ≤ 1065353216) (hf : fleB .f32 h 1120403456 = false) : dM a h t = dL a h t := by
  have ha := L.wet
  exact fmin_less (by omega) (lay_dX L ht hf)

theorem wet_eq (L : Lay a h c) (ht : t ≤ 1065353216) : wetI a h t = wetS a h t := by
  unfold wetI wetS
  rw [lay_flt L]
  cases hf : fleB .f32 h 1120403456 with
  | true => rfl
  | false => rw [lay_dM L ht hf]; rfl

theorem heat_eq (L : Lay a h c) (ht : t ≤ 1065353216) : heatI a h c t = heatS a h c t := by
  unfold heatI heatS
  rw [lay_flt L]
  cases hf : fleB .f32 h 1120403456 with
  | true => rfl
  | false =>
    rw [lay_dM L ht hf]
    have hd := lay_dL L ht hf
    have ha := L.wet
    have hc := L.fuel
    have h1 : fop .mul .f32 1157234688 (dL a h t) < 2139095040 := mul_fin (by decide) (by omega) (by omega)
    have h2 : fop .add .f32 (fop .mul .f32 a 1082130432) (fop .mul .f32 c 1073741824) ≤ 2139095040 := add_nn (mul_nn (by omega) (by decide)) (mul_nn (by omega) (by decide))
    have h3 : masF a c ≤ 2139095040 := add_nn h2 (by decide)
    have h4 : 0 < masF a c := add_nz h2 (by decide) (by decide)
    have h5 := quo_nn h1 h3 (by omega)
    have h6 : nanB .f32 (hqF (dL a h t) a h c) = false := sub_num L.fin h5
    exact fmax_more h6 (fop_wf _ .f32 _ _) (by decide) (by decide)

theorem dS_nn (L : Lay a h c) (ht : t ≤ 1065353216) : dS a h t ≤ 2139095040 := by
  unfold dS
  rw [lay_flt L]
  cases hf : fleB .f32 h 1120403456 with
  | true => exact Nat.zero_le _
  | false => have := lay_dL L ht hf; show dL a h t ≤ _; omega

theorem sum_eq (L : Lay a h c) (ht : t ≤ 1065353216) {s : Nat} (hs : s ≤ 2139095040) : sumI s a h t = fop .add .f32 s (dS a h t) := by
  unfold sumI dS
  rw [lay_flt L]
  cases hf : fleB .f32 h 1120403456 with
  | true => exact (add_zero hs).1.symm
  | false => rw [lay_dM L ht hf]; rfl

theorem sum_first (L : Lay a h c) (ht : t ≤ 1065353216) : sumI 0 a h t = dS a h t := by
  rw [sum_eq L ht (Nat.zero_le _), (add_zero (dS_nn L ht)).2]

theorem sh_le (h : shO t = true) : t ≤ 1065353216 := by
  rw [shO_eq] at h
  unfold shI at h
  cases ha : amtF t with
  | false => rw [ha] at h; cases h
  | true =>
    rw [ha] at h
    have h : fleB .f32 t 1065353216 = true := h
    have ha := of_decide_eq_true (show decide (t < 2139095040) = true from ha)
    rw [fle_key .f32 (nanp (by omega)) (nanp (by decide)), keyp (by omega), keyp (by decide)] at h
    have := of_decide_eq_true h
    omega

noncomputable def gat (v s : Bool) (x : Nat) : Nat := cond (!v) 0 (cond (!s) 0 x)
theorem gat_eq {v s : Bool} {x y : Nat} (h : v = true → s = true → x = y) : gat v s x = gat v s y := by
  cases v <;> cases s <;> first | rfl | exact h rfl rfl
end Go.Ab
namespace Go.Ab
open Go
noncomputable def outF (ws : List Nat) (s : Nat) (c : Int) : Option AVal := some (.tuple [.agg (encF ws), .flt .f32 s, .sint .i64 c])
theorem sums_eq {t a0 a1 a2 a3 a4 a5 h0 h1 h2 h3 h4 h5 c0 c1 c2 c3 c4 c5 : Nat} (ht : t ≤ 1065353216) (L0 : Lay a0 h0 c0) (L1 : Lay a1 h1 c1) (L2 : Lay a2 h2 c2) (L3 : Lay a3 h3 c3) (L4 : Lay a4 h4 c4) (L5 : Lay a5 h5 c5) :
    sumI (sumI (sumI (sumI (sumI (sumI 0 a0 h0 t) a1 h1 t) a2 h2 t) a3 h3 t) a4 h4 t) a5 h5 t =
      fop .add .f32 (fop .add .f32 (fop .add .f32 (fop .add .f32 (fop .add .f32 (dS a0 h0 t) (dS a1 h1 t)) (dS a2 h2 t)) (dS a3 h3 t)) (dS a4 h4 t)) (dS a5 h5 t) := by
  have n0 := dS_nn L0 ht
  have n1 := add_nn n0 (dS_nn L1 ht)
  have n2 := add_nn n1 (dS_nn L2 ht)
  have n3 := add_nn n2 (dS_nn L3 ht)
  have n4 := add_nn n3 (dS_nn L4 ht)
  rw [sum_first L0 ht, sum_eq L1 ht n0, sum_eq L2 ht n1, sum_eq L3 ht n2, sum_eq L4 ht n3, sum_eq L5 ht n4]
theorem lays_of {a0 a1 a2 a3 a4 a5 h0 h1 h2 h3 h4 h5 c0 c1 c2 c3 c4 c5 : Nat} (hw : ∀ n ∈ [a0, a1, a2, a3, a4, a5, h0, h1, h2, h3, h4, h5, c0, c1, c2, c3, c4, c5], wfW .f32 n) (hv : vOp [a0, a1, a2, a3, a4, a5, h0, h1, h2, h3, h4, h5, c0, c1, c2, c3, c4, c5] = true) :
    Lay a0 h0 c0 ∧ Lay a1 h1 c1 ∧ Lay a2 h2 c2 ∧ Lay a3 h3 c3 ∧ Lay a4 h4 c4 ∧ Lay a5 h5 c5 := by
  rw [vOp_eq] at hv
  simp only [validI] at hv
  obtain ⟨l0, hv⟩ := lay_of (hw h0 (by simp)) hv
  obtain ⟨l1, hv⟩ := lay_of (hw h1 (by simp)) hv
  obtain ⟨l2, hv⟩ := lay_of (hw h2 (by simp)) hv
  obtain ⟨l3, hv⟩ := lay_of (hw h3 (by simp)) hv
  obtain ⟨l4, hv⟩ := lay_of (hw h4 (by simp)) hv
  obtain ⟨l5, hv⟩ := lay_of (hw h5 (by simp)) hv
  exact ⟨l0, l1, l2, l3, l4, l5⟩
end Go.Ab
