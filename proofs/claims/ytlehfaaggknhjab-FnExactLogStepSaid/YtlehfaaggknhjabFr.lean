import Derived.Test.YtlehfaaggknhjabFo
namespace Go.Ab
open Go
set_option linter.unusedVariables false
/-! ### A whole step of a log -/
theorem fin_size {a : Nat} (h : finF a = true) : a % 2147483648 < 2139095040 := by
  unfold finF at h
  simpa using h
theorem fin_nan {a : Nat} (h : a % 2147483648 < 2139095040) : nanB .f32 a = false := by
  rw [nan32]; simp only [decide_eq_false_iff_not]; omega
noncomputable def gv (g : Bool) (x : Nat) : Nat := cond (!g) 0 x
noncomputable def sA (g : Bool) (a h t : Nat) : Nat := wetS (gv g a) (gv g h) t
noncomputable def sH2 (g : Bool) (a h c t : Nat) : Nat := heatS (gv g a) (gv g h) (gv g c) t
noncomputable def sH (g : Bool) (a h c x t : Nat) : Nat := bhS (sA g a h t) (sH2 g a h c t) (gv g c) x t
noncomputable def sC (g : Bool) (a h c x t : Nat) : Nat := bfS (sA g a h t) (sH2 g a h c t) (gv g c) x t
noncomputable def sB (g : Bool) (a h c x t : Nat) : Nat := bS (sA g a h t) (sH2 g a h c t) (gv g c) x t
noncomputable def sD (g : Bool) (a h t : Nat) : Nat := dS (gv g a) (gv g h) t
noncomputable def iH (a h c x t : Nat) : Nat := bhI (wetI a h t) (heatI a h c t) c x t
noncomputable def iC (a h c x t : Nat) : Nat := bfI (wetI a h t) (heatI a h c t) c x t
noncomputable def iB (s a h c x t : Nat) : Nat := bsI s (wetI a h t) (heatI a h c t) c x t
noncomputable def iE (s a h c x t : Nat) : Nat := beI s (wetI a h t) (heatI a h c t) c x t
variable {a h c x t : Nat}
theorem wet3 (L : Lay a h c) (ht : t ≤ 1065353216) : wetI a h t = sA true a h t := wet_eq L ht
theorem heat3 (L : Lay a h c) (hx : x ≤ 1065353216) (ht : t ≤ 1065353216) : iH a h c x t = sH true a h c x t := by
  unfold iH
  rw [wet_eq L ht, heat_eq L ht]
  exact bh_eq (lay_dry L ht) hx ht
theorem fuel3 (L : Lay a h c) (hx : x ≤ 1065353216) (ht : t ≤ 1065353216) : iC a h c x t = sC true a h c x t := by
  unfold iC
  rw [wet_eq L ht, heat_eq L ht]
  exact bf_eq (lay_dry L ht) hx ht
theorem warm_lays {f0 h0 h1 h2 h3 h4 h5 a0 a1 a2 a3 a4 a5 c0 c1 c2 c3 c4 c5 : Nat} (ht : t ≤ 1065353216) (hg : finF f0 = true) (L0 : Lay a0 h0 c0) (L1 : Lay a1 h1 c1) (L2 : Lay a2 h2 c2) (L3 : Lay a3 h3 c3) (L4 : Lay a4 h4 c4) (L5 : Lay a5 h5 c5) (hs : h0 % 2147483648 ≤ 1153138688 ∧ h1 % 2147483648 ≤ 1153138688 ∧ h2 % 2147483648 ≤ 1153138688 ∧ h3 % 2147483648 ≤ 1153138688 ∧ h4 % 2147483648 ≤ 1153138688 ∧ h5 % 2147483648 ≤ 1153138688) :
    Lay a0 (hW f0 (flw h0 h1 t) a0 h0 c0) c0 ∧ Lay a1 (hW (flw h0 h1 t) (flw h1 h2 t) a1 h1 c1) c1 ∧ Lay a2 (hW (flw h1 h2 t) (flw h2 h3 t) a2 h2 c2) c2 ∧ Lay a3 (hW (flw h2 h3 t) (flw h3 h4 t) a3 h3 c3) c3 ∧ Lay a4 (hW (flw h3 h4 t) (flw h4 h5 t) a4 h4 c4) c4 ∧ Lay a5 (hW (flw h4 h5 t) 0 a5 h5 c5) c5 := by
  obtain ⟨s0, s1, s2, s3, s4, s5⟩ := hs
  have k0 := fin_size hg
  have k1 := flw_fin s0 s1 ht
  have k2 := flw_fin s1 s2 ht
  have k3 := flw_fin s2 s3 ht
  have k4 := flw_fin s3 s4 ht
  have k5 := flw_fin s4 s5 ht
  have n1 := fin_nan k1
  have n2 := fin_nan k2
  have n3 := fin_nan k3
  have n4 := fin_nan k4
  have n5 := fin_nan k5
  have n6 : nanB .f32 0 = false := nanp (by decide)
  exact ⟨lay_warm L0 (sub_num2 k0 n1), lay_warm L1 (sub_num2 k1 n2), lay_warm L2 (sub_num2 k2 n3), lay_warm L3 (sub_num2 k3 n4), lay_warm L4 (sub_num2 k4 n5), lay_warm L5 (sub_num2 k5 n6)⟩
theorem steam3 {a0 a1 a2 a3 a4 a5 h0 h1 h2 h3 h4 h5 c0 c1 c2 c3 c4 c5 : Nat} (ht : t ≤ 1065353216) (L0 : Lay a0 h0 c0) (L1 : Lay a1 h1 c1) (L2 : Lay a2 h2 c2) (L3 : Lay a3 h3 c3) (L4 : Lay a4 h4 c4) (L5 : Lay a5 h5 c5) :
    sumI (sumI (sumI (sumI (sumI (sumI (0) a0 h0 t) a1 h1 t) a2 h2 t) a3 h3 t) a4 h4 t) a5 h5 t = fop .add .f32 (fop .add .f32 (fop .add .f32 (fop .add .f32 (fop .add .f32 (sD true a0 h0 t) (sD true a1 h1 t)) (sD true a2 h2 t)) (sD true a3 h3 t)) (sD true a4 h4 t)) (sD true a5 h5 t) := sums_eq ht L0 L1 L2 L3 L4 L5
theorem burn3 {a0 a1 a2 a3 a4 a5 h0 h1 h2 h3 h4 h5 c0 c1 c2 c3 c4 c5 : Nat} (hx : x ≤ 1065353216) (ht : t ≤ 1065353216) (L0 : Lay a0 h0 c0) (L1 : Lay a1 h1 c1) (L2 : Lay a2 h2 c2) (L3 : Lay a3 h3 c3) (L4 : Lay a4 h4 c4) (L5 : Lay a5 h5 c5) :
    iB (iB (iB (iB (iB (iB (0) a0 h0 c0 x t) a1 h1 c1 x t) a2 h2 c2 x t) a3 h3 c3 x t) a4 h4 c4 x t) a5 h5 c5 x t = fop .add .f32 (fop .add .f32 (fop .add .f32 (fop .add .f32 (fop .add .f32 (sB true a0 h0 c0 x t) (sB true a1 h1 c1 x t)) (sB true a2 h2 c2 x t)) (sB true a3 h3 c3 x t)) (sB true a4 h4 c4 x t)) (sB true a5 h5 c5 x t) := by
  unfold iB
  rw [wet_eq L0 ht, heat_eq L0 ht, wet_eq L1 ht, heat_eq L1 ht, wet_eq L2 ht, heat_eq L2 ht, wet_eq L3 ht, heat_eq L3 ht, wet_eq L4 ht, heat_eq L4 ht, wet_eq L5 ht, heat_eq L5 ht]
  exact bsums_eq hx ht (lay_dry L0 ht) (lay_dry L1 ht) (lay_dry L2 ht) (lay_dry L3 ht) (lay_dry L4 ht) (lay_dry L5 ht)
theorem energy3 {a0 a1 a2 a3 a4 a5 h0 h1 h2 h3 h4 h5 c0 c1 c2 c3 c4 c5 : Nat} (hx : x ≤ 1065353216) (ht : t ≤ 1065353216) (L0 : Lay a0 h0 c0) (L1 : Lay a1 h1 c1) (L2 : Lay a2 h2 c2) (L3 : Lay a3 h3 c3) (L4 : Lay a4 h4 c4) (L5 : Lay a5 h5 c5) :
    iE (iE (iE (iE (iE (iE (0) a0 h0 c0 x t) a1 h1 c1 x t) a2 h2 c2 x t) a3 h3 c3 x t) a4 h4 c4 x t) a5 h5 c5 x t = fop .add .f32 (fop .add .f32 (fop .add .f32 (fop .add .f32 (fop .add .f32 (fop .mul .f32 1167867904 (sB true a0 h0 c0 x t)) (fop .mul .f32 1167867904 (sB true a1 h1 c1 x t))) (fop .mul .f32 1167867904 (sB true a2 h2 c2 x t))) (fop .mul .f32 1167867904 (sB true a3 h3 c3 x t))) (fop .mul .f32 1167867904 (sB true a4 h4 c4 x t))) (fop .mul .f32 1167867904 (sB true a5 h5 c5 x t)) := by
  unfold iE
  rw [wet_eq L0 ht, heat_eq L0 ht, wet_eq L1 ht, heat_eq L1 ht, wet_eq L2 ht, heat_eq L2 ht, wet_eq L3 ht, heat_eq L3 ht, wet_eq L4 ht, heat_eq L4 ht, wet_eq L5 ht, heat_eq L5 ht]
  exact besums_eq hx ht (lay_dry L0 ht) (lay_dry L1 ht) (lay_dry L2 ht) (lay_dry L3 ht) (lay_dry L4 ht) (lay_dry L5 ht)
/-! gates -/
noncomputable def cdI (v f t x : Bool) : Int := cond (!v) 1 (cond (cond (!f) true (cond (!t) true (!x))) 2 0)
noncomputable def gtI (c : Int) (g : Bool) (y : Nat) : Nat := cond (c != 0) 0 (cond (!g) 0 y)
noncomputable def gtS (c : Int) (g : Bool) (y : Nat) : Nat := cond (c != 0) 0 (cond ((cond (!g) (4 : Int) 0) != 0) 0 y)
noncomputable def coI (c : Int) (g : Bool) : Int := cond (c != 0) c (cond (!g) 4 0)
noncomputable def coS (c : Int) (g : Bool) : Int := cond (c != 0) c (cond ((cond (!g) (4 : Int) 0) != 0) (cond (!g) 4 0) 0)
theorem gt3 {v f t x g : Bool} {y : Nat} (F : Bool → Nat) (h : v = true → f = true → t = true → x = true → g = true → y = F true) : gtI (cdI v f t x) g y = gtS (cdI v f x t) g (F g) := by
  cases v <;> cases f <;> cases t <;> cases x <;> cases g <;> first | rfl | exact h rfl rfl rfl rfl rfl
theorem co3 (v f t x g : Bool) : coI (cdI v f t x) g = coS (cdI v f x t) g := by
  cases v <;> cases f <;> cases t <;> cases x <;> cases g <;> rfl
noncomputable def outF3 (ws : List Nat) (s u v : Nat) (c : Int) : Option AVal := some (.tuple [.agg (encF ws), .flt .f32 s, .flt .f32 u, .flt .f32 v, .sint .i64 c])
theorem outF3_eq {ws ws' : List Nat} {s s' u u' v v' : Nat} {c c' : Int} (h1 : ws = ws') (h2 : s = s') (h3 : u = u') (h4 : v = v') (h5 : c = c') : outF3 ws s u v c = outF3 ws' s' u' v' c' := by
  subst h1; subst h2; subst h3; subst h4; subst h5; rfl
theorem cons_eq {x y : Nat} {xs ys : List Nat} (h : x = y) (k : xs = ys) : x :: xs = y :: ys := by subst h; subst k; rfl
end Go.Ab
