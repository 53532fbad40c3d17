import Derived.Test.YtmegbdgnnbjbmaaAbS1
namespace Go.Ab
open Go Go.RowKit

/-! ### 2. Floats -/
theorem read_nan_bits32 (t : Nat) : isNaNW .f32 ((t % 2) * 2 ^ 31 + 0x7f800000 + 1 + (t / 2) % (2 ^ 23 - 1)) = true := by
  have h1 : (t / 2) % (2 ^ 23 - 1) < 2 ^ 23 - 1 := Nat.mod_lt _ (by decide)
  have h2 : t % 2 < 2 := Nat.mod_lt _ (by decide)
  generalize (t / 2) % (2 ^ 23 - 1) = r at *
  generalize t % 2 = s at *
  have e : (s * 2 ^ 31 + 0x7f800000 + 1 + r) % 2 ^ 31 = 0x7f800000 + 1 + r := by omega
  show (Ieee.Format.read Ieee.single _).isNaN = true
  have hs : Ieee.single.signWeight = 2 ^ 31 := rfl
  have hb : Ieee.single.binade = 2 ^ 23 := rfl
  have hi : Ieee.single.infRung = 0x7f800000 := rfl
  simp only [Ieee.Format.read, hs, hb, hi, e]
  rw [if_neg (by omega), if_neg (by omega), if_neg (by omega)]
  rfl

theorem read_nan_bits64 (t : Nat) : isNaNW .f64 ((t % 2) * 2 ^ 63 + 0x7ff0000000000000 + 1 + (t / 2) % (2 ^ 52 - 1)) = true := by
  have h1 : (t / 2) % (2 ^ 52 - 1) < 2 ^ 52 - 1 := Nat.mod_lt _ (by decide)
  have h2 : t % 2 < 2 := Nat.mod_lt _ (by decide)
  generalize (t / 2) % (2 ^ 52 - 1) = r at *
  generalize t % 2 = s at *
  have e : (s * 2 ^ 63 + 0x7ff0000000000000 + 1 + r) % 2 ^ 63 = 0x7ff0000000000000 + 1 + r := by omega
  show (Ieee.Format.read Ieee.double _).isNaN = true
  have hs : Ieee.double.signWeight = 2 ^ 63 := rfl
  have hb : Ieee.double.binade = 2 ^ 52 := rfl
  have hi : Ieee.double.infRung = 0x7ff0000000000000 := rfl
  simp only [Ieee.Format.read, hs, hb, hi, e]
  rw [if_neg (by omega), if_neg (by omega), if_neg (by omega)]
  rfl

theorem nanW_isNaN (k : FloatKind) : isNaNW k (nanW k) = true := by cases k <;> rfl

theorem cut_nanBits (k : FloatKind) (x y t : Nat) : isNaNW k ((Question.nanBits k x y).cut t) = true := by
  cases k
  · exact read_nan_bits32 t
  · exact read_nan_bits64 t
theorem cut_nanConv (k : FloatKind) (x t : Nat) : isNaNW k ((Question.nanConv k x).cut t) = true := by
  cases k
  · exact read_nan_bits32 t
  · exact read_nan_bits64 t
theorem cut_nanMinMax (k : FloatKind) (m : Bool) (x y t : Nat) : isNaNW k ((Question.nanMinMax k m x y).cut t) = true := by
  cases k
  · exact read_nan_bits32 t
  · exact read_nan_bits64 t

theorem isNaN_read {k : FloatKind} {b : Nat} (h : isNaNW k b = true) : ∃ s f, k.format.read b = .nan s f := by
  unfold isNaNW at h
  cases hr : k.format.read b with
  | nan s f => exact ⟨s, f, rfl⟩
  | number _ _ _ => rw [hr] at h; simp [Ieee.Datum.isNaN] at h
  | infinity _ => rw [hr] at h; simp [Ieee.Datum.isNaN] at h

theorem floatBits_nan_left {op : BinOp} {k : FloatKind} {x : Nat} (y : Nat) (h : isNaNW k x = true) : floatBits op k x y = none := by
  obtain ⟨s, f, hr⟩ := isNaN_read h
  cases op <;> simp [floatBits, Ieee.Format.add, Ieee.Format.sub, Ieee.Format.mul, Ieee.Format.div, hr, Ieee.Datum.sum, Ieee.Datum.product, Ieee.Datum.quotient]

theorem floatBits_nan_right {op : BinOp} {k : FloatKind} {y : Nat} (x : Nat) (h : isNaNW k y = true) : floatBits op k x y = none := by
  obtain ⟨s, f, hr⟩ := isNaN_read h
  cases op <;> simp only [floatBits, Ieee.Format.add, Ieee.Format.sub, Ieee.Format.mul, Ieee.Format.div, hr, Ieee.Datum.opposite] <;>
    (cases k.format.read x <;> simp [Ieee.Datum.sum, Ieee.Datum.product, Ieee.Datum.quotient])

theorem order_nan_left {k : FloatKind} {x : Nat} (y : Nat) (h : isNaNW k x = true) : k.format.order x y = none := by
  obtain ⟨s, f, hr⟩ := isNaN_read h
  simp [Ieee.Format.order, hr, Ieee.Datum.order]
theorem order_nan_right {k : FloatKind} {y : Nat} (x : Nat) (h : isNaNW k y = true) : k.format.order x y = none := by
  obtain ⟨s, f, hr⟩ := isNaN_read h
  simp only [Ieee.Format.order, hr]
  cases k.format.read x <;> simp [Ieee.Datum.order]

theorem floatBits_same {op : BinOp} {k : FloatKind} {x x' y y' : Nat} (hx : sameW k x x') (hy : sameW k y y') : floatBits op k x' y' = floatBits op k x y := by
  rcases hx with rfl | ⟨h1, h2⟩
  · rcases hy with rfl | ⟨h3, h4⟩
    · rfl
    · rw [floatBits_nan_right _ h4, floatBits_nan_right _ h3]
  · rw [floatBits_nan_left _ h2, floatBits_nan_left _ h1]

theorem order_same {k : FloatKind} {x x' y y' : Nat} (hx : sameW k x x') (hy : sameW k y y') : k.format.order x' y' = k.format.order x y := by
  rcases hx with rfl | ⟨h1, h2⟩
  · rcases hy with rfl | ⟨h3, h4⟩
    · rfl
    · rw [order_nan_right _ h4, order_nan_right _ h3]
  · rw [order_nan_left _ h2, order_nan_left _ h1]

theorem Datum_order_swap (a b : Ieee.Datum) : b.order a = (a.order b).map Ordering.swap := by
  cases a <;> cases b <;> simp only [Ieee.Datum.order, Option.map_none, Option.map_some] <;> try rfl
  · rename_i s m i t n j
    rw [Int.min_comm j i]
    congr 1
    exact (Int.compare_swap ..).symm
  · rename_i s m i t
    cases t <;> rfl
  · rename_i s t n j
    cases s <;> rfl
  · congr 1
    exact (Nat.compare_swap ..).symm

theorem order_swap (k : FloatKind) (x y : Nat) : k.format.order y x = (k.format.order x y).map Ordering.swap := Datum_order_swap _ _

theorem order_gt (k : FloatKind) (x y : Nat) : (k.format.order x y == some .gt) = (k.format.order y x == some .lt) := by
  rw [order_swap k x y]
  cases k.format.order x y with
  | none => rfl
  | some o => cases o <;> rfl
theorem order_eq_symm (k : FloatKind) (x y : Nat) : (k.format.order x y == some .eq) = (k.format.order y x == some .eq) := by
  rw [order_swap k x y]
  cases k.format.order x y with
  | none => rfl
  | some o => cases o <;> rfl

theorem single_number {x : Nat} {s : Bool} {m : Nat} {e : Int} (h : FloatKind.f32.format.read x = .number s m e) : m < 2 ^ 24 ∧ -149 ≤ e ∧ e ≤ 104 := by
  have hs : Ieee.single.signWeight = 2 ^ 31 := rfl
  have hb : Ieee.single.binade = 2 ^ 23 := rfl
  have hi : Ieee.single.infRung = 0x7f800000 := rfl
  have hl : Ieee.single.leastPlace = -149 := rfl
  change Ieee.Format.read Ieee.single x = _ at h
  simp only [Ieee.Format.read, hs, hb, hi, hl] at h
  split at h
  · rename_i h1
    simp only [Ieee.Datum.number.injEq] at h
    obtain ⟨_, rfl, rfl⟩ := h
    omega
  · split at h
    · rename_i h1 h2
      simp only [Ieee.Datum.number.injEq] at h
      obtain ⟨_, rfl, rfl⟩ := h
      omega
    · split at h <;> cases h

theorem wide_finite {x : Nat} {s : Bool} {m : Nat} {e : Int} (h : FloatKind.f32.format.read x = .number s m e) :
    (FloatKind.f64.format.read (FloatKind.f64.encode (.number s m e))).isInfinity = false := by
  obtain ⟨hm, he1, he2⟩ := single_number h
  have hs : Ieee.double.signWeight = 2 ^ 63 := rfl
  have hb : Ieee.double.binade = 2 ^ 52 := rfl
  have hi : Ieee.double.infRung = 2047 * 2 ^ 52 := rfl
  have hl : Ieee.double.leastPlace = -1074 := rfl
  have hf : Ieee.double.fractionBits = 52 := rfl
  -- any word whose rung lies below infinity's
  have key : ∀ rung, rung < 2047 * 2 ^ 52 → (FloatKind.f64.format.read (Ieee.double.word s rung)).isInfinity = false := by
    intro rung hr
    have e1 : Ieee.double.word s rung % 2 ^ 63 = rung := by
      unfold Ieee.Format.word; rw [hs]; cases s <;> simp <;> omega
    show (Ieee.Format.read Ieee.double _).isInfinity = false
    simp only [Ieee.Format.read, hs, hb, hi, e1, if_pos hr]
    split
    · rfl
    · rfl
  show (FloatKind.f64.format.read (Ieee.double.nearest s m e)).isInfinity = false
  unfold Ieee.Format.nearest
  split
  · exact key 0 (by decide)
  · rename_i hm0
    have hlog : m.log2 < 24 := (Nat.log2_lt hm0).2 hm
    have hlo : 2 ^ m.log2 ≤ m := Nat.log2_self_le hm0
    have hhi : m < 2 ^ (m.log2 + 1) := Nat.lt_log2_self
    simp only [hl, hf, hb, hi]
    have elast : max (e + (m.log2 : Int) - ((52 : Nat) : Int)) (-1074) = e + (m.log2 : Int) - 52 := by omega
    rw [elast]
    have e1 : (e - (e + (m.log2 : Int) - 52)).toNat = 52 - m.log2 := by omega
    have e2 : (e + (m.log2 : Int) - 52 - e).toNat = 0 := by omega
    rw [e1, e2]
    have ecut : Ieee.Toward.even.cut s (m <<< (52 - m.log2)) 0 = m <<< (52 - m.log2) := by
      simp [Ieee.Toward.cut, Nat.mod_one]
    rw [ecut, Nat.shiftLeft_eq]
    have hk : m * 2 ^ (52 - m.log2) < 2 ^ 53 := by
      calc m * 2 ^ (52 - m.log2) < 2 ^ (m.log2 + 1) * 2 ^ (52 - m.log2) := Nat.mul_lt_mul_of_pos_right hhi (Nat.two_pow_pos _)
        _ = 2 ^ 53 := by rw [← Nat.pow_add]; congr 1; omega
    have hq : (e + (m.log2 : Int) - 52 - -1074).toNat ≤ 1149 := by omega
    have hq2 : (e + (m.log2 : Int) - 52 - -1074).toNat * 2 ^ 52 ≤ 1149 * 2 ^ 52 := Nat.mul_le_mul_right _ hq
    exact key _ (Nat.lt_of_le_of_lt (Nat.min_le_left _ _) (by omega))

theorem wordTop_eq (k : FloatKind) : wordTop k = 2 ^ k.format.width := by cases k <;> rfl

theorem cut_nanBits_wf (k : FloatKind) (x y t : Nat) : wfW k ((Question.nanBits k x y).cut t) := by
  cases k <;> simp only [wfW, wordTop, Question.cut] <;> omega
theorem cut_nanConv_wf (k : FloatKind) (x t : Nat) : wfW k ((Question.nanConv k x).cut t) := by
  cases k <;> simp only [wfW, wordTop, Question.cut] <;> omega
theorem cut_nanMinMax_wf (k : FloatKind) (m : Bool) (x y t : Nat) : wfW k ((Question.nanMinMax k m x y).cut t) := by
  cases k <;> simp only [wfW, wordTop, Question.cut] <;> omega
theorem nanW_wf (k : FloatKind) : wfW k (nanW k) := by cases k <;> simp [wfW, wordTop, nanW]
theorem write_wf (k : FloatKind) (d : Ieee.Datum) : wfW k (k.encode d) := by unfold wfW; rw [wordTop_eq]; exact k.format.write_lt d

theorem floatBits_wfW {op : BinOp} {k : FloatKind} {x y r : Nat} (h : floatBits op k x y = some r) : wfW k r := by
  unfold wfW; rw [wordTop_eq]
  unfold floatBits at h
  split at h
  · exact k.format.add_lt h
  · exact k.format.sub_lt h
  · exact k.format.mul_lt h
  · exact k.format.div_lt h
  · cases h

theorem fop_wf (op : BinOp) (k : FloatKind) (x y : Nat) : wfW k (fop op k x y) := by
  rw [fop_eq]; unfold fopImpl
  cases h : floatBits op k x y with
  | none => exact nanW_wf k
  | some r => exact floatBits_wfW h

theorem fmin_wf {k : FloatKind} {x y : Nat} (hx : wfW k x) (hy : wfW k y) : wfW k (fmin k x y) := by
  rw [fmin_eq]; unfold fminImpl
  split
  · exact nanW_wf k
  · exact hx
  · exact hy
  · split <;> assumption
theorem fmax_wf {k : FloatKind} {x y : Nat} (hx : wfW k x) (hy : wfW k y) : wfW k (fmax k x y) := by
  rw [fmax_eq]; unfold fmaxImpl
  split
  · exact nanW_wf k
  · exact hy
  · exact hx
  · split <;> assumption
theorem wide_wf (x : Nat) : wfW .f64 (wide x) := by
  rw [wide_eq]; unfold wideImpl floatToFloatBits
  rw [if_neg (by decide)]
  split
  · exact nanW_wf .f64
  · exact write_wf .f64 _
  · split
    · exact nanW_wf .f64
    · exact write_wf .f64 _
theorem ofInt_wf (k : FloatKind) (n : Int) : wfW k (ofInt k n) := by
  rw [ofInt_eq]; unfold floatOfInt FloatKind.nearest; exact write_wf k _
theorem fneg_wf {k : FloatKind} {b : Nat} (h : wfW k b) : wfW k (fneg k b) := by
  unfold wfW at *
  unfold fneg Op.negFloat
  rw [wordTop_eq] at *
  refine Nat.xor_lt_two_pow h ?_
  cases k <;> decide

section
variable {P : Program} (w : World)

/-- After some draws. -/
def Drawn (w w' : World) : Prop := w' = w ∨ w' = w.drew

theorem run_fop (op : BinOp) (t : TypeId) (k : FloatKind) {x x' y y' : Nat} (hop : isFop op = true) (hx : sameW k x x') (hy : sameW k y y') :
    ∃ r w', (binOp op t (.float k x') (.float k y')).run P w = .ok (.float k r) w' ∧ sameW k (fop op k x y) r ∧ wfW k r ∧ Drawn w w' := by
  have hb := floatBits_same (op := op) hx hy
  cases hr : floatBits op k x' y' with
  | some r =>
    refine ⟨r, w, run_float_arith w op t k x' y' r hr, ?_, floatBits_wfW hr, Or.inl rfl⟩
    rw [fop_eq]
    unfold fopImpl
    rw [← hb, hr]
    exact Or.inl rfl
  | none =>
    have hn : isNaNW k (fop op k x y) = true := by
      rw [fop_eq]; unfold fopImpl; rw [← hb, hr]; exact nanW_isNaN k
    refine ⟨(Question.nanBits k x' y').cut (w.tape w.drawn (.nanBits k x' y')), w.drew, ?_, Or.inr ⟨hn, cut_nanBits ..⟩, cut_nanBits_wf .., Or.inr rfl⟩
    unfold floatBits at hr
    cases op <;> simp only [isFop] at hop <;> first | (cases hop; done) | skip
    all_goals simp [binOp, Op.floatArith, hr, Question.forced]

theorem run_fcmp (op : BinOp) (t : TypeId) (k : FloatKind) {x x' y y' : Nat} {c : Bool} (hc : fcmp op k x y = some c) (hx : sameW k x x') (hy : sameW k y y') :
    (binOp op t (.float k x') (.float k y')).run P w = .ok (.bool c) w := by
  have ho := order_same hx hy
  cases op <;> simp only [fcmp] at hc <;> first | (cases hc; done) | skip
  all_goals (cases hc)
  all_goals simp only [binOp_float_cmp_eql, binOp_float_cmp_neq, binOp_float_cmp_lss, binOp_float_cmp_leq, binOp_float_cmp_gtr, binOp_float_cmp_geq, Sem.run_pure, ho]
  · rw [feqB_eq]; rfl
  · rw [feqB_eq]; rfl
  · rw [fltB_eq]; rfl
  · simp only [fleB, fltB_eq, feqB_eq]; rfl
  · rw [fltB_eq, order_gt]; rfl
  · simp only [fleB, fltB_eq, feqB_eq, order_gt, order_eq_symm k x y]; rfl

theorem run_min2 (k : FloatKind) {x x' y y' : Nat} (hx : sameW k x x') (hy : sameW k y y') (wx : wfW k x') (wy : wfW k y') :
    ∃ r w', (Builtin.min2 (.float k x') (.float k y')).run P w = .ok (.float k r) w' ∧ sameW k (fmin k x y) r ∧ wfW k r ∧ Drawn w w' := by
  have ho := order_same hx hy
  cases hr : k.format.order x' y' with
  | none =>
    refine ⟨(Question.nanMinMax k false x' y').cut (w.tape w.drawn (.nanMinMax k false x' y')), w.drew, ?_, Or.inr ⟨?_, cut_nanMinMax ..⟩, cut_nanMinMax_wf .., Or.inr rfl⟩
    · simp [Builtin.min2, hr, Question.forced]
    · rw [fmin_eq]; unfold fminImpl; rw [← ho, hr]; exact nanW_isNaN k
  | some o =>
    have hxx : x' = x := by
      rcases hx with h | ⟨_, h⟩
      · exact h
      · rw [order_nan_left _ h] at hr; cases hr
    have hyy : y' = y := by
      rcases hy with h | ⟨_, h⟩
      · exact h
      · rw [order_nan_right _ h] at hr; cases hr
    subst hxx; subst hyy
    refine ⟨fmin k x' y', w, ?_, Or.inl rfl, fmin_wf wx wy, Or.inl rfl⟩
    rw [fmin_eq]; unfold fminImpl; rw [hr]
    cases o <;> simp [Builtin.min2, hr]

theorem run_max2 (k : FloatKind) {x x' y y' : Nat} (hx : sameW k x x') (hy : sameW k y y') (wx : wfW k x') (wy : wfW k y') :
    ∃ r w', (Builtin.max2 (.float k x') (.float k y')).run P w = .ok (.float k r) w' ∧ sameW k (fmax k x y) r ∧ wfW k r ∧ Drawn w w' := by
  have ho := order_same hx hy
  cases hr : k.format.order x' y' with
  | none =>
    refine ⟨(Question.nanMinMax k true x' y').cut (w.tape w.drawn (.nanMinMax k true x' y')), w.drew, ?_, Or.inr ⟨?_, cut_nanMinMax ..⟩, cut_nanMinMax_wf .., Or.inr rfl⟩
    · simp [Builtin.max2, hr, Question.forced]
    · rw [fmax_eq]; unfold fmaxImpl; rw [← ho, hr]; exact nanW_isNaN k
  | some o =>
    have hxx : x' = x := by
      rcases hx with h | ⟨_, h⟩
      · exact h
      · rw [order_nan_left _ h] at hr; cases hr
    have hyy : y' = y := by
      rcases hy with h | ⟨_, h⟩
      · exact h
      · rw [order_nan_right _ h] at hr; cases hr
    subst hxx; subst hyy
    refine ⟨fmax k x' y', w, ?_, Or.inl rfl, fmax_wf wx wy, Or.inl rfl⟩
    rw [fmax_eq]; unfold fmaxImpl; rw [hr]
    cases o <;> simp [Builtin.max2, hr]

/-- float64(x) of a float32. -/
theorem run_wide {x x' : Nat} (hx : sameW .f32 x x') :
    ∃ r w', (Conv.floatToFloat .f32 x' .f64).run P w = .ok (.float .f64 r) w' ∧ sameW .f64 (wide x) r ∧ wfW .f64 r ∧ Drawn w w' := by
  unfold Conv.floatToFloat
  rw [if_neg (by decide)]
  have hw : ∀ b, isNaNW .f32 b = true → isNaNW .f64 (wide b) = true := by
    intro b hb
    obtain ⟨s, f, hr⟩ := isNaN_read hb
    rw [wide_eq]; unfold wideImpl floatToFloatBits FloatKind.decode
    rw [if_neg (by decide), hr]; exact nanW_isNaN .f64
  by_cases hn : isNaNW .f32 x' = true
  · obtain ⟨s, f, hr⟩ := isNaN_read hn
    have hnx : isNaNW .f32 x = true := by
      rcases hx with h | ⟨h, _⟩
      · rw [← h]; exact hn
      · exact h
    refine ⟨(Question.nanConv .f64 x').cut (w.tape w.drawn (.nanConv .f64 x')), w.drew, ?_, Or.inr ⟨hw _ hnx, cut_nanConv ..⟩, cut_nanConv_wf .., Or.inr rfl⟩
    simp [FloatKind.decode, hr, Question.forced]
  · have hxx : x' = x := by
      rcases hx with h | ⟨_, h⟩
      · exact h
      · exact absurd h hn
    subst hxx
    cases hr : FloatKind.f32.format.read x' with
    | nan s f => exact absurd (by simp [isNaNW, hr, Ieee.Datum.isNaN]) hn
    | infinity s =>
      refine ⟨_, w, by simp only [FloatKind.decode, hr, Sem.run_pure]; rfl, Or.inl ?_, write_wf .f64 _, Or.inl rfl⟩
      rw [wide_eq]; unfold wideImpl floatToFloatBits FloatKind.decode
      rw [if_neg (by decide), hr]; rfl
    | number s m e =>
      simp only [FloatKind.decode, hr]
      by_cases hi : (FloatKind.f64.format.read (FloatKind.f64.encode (Ieee.Datum.number s m e))).isInfinity = true
      · -- cannot be, but the law need not know: an infinity of f64 is drawn
        exact absurd hi (by rw [wide_finite hr]; decide)
      · refine ⟨FloatKind.f64.encode (.number s m e), w, by simp [hi], Or.inl ?_, write_wf .f64 _, Or.inl rfl⟩
        rw [wide_eq]; unfold wideImpl floatToFloatBits FloatKind.decode
        rw [if_neg (by decide), hr]; simp [hi]
end
end Go.Ab
