import Derived.Test.YtmegbdgnnbjbmaaAbS5
namespace Go.Ab
open Go Go.RowKit

section
variable {P : Program} {ρ : Rho}

theorem cellsO_sound {x : AVal} {v : Value} {cs : List AVal} (h : cellsO x = some cs) (hv : V ρ x v) : VL ρ cs v.cells.toList := by
  have h2 : cs = x.cells := by
    cases x <;> simp only [cellsO] at h <;> first | (cases h; done) | skip
    case raw u => split at h <;> cases h; rfl
    all_goals (cases h; rfl)
  subst h2
  refine V_cells hv ?_ ?_ ?_
  · rintro vs rfl; simp [cellsO] at h
  · rintro rfl; simp [cellsO] at h
  · rintro u rfl
    simp only [cellsO] at h
    split at h
    · assumption
    · cases h

theorem nthP_get : ∀ (l : List (Nat × Nat)) (i : Nat), nthP i l = l[i]?
  | [], i => by simp [nthP]
  | x :: l, 0 => rfl
  | x :: l, i + 1 => by simpa [nthP] using nthP_get l i

theorem plcs_mapM : ∀ (fs : List Field) (pl : List (Nat × Nat)), plcs P fs = some pl → fs.mapM (fun f => (P.info? f.type).map fun i => (f.offset, i.size)) = some pl
  | [], pl, h => by simp [plcs] at h; subst h; rfl
  | f :: fs, pl, h => by
    simp only [plcs] at h
    split at h
    · rename_i n hn
      split at h
      · rename_i l hl; cases h
        have ih := plcs_mapM fs l hl
        have hi : (P.info? f.type).map (fun i => (f.offset, i.size)) = some (f.offset, n) := by
          unfold tsize at hn
          split at hn
          · rename_i i hi; cases hn; simp [hi]
          · cases hn
        simp [List.mapM_cons, hi, ih]
      · cases h
    · cases h

theorem fillA_sound : ∀ (as : List AVal) (us : List Value) (xs : List AVal) (cells : Array Value) (off k : Nat), VL ρ as us → VL ρ xs cells.toList →
    VL ρ (fillA xs (off + k) as) ((us.zipIdx k).foldl (fun cs (p : Value × Nat) => cs.setIfInBounds (off + p.2) p.1) cells).toList
  | [], us, xs, cells, off, k, h, hx => by unfold VL at h; subst h; simpa [fillA] using hx
  | a :: as, us, xs, cells, off, k, h, hx => by
    unfold VL at h
    obtain ⟨u, us', rfl, h1, h2⟩ := h
    simp only [List.zipIdx_cons, List.foldl_cons, fillA]
    have := fillA_sound as us' (xs.set (off + k) a) (cells.setIfInBounds (off + k) u) off (k + 1) h2 (by
      rw [Array.toList_setIfInBounds]; exact VL_set _ _ _ _ _ hx h1)
    rw [Nat.add_assoc] 
    exact this

theorem fillG_sound {S : St} {a : Act} {pl : Nat → Option (Nat × Nat)} : ∀ (parts : List (Nat × Operand)) (xs : List AVal) (cells : Array Value) (out : List AVal),
    (∀ p ∈ parts, V ρ (opd S p.2) (a.eval p.2)) → VL ρ xs cells.toList → fillG pl S xs parts = some out →
    ∃ res, Instr.fill pl cells (parts.map fun p => (p.1, a.eval p.2)) = some res ∧ VL ρ out res.toList
  | [], xs, cells, out, _, hx, h => by simp [fillG] at h; subst h; exact ⟨cells, rfl, hx⟩
  | (j, x) :: r, xs, cells, out, hp, hx, h => by
    simp only [fillG] at h
    split at h
    · cases h
    · rename_i off sz hpl
      split at h
      · rename_i v hv
        split at h
        · rename_i hb
          simp only [Bool.and_eq_true] at hb
          have hb1 := Nat.eq_of_beq_eq_true hb.1
          have hb2 := Nat.le_of_ble_eq_true hb.2
          have hc := cellsO_sound hv (hp (j, x) (by simp))
          have hl : (a.eval x).cells.toList.length = v.length := VL_length _ _ hc
          have hlx := VL_length _ _ hx
          have hf := fillA_sound (ρ := ρ) v _ xs cells off 0 hc hx
          obtain ⟨res, h1, h2⟩ := fillG_sound r (fillA xs off v) _ out (fun p hp' => hp p (by simp [hp'])) (by simpa using hf) h
          refine ⟨res, ?_, h2⟩
          simp only [List.map_cons, Instr.fill, hpl]
          have hsz : ((a.eval x).cells.size ≠ sz) = False := by simp only [ne_eq, eq_iff_iff, iff_false, Decidable.not_not]; rw [← Array.length_toList]; omega
          have hgt : decide (off + (a.eval x).cells.size > cells.size) = false := by
            simp only [decide_eq_false_iff_not]; rw [← Array.length_toList, ← Array.length_toList]; omega
          simp only [hsz, hgt, decide_false, Bool.or_self, Bool.false_eq_true, if_false]
          rw [← h1]
          congr 1
          rw [← Array.foldl_toList, Array.toList_zipIdx]
        · cases h
      · cases h

theorem tzero_info {t : TypeId} {z : Value} (h : tzero P t = some z) : ∃ i, P.info? t = some i ∧ i.zero = some z := by
  unfold tzero at h
  split at h
  · rename_i i hi; exact ⟨i, hi, h⟩
  · cases h
theorem tsize_info {t : TypeId} {n : Nat} (h : tsize P t = some n) : ∃ i, P.info? t = some i ∧ i.size = n := by
  unfold tsize at h
  split at h
  · rename_i i hi; cases h; exact ⟨i, hi, rfl⟩
  · cases h

/-! calls -/
/-- What a function without a body does. -/
def extFn : Xk → Array Value → Sem Value
  | .f32bits => Extern.MathFloatBits.float32bits
  | .f64bits => Extern.MathFloatBits.float64bits
  | .f32from => Extern.MathFloatBits.float32frombits
  | .f64from => Extern.MathFloatBits.float64frombits

/-- What a call leaves. -/
def Res (M : Addr → Prop) (w0 : World) (ρ : Rho) (S : St) (out : Out) : Ending → World → Prop
  | .returned u, w' => (∀ b v, out.pn = some (b, v) → b = false) ∧ ∃ ρ', ExtS S.hp.length ρ ρ' ∧ V ρ' out.v u ∧ Mem M w0 ρ' (S.put out.hv out.vv out.nw) w'
  | .panicked ch, w' => ∃ v u, out.pn = some (true, v) ∧ ch = [{ v := u, recovered := false }] ∧ V ρ v u ∧ Mem M w0 ρ S w'
  | .outgrown, _ => False

/-- The contract of a function with a body holds. -/
structure SatC (P : Program) (f : FuncId) (c : Ctr) : Prop where
  call : ∀ (args : Array Value) (w : World), (callFunc f args).run P w = .ok (.enter f args) w
  sat : ∀ args S out, c.fn args S = some out → out.nd = true → ∀ M w0 ρ w vs, Mem M w0 ρ S w → VL ρ args vs → Calls P f ⟨vs⟩ w (Res M w0 ρ S out)

/-- The contract holds. -/
def Sat (P : Program) (f : FuncId) (c : Ctr) : Prop :=
  match c.x with
  | none => SatC P f c
  | some k => ∀ (args : Array Value) (w : World), (callFunc f args).run P w = ((extFn k args).run P w).andThen fun v w' => .ok (.value v) w'

theorem flatL_get : ∀ (cs : List AVal) (o : Nat) (x : AVal), AVal.flat.flatL cs = true → cs[o]? = some x → x.flat = true
  | [], o, x, _, h => by simp at h
  | c :: cs, o, x, hf, h => by
    unfold AVal.flat.flatL at hf
    split at hf
    · rename_i hc
      cases o with
      | zero => simp at h; subst h; exact hc
      | succ o => exact flatL_get cs o x hf (by simpa using h)
    · cases hf

theorem VL_get {ρ : Rho} : ∀ (xs : List AVal) (vs : List Value), VL ρ xs vs → ∀ (i : Nat) (x : AVal), xs[i]? = some x → ∃ v, vs[i]? = some v ∧ V ρ x v
  | [], _, _, i, x, hi => by simp at hi
  | y :: xs, _, k, i, x, hi => by
    unfold VL at k
    obtain ⟨v, vs', rfl, h2, h3⟩ := k
    cases i with
    | zero => simp at hi; subst hi; exact ⟨v, rfl, h2⟩
    | succ i =>
      obtain ⟨u, hu, hv⟩ := VL_get xs vs' h3 i x (by simpa using hi)
      exact ⟨u, by simpa using hu, hv⟩

theorem cellsAt_len {S : St} : ∀ (n i o : Nat) (cs : List AVal), S.cellsAt i o n = some cs → cs.length = n ∧ ∀ k x, cs[k]? = some x → S.cell i (o + k) = some x
  | 0, i, o, cs, h => by simp [St.cellsAt] at h; subst h; exact ⟨rfl, fun k x h => by simp at h⟩
  | n + 1, i, o, cs, h => by
    simp only [St.cellsAt] at h
    split at h
    · rename_i x hx
      split at h
      · rename_i cs' hcs; cases h
        obtain ⟨h1, h2⟩ := cellsAt_len n i (o + 1) cs' hcs
        refine ⟨by simp [h1], fun k y hk => ?_⟩
        cases k with
        | zero => simp at hk; subst hk; simpa using hx
        | succ k =>
          have := h2 k y (by simpa using hk)
          have e : o + (k + 1) = o + 1 + k := by omega
          rw [e]; exact this
      · cases h
    · cases h

/-! rows -/
theorem nthC_lt : ∀ {l : List CK} {o : Nat} {c : CK}, nthC o l = some c → o < lenL l
  | [], o, c, h => by simp [nthC] at h
  | d :: r, 0, c, h => by simp [lenL]
  | d :: r, o + 1, c, h => by
    have := nthC_lt (l := r) (o := o) (c := c) (by simpa [nthC] using h)
    simp only [lenL]; omega

theorem lenL_eq {α : Type} : ∀ l : List α, lenL l = l.length
  | [] => rfl
  | _ :: r => by simp [lenL, lenL_eq r]

/-- A cell of a kind, off a value. -/
def mkW : CK → AVal → AVal
  | .f32, x => .flt .f32 (wF x)
  | .int t, x => .sint t (wG x)
  | .bool, x => .sbool (wB x)

theorem fits_V {ρ : Rho} {c : CK} {x : AVal} {u : Value} (h : fits c x = true) (hv : V ρ x u) : V ρ (mkW c x) u := by
  unfold fits at h
  split at h
  · exact hv
  · have := of_decide_eq_true h; subst this; unfold V at hv ⊢; exact hv
  · have := of_decide_eq_true h; subst this; unfold V at hv ⊢; exact hv
  · have := of_decide_eq_true h; subst this; unfold V at hv ⊢; exact hv.1
  · unfold V at hv ⊢; exact hv
  · exact hv
  · cases h

theorem fits_one {c : CK} {x : AVal} (h : fits c x = true) : x.oneA = true := by
  unfold fits at h
  split at h <;> first | rfl | cases h

theorem fitsL_spec (sh : List CK) : ∀ (cs : List AVal) (o : Nat), fitsL sh o cs = true → ∀ p, p < cs.length → ∃ c, nthC (o + p) sh = some c ∧ fits c (nth p cs) = true
  | [], o, _, p, hp => by simp at hp
  | v :: r, o, h, p, hp => by
    unfold fitsL at h
    split at h
    · rename_i c hc
      split at h
      · rename_i hf
        cases p with
        | zero => exact ⟨c, by simpa using hc, hf⟩
        | succ p =>
          obtain ⟨d, h1, h2⟩ := fitsL_spec sh r (o + 1) h p (by simpa using hp)
          exact ⟨d, by rw [← h1]; congr 1; omega, h2⟩
      · cases h
    · cases h

theorem fitsL_allOne (sh : List CK) : ∀ (cs : List AVal) (o : Nat), fitsL sh o cs = true → allOne cs = true
  | [], o, _ => rfl
  | v :: r, o, h => by
    unfold fitsL at h
    split at h
    · split at h
      · rename_i hf
        unfold allOne
        rw [fits_one hf]
        exact fitsL_allOne sh r (o + 1) h
      · cases h
    · cases h

theorem inSeg_true {k o l j q : Nat} : inSeg k o l j q = true ↔ j = k ∧ o ≤ q ∧ q < o + l := by
  unfold inSeg
  simp only [Bool.and_eq_true]
  constructor
  · rintro ⟨h1, h2, h3⟩
    exact ⟨Nat.eq_of_beq_eq_true h1, Nat.le_of_ble_eq_true h2, Nat.le_of_ble_eq_true h3⟩
  · rintro ⟨rfl, h2, h3⟩
    exact ⟨Nat.beq_refl _, Nat.ble_eq_true_of_le h2, Nat.ble_eq_true_of_le h3⟩

theorem put_mkA (v : Vc) (k o : Nat) (cs : List AVal) (j q : Nat) (c : CK) : (v.put k o cs).mkA j q c = if inSeg k o (lenL cs) j q = true then mkW c (nth (q - o) cs) else v.mkA j q c := by
  cases h : inSeg k o (lenL cs) j q <;> cases c <;> simp [Vc.mkA, Vc.put, mkW, h]

section
variable {M : Addr → Prop} {w0 w : World} {S : St}

theorem put_vv_vec (S : St) (i : Nat) (u : Vc) (j : Nat) : (S.put [] [(i, u)] []).vec j = match S.vec j with | none => none | some x => if j = i then some u else some x := by
  unfold St.vec
  have hb : (S.put [] [(i, u)] []).blk j = S.blk j := by simp [St.put, St.ext, St.blk]
  rw [hb]
  split
  · rename_i v h1 h2
    simp only [St.put, St.ext, vlookL, vlook1]
    cases hji : Nat.beq j i with
    | true =>
      have := Nat.eq_of_beq_eq_true hji
      subst this
      simp only [if_true]
      cases vlookL j S.vvs <;> rfl
    | false =>
      have hne : j ≠ i := fun e => by subst e; simp at hji
      simp only [hne, if_false]
      cases vlookL j S.vvs <;> rfl
  · rfl

theorem mul_lt_seg {k e o n : Nat} (hk : k < n) (ho : o < e) : k * e + o < n * e := by
  have : (k + 1) * e ≤ n * e := Nat.mul_le_mul_right _ hk
  rw [Nat.add_mul] at this; omega

theorem seg_inj {k k' e o o' : Nat} (ho : o < e) (ho' : o' < e) (h : k * e + o = k' * e + o') : k = k' ∧ o = o' := by
  rcases Nat.lt_trichotomy k k' with hlt | heq | hlt
  · have := mul_lt_seg hlt ho; omega
  · subst heq; exact ⟨rfl, by omega⟩
  · have := mul_lt_seg hlt ho'; omega

/-- A store into an element. -/
theorem Mem.vstore {P : Program} (h : Mem M w0 ρ S w) {i r b k o : Nat} {vc : Vc} {xs : List AVal} {vs : List Value} (hvc : S.vec i = some vc) (hw : vc.wr = true) (hr : ρ i = some (r, b)) (hk : k < vc.n.val)
    (hf : fitsL vc.sh o xs = true) (hv : VL ρ xs vs) : ∃ w', (storeCells ⟨r, b + (k * lenL vc.sh + o), none⟩ vs).run P w = .ok () w' ∧ Mem M w0 ρ (S.put [] [(i, vc.put k o xs)] []) w' := by
  have hl := VL_length xs vs hv
  have hfs := fitsL_spec vc.sh xs o hf
  have hcap := h.hp.vcap i vc r b hvc hw hr
  have hoff : ∀ j, j < vs.length → k * lenL vc.sh + o + j < ρ.cap i * lenL vc.sh := fun j hj => by
    obtain ⟨c, hc, _⟩ := hfs j (by omega)
    have h1 := nthC_lt hc
    have := mul_lt_seg (Nat.lt_of_lt_of_le hk hcap) h1
    omega
  have hwB : S.wrB i = true := wrB_iff.2 (Or.inr ⟨vc, hvc, hw⟩)
  obtain ⟨w', hrun, e1, e2, e3, e4, e5, e6, e7, e8⟩ := run_storeCells (P := P) r (b + (k * lenL vc.sh + o)) vs 0 w (VL_mem xs vs hv (fitsL_allOne _ _ _ hf))
    (fun j hj => by
      obtain ⟨⟨v, h1⟩, _⟩ := h.hp.vfrz i vc r b _ hvc hw hr (hoff j hj)
      exact ⟨v, by rw [← h1]; congr 1; simp only [Addr.mk.injEq, true_and, and_true]; omega⟩)
    (fun j hj => by
      obtain ⟨_, h1⟩ := h.hp.vfrz i vc r b _ hvc hw hr (hoff j hj)
      rw [← h1]; congr 1; simp only [Addr.mk.injEq, true_and, and_true]; omega)
  simp only [Nat.add_zero] at e7 e8
  have hcl : ∀ i' o', (S.put [] [(i, vc.put k o xs)] []).cell i' o' = S.cell i' o' := fun i' o' => by simp [St.put, St.ext, St.cell, St.blk, hlookL, hlook1]
  have hother : ∀ (i' r' b' q : Nat), i' ≠ i → ρ i' = some (r', b') → S.live i' = true → w'.cell? ⟨r', b' + q, none⟩ = w.cell? ⟨r', b' + q, none⟩ := fun i' r' b' q hne hr' hlv =>
    e8 _ (fun j hj e => by
      simp only [Addr.mk.injEq, and_true] at e
      exact h.hp.dis i i' r b b' (Ne.symm hne) hwB hr (by rw [hr', e.1]) hlv)
  refine ⟨w', hrun, h.step (M' := fun a => ∃ j, j < vs.length ∧ a = ⟨r, b + (k * lenL vc.sh + o) + j, none⟩) ⟨e1, e2, e3, by omega, ?_, ?_, fun a _ => e5 a⟩ ?_ ?_ ?_ ?_ ?_ ?_ ?_ (fun k => by simp [St.put, St.ext, St.blk]) (by simp [St.put, St.ext]) ?_ ?_⟩
  · intro q hq hn
    by_cases hqr : q = r
    · subst hqr
      cases vs with
      | nil =>
        simp [storeCells] at hrun
        rw [← hrun]
      | cons v vs => exact absurd ⟨0, by simp, rfl⟩ (hn (b + (k * lenL vc.sh + o)))
    · exact e6 q hqr
  · intro a ha hn
    exact e8 a (fun j hj e => hn ⟨j, hj, e⟩)
  · rintro a ⟨j, hj, rfl⟩
    exact Or.inr ⟨i, vc, r, b, k * lenL vc.sh + o + j, hvc, hw, hr, hoff j hj, by rw [Nat.add_assoc]⟩
  · intro i' o' x hx
    rw [hcl] at hx
    obtain ⟨r', b', v, k1, k2, k3⟩ := h.hp.cell i' o' x hx
    have hne : i' ≠ i := fun e => by
      subst e
      have h1 := vec_cells hvc
      have h2 := cell_off hx
      rw [h1] at h2; simp at h2
    exact ⟨r', b', v, k1, by rw [hother i' r' b' o' hne k1 (live_cell hx)]; exact k2, k3⟩
  · intro i' o' x hx
    rw [hcl] at hx; exact ⟨x, hx⟩
  · intro i' vc' r' b' q p c hx hr' hq hc
    rw [put_vv_vec] at hx
    cases hy : S.vec i' with
    | none => rw [hy] at hx; cases hx
    | some y =>
      rw [hy] at hx
      simp only at hx
      split at hx
      · rename_i hii
        subst hii
        cases hx
        rw [hr] at hr'; cases hr'
        have hc' : nthC p vc.sh = some c := hc
        have hq' : q < vc.n.val := hq
        rw [hvc] at hy; cases hy
        show ∃ v, w'.cell? ⟨r, b + (q * lenL vc.sh + p), none⟩ = some v ∧ V ρ ((vc.put k o xs).mkA q p c) v
        rw [put_mkA]
        by_cases hs : inSeg k o (lenL xs) q p = true
        · rw [if_pos hs]
          obtain ⟨rfl, h1, h2⟩ := inSeg_true.1 hs
          rw [lenL_eq] at h2
          obtain ⟨u, hu, hvu⟩ := VL_nth xs vs hv (p - o) (by omega)
          obtain ⟨c', hc1, hc2⟩ := hfs (p - o) (by omega)
          have ep : o + (p - o) = p := by omega
          rw [ep, hc'] at hc1; cases hc1
          refine ⟨u, ?_, fits_V hc2 hvu⟩
          have := e7 (p - o) u hu
          rw [← this]; congr 1; simp only [Addr.mk.injEq, true_and, and_true]; omega
        · rw [if_neg hs]
          obtain ⟨v, k2, k3⟩ := h.hp.vcell i' vc r b q p c hvc hr hq' hc'
          refine ⟨v, ?_, k3⟩
          rw [e8 _ (fun j hj e => ?_)]
          · exact k2
          · simp only [Addr.mk.injEq, true_and, and_true] at e
            obtain ⟨c', hc1, _⟩ := hfs j (by omega)
            have h1 := nthC_lt hc1
            have h2 := nthC_lt hc'
            obtain ⟨rfl, rfl⟩ := seg_inj (k := q) (k' := k) (o := p) (o' := o + j) h2 h1 (by omega)
            exact hs (inSeg_true.2 ⟨rfl, by omega, by rw [lenL_eq]; omega⟩)
      · rename_i hii
        cases hx
        obtain ⟨v, k2, k3⟩ := h.hp.vcell i' vc' r' b' q p c hy hr' hq hc
        exact ⟨v, by rw [hother i' r' b' _ hii hr' (live_vec hy hc)]; exact k2, k3⟩
  · intro i' vc' hx
    rw [put_vv_vec] at hx
    cases hy : S.vec i' with
    | none => rw [hy] at hx; cases hx
    | some y =>
      rw [hy] at hx
      simp only at hx
      split at hx
      · rename_i hii; subst hii; cases hx
        rw [hvc] at hy; cases hy
        exact ⟨vc, rfl, rfl, fun h => ⟨h, Nat.le_refl _⟩⟩
      · cases hx; exact ⟨vc', rfl, rfl, fun h => ⟨h, Nat.le_refl _⟩⟩
  · intro j hj
    rcases live_iff.1 hj with ⟨x, hx⟩ | ⟨v, c, sh, hx, hs⟩
    · rw [hcl] at hx; exact live_cell hx
    · rw [put_vv_vec] at hx
      cases hy : S.vec j with
      | none => rw [hy] at hx; cases hx
      | some y =>
        rw [hy] at hx
        simp only at hx
        split at hx
        · rename_i hii; subst hii; cases hx
          rw [hvc] at hy; cases hy
          exact live_iff.2 (Or.inr ⟨vc, c, sh, hvc, hs⟩)
        · cases hx
          exact live_iff.2 (Or.inr ⟨v, c, sh, hy, hs⟩)
  · intro i' vc' r' b' q v hx _ hr' hv0
    by_cases hq : ∃ j, j < vs.length ∧ (⟨r', b' + q, none⟩ : Addr) = ⟨r, b + (k * lenL vc.sh + o) + j, none⟩
    · obtain ⟨j, hj, e⟩ := hq
      rw [e]
      exact ⟨vs[j], e7 j vs[j] (List.getElem?_eq_getElem hj)⟩
    · exact ⟨v, by rw [e8 _ (fun j hj e => hq ⟨j, hj, e⟩)]; exact hv0⟩
  · intro i' o' x hx
    have := h.hp.ink i' o' x (by simpa [St.put, St.ext, hlookL, hlook1] using hx)
    simpa [St.put, St.ext] using this
  · intro i' x hx
    simp only [St.put, St.ext, vlookL, vlook1, List.append_nil] at hx ⊢
    cases hb : Nat.beq i' i with
    | true =>
      have := Nat.eq_of_beq_eq_true hb
      subst this
      exact h.hp.dom _ _ hr
    | false =>
      rw [hb] at hx
      exact h.hp.vink i' x hx
end
end
end Go.Ab
