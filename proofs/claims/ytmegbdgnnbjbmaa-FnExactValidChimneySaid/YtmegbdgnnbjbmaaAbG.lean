import Derived.Test.YtmegbdgnnbjbmaaAbF
namespace Go.Ab
open Go Go.RowKit
set_option linter.unusedVariables false
section
variable {M : Addr → Prop} {w0 : World} {ρ : Rho} {S : St} {w : World}

/-- The cells of the blocks that were there. -/
theorem merge_cell {b : Bool} {d1 d2 : Dl} {i o : Nat} {x : AVal} (hi : i < S.hp.length) (hx : (S.ext (mergeD b S d1 d2)).cell i o = some x) :
    ∃ y, (S.ext (if b then d1 else d2)).cell i o = some y ∧ ∀ ρ v, V ρ y v → V ρ x v := by
  have hoff := cell_off hx
  rw [blk_ext_left _ _ hi] at hoff
  obtain ⟨y1, hy1⟩ := cell_some (S := S.ext d1) (i := i) (o := o) (by rw [blk_ext_left _ _ hi]; exact hoff)
  obtain ⟨y2, hy2⟩ := cell_some (S := S.ext d2) (i := i) (o := o) (by rw [blk_ext_left _ _ hi]; exact hoff)
  refine ⟨if b then y1 else y2, by cases b <;> simp [hy1, hy2], ?_⟩
  unfold St.cell at hx
  rw [blk_ext_left _ _ hi, Nat.ble_eq_true_of_le hoff] at hx
  simp only [St.ext, mergeD, hlookL, hlook1_mergeHv, keysH_mem, List.not_mem_nil, false_or] at hx
  by_cases hc : (hlook1 i o d1.hv).isSome = true ∨ (hlook1 i o d2.hv).isSome = true
  · rw [if_pos ⟨hc, hi⟩] at hx
    simp only [Option.some.injEq] at hx
    subst hx
    intro ρ v hv
    apply mergeV_sound
    simp only [cellD]
    have e1 : (S.ext d1).cell i o = some y1 := hy1
    have e2 : (S.ext d2).cell i o = some y2 := hy2
    simp only [St.ext] at e1 e2
    rw [e1, e2]
    cases b <;> simpa using hv
  · rw [if_neg (fun h => hc h.1)] at hx
    have n1 : hlook1 i o d1.hv = none := by
      cases hh : hlook1 i o d1.hv with
      | none => rfl
      | some z => exact absurd (Or.inl (by simp [hh])) hc
    have n2 : hlook1 i o d2.hv = none := by
      cases hh : hlook1 i o d2.hv with
      | none => rfl
      | some z => exact absurd (Or.inr (by simp [hh])) hc
    have e1 : y1 = x := by
      have := hy1
      unfold St.cell at this
      rw [blk_ext_left _ _ hi, Nat.ble_eq_true_of_le hoff] at this
      simp only [St.ext, hlookL, n1] at this
      rw [this] at hx; simpa using hx
    have e2 : y2 = x := by
      have := hy2
      unfold St.cell at this
      rw [blk_ext_left _ _ hi, Nat.ble_eq_true_of_le hoff] at this
      simp only [St.ext, hlookL, n2] at this
      rw [this] at hx; simpa using hx
    subst e1; subst e2
    intro ρ v hv
    cases b <;> simpa using hv

theorem cell_old {d d' : Dl} (h : d.hv = d'.hv) {i : Nat} (hi : i < S.hp.length) (o : Nat) : (S.ext d).cell i o = (S.ext d').cell i o := by
  unfold St.cell
  rw [blk_ext_left _ _ hi, blk_ext_left _ _ hi]
  simp only [St.ext, h]
theorem vec_old {d d' : Dl} (h : d.vv = d'.vv) {i : Nat} (hi : i < S.hp.length) : (S.ext d).vec i = (S.ext d').vec i := by
  unfold St.vec
  rw [blk_ext_left _ _ hi, blk_ext_left _ _ hi]
  simp only [St.ext, h]

theorem nth_blksOf : ∀ (l : List Vc) (t : Nat), nthB t (blksOf l) = ⟨[], false, l[t]?⟩
  | [], t => by cases t <;> rfl
  | v :: l, 0 => rfl
  | v :: l, t + 1 => by simpa [blksOf, nthB] using nth_blksOf l t
theorem len_blksOf : ∀ l : List Vc, (blksOf l).length = l.length
  | [] => rfl
  | v :: l => by simp [blksOf, len_blksOf l]

/-- What holds of the caller's memory where a call has answered. -/
structure RtOk (S : St) (M : Addr → Prop) (w0 : World) (ρ : Rho) (hv : List ((Nat × Nat) × AVal)) (vv : List (Nat × Vc)) (vs : List Vc) (w : World) : Prop where
  mem : Mem M w0 ρ (S.ext ⟨[], hv, vv, blksOf vs, [], true⟩) w
  emp : ∀ t vc, vs[t]? = some vc → vc.sh = [] → ρ (S.hp.length + t) = none
  low : ∀ i, S.hp.length ≤ i → vlook1 i vv = none

theorem mergeVs_spec {b : Bool} : ∀ (xs ys l : List Vc), mergeVs b xs ys = some l → xs.length = l.length ∧ ys.length = l.length ∧
    ∀ (t : Nat) (z : Vc), l[t]? = some z → ∃ (x y : Vc), xs[t]? = some x ∧ ys[t]? = some y ∧ okVr x y = true ∧ z = mergeVr b x y
  | [], [], l, h => by simp [mergeVs] at h; subst h; exact ⟨rfl, rfl, fun t z hz => by simp at hz⟩
  | [], y :: ys, l, h => by simp [mergeVs] at h
  | x :: xs, [], l, h => by simp [mergeVs] at h
  | x :: xs, y :: ys, l, h => by
    unfold mergeVs at h
    split at h
    · rename_i hok
      split at h
      · rename_i l' hl; cases h
        obtain ⟨h1, h2, h3⟩ := mergeVs_spec xs ys l' hl
        refine ⟨by simp [h1], by simp [h2], fun t z hz => ?_⟩
        cases t with
        | zero => simp at hz; exact ⟨x, y, rfl, rfl, hok, hz.symm⟩
        | succ t => simpa using h3 t z (by simpa using hz)
      · cases h
    · cases h

theorem mergeVr_spec {b : Bool} {x y : Vc} (h : okVr x y = true) :
    ((mergeVr b x y).sh = [] → (if b then x else y).sh = []) ∧ ((if b then x else y).sh = [] ∨ VWeak (if b then x else y) (mergeVr b x y)) := by
  cases h1 : x.sh with
  | nil =>
    cases h2 : y.sh with
    | nil => exact ⟨fun _ => by (cases b <;> simp [h1, h2]), Or.inl (by cases b <;> simp [h1, h2])⟩
    | cons d sh' =>
      have e : mergeVr b x y = ⟨d :: sh', mergeNum b (.lit 0) y.n, y.fd, y.gd, y.bd, y.wr⟩ := by simp only [mergeVr, h1, h2]
      rw [e]
      refine ⟨fun h => absurd h (by simp), ?_⟩
      cases b with
      | true => left; simpa using h1
      | false =>
        right; right
        simp only [Bool.false_eq_true, if_false]
        refine ⟨h2, by show (mergeNum false (.lit 0) y.n).val = _; rw [mergeNum_val]; rfl, fun h => h, fun k o c ρ v hv => ?_⟩
        cases c <;> simpa [Vc.mkA] using hv
  | cons c sh =>
    cases h2 : y.sh with
    | nil =>
      have e : mergeVr b x y = ⟨c :: sh, mergeNum b x.n (.lit 0), x.fd, x.gd, x.bd, x.wr⟩ := by simp only [mergeVr, h1, h2]
      rw [e]
      refine ⟨fun h => absurd h (by simp), ?_⟩
      cases b with
      | false => left; simpa using h2
      | true =>
        right; right
        simp only [if_true]
        refine ⟨h1, by show (mergeNum true x.n (.lit 0)).val = _; rw [mergeNum_val]; rfl, fun h => h, fun k o c ρ v hv => ?_⟩
        cases c <;> simpa [Vc.mkA] using hv
    | cons d sh' =>
      have he : eqSh (c :: sh) (d :: sh') = true := by simpa only [okVr, h1, h2] using h
      have e : mergeVr b x y = mergeVc b x y := by simp only [mergeVr, mergeVc, h1, h2, he]
      refine ⟨fun h => ?_, Or.inr (by rw [e]; exact mergeVc_weak b x y)⟩
      simp only [mergeVr, h1, h2, he] at h
      cases h

/-- TWO ENDS BECOME ONE. -/
theorem RtOk.merge {b : Bool} {X Y : Rt} {vs : List Vc} (hSh : ∀ i o x, hlookL i o S.hvs = some x → i < S.hp.length) (hSv : ∀ i x, vlookL i S.vvs = some x → i < S.hp.length) (hvs : mergeVs b X.vs Y.vs = some vs)
    (h : RtOk S M w0 ρ (if b then X else Y).hv (if b then X else Y).vv (if b then X else Y).vs w) : RtOk S M w0 ρ (mergeD b S X.dl Y.dl).hv (mergeD b S X.dl Y.dl).vv vs w := by
  obtain ⟨hl1, hl2, hz⟩ := mergeVs_spec _ _ _ hvs
  have hsel : (if b then X.dl else Y.dl) = ⟨[], (if b then X else Y).hv, (if b then X else Y).vv, blksOf (if b then X else Y).vs, [], true⟩ := by cases b <;> rfl
  have hm := h.mem
  rw [← hsel] at hm
  have hlen : (S.ext ⟨[], (mergeD b S X.dl Y.dl).hv, (mergeD b S X.dl Y.dl).vv, blksOf vs, [], true⟩).hp.length = S.hp.length + vs.length := by simp [St.ext, len_blksOf]
  have hlen' : (S.ext (if b then X.dl else Y.dl)).hp.length = S.hp.length + vs.length := by cases b <;> simp [St.ext, Rt.dl, len_blksOf, hl1, hl2]
  have hcell : ∀ i o x, (S.ext ⟨[], (mergeD b S X.dl Y.dl).hv, (mergeD b S X.dl Y.dl).vv, blksOf vs, [], true⟩).cell i o = some x → i < S.hp.length ∧ ∃ y, (S.ext (if b then X.dl else Y.dl)).cell i o = some y ∧ ∀ ρ v, V ρ y v → V ρ x v := by
    intro i o x hx
    have hi : i < S.hp.length := by
      rcases Nat.lt_or_ge i S.hp.length with hlt | hge
      · exact hlt
      · have hoff := cell_off hx
        have e : i = S.hp.length + (i - S.hp.length) := by omega
        rw [e, blk_ext_right, nth_blksOf] at hoff
        simp at hoff
    have hx := (cell_old (S := S) (d := mergeD b S X.dl Y.dl) (d' := ⟨[], (mergeD b S X.dl Y.dl).hv, (mergeD b S X.dl Y.dl).vv, blksOf vs, [], true⟩) rfl hi o).trans hx
    exact ⟨hi, merge_cell hi hx⟩
  have hwr : ∀ i, i < S.hp.length → ((S.ext ⟨[], (mergeD b S X.dl Y.dl).hv, (mergeD b S X.dl Y.dl).vv, blksOf vs, [], true⟩).blk i).wr = true → ((S.ext (if b then X.dl else Y.dl)).blk i).wr = true := by
    intro i hlt hi
    rw [blk_ext_left _ _ hlt] at hi ⊢; exact hi
  have hvec : ∀ i x p, (S.ext ⟨[], (mergeD b S X.dl Y.dl).hv, (mergeD b S X.dl Y.dl).vv, blksOf vs, [], true⟩).vec i = some x → ρ i = some p → ∃ y, (S.ext (if b then X.dl else Y.dl)).vec i = some y ∧ VWeak y x := by
    intro i x p hx hp
    rcases Nat.lt_or_ge i S.hp.length with hlt | hge
    · have hx := (vec_old (S := S) (d := mergeD b S X.dl Y.dl) (d' := ⟨[], (mergeD b S X.dl Y.dl).hv, (mergeD b S X.dl Y.dl).vv, blksOf vs, [], true⟩) rfl hlt).trans hx
      exact (merge_vec hx).2
    · have e : i = S.hp.length + (i - S.hp.length) := by omega
      have hnv : vlookL i S.vvs = none := by
        cases hh : vlookL i S.vvs with
        | none => rfl
        | some z => have := hSv i z hh; omega
      have hnd : vlook1 i (mergeD b S X.dl Y.dl).vv = none := by
        simp only [mergeD, vlook1_mergeVv]
        rw [if_neg (by omega)]
      have hx' : vs[i - S.hp.length]? = some x := by
        unfold St.vec at hx
        rw [e, blk_ext_right, ← e] at hx
        simp only [nth_blksOf] at hx
        split at hx
        · rename_i v hv hv'
          simp only [St.ext, vlookL, hnd, hnv] at hx
          rw [← hx]; assumption
        · cases hx
      obtain ⟨u1, u2, k1, k2, k3, rfl⟩ := hz _ _ hx'
      obtain ⟨m1, m2⟩ := mergeVr_spec (b := b) k3
      have hu : (if b then X else Y).vs[i - S.hp.length]? = some (if b then u1 else u2) := by cases b <;> simp [k1, k2]
      have hne : (if b then u1 else u2).sh ≠ [] := fun hs => by
        have := h.emp _ _ hu hs
        rw [← e] at this
        rw [this] at hp; cases hp
      refine ⟨if b then u1 else u2, ?_, m2.resolve_left hne⟩
      have hlw := h.low i hge
      unfold St.vec
      rw [e, blk_ext_right, ← e]
      have hnw : (if b then X.dl else Y.dl).nw = blksOf (if b then X else Y).vs := by rw [hsel]
      have hvv : (if b then X.dl else Y.dl).vv = (if b then X else Y).vv := by rw [hsel]
      rw [hnw, nth_blksOf, hu]
      simp only [St.ext, vlookL, hvv, hlw, hnv]
  refine ⟨⟨⟨?_, ?_, ?_, ?_, ?_, ?_, ?_, ?_, ?_, ?_, hm.hp.lt⟩, hm.fr, ⟨?_, ?_⟩⟩, ?_, ?_⟩
  · intro i o x hx
    obtain ⟨_, y, hy, hyx⟩ := hcell i o x hx
    obtain ⟨r, bb, v, k1, k2, k3⟩ := hm.hp.cell i o y hy
    exact ⟨r, bb, v, k1, k2, hyx ρ v k3⟩
  · intro i x r bb k o c hx hr hk hc
    obtain ⟨y, hy, hw⟩ := hvec i x _ hx hr
    rcases hw with ⟨h1, _⟩ | ⟨h1, h2, h3, h4⟩
    · rw [h1] at hc; simp [nthC] at hc
    · obtain ⟨v, k1, k2⟩ := hm.hp.vcell i y r bb k o c hy hr (by omega) (by rw [h1]; exact hc)
      exact ⟨v, by rw [← h1]; exact k1, h4 k o c ρ v k2⟩
  · intro i o x r bb hx hw hr
    obtain ⟨hi, y, hy, _⟩ := hcell i o x hx
    exact hm.hp.frz i o y r bb hy (hwr i hi hw) hr
  · intro i x r bb q hx hw hr hq
    obtain ⟨y, hy, hwk⟩ := hvec i x _ hx hr
    rcases hwk with ⟨_, h1⟩ | ⟨h1, h2, h3, h4⟩
    · rw [h1] at hw; cases hw
    · exact hm.hp.vfrz i y r bb q hy (h3 hw) hr (by rw [h1]; exact hq)
  · intro i x r bb hx hw hr
    obtain ⟨y, hy, hwk⟩ := hvec i x _ hx hr
    rcases hwk with ⟨_, h1⟩ | ⟨h1, h2, h3, h4⟩
    · rw [h1] at hw; cases hw
    · rw [h2]; exact hm.hp.vcap i y r bb hy (h3 hw) hr
  · intro i j r bb b' hij hw hr hr' hlv
    refine hm.hp.dis i j r bb b' hij ?_ hr hr' ?_
    · rcases wrB_iff.1 hw with ⟨o, x, hx, hw⟩ | ⟨x, hx, hw⟩
      · obtain ⟨hi, y, hy, _⟩ := hcell i o x hx
        exact wrB_iff.2 (Or.inl ⟨o, y, hy, hwr i hi hw⟩)
      · obtain ⟨y, hy, hwk⟩ := hvec i x _ hx hr
        rcases hwk with ⟨_, h1⟩ | ⟨h1, h2, h3, h4⟩
        · rw [h1] at hw; cases hw
        · exact wrB_iff.2 (Or.inr ⟨y, hy, h3 hw⟩)
    · rcases live_iff.1 hlv with ⟨x, hx⟩ | ⟨x, c, sh, hx, hs⟩
      · obtain ⟨_, y, hy, _⟩ := hcell j 0 x hx
        exact live_cell hy
      · obtain ⟨y, hy, hwk⟩ := hvec j x _ hx hr'
        rcases hwk with ⟨h1, _⟩ | ⟨h1, h2, h3, h4⟩
        · rw [h1] at hs; cases hs
        · exact live_iff.2 (Or.inr ⟨y, c, sh, hy, by rw [h1]; exact hs⟩)
  · intro i p hp
    have := hm.hp.dom i p hp
    rw [hlen]; omega
  · intro i hk
    have := hm.hp.kdm i hk
    rw [hlen]; omega
  · intro i o x hx
    rw [hlen]
    simp only [St.ext, mergeD, hlookL, hlook1_mergeHv, keysH_mem, List.not_mem_nil, false_or] at hx
    split at hx
    · rename_i v hv
      split at hv
      · rename_i hc; omega
      · cases hv
    · have := hSh i o x hx; omega
  · intro i x hx
    rw [hlen]
    simp only [St.ext, mergeD, vlookL, vlook1_mergeVv, keysV_mem, List.not_mem_nil, false_or] at hx
    split at hx
    · rename_i v hv
      split at hv
      · rename_i hc; omega
      · cases hv
    · have := hSv i x hx; omega
  · intro i o x r bb hx hw hr
    obtain ⟨hi, y, hy, _⟩ := hcell i o x hx
    exact hm.own.cell i o y r bb hy (hwr i hi hw) hr
  · intro i x r bb q hx hw hr hq
    obtain ⟨y, hy, hwk⟩ := hvec i x _ hx hr
    rcases hwk with ⟨_, h1⟩ | ⟨h1, h2, h3, h4⟩
    · rw [h1] at hw; cases hw
    · exact hm.own.vec i y r bb q hy (h3 hw) hr (by rw [h1]; exact hq)
  · intro t vc ht hs
    obtain ⟨u1, u2, k1, k2, k3, rfl⟩ := hz _ _ ht
    have := (mergeVr_spec (b := b) k3).1 hs
    exact h.emp t _ (by cases b <;> simp [k1, k2]) this
  · intro i hi
    simp only [mergeD, vlook1_mergeVv]
    rw [if_neg (by omega)]
end
end Go.Ab
