import Derived.Test.YtmegbdgnnbjbmaaAbH
namespace Go.Ab
open Go Go.RowKit
set_option linter.unusedVariables false
section
variable {P : Program} {N : Nat} {M : Addr → Prop} {w0 : World} {ρ : Rho} {S : St} {w : World}

theorem Mem.reRho {ρ' : Rho} (h : Mem M w0 ρ S w) (h1 : Ext ρ ρ') (h2 : Ext ρ' ρ) : Mem M w0 ρ' S w := by
  have hp : ∀ {i p}, ρ' i = some p → ρ i = some p := fun {i p} hp => (h2.at_ i p hp).1
  have hc : ∀ {i p}, ρ' i = some p → ρ.cap i = ρ'.cap i := fun {i p} hp => (h2.at_ i p hp).2
  refine ⟨⟨fun i o x hx => ?_, fun i vc r b k o c hx hr hk hcc => ?_, fun i o x r b hx hw hr => h.hp.frz i o x r b hx hw (hp hr), fun i vc r b q hx hw hr hq => ?_, fun i vc r b hx hw hr => ?_, fun i j r b b' hij hw hr hr' hl => h.hp.dis i j r b b' hij hw (hp hr) (hp hr') hl, fun i p hr => h.hp.dom i p (hp hr), fun i hr => h.hp.kdm i (h2.kn i hr), h.hp.ink, h.hp.vink, fun i r b hr => h.hp.lt i r b (hp hr)⟩, h.fr, ⟨fun i o x r b hx hw hr => h.own.cell i o x r b hx hw (hp hr), fun i vc r b q hx hw hr hq => ?_⟩⟩
  · obtain ⟨r, b, v, k1, k2, k3⟩ := h.hp.cell i o x hx
    exact ⟨r, b, v, (h1.at_ i _ k1).1, k2, V_ext h1 _ _ k3⟩
  · obtain ⟨v, k1, k2⟩ := h.hp.vcell i vc r b k o c hx (hp hr) hk hcc
    exact ⟨v, k1, V_ext h1 _ _ k2⟩
  · exact h.hp.vfrz i vc r b q hx hw (hp hr) (by rw [hc hr]; exact hq)
  · rw [← hc hr]; exact h.hp.vcap i vc r b hx hw (hp hr)
  · exact h.own.vec i vc r b q hx hw (hp hr) (by rw [hc hr]; exact hq)

theorem nm_start {X : St} {base : Nat} {ρ' : Rho} : NmOk base X ρ' ⟨[], [], true⟩ (cutR base ρ') (fun _ => none) := by
  refine ⟨fun i hi => ⟨by simp [cutR, hi], rfl, by simp [cutR, hi]⟩, fun i hi => ?_, fun t ht => by simp at ht, fun t vc h => by simp at h, fun t vc i h => by simp at h, fun t t' i h => by simp at h⟩
  have : ¬ i < base := by simpa using hi
  exact ⟨by simp [cutR, this], by simp [cutR, this]⟩

/-- What an end says. -/
def FinP (P : Program) (fn : Func) (S : St) (M : Addr → Prop) (w0 : World) (ρ : Rho) (pn : Option (Bool × AVal)) (rt : Option Rt) (e : Ex) (ex : Exit) (a : Act) (w : World) : Prop :=
  a.defers = [] ∧ match e with
  | .panic _ => ∃ v u, ex = .panic [{ v := u, recovered := false }] ∧ pn = some (true, v) ∧ V ρ v u ∧ Mem M w0 ρ S w
  | .exit _ => False
  | _ => (ex = .normal ∨ ex = .ret) ∧ (∀ b v, pn = some (b, v) → b = false) ∧ ∃ x u ρm, rt = some x ∧ (results fn a.tmps).run P w = .ok u w ∧ ExtS S.hp.length ρ ρm ∧ V ρm x.v u ∧ RtOk S M w0 ρm x.hv x.vv x.vs w

theorem noDfs_eq {l : List (AVal × List AVal)} (h : noDfs l = true) : l = [] := by
  cases l with
  | nil => rfl
  | cons _ _ => cases h

theorem leafT_sound {fn : Func} (hS : Mem M w0 ρ S w) {T : St} {e : Ex} {d : Dl} {ahv : List ((Nat × Nat) × AVal)} {avv : List (Nat × Vc)} {f : FR} (h : leafT P fn.results.toList S.hp.length T e d ahv avv = some f) (hn : f.nd = true) (hacc : Acc S T ahv avv) :
    d.nd = true ∧ ∀ (ρ' : Rho) (a : Act) (w' : World) (ex : Exit), ExtS S.hp.length ρ ρ' → Rel N M w0 ρ' (T.ext d) a w' → ExR ρ' e ex → FinP P fn S M w0 ρ f.pn f.rt e ex a w' := by
  unfold leafT at h
  split at h
  · rename_i hdf
    have hdf := noDfs_eq hdf
    have hd0 : ∀ {ρ' : Rho} {a : Act} {w' : World}, Rel N M w0 ρ' (T.ext d) a w' → a.defers = [] := fun hR => by
      have := hR.df
      rw [hdf] at this
      exact this
    have ret : ∀ (e' : Ex), (match getRes P (T.ext d) fn.results.toList with
        | some vs => match normV S.hp.length (T.ext d) (one vs) ⟨[], [], true⟩, oldHv S.hp.length (d.hv ++ ahv) with
          | some (v, m), some hv => some (⟨none, some ⟨v, m.vs, hv, oldVv S.hp.length (d.vv ++ avv)⟩, cond d.nd m.nd false⟩ : FR)
          | _, _ => none
        | none => none) = some f → d.nd = true ∧ ∀ (ρ' : Rho) (a : Act) (w' : World), ExtS S.hp.length ρ ρ' → Rel N M w0 ρ' (T.ext d) a w' →
          (∀ b v, f.pn = some (b, v) → b = false) ∧ ∃ x u ρm, f.rt = some x ∧ (results fn a.tmps).run P w' = .ok u w' ∧ ExtS S.hp.length ρ ρm ∧ V ρm x.v u ∧ RtOk S M w0 ρm x.hv x.vv x.vs w' := by
      intro e' h
      split at h
      · rename_i vs hvs
        split at h
        · rename_i v m hv hnv ho
          cases h
          obtain ⟨h1, h2⟩ := cond_and hn
          refine ⟨h1, fun ρ' a w' hext hR => ⟨fun b v h => (by cases h), ?_⟩⟩
          obtain ⟨u, hu1, hu2⟩ := results_run hR hvs
          obtain ⟨_, _, ρm, src, g3, _, g5⟩ := normV_sound (one vs) ⟨[], [], true⟩ m v u (cutR S.hp.length ρ') (fun _ => none) hnv h2 hu2 nm_start
          obtain ⟨k1, k2⟩ := leaf_mem hS hR.mem hext (hacc.ext d) ho g3
          exact ⟨_, u, ρm, rfl, hu1, k1, g5, k2⟩
        · cases h
      · cases h
    cases e with
    | exit id => simp at h
    | normal =>
      obtain ⟨h1, h2⟩ := ret .normal h
      exact ⟨h1, fun ρ' a w' ex hext hR hx => ⟨hd0 hR, Or.inl hx, h2 ρ' a w' hext hR⟩⟩
    | ret =>
      obtain ⟨h1, h2⟩ := ret .ret h
      exact ⟨h1, fun ρ' a w' ex hext hR hx => ⟨hd0 hR, Or.inr hx, h2 ρ' a w' hext hR⟩⟩
    | panic v =>
      simp only at h
      split at h
      · rename_i hfl
        split at h
        · rename_i ho hov
          cases h
          refine ⟨hn, fun ρ' a w' ex hext hR hx => ⟨hd0 hR, ?_⟩⟩
          obtain ⟨u, hu, hex⟩ := hx
          refine ⟨v, u, hex, rfl, V_flat _ _ hfl hu, ?_⟩
          obtain ⟨k1, k2⟩ := leaf_mem hS hR.mem hext (hacc.ext d) ho (nm_start (base := S.hp.length) (X := T.ext d) (ρ' := ρ'))
          have hm := k2.mem
          have hm' : Mem M w0 (cutR S.hp.length ρ') S w' := by
            rw [hov] at hm
            refine hm.same (fun i o => ?_) (fun i => ?_) (fun i => ?_) ?_ ?_ ?_
            · simp [St.ext, St.cell, St.blk, hlookL, hlook1, blksOf]
            · simp [St.ext, St.blk, blksOf]
            · simp [St.ext, St.vec, St.blk, vlookL, vlook1, blksOf]
            · simp [St.ext, blksOf]
            · exact hS.hp.ink
            · exact hS.hp.vink
          refine hm'.reRho ⟨fun i p hp => ?_, fun i hi => ?_⟩ k1.1
          · obtain ⟨hi, hp'⟩ := cutR_old hp
            have e : ρ i = some p := by rw [← hext.2.1 i hi]; exact hp'
            exact ⟨e, ((hext.1.at_ i p e).2).symm⟩
          · simp only [cutR, Bool.and_eq_true, decide_eq_true_eq] at hi
            rw [← hext.2.2 i hi.1]; exact hi.2
        · cases h
      · cases h
  · cases h

theorem mergeNum_ok {b : Bool} {n m : Num} (hn : b = true → n.ok) (hm : b = false → m.ok) : (mergeNum b n m).ok := by
  unfold mergeNum
  split
  · split <;> trivial
  · split
    · rename_i h
      have := Nat.eq_of_beq_eq_true h
      subst this
      cases b
      · exact hm rfl
      · exact hn rfl
    · trivial
  · trivial

theorem VecV.re {ρ : Rho} {i e e' : Nat} {n n' : Num} {v : Value} (h : VecV ρ i e 0 n v) (hn : n'.ok) (hv : n'.val = n.val) : VecV ρ i e' 0 n' v := by
  obtain ⟨_, hk, bs, c, h1, h2⟩ := h
  refine ⟨hn, hk, bs, c, by rw [hv]; exact h1, ?_⟩
  rw [hv]
  simpa using h2

mutual
theorem mergeRV_sound {ρ : Rho} {base : Nat} {b : Bool} : ∀ (x y : AVal) (v : Value), V ρ (if b then x else y) v → V ρ (mergeRV base b x y) v
  | .vec i e a n, y, v, h => by
    cases y with
    | vec i' e' a' n' =>
      simp only [mergeRV]
      split
      · rename_i hii
        have hii := Nat.eq_of_beq_eq_true hii
        subst hii
        split
        · exact mergeV_sound b _ _ v h
        · split
          · rename_i haa
            rw [Bool.and_eq_true] at haa
            have h1 := Nat.eq_of_beq_eq_true haa.1
            have h2 := Nat.eq_of_beq_eq_true haa.2
            subst h1; subst h2
            have key : ∀ e'', V ρ (.vec i e'' 0 (mergeNum b n n')) v := fun e'' => by
              unfold V
              cases b with
              | true =>
                simp only [if_true] at h
                unfold V at h
                exact h.re (mergeNum_ok (fun _ => h.1) (fun h => by cases h)) (by rw [mergeNum_val]; rfl)
              | false =>
                simp only [Bool.false_eq_true, if_false] at h
                unfold V at h
                exact h.re (mergeNum_ok (fun h => by cases h) (fun _ => h.1)) (by rw [mergeNum_val]; rfl)
            split
            · exact key _
            · exact key _
            · split
              · exact key _
              · unfold V; trivial
          · unfold V; trivial
      · unfold V; trivial
    | _ => exact mergeV_sound b _ _ v h
  | .agg xs, y, v, h => by
    cases y with
    | agg ys =>
      simp only [mergeRV]
      split
      · rename_i hl
        have hl := Nat.eq_of_beq_eq_true hl
        have h' : ∃ vs, v = .agg ⟨vs⟩ ∧ VL ρ (if b then xs else ys) vs := by
          cases b <;> (simp only [if_true, Bool.false_eq_true, if_false] at h ⊢; unfold V at h; exact h)
        obtain ⟨vs, hv, hvs⟩ := h'
        unfold V
        exact ⟨vs, hv, mergeRL_sound xs ys vs hl hvs⟩
      · unfold V; trivial
    | _ => exact mergeV_sound b _ _ v h
  | .tuple xs, y, v, h => by
    cases y with
    | tuple ys =>
      simp only [mergeRV]
      split
      · rename_i hl
        have hl := Nat.eq_of_beq_eq_true hl
        have h' : ∃ vs, v = .tuple ⟨vs⟩ ∧ VL ρ (if b then xs else ys) vs := by
          cases b <;> (simp only [if_true, Bool.false_eq_true, if_false] at h ⊢; unfold V at h; exact h)
        obtain ⟨vs, hv, hvs⟩ := h'
        unfold V
        exact ⟨vs, hv, mergeRL_sound xs ys vs hl hvs⟩
      · unfold V; trivial
    | _ => exact mergeV_sound b _ _ v h
  | .bad, y, v, h => mergeV_sound b _ _ v h
  | .bool _, y, v, h => mergeV_sound b _ _ v h
  | .sbool _, y, v, h => mergeV_sound b _ _ v h
  | .int _ _, y, v, h => mergeV_sound b _ _ v h
  | .sint _ _, y, v, h => mergeV_sound b _ _ v h
  | .cbool _ _, y, v, h => mergeV_sound b _ _ v h
  | .cint _ _ _, y, v, h => mergeV_sound b _ _ v h
  | .flt _ _, y, v, h => mergeV_sound b _ _ v h
  | .lint _ _ _, y, v, h => mergeV_sound b _ _ v h
  | .raw _, y, v, h => mergeV_sound b _ _ v h
  | .ptr _ _, y, v, h => mergeV_sound b _ _ v h
  | .vptr _ _ _ _, y, v, h => mergeV_sound b _ _ v h
  | .slice _ _ _ _, y, v, h => mergeV_sound b _ _ v h
  | .fn _ _ _, y, v, h => mergeV_sound b _ _ v h
  | .ifc _ _, y, v, h => mergeV_sound b _ _ v h
theorem mergeRL_sound {ρ : Rho} {base : Nat} {b : Bool} : ∀ (xs ys : List AVal) (vs : List Value), xs.length = ys.length → VL ρ (if b then xs else ys) vs → VL ρ (mergeRV.mergeRL base b xs ys) vs
  | [], [], vs, _, h => by simp only [ite_self] at h; simp only [mergeRV.mergeRL]; exact h
  | [], y :: ys, vs, hl, _ => by simp at hl
  | x :: xs, [], vs, hl, _ => by simp at hl
  | x :: xs, y :: ys, vs, hl, h => by
    simp only [mergeRV.mergeRL]
    have h' : ∃ v vs', vs = v :: vs' ∧ V ρ (if b then x else y) v ∧ VL ρ (if b then xs else ys) vs' := by
      cases b <;> (simp only [if_true, Bool.false_eq_true, if_false] at h ⊢; unfold VL at h; exact h)
    obtain ⟨v, vs', rfl, h1, h2⟩ := h'
    unfold VL
    exact ⟨v, vs', rfl, mergeRV_sound x y v h1, mergeRL_sound xs ys vs' (by simpa using hl) h2⟩
end

theorem mergeF_sound {fn : Func} (hS : Mem M w0 ρ S w) {b : Bool} {l r f : FR} (h : mergeF b S l r = some f) :
    f.nd = cond b l.nd r.nd ∧ ∀ e ex a w', FinP P fn S M w0 ρ (if b then l else r).pn (if b then l else r).rt e ex a w' → FinP P fn S M w0 ρ f.pn f.rt e ex a w' := by
  unfold mergeF at h
  have key : ∀ (pn : Option (Bool × AVal)), pn = (match l.pn, r.pn with
    | none, none => none
    | some (p, v), none => some (cond b p false, v)
    | none, some (p, v) => some (cond b false p, v)
    | some (p, v), some (q, u) => some (cond b p q, mergeV b v u)) →
      (∀ v, (if b then l else r).pn = some (true, v) → ∃ v', pn = some (true, v') ∧ ∀ u, V ρ v u → V ρ v' u) ∧ ((∀ c v, (if b then l else r).pn = some (c, v) → c = false) → ∀ c v, pn = some (c, v) → c = false) := by
    intro pn hpn
    subst hpn
    cases hl : l.pn with
    | none =>
      cases hr : r.pn with
      | none =>
        cases b <;> simp [hl, hr]
      | some q =>
        obtain ⟨q, u⟩ := q
        cases b
        · refine ⟨fun v hv => ?_, fun hf c v hv => ?_⟩
          · simp only [Bool.false_eq_true, if_false, hr, Option.some.injEq, Prod.mk.injEq] at hv
            obtain ⟨rfl, rfl⟩ := hv
            exact ⟨_, rfl, fun _ h => h⟩
          · simp only [Option.some.injEq, Prod.mk.injEq] at hv
            obtain ⟨rfl, rfl⟩ := hv
            exact hf q u (by simp [hr])
        · refine ⟨fun v hv => by simp [hl] at hv, fun hf c v hv => ?_⟩
          simp only [Option.some.injEq, Prod.mk.injEq] at hv
          exact hv.1.symm
    | some p =>
      obtain ⟨p, z⟩ := p
      cases hr : r.pn with
      | none =>
        cases b
        · refine ⟨fun v hv => by simp [hr] at hv, fun hf c v hv => ?_⟩
          simp only [Option.some.injEq, Prod.mk.injEq] at hv
          exact hv.1.symm
        · refine ⟨fun v hv => ?_, fun hf c v hv => ?_⟩
          · simp only [if_true, hl, Option.some.injEq, Prod.mk.injEq] at hv
            obtain ⟨rfl, rfl⟩ := hv
            exact ⟨_, rfl, fun _ h => h⟩
          · simp only [Option.some.injEq, Prod.mk.injEq] at hv
            obtain ⟨rfl, rfl⟩ := hv
            exact hf p z (by simp [hl])
      | some q =>
        obtain ⟨q, u⟩ := q
        refine ⟨fun v hv => ?_, fun hf c v hv => ?_⟩
        · cases b
          · simp only [Bool.false_eq_true, if_false, hr, Option.some.injEq, Prod.mk.injEq] at hv
            obtain ⟨rfl, rfl⟩ := hv
            exact ⟨_, rfl, fun x h => mergeV_sound false _ _ x (by simpa using h)⟩
          · simp only [if_true, hl, Option.some.injEq, Prod.mk.injEq] at hv
            obtain ⟨rfl, rfl⟩ := hv
            exact ⟨_, rfl, fun x h => mergeV_sound true _ _ x (by simpa using h)⟩
        · simp only [Option.some.injEq, Prod.mk.injEq] at hv
          obtain ⟨rfl, _⟩ := hv
          cases b
          · exact hf q u (by simp [hr])
          · exact hf p z (by simp [hl])
  obtain ⟨kp, kn⟩ := key _ rfl
  have fin : ∀ (rt : Option Rt) (pn : Option (Bool × AVal)), ((∀ v, (if b then l else r).pn = some (true, v) → ∃ v', pn = some (true, v') ∧ ∀ u, V ρ v u → V ρ v' u) ∧ ((∀ c v, (if b then l else r).pn = some (c, v) → c = false) → ∀ c v, pn = some (c, v) → c = false)) →
      (∀ x u ρm w', (if b then l else r).rt = some x → V ρm x.v u → RtOk S M w0 ρm x.hv x.vv x.vs w' → ∃ z, rt = some z ∧ V ρm z.v u ∧ RtOk S M w0 ρm z.hv z.vv z.vs w') →
      ∀ e ex a w', FinP P fn S M w0 ρ (if b then l else r).pn (if b then l else r).rt e ex a w' → FinP P fn S M w0 ρ pn rt e ex a w' := by
    intro rt pn hp hr e ex a w' hf
    obtain ⟨hd, hf⟩ := hf
    refine ⟨hd, ?_⟩
    have fin2 : ((ex = .normal ∨ ex = .ret) ∧ (∀ b' v, (if b then l else r).pn = some (b', v) → b' = false) ∧ ∃ x u ρm, (if b then l else r).rt = some x ∧ (results fn a.tmps).run P w' = .ok u w' ∧ ExtS S.hp.length ρ ρm ∧ V ρm x.v u ∧ RtOk S M w0 ρm x.hv x.vv x.vs w') →
        ((ex = .normal ∨ ex = .ret) ∧ (∀ b v, pn = some (b, v) → b = false) ∧ ∃ x u ρm, rt = some x ∧ (results fn a.tmps).run P w' = .ok u w' ∧ ExtS S.hp.length ρ ρm ∧ V ρm x.v u ∧ RtOk S M w0 ρm x.hv x.vv x.vs w') := by
      rintro ⟨h1, h2, x, u, ρm, h3, h4, h5, h6, h7⟩
      obtain ⟨z, z1, z2, z3⟩ := hr x u ρm w' h3 h6 h7
      exact ⟨h1, hp.2 h2, z, u, ρm, z1, h4, h5, z2, z3⟩
    cases e with
    | exit id => exact hf
    | normal => exact fin2 hf
    | ret => exact fin2 hf
    | panic v =>
      obtain ⟨v, u, h1, h2, h3, h4⟩ := hf
      obtain ⟨v', k1, k2⟩ := hp.1 v h2
      exact ⟨v', u, h1, k1, k2 u h3, h4⟩
  dsimp only at h
  split at h
  · rename_i hl hr
    cases h
    refine ⟨ndc_eq _ _ _, fin _ _ ⟨kp, kn⟩ (fun x u ρm w' hx => ?_)⟩
    cases b <;> simp [hl, hr] at hx
  · rename_i x0 hl hr
    cases h
    refine ⟨ndc_eq _ _ _, fin _ _ ⟨kp, kn⟩ (fun x u ρm w' hx h1 h2 => ?_)⟩
    cases b
    · simp [hr] at hx
    · simp [hl] at hx; subst hx; exact ⟨_, rfl, h1, h2⟩
  · rename_i x0 hl hr
    cases h
    refine ⟨ndc_eq _ _ _, fin _ _ ⟨kp, kn⟩ (fun x u ρm w' hx h1 h2 => ?_)⟩
    cases b
    · simp [hr] at hx; subst hx; exact ⟨_, rfl, h1, h2⟩
    · simp [hl] at hx
  · rename_i x0 y0 hl hr
    split at h
    · rename_i vs hvs
      cases h
      refine ⟨ndc_eq _ _ _, fin _ _ ⟨kp, kn⟩ (fun x u ρm w' hx h1 h2 => ?_)⟩
      have hxe : x = if b then x0 else y0 := by
        cases b
        · simp only [Bool.false_eq_true, if_false, hr, Option.some.injEq] at hx ⊢; exact hx.symm
        · simp only [if_true, hl, Option.some.injEq] at hx ⊢; exact hx.symm
      subst hxe
      refine ⟨_, rfl, mergeRV_sound _ _ _ ?_, RtOk.merge hS.hp.ink hS.hp.vink hvs h2⟩
      cases b <;> simpa using h1
    · cases h

theorem orStuckF_some {o : Option FR} (h : (orStuckF o).nd = true) : ∃ f, o = some f := by
  cases o with
  | none => cases h
  | some f => exact ⟨f, rfl⟩

/-- THE ENDS OF ALL WAYS. -/
theorem finT_sound {fn : Func} (hS : Mem M w0 ρ S w) : ∀ (t : Tr) (T : St) (ahv : List ((Nat × Nat) × AVal)) (avv : List (Nat × Vc)) (f : FR), finT (leafT P fn.results.toList S.hp.length) S T ahv avv t = some f → f.nd = true → Acc S T ahv avv →
    t.need = true ∧ ∀ (ρ' : Rho) (a : Act) (w' : World) (ex : Exit), ExtS S.hp.length ρ ρ' → Rel N M w0 ρ' (t.out T).2 a w' → ExR ρ' (t.out T).1 ex → FinP P fn S M w0 ρ f.pn f.rt (t.out T).1 ex a w'
  | .leaf e d, T, ahv, avv, f, h, hn, hacc => leafT_sound hS h hn hacc
  | .node d b l r, T, ahv, avv, f, h, hn, hacc => by
    unfold finT at h
    split at h
    · rename_i f' hf
      cases h
      obtain ⟨h1, h2⟩ := cond_and hn
      obtain ⟨m1, m2⟩ := mergeF_sound (P := P) (fn := fn) hS hf
      rw [m1] at h2
      cases b with
      | true =>
        obtain ⟨fl, hl⟩ := orStuckF_some (o := finT (leafT P fn.results.toList S.hp.length) S (T.ext d) (d.hv ++ ahv) (d.vv ++ avv) l) h2
        rw [hl] at m2 h2
        obtain ⟨k1, k2⟩ := finT_sound hS l _ _ _ fl hl h2 (hacc.ext d)
        refine ⟨by simp only [Tr.need, h1]; exact k1, fun ρ' a w' ex hext hR hx => ?_⟩
        exact m2 _ _ _ _ (k2 ρ' a w' ex hext (by simpa [Tr.out] using hR) (by simpa [Tr.out] using hx))
      | false =>
        obtain ⟨fl, hl⟩ := orStuckF_some (o := finT (leafT P fn.results.toList S.hp.length) S (T.ext d) (d.hv ++ ahv) (d.vv ++ avv) r) h2
        rw [hl] at m2 h2
        obtain ⟨k1, k2⟩ := finT_sound hS r _ _ _ fl hl h2 (hacc.ext d)
        refine ⟨by simp only [Tr.need, h1]; exact k1, fun ρ' a w' ex hext hR hx => ?_⟩
        exact m2 _ _ _ _ (k2 ρ' a w' ex hext (by simpa [Tr.out] using hR) (by simpa [Tr.out] using hx))
    · cases h
end
end Go.Ab
