import Derived.Test.YtiebaggemiifoaaAbS9
namespace Go.Ab
open Go Go.RowKit

/-! ### 7. A region, in the text's order -/
theorem slotOf_get : ∀ (ops : List Oper) (j : Nat), slotOf ops j = (ops[j]?).bind (·.dst)
  | [], j => by cases j <;> rfl
  | o :: r, 0 => rfl
  | o :: r, j + 1 => by simpa [slotOf] using slotOf_get r j

section
variable {P : Program} {N : Nat} {M : Addr → Prop} {w0 : World} {ρ : Rho} {S : St} {a : Act} {w : World}

theorem getD_some {l : Array Value} {t : Nat} {b : Bool} (h : l.getD t undef = .bool b) : l[t]? = some (.bool b) := by
  rw [Array.getD_eq_getD_getElem?] at h
  cases hl : l[t]? with
  | some v => rw [hl] at h; simp at h; rw [h]
  | none => rw [hl] at h; simp [undef] at h

/-- What the guard says is so. -/
theorem guardOf_sound {all : List Oper} {o : Oper} (hfr : ∀ j want t, o.guard = some (j, want) → slotOf all j = some t → V ρ (S.get t) (a.tmps.getD t undef)) :
    (guardOf all S o.guard = .yes → Region.wanted o (yielded all.toArray a.tmps) = true) ∧ (guardOf all S o.guard = .no → Region.wanted o (yielded all.toArray a.tmps) = false) ∧
    (∀ t b, guardOf all S o.guard = .split t b → S.get t = .sbool b) := by
  unfold guardOf
  cases hg : o.guard with
  | none =>
    refine ⟨fun _ => by simp [Region.wanted, hg], fun h => by simp at h, fun t b h => by simp at h⟩
  | some g =>
    obtain ⟨j, want⟩ := g
    simp only
    have hw : Region.wanted o (yielded all.toArray a.tmps) = (yielded all.toArray a.tmps j == some want) := by simp [Region.wanted, hg]
    rw [hw]
    have hy : ∀ t, slotOf all j = some t → yielded all.toArray a.tmps j = match a.tmps[t]? with | some (.bool b) => some b | _ => none := by
      intro t ht
      rw [slotOf_get] at ht
      unfold yielded
      simp only [List.getElem?_toArray, ht, Option.bind_some]
      generalize a.tmps[t]? = y
      cases y with
      | none => rfl
      | some v => cases v <;> rfl
    cases hs : slotOf all j with
    | none =>
      have : yielded all.toArray a.tmps j = none := by
        rw [slotOf_get] at hs
        unfold yielded
        simp only [List.getElem?_toArray, hs, Option.bind_none]
      simp [this]
    | some t =>
      have hV := hfr j want t hg hs
      simp only
      cases hv : S.get t with
      | bool b =>
        rw [hv] at hV; unfold V at hV
        rw [hy t hs, getD_some hV]
        simp only
        cases hb : (b == want) with
        | true => have := eq_of_beq hb; subst this; simp
        | false =>
          refine ⟨fun h => by simp at h, fun _ => ?_, fun t b h => by simp at h⟩
          cases b <;> cases want <;> simp_all
      | sbool b =>
        refine ⟨fun h => by simp at h, fun h => by simp at h, fun t' b' h => ?_⟩
        simp only [Gd.split.injEq] at h
        obtain ⟨rfl, rfl⟩ := h
        exact hv
      | raw v =>
        rw [hv] at hV; unfold V at hV
        cases v with
        | tuple us =>
          refine ⟨fun h => by simp at h, fun _ => ?_, fun t b h => by simp at h⟩
          rw [hy t hs]
          have : ∀ b, a.tmps[t]? ≠ some (.bool b) := fun b hb => by
            rw [Array.getD_eq_getD_getElem?, hb] at hV; simp at hV
          cases hh : a.tmps[t]? with
          | none => simp
          | some v => cases v <;> simp_all
        | _ => refine ⟨fun h => by simp at h, fun h => by simp at h, fun t b h => by simp at h⟩
      | _ => refine ⟨fun h => by simp at h, fun h => by simp at h, fun t b h => by simp at h⟩

theorem evOps_normal {Γ : List (Nat × Ctr)} {q : Bool} {all : List Oper} : ∀ (n : Nat) (rest : List Oper) (S : St) (d : Dl) (t : Tr), evOps P Γ N q all n rest S d = some t → (t.out S).1 = .normal
  | 0, _, _, _, _, h => by simp [evOps] at h
  | n + 1, [], S, d, t, h => by simp [evOps] at h; subst h; rfl
  | n + 1, o :: rest, S, d, t, h => by
    simp only [evOps] at h
    split at h
    · cases h
    · split at h
      · split at h
        · split at h
          · exact evOps_normal n rest S _ t h
          · cases h
        · cases h
      · exact evOps_normal n rest S _ t h
      · rename_i t' b _
        split at h
        · rename_i l hl
          split at h
          · rename_i r hr
            cases h
            have h1 := evOps_normal n _ _ _ _ hl
            have h2 := evOps_normal n _ _ _ _ hr
            rw [(mkNode_weak (N := N) (M := fun _ => False) (w0 := default) S d b l r).1]
            cases b
            · exact h2
            · exact h1
          · cases h
        · cases h
      · cases h

theorem evOps_sound {Γ : List (Nat × Ctr)} (hΓ : ∀ f c, lookC f Γ = some c → Sat P f c) {q : Bool} {all : List Oper} {Q : Exit → Act → World → Prop} : ∀ (n : Nat) (rest : List Oper) (S : St) (d : Dl) (t : Tr) (ρ : Rho) (a : Act) (w : World),
    evOps P Γ N q all n rest S d = some t → Rel N M w0 ρ (S.ext d) a w → (∀ ρ' a' w', Ext ρ ρ' → Rel N M w0 ρ' (t.out S).2 a' w' → Q .normal a' w') → wpList P all.toArray Q rest a w
  | 0, _, _, _, _, _, _, _, h, _, _ => by simp [evOps] at h
  | n + 1, [], S, d, t, ρ, a, w, h, hR, hQ => by
    simp [evOps] at h; subst h
    exact hQ ρ a w (Ext.refl _) hR
  | n + 1, o :: rest, S, d, t, ρ, a, w, h, hR, hQ => by
    simp only [evOps] at h
    have hgs := guardOf_sound (ρ := ρ) (S := S.ext d) (a := a) (all := all) (o := o) (fun j want t _ _ => hR.fr t)
    split at h
    · cases h
    · rename_i hdst
      split at h
      · -- it is carried out
        rename_i hg
        split at h
        · rename_i out hout
          split at h
          · rename_i hq
            unfold wpList
            rw [if_pos (hgs.1 hg)]
            left
            have hok := evOp_sound (o := o) hΓ hout hR.mem (fun x _ => hR.opd x)
            refine hok _ _ (fun u w' ρ' hext hvu hm => ?_)
            exact evOps_sound hΓ n rest S _ t ρ' _ w' h (hR.put hdst hext hvu hm) (fun ρ'' a' w'' he => hQ ρ'' a' w'' (hext.trans he))
          · cases h
        · cases h
      · rename_i hg
        unfold wpList
        rw [if_neg (by rw [hgs.2.1 hg]; simp)]
        have hm : Mem M w0 ρ ((S.ext d).put [] []) w := hR.mem.put_nil
        exact evOps_sound hΓ n rest S _ t ρ _ w h (hR.put hdst (Ext.refl _) (by unfold V; rfl) hm) hQ
      · rename_i t' b hg
        have hsb := hgs.2.2 t' b hg
        split at h
        · rename_i l hl
          split at h
          · rename_i r hr
            cases h
            have hR' := hR.refine hsb
            have hw := mkNode_weak (N := N) (M := M) (w0 := w0) S d b l r
            cases b with
            | true => exact evOps_sound hΓ n (o :: rest) _ _ l ρ a w hl hR' (fun ρ' a' w' he hr' => hQ ρ' a' w' he (hw.2 _ _ _ (by simpa using hr')))
            | false => exact evOps_sound hΓ n (o :: rest) _ _ r ρ a w hr hR' (fun ρ' a' w' he hr' => hQ ρ' a' w' he (hw.2 _ _ _ (by simpa using hr')))
          · cases h
        · cases h
      · cases h

/-! ### 8. Code -/
def toExit : Ex → Exit
  | .normal => .normal
  | .exit id => .exit id
  | .ret => .ret

/-- A region that draws its order: proved below. -/
def DrawSound (P : Program) : Prop := ∀ (N : Nat) (M : Addr → Prop) (w0 : World) (Γ : List (Nat × Ctr)), (∀ f c, lookC f Γ = some c → Sat P f c) → ∀ (all : List Oper), drawOk all = true →
  ∀ (n id : Nat) (S : St) (d : Dl) (t : Tr) (ρ : Rho) (a : Act) (w : World) (Q : Exit → Act → World → Prop), evOps P Γ N true all n all S d = some t → Rel N M w0 ρ (S.ext d) a w →
  (∀ ρ' a' w', Ext ρ ρ' → Rel N M w0 ρ' (t.out S).2 a' w' → Q .normal a' w') → (Code.region id all.toArray true).wp P Q a w

theorem bindT_out {N : Nat} {M : Addr → Prop} {w0 : World} {f : St → Dl → Option Tr} : ∀ (t1 : Tr) (S : St) (t : Tr), bindT S t1 f = some t →
    ((t1.out S).1 = .normal ∧ ∃ S' d' t', (t1.out S).2 = S'.ext d' ∧ f S' d' = some t' ∧ Weak N M w0 (t'.out S') (t.out S)) ∨
    ((t1.out S).1 ≠ .normal ∧ Weak N M w0 (t1.out S) (t.out S))
  | .leaf e d, S, t, h => by
    cases e with
    | normal =>
      left
      exact ⟨rfl, S, d, t, rfl, h, Weak.refl _⟩
    | exit id => right; simp only [bindT, Option.some.injEq] at h; subst h; exact ⟨by simp [Tr.out], Weak.refl _⟩
    | ret => right; simp only [bindT, Option.some.injEq] at h; subst h; exact ⟨by simp [Tr.out], Weak.refl _⟩
  | .node d b l r, S, t, h => by
    simp only [bindT] at h
    split at h
    · rename_i l' hl
      split at h
      · rename_i r' hr
        cases h
        have hw := mkNode_weak (N := N) (M := M) (w0 := w0) S d b l' r'
        simp only [Tr.out]
        cases b with
        | true =>
          simp only [if_true] at hw ⊢
          rcases bindT_out (N := N) (M := M) (w0 := w0) l (S.ext d) l' hl with ⟨h1, S', d', t', h2, h3, h4⟩ | ⟨h1, h2⟩
          · exact Or.inl ⟨h1, S', d', t', h2, h3, h4.trans hw⟩
          · exact Or.inr ⟨h1, h2.trans hw⟩
        | false =>
          simp only [Bool.false_eq_true, if_false] at hw ⊢
          rcases bindT_out (N := N) (M := M) (w0 := w0) r (S.ext d) r' hr with ⟨h1, S', d', t', h2, h3, h4⟩ | ⟨h1, h2⟩
          · exact Or.inl ⟨h1, S', d', t', h2, h3, h4.trans hw⟩
          · exact Or.inr ⟨h1, h2.trans hw⟩
      · cases h
    · cases h

theorem unblock_out {N : Nat} {M : Addr → Prop} {w0 : World} (id : Nat) : ∀ (t : Tr) (S : St),
    ((t.out S).1 = .exit id ∧ ((unblock id S t).out S).1 = .normal ∧ ∀ ρ a w, Rel N M w0 ρ (t.out S).2 a w → Rel N M w0 ρ ((unblock id S t).out S).2 a w) ∨
    ((t.out S).1 ≠ .exit id ∧ Weak N M w0 (t.out S) ((unblock id S t).out S))
  | .leaf e d, S => by
    cases e with
    | normal => right; exact ⟨by simp [Tr.out], Weak.refl _⟩
    | ret => right; exact ⟨by simp [Tr.out], Weak.refl _⟩
    | exit j =>
      cases hb : Nat.beq id j with
      | true =>
        left
        have := Nat.eq_of_beq_eq_true hb
        subst this
        have e : unblock id S (.leaf (.exit id) d) = .leaf .normal d := by simp [unblock]
        rw [e]
        exact ⟨rfl, rfl, fun _ _ _ h => h⟩
      | false =>
        right
        have e : unblock id S (.leaf (.exit j) d) = .leaf (.exit j) d := by simp [unblock, hb]
        rw [e]
        refine ⟨fun h => ?_, Weak.refl _⟩
        simp only [Tr.out, Ex.exit.injEq] at h
        subst h; simp at hb
  | .node d b l r, S => by
    have hw := mkNode_weak (N := N) (M := M) (w0 := w0) S d b (unblock id (S.ext d) l) (unblock id (S.ext d) r)
    have el : unblock id S (.node d b l r) = mkNode S d b (unblock id (S.ext d) l) (unblock id (S.ext d) r) := rfl
    rw [el]
    simp only [Tr.out]
    cases b with
    | true =>
      simp only [if_true] at hw ⊢
      rcases unblock_out (N := N) (M := M) (w0 := w0) id l (S.ext d) with ⟨h1, h2, h3⟩ | ⟨h1, h2⟩
      · exact Or.inl ⟨h1, hw.1.trans h2, fun ρ a w h => hw.2 _ _ _ (h3 ρ a w h)⟩
      · exact Or.inr ⟨h1, h2.trans hw⟩
    | false =>
      simp only [Bool.false_eq_true, if_false] at hw ⊢
      rcases unblock_out (N := N) (M := M) (w0 := w0) id r (S.ext d) with ⟨h1, h2, h3⟩ | ⟨h1, h2⟩
      · exact Or.inl ⟨h1, hw.1.trans h2, fun ρ a w h => hw.2 _ _ _ (h3 ρ a w h)⟩
      · exact Or.inr ⟨h1, h2.trans hw⟩

theorem ev_sound {Γ : List (Nat × Ctr)} (hΓ : ∀ f c, lookC f Γ = some c → Sat P f c) (hdraw : DrawSound P) : ∀ (n : Nat) (c : Code) (S : St) (d : Dl) (t : Tr), ev P Γ N n c S d = some t →
    ∀ (ρ : Rho) (a : Act) (w : World) (Q : Exit → Act → World → Prop), Rel N M w0 ρ (S.ext d) a w → (∀ ρ' a' w', Ext ρ ρ' → Rel N M w0 ρ' (t.out S).2 a' w' → Q (toExit (t.out S).1) a' w') →
      c.wp P Q a w ∧ ∀ b, c = .loop b → Code.rounds P b Q n a w
  | 0, c, S, d, t, h, _, _, _, _, _, _ => by simp [ev] at h
  | n + 1, c, S, d, t, h, ρ, a, w, Q, hR, hQ => by
    have IH := fun c S d t h ρ a w Q hR hQ => (ev_sound hΓ hdraw n c S d t h ρ a w Q hR hQ)
    unfold ev at h
    cases c <;> simp only at h <;> try (cases h; done)
    case skip =>
      cases h
      exact ⟨wp_skip (hQ ρ a w (Ext.refl _) hR), fun b hb => by cases hb⟩
    case label l =>
      cases h
      exact ⟨wp_label (hQ ρ a w (Ext.refl _) hR), fun b hb => by cases hb⟩
    case ret =>
      cases h
      exact ⟨wp_ret (hQ ρ a w (Ext.refl _) hR), fun b hb => by cases hb⟩
    case exit id =>
      cases h
      exact ⟨wp_exit (hQ ρ a w (Ext.refl _) hR), fun b hb => by cases hb⟩
    case seq x y =>
      refine ⟨?_, fun b hb => by cases hb⟩
      split at h
      · rename_i t1 h1
        apply wp_seq
        refine (IH x S d t1 h1 ρ a w _ hR ?_).1
        intro ρ' a' w' hext hr'
        rcases bindT_out (N := N) (M := M) (w0 := w0) t1 S t h with ⟨k1, S', d', t', k2, k3, k4⟩ | ⟨k1, k2⟩
        · rw [k1]
          show y.wp P Q a' w'
          rw [k2] at hr'
          refine (IH y S' d' t' k3 ρ' a' w' Q hr' ?_).1
          intro ρ'' a'' w'' hext' hr''
          rw [← k4.1]
          exact hQ ρ'' a'' w'' (hext.trans hext') (k4.2 _ _ _ hr'')
        · have := hQ ρ' a' w' hext (k2.2 _ _ _ hr')
          rw [k2.1] at this
          cases he : (t1.out S).1 with
          | normal => exact absurd he k1
          | exit id => rw [he] at this; exact this
          | ret => rw [he] at this; exact this
      · cases h
    case cond c x y =>
      refine ⟨?_, fun b hb => by cases hb⟩
      have hc := hR.opd c
      split at h
      · rename_i hv; rw [hv] at hc; unfold V at hc
        exact wp_cond_true hc (IH x S d t h ρ a w Q hR hQ).1
      · rename_i hv; rw [hv] at hc; unfold V at hc
        exact wp_cond_false hc (IH y S d t h ρ a w Q hR hQ).1
      · rename_i b hv
        split at h
        · rename_i s hs
          have hcs : c = .tmp s := by
            unfold tmpOf at hs
            split at hs
            · cases hs; rfl
            · cases hs
          subst hcs
          rw [hv] at hc; unfold V at hc
          have hR' := hR.refine hv
          split at h
          · rename_i l hl
            split at h
            · rename_i r hr
              cases h
              have hw := mkNode_weak (N := N) (M := M) (w0 := w0) S d b l r
              cases b with
              | true =>
                refine wp_cond_true hc (IH x _ _ l hl ρ a w Q hR' ?_).1
                intro ρ' a' w' he hr'
                have := hQ ρ' a' w' he (hw.2 _ _ _ (by simpa using hr'))
                rw [hw.1] at this
                simpa using this
              | false =>
                refine wp_cond_false hc (IH y _ _ r hr ρ a w Q hR' ?_).1
                intro ρ' a' w' he hr'
                have := hQ ρ' a' w' he (hw.2 _ _ _ (by simpa using hr'))
                rw [hw.1] at this
                simpa using this
            · cases h
          · cases h
        · cases h
      · cases h
    case block id x =>
      refine ⟨?_, fun b hb => by cases hb⟩
      split at h
      · rename_i t1 h1
        cases h
        apply wp_block
        refine (IH x S d t1 h1 ρ a w _ hR ?_).1
        intro ρ' a' w' hext hr'
        rcases unblock_out (N := N) (M := M) (w0 := w0) id t1 S with ⟨k1, k2, k3⟩ | ⟨k1, k2⟩
        · have := hQ ρ' a' w' hext (k3 _ _ _ hr')
          rw [k2] at this
          rw [k1]
          simp only [toExit, Exit.inBlock, if_true]
          exact this
        · have := hQ ρ' a' w' hext (k2.2 _ _ _ hr')
          rw [k2.1] at this
          cases he : (t1.out S).1 with
          | normal => rw [he] at this; exact this
          | ret => rw [he] at this; exact this
          | exit j =>
            rw [he] at this k1
            simp only [toExit, Exit.inBlock]
            rw [if_neg (fun e => k1 (by rw [e]))]
            exact this
      · cases h
    case loop x =>
      have key : Code.rounds P x Q (n + 1) a w := by
        rw [rounds_succ]
        split at h
        · rename_i t1 h1
          refine (IH x S d t1 h1 ρ a w _ hR ?_).1
          intro ρ' a' w' hext hr'
          rcases bindT_out (N := N) (M := M) (w0 := w0) t1 S t h with ⟨k1, S', d', t', k2, k3, k4⟩ | ⟨k1, k2⟩
          · rw [k1]
            show Code.rounds P x Q n a' w'
            rw [k2] at hr'
            refine (IH (.loop x) S' d' t' k3 ρ' a' w' Q hr' ?_).2 x rfl
            intro ρ'' a'' w'' hext' hr''
            rw [← k4.1]
            exact hQ ρ'' a'' w'' (hext.trans hext') (k4.2 _ _ _ hr'')
          · have := hQ ρ' a' w' hext (k2.2 _ _ _ hr')
            rw [k2.1] at this
            cases he : (t1.out S).1 with
            | normal => exact absurd he k1
            | exit id => rw [he] at this; exact this
            | ret => rw [he] at this; exact this
        · cases h
      exact ⟨wp_loop_rounds (n + 1) key, fun b hb => by cases hb; exact key⟩
    case region id ops draw =>
      refine ⟨?_, fun b hb => by cases hb⟩
      split at h
      · have hnorm := evOps_normal 300 ops.toList S d t h
        rw [hnorm] at hQ
        have : ops = ops.toList.toArray := by simp
        rw [this]
        apply wp_region_lit
        exact evOps_sound hΓ 300 ops.toList S d t ρ a w h hR hQ
      · split at h
        · rename_i hd
          have hnorm := evOps_normal 300 ops.toList S d t h
          rw [hnorm] at hQ
          have : ops = ops.toList.toArray := by simp
          rw [this]
          exact hdraw N M w0 Γ hΓ ops.toList hd 300 id S d t ρ a w Q h hR hQ
        · cases h
end
end Go.Ab
