import Derived.Test.YtmegbdgnnbjbmaaAbS12
namespace Go.Ab
open Go Go.RowKit
set_option linter.unusedVariables false

theorem unblock_need (id : Nat) : ∀ (t : Tr) (S : St), (unblock id S t).need = true → t.need = true
  | .leaf e d, S, h => by
    cases e with
    | exit j =>
      cases hb : Nat.beq id j with
      | true => simpa [unblock, hb, Tr.need] using h
      | false => simpa [unblock, hb, Tr.need] using h
    | _ => exact h
  | .node d b l r, S, h => by
    obtain ⟨h1, h2⟩ := mkNode_need S d b (unblock id (S.ext d) l) (unblock id (S.ext d) r) h
    simp only [Tr.need]
    rw [h1]
    cases b with
    | true => simpa using unblock_need id l (S.ext d) (by simpa using h2)
    | false => simpa using unblock_need id r (S.ext d) (by simpa using h2)

theorem unblock_out {N : Nat} {M : Addr → Prop} {w0 : World} (id : Nat) : ∀ (t : Tr) (S : St),
    ((t.out S).1 = .exit id ∧ ((unblock id S t).out S).1 = .normal ∧ ∀ ρ a w, Rel N M w0 ρ (t.out S).2 a w → Rel N M w0 ρ ((unblock id S t).out S).2 a w) ∨
    ((t.out S).1 ≠ .exit id ∧ Weak N M w0 (t.out S) ((unblock id S t).out S))
  | .leaf e d, S => by
    cases e with
    | normal => right; exact ⟨by simp [Tr.out], Weak.refl _⟩
    | ret => right; exact ⟨by simp [Tr.out], Weak.refl _⟩
    | panic v => right; exact ⟨by simp [Tr.out], Weak.refl _⟩
    | exit j =>
      cases hb : Nat.beq id j with
      | true =>
        left
        have := Nat.eq_of_beq_eq_true hb
        subst this
        have e : unblock id S (.leaf (.exit id) d) = .leaf .normal d := by simp [unblock]
        rw [e]
        exact ⟨rfl, rfl, fun _ _ _ h => h⟩
      | false =>
        right
        have e : unblock id S (.leaf (.exit j) d) = .leaf (.exit j) d := by simp [unblock, hb]
        rw [e]
        refine ⟨fun h => ?_, Weak.refl _⟩
        simp only [Tr.out, Ex.exit.injEq] at h
        subst h; simp at hb
  | .node d b l r, S => by
    have hw := mkNode_weak (N := N) (M := M) (w0 := w0) S d b (unblock id (S.ext d) l) (unblock id (S.ext d) r)
    have el : unblock id S (.node d b l r) = mkNode S d b (unblock id (S.ext d) l) (unblock id (S.ext d) r) := rfl
    rw [el]
    simp only [Tr.out]
    cases b with
    | true =>
      simp only [if_true] at hw ⊢
      rcases unblock_out (N := N) (M := M) (w0 := w0) id l (S.ext d) with ⟨h1, h2, h3⟩ | ⟨h1, h2⟩
      · exact Or.inl ⟨h1, hw.1.trans h2, fun ρ a w h => hw.2 _ _ _ (h3 ρ a w h)⟩
      · exact Or.inr ⟨h1, h2.trans hw⟩
    | false =>
      simp only [Bool.false_eq_true, if_false] at hw ⊢
      rcases unblock_out (N := N) (M := M) (w0 := w0) id r (S.ext d) with ⟨h1, h2, h3⟩ | ⟨h1, h2⟩
      · exact Or.inl ⟨h1, hw.1.trans h2, fun ρ a w h => hw.2 _ _ _ (h3 ρ a w h)⟩
      · exact Or.inr ⟨h1, h2.trans hw⟩

section
variable {P : Program} {N : Nat} {M : Addr → Prop} {w0 : World} {ρ : Rho} {S : St} {a : Act} {w : World}

theorem bindT_need {f : St → Dl → Option Tr} (hf : ∀ S d t, f S d = some t → t.need = true → d.nd = true) {t1 : Tr} {S : St} {t : Tr} (h : bindT S t1 f = some t) (hn : t.need = true) : t1.need = true :=
  (bindT_out (N := 0) (M := NoM) (w0 := default) hf t1 S t h hn).1

theorem ev_need {Γ : List (Nat × Ctr)} : ∀ (n : Nat) (c : Code) (S : St) (d : Dl) (t : Tr), ev P Γ N n c S d = some t → t.need = true → d.nd = true
  | 0, c, S, d, t, h, _ => by simp [ev] at h
  | n + 1, c, S, d, t, h, hn => by
    have IH := fun c S d t h hn => ev_need (Γ := Γ) n c S d t h hn
    unfold ev at h
    cases c <;> simp only at h <;> try (cases h; done)
    case skip => cases h; exact hn
    case label l => cases h; exact hn
    case ret => cases h; exact hn
    case exit id => cases h; exact hn
    case seq x y =>
      split at h
      · rename_i t1 h1
        exact IH x S d t1 h1 (bindT_need (fun S d t => IH y S d t) h hn)
      · cases h
    case cond c x y =>
      split at h
      · exact IH x S d t h hn
      · exact IH y S d t h hn
      · split at h
        · cases h; exact (mkNode_need _ _ _ _ _ hn).1
        · cases h
      · cases h
    case block id x =>
      split at h
      · rename_i t1 h1; cases h
        exact IH x S d t1 h1 (unblock_need id t1 S hn)
      · cases h
    case loop x =>
      split at h
      · rename_i t1 h1
        exact IH x S d t1 h1 (bindT_need (fun S d t => IH (.loop x) S d t) h hn)
      · cases h
    case region id ops draw =>
      split at h
      · exact evOps_need 300 ops.toList S d t h hn
      · exact evDraw_need h hn

theorem ev_sound {n0 : Nat} {Γ : List (Nat × Ctr)} (hΓ : ∀ f c, lookC f Γ = some c → Sat P f c) (hmo : P.follows .mixedOrders = true) : ∀ (n : Nat) (c : Code) (S : St) (d : Dl) (t : Tr), ev P Γ N n c S d = some t → t.need = true → n0 ≤ S.hp.length →
    ∀ (ρ : Rho) (a : Act) (w : World) (Q : Exit → Act → World → Prop), Rel N M w0 ρ (S.ext d) a w → (∀ ρ' a' w' e, ExtS n0 ρ ρ' → ExR ρ' (t.out S).1 e → Rel N M w0 ρ' (t.out S).2 a' w' → Q e a' w') →
      c.wp P Q a w ∧ ∀ b, c = .loop b → Code.rounds P b Q n a w
  | 0, c, S, d, t, h, _, _, _, _, _, _, _, _ => by simp [ev] at h
  | n + 1, c, S, d, t, h, hn, hn0, ρ, a, w, Q, hR, hQ => by
    have IH := fun c S d t h hn hn0 ρ a w Q hR hQ => (ev_sound (n0 := n0) hΓ hmo n c S d t h hn hn0 ρ a w Q hR hQ)
    unfold ev at h
    cases c <;> simp only at h <;> try (cases h; done)
    case skip =>
      cases h
      exact ⟨wp_skip (hQ ρ a w _ (ExtS.refl _ _) rfl hR), fun b hb => by cases hb⟩
    case label l =>
      cases h
      exact ⟨wp_label (hQ ρ a w _ (ExtS.refl _ _) rfl hR), fun b hb => by cases hb⟩
    case ret =>
      cases h
      exact ⟨wp_ret (hQ ρ a w _ (ExtS.refl _ _) rfl hR), fun b hb => by cases hb⟩
    case exit id =>
      cases h
      exact ⟨wp_exit (hQ ρ a w _ (ExtS.refl _ _) rfl hR), fun b hb => by cases hb⟩
    case seq x y =>
      refine ⟨?_, fun b hb => by cases hb⟩
      split at h
      · rename_i t1 h1
        obtain ⟨hn1, hout⟩ := bindT_out (N := N) (M := M) (w0 := w0) (fun S d t => ev_need (Γ := Γ) n y S d t) t1 S t h hn
        apply wp_seq
        refine (IH x S d t1 h1 hn1 hn0 ρ a w _ hR ?_).1
        intro ρ' a' w' e hext hx hr'
        rcases hout with ⟨k1, S', d', t', k0, k2, k3, k3n, k4⟩ | ⟨k1, k2⟩
        · rw [k1] at hx
          have hx : e = .normal := hx
          subst hx
          show y.wp P Q a' w'
          rw [k2] at hr'
          refine (IH y S' d' t' k3 k3n (Nat.le_trans hn0 k0) ρ' a' w' Q hr' ?_).1
          intro ρ'' a'' w'' e' hext' hx' hr''
          rw [← k4.1] at hx'
          exact hQ ρ'' a'' w'' e' (hext.trans hext') hx' (k4.2 _ _ _ hr'')
        · have := hQ ρ' a' w' e hext (by rw [k2.1]; exact hx) (k2.2 _ _ _ hr')
          cases e with
          | normal =>
            exfalso
            cases he : (t1.out S).1 with
            | normal => exact k1 he
            | exit id => rw [he] at hx; cases hx
            | ret => rw [he] at hx; cases hx
            | panic v => rw [he] at hx; obtain ⟨u, _, hu⟩ := hx; cases hu
          | _ => exact this
      · cases h
    case cond c x y =>
      refine ⟨?_, fun b hb => by cases hb⟩
      have hc := hR.opd c
      split at h
      · rename_i hv; rw [hv] at hc; unfold V at hc
        exact wp_cond_true hc (IH x S d t h hn hn0 ρ a w Q hR hQ).1
      · rename_i hv; rw [hv] at hc; unfold V at hc
        exact wp_cond_false hc (IH y S d t h hn hn0 ρ a w Q hR hQ).1
      · rename_i b hv
        split at h
        · rename_i s hs
          have hcs : c = .tmp s := by
            unfold tmpOf at hs
            split at hs
            · cases hs; rfl
            · cases hs
          subst hcs
          rw [hv] at hc; unfold V at hc
          have hR' := hR.refine hv
          cases h
          have hw := mkNode_weak (N := N) (M := M) (w0 := w0) S d b (orStuck (ev P Γ N n x (S.ext d) (Dl.one s (.bool true)))) (orStuck (ev P Γ N n y (S.ext d) (Dl.one s (.bool false))))
          have hnb := (mkNode_need _ _ _ _ _ hn).2
          cases b with
          | true =>
            obtain ⟨l, hl, hle, hln⟩ := orStuck_need (by simpa using hnb)
            refine wp_cond_true hc (IH x _ _ l hl hln (le_ext hn0 d) ρ a w Q hR' ?_).1
            intro ρ' a' w' e he hx hr'
            refine hQ ρ' a' w' e he ?_ (hw.2 _ _ _ (by simpa [hle] using hr'))
            rw [hw.1]; simpa [hle] using hx
          | false =>
            obtain ⟨l, hl, hle, hln⟩ := orStuck_need (by simpa using hnb)
            refine wp_cond_false hc (IH y _ _ l hl hln (le_ext hn0 d) ρ a w Q hR' ?_).1
            intro ρ' a' w' e he hx hr'
            refine hQ ρ' a' w' e he ?_ (hw.2 _ _ _ (by simpa [hle] using hr'))
            rw [hw.1]; simpa [hle] using hx
        · cases h
      · cases h
    case block id x =>
      refine ⟨?_, fun b hb => by cases hb⟩
      split at h
      · rename_i t1 h1
        cases h
        apply wp_block
        refine (IH x S d t1 h1 (unblock_need id t1 S hn) hn0 ρ a w _ hR ?_).1
        intro ρ' a' w' e hext hx hr'
        rcases unblock_out (N := N) (M := M) (w0 := w0) id t1 S with ⟨k1, k2, k3⟩ | ⟨k1, k2⟩
        · rw [k1] at hx
          have hx : e = .exit id := hx
          subst hx
          simp only [Exit.inBlock, if_true]
          exact hQ ρ' a' w' .normal hext (by rw [k2]; rfl) (k3 _ _ _ hr')
        · have hx' : ExR ρ' (Tr.out S (unblock id S t1)).1 e := by rw [k2.1]; exact hx
          have := hQ ρ' a' w' e hext hx' (k2.2 _ _ _ hr')
          cases e with
          | exit j =>
            simp only [Exit.inBlock]
            rw [if_neg (fun e => k1 (by
              subst e
              cases he : (t1.out S).1 with
              | normal => rw [he] at hx; cases hx
              | exit i => rw [he] at hx; cases hx; rfl
              | ret => rw [he] at hx; cases hx
              | panic v => rw [he] at hx; obtain ⟨u, _, hu⟩ := hx; cases hu))]
            exact this
          | _ => exact this
      · cases h
    case loop x =>
      have key : Code.rounds P x Q (n + 1) a w := by
        rw [rounds_succ]
        split at h
        · rename_i t1 h1
          obtain ⟨hn1, hout⟩ := bindT_out (N := N) (M := M) (w0 := w0) (fun S d t => ev_need (Γ := Γ) n (.loop x) S d t) t1 S t h hn
          refine (IH x S d t1 h1 hn1 hn0 ρ a w _ hR ?_).1
          intro ρ' a' w' e hext hx hr'
          rcases hout with ⟨k1, S', d', t', k0, k2, k3, k3n, k4⟩ | ⟨k1, k2⟩
          · rw [k1] at hx
            have hx : e = .normal := hx
            subst hx
            show Code.rounds P x Q n a' w'
            rw [k2] at hr'
            refine (IH (.loop x) S' d' t' k3 k3n (Nat.le_trans hn0 k0) ρ' a' w' Q hr' ?_).2 x rfl
            intro ρ'' a'' w'' e' hext' hx' hr''
            rw [← k4.1] at hx'
            exact hQ ρ'' a'' w'' e' (hext.trans hext') hx' (k4.2 _ _ _ hr'')
          · have := hQ ρ' a' w' e hext (by rw [k2.1]; exact hx) (k2.2 _ _ _ hr')
            cases e with
            | normal =>
              exfalso
              cases he : (t1.out S).1 with
              | normal => exact k1 he
              | exit id => rw [he] at hx; cases hx
              | ret => rw [he] at hx; cases hx
              | panic v => rw [he] at hx; obtain ⟨u, _, hu⟩ := hx; cases hu
            | _ => exact this
        · cases h
      exact ⟨wp_loop_rounds (n + 1) key, fun b hb => by cases hb; exact key⟩
    case region id ops draw =>
      refine ⟨?_, fun b hb => by cases hb⟩
      have : ops = ops.toList.toArray := by simp
      rw [this]
      split at h
      · apply wp_region_lit
        exact evOps_sound hΓ 300 ops.toList S d t ρ a w h hn hn0 hR hQ
      · exact draw_sound hmo hΓ (le_ext hn0 d) h hn hR hQ
end
end Go.Ab
