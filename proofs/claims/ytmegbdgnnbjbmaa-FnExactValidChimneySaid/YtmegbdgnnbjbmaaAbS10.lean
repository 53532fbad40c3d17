import Derived.Test.YtmegbdgnnbjbmaaAbS9
namespace Go.Ab
open Go Go.RowKit
set_option linter.unusedVariables false

/-! ### 7. A region, in the text's order -/
theorem slotOf_get : ∀ (ops : List Oper) (j : Nat), slotOf ops j = (ops[j]?).bind (·.dst)
  | [], j => by cases j <;> rfl
  | o :: r, 0 => rfl
  | o :: r, j + 1 => by simpa [slotOf] using slotOf_get r j

section
variable {P : Program} {N : Nat} {M : Addr → Prop} {w0 : World} {ρ : Rho} {S : St} {a : Act} {w : World}

theorem getD_some {l : Array Value} {t : Nat} {b : Bool} (h : l.getD t undef = .bool b) : l[t]? = some (.bool b) := by
  rw [Array.getD_eq_getD_getElem?] at h
  cases hl : l[t]? with
  | some v => rw [hl] at h; simp at h; rw [h]
  | none => rw [hl] at h; simp [undef] at h

/-- What the guard says is so. -/
theorem guardOf_sound {all : List Oper} {o : Oper} (hfr : ∀ j want t, o.guard = some (j, want) → slotOf all j = some t → V ρ (S.get t) (a.tmps.getD t undef)) :
    (guardOf all S o.guard = .yes → Region.wanted o (yielded all.toArray a.tmps) = true) ∧ (guardOf all S o.guard = .no → Region.wanted o (yielded all.toArray a.tmps) = false) ∧
    (∀ t b, guardOf all S o.guard = .split t b → S.get t = .sbool b) := by
  unfold guardOf
  cases hg : o.guard with
  | none =>
    refine ⟨fun _ => by simp [Region.wanted, hg], fun h => by simp at h, fun t b h => by simp at h⟩
  | some g =>
    obtain ⟨j, want⟩ := g
    simp only
    have hw : Region.wanted o (yielded all.toArray a.tmps) = (yielded all.toArray a.tmps j == some want) := by simp [Region.wanted, hg]
    rw [hw]
    have hy : ∀ t, slotOf all j = some t → yielded all.toArray a.tmps j = match a.tmps[t]? with | some (.bool b) => some b | _ => none := by
      intro t ht
      rw [slotOf_get] at ht
      unfold yielded
      simp only [List.getElem?_toArray, ht, Option.bind_some]
      generalize a.tmps[t]? = y
      cases y with
      | none => rfl
      | some v => cases v <;> rfl
    cases hs : slotOf all j with
    | none =>
      have : yielded all.toArray a.tmps j = none := by
        rw [slotOf_get] at hs
        unfold yielded
        simp only [List.getElem?_toArray, hs, Option.bind_none]
      simp [this]
    | some t =>
      have hV := hfr j want t hg hs
      simp only
      cases hv : S.get t with
      | bool b =>
        rw [hv] at hV; unfold V at hV
        rw [hy t hs, getD_some hV]
        simp only
        cases hb : (b == want) with
        | true => have := eq_of_beq hb; subst this; simp
        | false =>
          refine ⟨fun h => by simp at h, fun _ => ?_, fun t b h => by simp at h⟩
          cases b <;> cases want <;> simp_all
      | sbool b =>
        refine ⟨fun h => by simp at h, fun h => by simp at h, fun t' b' h => ?_⟩
        simp only [Gd.split.injEq] at h
        obtain ⟨rfl, rfl⟩ := h
        exact hv
      | raw v =>
        rw [hv] at hV; unfold V at hV
        cases v with
        | tuple us =>
          refine ⟨fun h => by simp at h, fun _ => ?_, fun t b h => by simp at h⟩
          rw [hy t hs]
          have : ∀ b, a.tmps[t]? ≠ some (.bool b) := fun b hb => by
            rw [Array.getD_eq_getD_getElem?, hb] at hV; simp at hV
          cases hh : a.tmps[t]? with
          | none => simp
          | some v => cases v <;> simp_all
        | _ => refine ⟨fun h => by simp at h, fun h => by simp at h, fun t b h => by simp at h⟩
      | _ => refine ⟨fun h => by simp at h, fun h => by simp at h, fun t b h => by simp at h⟩

/-- How a way ends. -/
def ExR (ρ : Rho) : Ex → Exit → Prop
  | .normal, e => e = .normal
  | .exit id, e => e = .exit id
  | .ret, e => e = .ret
  | .panic v, e => ∃ u, V ρ v u ∧ e = .panic [{ v := u, recovered := false }]

theorem cond_and {a b : Bool} (h : cond a b false = true) : a = true ∧ b = true := by
  cases a
  · cases h
  · exact ⟨rfl, h⟩

theorem orStuck_need {t : Option Tr} (h : (orStuck t).need = true) : ∃ t', t = some t' ∧ orStuck t = t' ∧ t'.need = true := by
  cases t with
  | none => cases h
  | some t' => exact ⟨t', rfl, rfl, h⟩

theorem evOps_need {Γ : List (Nat × Ctr)} {q : Bool} {all : List Oper} : ∀ (n : Nat) (rest : List Oper) (S : St) (d : Dl) (t : Tr), evOps P Γ N q all n rest S d = some t → t.need = true → d.nd = true
  | 0, _, _, _, _, h, _ => by simp [evOps] at h
  | n + 1, [], S, d, t, h, hn => by simp [evOps] at h; subst h; exact hn
  | n + 1, o :: rest, S, d, t, h, hn => by
    simp only [evOps] at h
    split at h
    · cases h
    · split at h
      · split at h
        · split at h
          · have := evOps_need n rest S _ t h hn; exact this
          · cases h
        · split at h
          · split at h
            · split at h
              · exact (cond_and (evOps_need n rest S _ t h hn)).1
              · split at h <;> (cases h; exact (cond_and hn).1)
            · cases h
          · cases h
      · exact (cond_and (evOps_need n rest S _ t h hn)).1
      · cases h
        exact (mkNode_need _ _ _ _ _ hn).1
      · cases h

theorem le_ext {n0 : Nat} {S : St} (h : n0 ≤ S.hp.length) (d : Dl) : n0 ≤ (S.ext d).hp.length := by simp only [St.ext, List.length_append]; omega

/-- In a region where nothing writes nothing panics. -/
theorem evOps_sound {n0 : Nat} {Γ : List (Nat × Ctr)} (hΓ : ∀ f c, lookC f Γ = some c → Sat P f c) {q : Bool} {all : List Oper} {Q : Exit → Act → World → Prop} : ∀ (n : Nat) (rest : List Oper) (S : St) (d : Dl) (t : Tr) (ρ : Rho) (a : Act) (w : World),
    evOps P Γ N q all n rest S d = some t → t.need = true → n0 ≤ S.hp.length → Rel N M w0 ρ (S.ext d) a w → (∀ ρ' a' w' e, ExtS n0 ρ ρ' → ExR ρ' (t.out S).1 e → Rel N M w0 ρ' (t.out S).2 a' w' → Q e a' w') → wpList P all.toArray Q rest a w
  | 0, _, _, _, _, _, _, _, h, _, _, _, _ => by simp [evOps] at h
  | n + 1, [], S, d, t, ρ, a, w, h, hn, hn0, hR, hQ => by
    simp [evOps] at h; subst h
    exact hQ ρ a w .normal (ExtS.refl _ _) rfl hR
  | n + 1, o :: rest, S, d, t, ρ, a, w, h, hn, hn0, hR, hQ => by
    simp only [evOps] at h
    have hgs := guardOf_sound (ρ := ρ) (S := S.ext d) (a := a) (all := all) (o := o) (fun j want t _ _ => hR.fr t)
    split at h
    · cases h
    · rename_i hdst
      split at h
      · -- it is carried out
        rename_i hg
        unfold wpList
        rw [if_pos (hgs.1 hg)]
        left
        split at h
        · -- put off
          split at h
          · rename_i f hgd hdf
            have hop : ∃ c f' g ys, o.op = .defer c ∧ c.callee = .value f' ∧ opd (S.ext d) f' = .fn (.func g) [] ys ∧ c.args.toList = [] ∧ f = ((AVal.fn (Fn.func g) [] ys, ([] : List AVal)) : AVal × List AVal) := by
              unfold dferOf at hdf
              split at hdf
              · rename_i c hc
                split at hdf
                · rename_i f' hf'
                  split at hdf
                  · rename_i g ys hgo
                    split at hdf
                    · rename_i hargs
                      cases hdf
                      exact ⟨c, f', g, ys, hc, hf', hgo, hargs, rfl⟩
                    · cases hdf
                  · cases hdf
                · cases hdf
              · cases hdf
            obtain ⟨c, f', g, ys, hop, hcal, hfo, hargs, rfl⟩ := hop
            have hfv := hR.opd f'
            rw [hfo] at hfv
            unfold V at hfv
            obtain ⟨us, cs, hfe, h1, h2⟩ := hfv
            unfold VL at h1
            subst h1
            have hca : c.args = #[] := by apply Array.ext'; rw [hargs]
            have hrun : (execOp a.eval o).run P w = .ok (.defer { target := .fn (.func g) ⟨cs⟩, args := #[] }) w := by
              unfold execOp; rw [hop]
              simp only [resolve, hcal, hfe, Deferred.ofValue, Sem.run_bind, Sem.run_pure, Result.andThen_ok, hca]
              simp
            unfold Oper.wp
            rw [hrun, Oper.upon_defer]
            refine evOps_sound hΓ n rest S _ t ρ _ w h hn hn0 ⟨fun t' => ?_, ?_, ?_, ?_⟩ hQ
            · have key := fr_put (hv := []) (vv := []) (nw := []) (nd := true) (v := .raw undef) (u := undef) hR.fr hR.sz hdst (Ext.refl ρ) (by unfold V; rfl) t'
              rw [get_ext] at key ⊢
              cases hdo : o.dst with
              | none => simp only [hdo, Dl.put, Act.put] at key ⊢; exact key
              | some s => simp only [hdo, Dl.put, Act.put] at key ⊢; exact key
            · rw [act_put_sz]; exact hR.sz
            · rw [act_put_df]
              exact ⟨_, _, rfl, ⟨g, ys, cs, rfl, rfl, rfl, h2⟩, hR.df⟩
            · exact hR.mem.same (fun i o => by simp [St.cell, St.blk, St.ext]) (fun i => by simp [St.blk, St.ext]) (fun i => by simp [St.vec, St.blk, St.ext]) (by simp [St.ext]) (fun i o x hx => hR.mem.hp.ink i o x hx) (fun i x hx => hR.mem.hp.vink i x hx)
          · cases h
        · split at h
          · rename_i out hout
            split at h
            · rename_i hq
              have hok := evOp_sound (o := o) hΓ hout hR.mem (fun x _ => hR.opd x)
              split at h
              · rename_i hpn
                have hnd := (cond_and (evOps_need n rest S _ t h hn)).2
                refine hok hnd _ _ (fun u w' ρ' hext _ hvu hm => ?_) (fun v u w' hp _ _ => by rw [hpn] at hp; cases hp)
                exact evOps_sound hΓ n rest S _ t ρ' _ w' h hn hn0 (hR.put hdst hext.1 hvu hm) (fun ρ'' a' w'' e he => hQ ρ'' a' w'' e ((hext.mono (le_ext hn0 d)).trans he))
              · rename_i b v hpn
                have hR0 : Rel N M w0 ρ ((S.ext d).ext Dl.nil) a w := hR.nil
                split at h
                · rename_i r hr
                  cases h
                  have hnode := hn
                  simp only [Tr.need] at hnode
                  have hb := (cond_and hnode).2
                  have hnd : out.nd = true := by
                    cases b with
                    | true => exact hb
                    | false => have := evOps_need n rest _ _ r hr hb; exact (cond_and (a := true) this).2
                  refine hok hnd _ _ (fun u w' ρ' hext hpf hvu hm => ?_) (fun v' u w' hp hv hm => ?_)
                  · have hbf := hpf b v hpn
                    subst hbf
                    have hm' : Mem M w0 ρ' (((S.ext d).ext Dl.nil).put out.hv out.vv out.nw) w' := by
                      refine hm.alk ⟨fun t => ?_, fun i o => ?_, fun i => ?_, fun i => ?_, ?_, fun i o x hx => ⟨x, ?_⟩, fun i x hx => ⟨x, ?_⟩, ?_⟩
                      · simp only [St.put, get_ext]; rfl
                      · simp [St.put, St.ext, Dl.nil, St.cell, St.blk, hlookL, hlook1]
                      · simp [St.put, St.ext, Dl.nil, St.blk]
                      · simp [St.put, St.ext, Dl.nil, St.vec, St.blk, vlookL, vlook1]
                      · simp [St.put, St.ext, Dl.nil]
                      · simpa [St.put, St.ext, Dl.nil, hlookL, hlook1] using hx
                      · simpa [St.put, St.ext, Dl.nil, vlookL, vlook1] using hx
                      · simp [St.put, St.ext, Dl.nil]
                    refine evOps_sound hΓ n rest _ _ r ρ' _ w' hr hb (le_ext hn0 d) (hR0.put hdst hext.1 hvu hm') (fun ρ'' a' w'' e he hx hr' => hQ ρ'' a' w'' e ((hext.mono (le_ext hn0 d)).trans he) ?_ ?_)
                    · simpa [Tr.out] using hx
                    · simpa [Tr.out] using hr'
                  · rw [hpn] at hp
                    simp only [Option.some.injEq, Prod.mk.injEq] at hp
                    obtain ⟨rfl, rfl⟩ := hp
                    refine hQ ρ a w' _ (ExtS.refl _ _) ⟨u, hv, rfl⟩ ?_
                    simp only [Tr.out, if_true]
                    refine ⟨fun t => ?_, hR.sz, ?_, hm.alk ⟨fun t => ?_, fun i o => ?_, fun i => ?_, fun i => ?_, ?_, fun i o x hx => ⟨x, ?_⟩, fun i x hx => ⟨x, ?_⟩, ?_⟩⟩
                    · rw [get_ext]; exact hR.fr t
                    · simpa [St.ext] using hR.df
                    · rw [get_ext]; rfl
                    · simp [St.ext, St.cell, St.blk, hlookL, hlook1]
                    · simp [St.ext, St.blk]
                    · simp [St.ext, St.vec, St.blk, vlookL, vlook1]
                    · simp [St.ext]
                    · simpa [St.ext, hlookL, hlook1] using hx
                    · simpa [St.ext, vlookL, vlook1] using hx
                    · simp [St.ext]
                · -- it surely panics
                  cases h
                  have hnode := hn
                  simp only [Tr.need] at hnode
                  have hb := (cond_and hnode).2
                  cases b with
                  | false => cases hb
                  | true =>
                    refine hok hb _ _ (fun u w' ρ' hext hpf hvu hm => ?_) (fun v' u w' hp hv hm => ?_)
                    · have := hpf _ _ hpn; cases this
                    · rw [hpn] at hp
                      simp only [Option.some.injEq, Prod.mk.injEq] at hp
                      obtain ⟨_, rfl⟩ := hp
                      refine hQ ρ a w' _ (ExtS.refl _ _) ⟨u, hv, rfl⟩ ?_
                      simp only [Tr.out, if_true]
                      refine ⟨fun t => ?_, hR.sz, ?_, hm.alk ⟨fun t => ?_, fun i o => ?_, fun i => ?_, fun i => ?_, ?_, fun i o x hx => ⟨x, ?_⟩, fun i x hx => ⟨x, ?_⟩, ?_⟩⟩
                      · rw [get_ext]; exact hR.fr t
                      · simpa [St.ext] using hR.df
                      · rw [get_ext]; rfl
                      · simp [St.ext, St.cell, St.blk, hlookL, hlook1]
                      · simp [St.ext, St.blk]
                      · simp [St.ext, St.vec, St.blk, vlookL, vlook1]
                      · simp [St.ext]
                      · simpa [St.ext, hlookL, hlook1] using hx
                      · simpa [St.ext, vlookL, vlook1] using hx
                      · simp [St.ext]
            · cases h
          · cases h
      · rename_i hg
        unfold wpList
        rw [if_neg (by rw [hgs.2.1 hg]; simp)]
        have hm : Mem M w0 ρ ((S.ext d).put [] [] []) w := hR.mem.put_nil
        exact evOps_sound hΓ n rest S _ t ρ _ w h hn hn0 (hR.put hdst (Ext.refl _) (by unfold V; rfl) hm) hQ
      · rename_i t' b hg
        have hsb := hgs.2.2 t' b hg
        cases h
        have hR' := hR.refine hsb
        have hw := mkNode_weak (N := N) (M := M) (w0 := w0) S d b (orStuck (evOps P Γ N q all n (o :: rest) (S.ext d) (Dl.one t' (.bool true)))) (orStuck (evOps P Γ N q all n (o :: rest) (S.ext d) (Dl.one t' (.bool false))))
        have hnb := (mkNode_need _ _ _ _ _ hn).2
        cases b with
        | true =>
          obtain ⟨l, hl, hle, hln⟩ := orStuck_need (by simpa using hnb)
          refine evOps_sound hΓ n (o :: rest) _ _ l ρ a w hl hln (le_ext hn0 d) hR' (fun ρ' a' w' e he hx hr' => hQ ρ' a' w' e he ?_ (hw.2 _ _ _ (by simpa [hle] using hr')))
          rw [hw.1]; simpa [hle] using hx
        | false =>
          obtain ⟨l, hl, hle, hln⟩ := orStuck_need (by simpa using hnb)
          refine evOps_sound hΓ n (o :: rest) _ _ l ρ a w hl hln (le_ext hn0 d) hR' (fun ρ' a' w' e he hx hr' => hQ ρ' a' w' e he ?_ (hw.2 _ _ _ (by simpa [hle] using hr')))
          rw [hw.1]; simpa [hle] using hx
      · cases h
end
end Go.Ab
