import Derived.Test.YtbblhkjkokbheaaGc
import Derived.Test.YtbblhkjkokbheaaGd
import Derived.Defers
import Derived.Recover
import Derived.OpenShut
namespace Go.Ab
open Go Go.RowKit
set_option linter.unusedVariables false

/-! A function that puts off one call of a closure, which asks for what has been raised. -/
/-- The operation asks for what has been raised. -/
def isRec (o : Oper) : Bool :=
  match o.guard, o.op with
  | none, .call c => match c.callee, c.args.toList with
    | .builtin .recover, [] => true
    | _, _ => false
  | _, _ => false

/-- The closure's body: the first operation asks for what has been raised. -/
noncomputable def evRec (P : Program) (Γ : List (Nat × Ctr)) (N : Nat) (pv : AVal) : Nat → Code → St → Dl → Option Tr
  | 0, _, _, _ => none
  | n + 1, c, S, d => match c with
    | .seq a b => match evRec P Γ N pv n a S d with
      | some t => bindT S t (fun S d => ev P Γ N n b S d)
      | none => none
    | .region _ ops draw => match draw, ops.toList with
      | false, o :: rest => match isRec o && okDst N o.dst with
        | true => evOps P Γ N false (o :: rest) 300 rest S (d.put o.dst pv [] [] [] true)
        | false => none
      | _, _ => none
    | _ => none

/-- What the closure does, seen from the frame that has put it off. -/
def stripT : Tr → Tr
  | .leaf e d => match noDf d with
    | true => match e with
      | .normal => .leaf .normal ⟨[], d.hv, d.vv, d.nw, [], d.nd⟩
      | .ret => .leaf .normal ⟨[], d.hv, d.vv, d.nw, [], d.nd⟩
      | _ => stuckT
    | false => stuckT
  | .node d b l r => match noDf d with
    | true => .node ⟨[], d.hv, d.vv, d.nw, [], d.nd⟩ b (stripT l) (stripT r)
    | false => stuckT

def dropD (d : Dl) : Dl := ⟨d.ov, d.hv, d.vv, d.nw, [], d.nd⟩

def raisedV : Ex → Option AVal
  | .normal => some (.raw .nilIface)
  | .ret => some (.raw .nilIface)
  | .panic v => some v
  | .exit _ => none

/-- A way's end: the call that has been put off comes now. -/
noncomputable def leafD (P : Program) (Γ : List (Nat × Ctr)) (fuel : Nat) (g0 : FuncId) (fg : Func) (T : St) (e : Ex) (d : Dl) : Option Tr :=
  match (T.ext d).dfs with
  | [(f, _)] => match f with
    | .fn (.func g) [] ys => match Nat.beq g g0 && Nat.ble (lenL ys) fg.ntmps, fg.body, fg.results.toList, raisedV e with
      | true, some c, [], some pv => match evRec P Γ fg.ntmps pv fuel c ((T.ext d).start fg.ntmps ys) Dl.nil with
        | some t => some (preT (dropD d) (stripT t))
        | none => none
      | _, _, _, _ => none
    | _ => none
  | _ => none

noncomputable def dfT (P : Program) (Γ : List (Nat × Ctr)) (fuel : Nat) (g0 : FuncId) (fg : Func) : St → Tr → Option Tr
  | T, .leaf e d => leafD P Γ fuel g0 fg T e d
  | T, .node d b l r => some (.node (dropD d) b (orStuck (dfT P Γ fuel g0 fg (T.ext d) l)) (orStuck (dfT P Γ fuel g0 fg (T.ext d) r)))

noncomputable def evBodyD (P : Program) (Γ : List (Nat × Ctr)) (fuel : Nat) (g0 : FuncId) (fg : Func) (fn : Func) (args : List AVal) (S : St) : Option Out :=
  match fn.body with
  | some c => match Nat.ble (lenL args) fn.ntmps with
    | true => match ev P Γ fn.ntmps fuel c (S.start fn.ntmps args) Dl.nil with
      | some t => match dfT P Γ fuel g0 fg (S.start fn.ntmps args) t with
        | some t2 => match finT (leafT P none fn.results.toList S.hp.length) S (S.start fn.ntmps args) [] [] t2 with
          | some f => outOf f
          | none => none
        | none => none
      | none => none
    | false => none
  | none => none

noncomputable def inlD (P : Program) (Γ : List (Nat × Ctr)) (fuel : Nat) (g0 : FuncId) (fg : Func) (fn : Func) : Ctr := ⟨evBodyD P Γ fuel g0 fg fn, none⟩

section
variable {P : Program} {N : Nat} {M : Addr → Prop} {w0 : World}

theorem wpS_mono {c : Code} {Q Q' : Exit → Act → List Frame → World → Prop} {a : Act} {cs : List Frame} {w : World} (h : c.wpS P Q a cs w) (k : ∀ e a cs w, Q e a cs w → Q' e a cs w) : c.wpS P Q' a cs w :=
  fun b kk hb hr => let ⟨e, a', cs', w', q, r⟩ := h b kk hb hr; ⟨e, a', cs', w', k _ _ _ _ q, r⟩

theorem isRec_run {o : Oper} (h : isRec o = true) : o.guard = none ∧ ∀ (ρ : Operand → Value) (w : World), (execOp ρ o).run P w = .ok .recover w := by
  unfold isRec at h
  split at h
  · rename_i c hg hop
    split at h
    · rename_i hb ha
      refine ⟨hg, fun ρ w => ?_⟩
      unfold execOp; rw [hop]
      simp only [resolve, hb, Sem.run_bind, Sem.run_pure, Result.andThen_ok, invoke, builtin]
    · cases h
  · cases h

theorem evRec_sound {n0 : Nat} {Γ : List (Nat × Ctr)} (hΓ : ∀ f c, lookC f Γ = some c → Sat P f c) (hmo : P.follows .mixedOrders = true) {pv : AVal} {u : Value} {cs cs' : List Frame} (hcs : recoverD cs = some (u, cs') ∨ (recoverD cs = none ∧ u = .nilIface ∧ cs' = cs)) :
    ∀ (n : Nat) (c : Code) (S : St) (d : Dl) (t : Tr), evRec P Γ N pv n c S d = some t → t.need = true → n0 ≤ S.hp.length →
    ∀ (ρ : Rho) (a : Act) (w : World) (Q : Exit → Act → World → Prop), V ρ pv u → Rel N M w0 ρ (S.ext d) a w → (∀ ρ' a' w' e, ExtS n0 ρ ρ' → ExR ρ' (t.out S).1 e → Rel N M w0 ρ' (t.out S).2 a' w' → Q e a' w') →
      c.wpS P (fun e a' cs'' w' => cs'' = cs' ∧ Q e a' w') a cs w
  | 0, c, S, d, t, h, _, _, _, _, _, _, _, _, _ => by simp [evRec] at h
  | n + 1, c, S, d, t, h, hn, hn0, ρ, a, w, Q, hu, hR, hQ => by
    unfold evRec at h
    cases c <;> simp only at h <;> try (cases h; done)
    case seq x y =>
      split at h
      · rename_i t1 h1
        obtain ⟨hn1, hout⟩ := bindT_out (N := N) (M := M) (w0 := w0) (fun S d t => ev_need (Γ := Γ) n y S d t) t1 S t h hn
        apply wpS_seq
        refine wpS_mono (evRec_sound hΓ hmo hcs n x S d t1 h1 hn1 hn0 ρ a w (fun e a' w' => match e with | .normal => y.wp P Q a' w' | e => Q e a' w') hu hR ?_) ?_
        · intro ρ' a' w' e hext hx hr'
          rcases hout with ⟨k1, S', d', t', k0, k2, k3, k3n, k4⟩ | ⟨k1, k2⟩
          · rw [k1] at hx
            have hx : e = .normal := hx
            subst hx
            show y.wp P Q a' w'
            rw [k2] at hr'
            refine (ev_sound (n0 := n0) hΓ hmo n y S' d' t' k3 k3n (Nat.le_trans hn0 k0) ρ' a' w' Q hr' ?_).1
            intro ρ'' a'' w'' e' hext' hx' hr''
            rw [← k4.1] at hx'
            exact hQ ρ'' a'' w'' e' (hext.trans hext') hx' (k4.2 _ _ _ hr'')
          · have := hQ ρ' a' w' e hext (by rw [k2.1]; exact hx) (k2.2 _ _ _ hr')
            cases e with
            | normal =>
              exfalso
              cases he : (t1.out S).1 with
              | normal => exact k1 he
              | exit id => rw [he] at hx; cases hx
              | ret => rw [he] at hx; cases hx
              | panic v => rw [he] at hx; obtain ⟨u, _, hu⟩ := hx; cases hu
            | _ => exact this
        · rintro e a' cs'' w' ⟨rfl, hq⟩
          cases e with
          | normal => exact wpS_of_wp (fun b k cs => let ⟨e, a', w', q, r⟩ := hq b k cs; ⟨e, a', w', ⟨rfl, q⟩, r⟩)
          | _ => exact ⟨rfl, hq⟩
      · cases h
    case region id ops draw =>
      split at h
      · rename_i o rest hops
        split at h
        · rename_i hb
          rw [Bool.and_eq_true] at hb
          obtain ⟨hrec, hdst⟩ := hb
          obtain ⟨hg0, hrun⟩ := isRec_run (P := P) hrec
          have hopsE : ops = (o :: rest).toArray := by rw [← hops]
          subst hopsE
          have ho : (o :: rest).toArray[0]? = some o := by simp
          have hw : Region.wanted o (yielded (o :: rest).toArray a.tmps) = true := by simp [Region.wanted, hg0]
          have hrange : List.range (o :: rest).toArray.size = 0 :: List.range' 1 rest.length := by
            rw [List.range_eq_range']; simp [List.range'_succ]
          have hm : Mem M w0 ρ ((S.ext d).put [] [] []) w := hR.mem.put_nil
          have hR' := hR.put hdst (Ext.refl _) hu hm (nd := true)
          have hlist : wpList P (o :: rest).toArray Q rest (a.put o.dst u) w := evOps_sound hΓ 300 rest S _ t ρ _ w h hn hn0 hR' hQ
          have hops' : wpOps P (o :: rest).toArray Q (List.range' 1 rest.length) (a.put o.dst u) w := by
            rw [wpOps_eq_wpList rest 1 (fun j => by simp [Nat.add_comm 1 j])]
            exact hlist
          intro b k hbk hro
          obtain ⟨e, a', w', hq, harr⟩ := wp_ops _ _ _ hops' b k cs'
          refine ⟨e, a', cs', w', ⟨rfl, hq⟩, .of_steps (.head step_region ?_) harr⟩
          rw [hrange]
          refine .one (step_lone_go ?_)
          have hg := stepG_op (P := P) (b := b) (a := a) (k := k) (cs := cs) (w := w) (rest := List.range' 1 rest.length) ho hw
          have hfin : ∀ v, (b.at a (.inRegion (o :: rest).toArray (0 :: List.range' 1 rest.length) :: k)).finish v = b.at (a.put o.dst v) (.inRegion (o :: rest).toArray (List.range' 1 rest.length) :: k) := by
            intro v; rw [Frame.finish_at, ho]; rfl
          have htr := tryRecover_deferred (fr := b.at a (.inRegion (o :: rest).toArray (0 :: List.range' 1 rest.length) :: k)) hbk cs
          rw [hg, ← hfin]
          simp only [Frame.at] at htr ⊢
          rcases hcs with hcs | ⟨hcs, rfl, rfl⟩
          · simp [stepG.apply, hrun, htr, hcs]
          · simp [stepG.apply, hrun, htr, hcs]
        · cases h
      · cases h

/-- The same memory. -/
def SameM (X Y : St) : Prop := Y.hp = X.hp ∧ Y.hvs = X.hvs ∧ Y.vvs = X.vvs

theorem SameM.mem {ρ : Rho} {X Y : St} {w : World} (h : SameM X Y) (k : Mem M w0 ρ X w) : Mem M w0 ρ Y w := by
  obtain ⟨h1, h2, h3⟩ := h
  exact k.same (fun i o => by simp [St.cell, St.blk, h1, h2]) (fun i => by simp [St.blk, h1]) (fun i => by simp [St.vec, St.blk, h1, h3]) (by rw [h1]) (fun i o x hx => by rw [h1]; rw [h2] at hx; exact k.hp.ink i o x hx) (fun i x hx => by rw [h1]; rw [h3] at hx; exact k.hp.vink i x hx)

theorem strip_sound : ∀ (t : Tr) (X Y : St), SameM X Y → (stripT t).need = true →
    t.need = true ∧ ((t.out X).1 = .normal ∨ (t.out X).1 = .ret) ∧ (t.out X).2.dfs = X.dfs ∧ ((stripT t).out Y).1 = .normal ∧ SameM (t.out X).2 ((stripT t).out Y).2 ∧ (∀ s, ((stripT t).out Y).2.get s = Y.get s) ∧ ((stripT t).out Y).2.dfs = Y.dfs
  | .leaf e d, X, Y, hm, hn => by
    obtain ⟨m1, m2, m3⟩ := hm
    unfold stripT at hn ⊢
    cases hd : noDf d with
    | false => rw [hd] at hn; simp [stuckT, Tr.need] at hn
    | true =>
      have hdf := noDf_eq hd
      rw [hd] at hn
      cases e with
      | normal => exact ⟨hn, Or.inl rfl, by simp [Tr.out, St.ext, hdf], rfl, ⟨by simp [Tr.out, St.ext, m1], by simp [Tr.out, St.ext, m2], by simp [Tr.out, St.ext, m3]⟩, fun s => by simp only [Tr.out]; rw [get_ext]; rfl, by simp [Tr.out, St.ext]⟩
      | ret => exact ⟨hn, Or.inr rfl, by simp [Tr.out, St.ext, hdf], rfl, ⟨by simp [Tr.out, St.ext, m1], by simp [Tr.out, St.ext, m2], by simp [Tr.out, St.ext, m3]⟩, fun s => by simp only [Tr.out]; rw [get_ext]; rfl, by simp [Tr.out, St.ext]⟩
      | exit id => simp [stuckT, Tr.need] at hn
      | panic v => simp [stuckT, Tr.need] at hn
  | .node d b l r, X, Y, hm, hn => by
    obtain ⟨m1, m2, m3⟩ := hm
    unfold stripT at hn ⊢
    cases hd : noDf d with
    | false => rw [hd] at hn; simp [stuckT, Tr.need] at hn
    | true =>
      have hdf := noDf_eq hd
      rw [hd] at hn
      simp only [Tr.need] at hn
      obtain ⟨h1, h2⟩ := cond_and hn
      have h1 : d.nd = true := h1
      have hm' : SameM (X.ext d) (Y.ext ⟨[], d.hv, d.vv, d.nw, [], d.nd⟩) := ⟨by simp [St.ext, m1], by simp [St.ext, m2], by simp [St.ext, m3]⟩
      have hg : ∀ s, (Y.ext ⟨[], d.hv, d.vv, d.nw, [], d.nd⟩).get s = Y.get s := fun s => by rw [get_ext]; rfl
      cases b with
      | true =>
        obtain ⟨k1, k2, k3, k4, k5, k6, k7⟩ := strip_sound l _ _ hm' (by simpa using h2)
        simp only [Tr.out, Tr.need, h1, if_true, cond_true]
        exact ⟨k1, k2, by rw [k3]; simp [St.ext, hdf], k4, k5, fun s => (k6 s).trans (hg s), k7.trans (by simp [St.ext])⟩
      | false =>
        obtain ⟨k1, k2, k3, k4, k5, k6, k7⟩ := strip_sound r _ _ hm' (by simpa using h2)
        simp only [Tr.out, Tr.need, h1, Bool.false_eq_true, if_false, cond_false, cond_true]
        exact ⟨k1, k2, by rw [k3]; simp [St.ext, hdf], k4, k5, fun s => (k6 s).trans (hg s), k7.trans (by simp [St.ext])⟩

/-- The same, but for what has been put off. -/
def Same0 (T T0 : St) : Prop := SameM T T0 ∧ T0.fr = T.fr ∧ T0.ovs = T.ovs ∧ T0.dfs = []

theorem Same0.ext {T T0 : St} (h : Same0 T T0) (d : Dl) : Same0 (T.ext d) (T0.ext (dropD d)) := by
  obtain ⟨⟨h1, h2, h3⟩, h4, h5, h6⟩ := h
  exact ⟨⟨by simp [St.ext, dropD, h1], by simp [St.ext, dropD, h2], by simp [St.ext, dropD, h3]⟩, by simp [St.ext, h4], by simp [St.ext, dropD, h5], by simp [St.ext, dropD, h6]⟩

theorem recover_none {c : Frame} {cs : List Frame} (h : c.mode = .returning) : recoverD (c :: cs) = none := by
  simp [recoverD, h]
theorem recover_some {c : Frame} {cs : List Frame} {u : Value} (h : c.mode = .panicking [{ v := u, recovered := false }]) : recoverD (c :: cs) = some (u, { c with mode := .panicking [{ v := u, recovered := true }] } :: cs) := by
  simp [recoverD, h]

theorem leafD_sound {n0 : Nat} {Γ : List (Nat × Ctr)} (hΓ : ∀ f c, lookC f Γ = some c → Sat P f c) (hmo : P.follows .mixedOrders = true) {g0 : FuncId} {fg fn : Func} (hfg : P.funcs[g0]? = some fg)
    (hcall : ∀ (args : Array Value) (w : World), (callFunc g0 args).run P w = .ok (.enter g0 args) w) {fuel : Nat} {T T0 : St} {e : Ex} {d : Dl} {t2 : Tr} (hT : Same0 T T0) (h : leafD P Γ fuel g0 fg T e d = some t2) (hn : t2.need = true) (hn0 : n0 ≤ T.hp.length) :
    d.nd = true ∧ ∀ (ρ : Rho) (a : Act) (w : World) (ex : Exit) (R : Ending → World → Prop), Rel N M w0 ρ (T.ext d) a w → ExR ρ e ex →
      (∀ ρ' w', ExtS n0 ρ ρ' → Rel N M w0 ρ' (t2.out T0).2 ⟨a.tmps, []⟩ w' → (t2.out T0).1 = .normal → ∃ v, (results fn a.tmps).run P w' = .ok v w' ∧ R (.returned v) w') → bodyPostD P fn R ex a w := by
  unfold leafD at h
  split at h
  case h_2 => cases h
  rename_i f xs hdfs
  split at h
  case h_2 => cases h
  rename_i g ys
  split at h
  case h_2 => cases h
  rename_i c pv hb hbody hres hpv
  rw [Bool.and_eq_true] at hb
  have hg := Nat.eq_of_beq_eq_true hb.1
  subst hg
  have hys := Nat.le_of_ble_eq_true hb.2
  rw [lenL_len] at hys
  split at h
  case h_2 => cases h
  rename_i tc htc
  cases h
  obtain ⟨hnd, hnc⟩ := preT_need _ _ hn
  have hnd : d.nd = true := hnd
  refine ⟨hnd, fun ρ a w ex R hR hx hk => ?_⟩
  have hT1 := hT.ext d
  have hsm : SameM ((T.ext d).start fg.ntmps ys) (T0.ext (dropD d)) := hT1.1
  obtain ⟨k1, k2, k3, k4, k5, k6, k7⟩ := strip_sound tc _ _ hsm hnc
  -- what has been put off
  have hdf := hR.df
  rw [hdfs] at hdf
  obtain ⟨dd, ds', hds, ⟨g', cs', us, hfe, hxs, hdd, hus⟩, hnil⟩ := hdf
  cases hfe
  have hnil : ds' = [] := hnil
  subst hnil
  subst hdd
  have hresE : fg.results = #[] := by apply Array.ext'; rw [hres]
  have hinv : (invoke (.fn (.func g) ⟨us⟩) #[]).run P w = .ok (.enter g ⟨us⟩) w := by
    simp only [invoke, hcall]; simp
  -- the closure, by the way in which the frame is left
  have key : ∀ (m m' : FrameMode) (u : Value), m ≠ .run → settle m' = .returning → V ρ pv u → (∀ (c₀ : Frame) (cs : List Frame), c₀.mode = m → (recoverD (c₀ :: cs) = some (u, { c₀ with mode := m' } :: cs) ∨ (recoverD (c₀ :: cs) = none ∧ u = .nilIface ∧ { c₀ with mode := m' } :: cs = c₀ :: cs))) →
      Leaves P fn a.tmps R a.defers m w := by
    intro m m' u hm hset hu hrec
    rw [hds]
    refine leaves_cons hm hinv ?_
    refine callsD_of_wpS hfg hbody (fun c₀ cs hc₀ => ?_)
    refine wpS_mono (evRec_sound (n0 := n0) hΓ hmo (hrec c₀ cs hc₀) fuel c _ _ tc htc k1 (Nat.le_trans hn0 (le_ext (Nat.le_refl _) d)) ρ _ w (fun e' ac wc => ac.defers = [] ∧ (e' = .normal ∨ e' = .ret) ∧ ∃ v, (results fn a.tmps).run P wc = .ok v wc ∧ R (.returned v) wc) hu (start_rel hR.mem hus (by omega)) ?_) ?_
    · intro ρ' ac wc e' hext hxc hrc
      have hdc : ac.defers = [] := by
        have := hrc.df
        rw [k3] at this
        exact this
      refine ⟨hdc, ?_, ?_⟩
      · rcases k2 with k2 | k2
        · rw [k2] at hxc; exact Or.inl hxc
        · rw [k2] at hxc; exact Or.inr hxc
      · have hrel : Rel N M w0 ρ' ((stripT tc).out (T0.ext (dropD d))).2 ⟨a.tmps, []⟩ wc := by
          refine ⟨fun s => ?_, hR.sz, ?_, k5.mem hrc.mem⟩
          · rw [k6]
            have := V_ext hext.1 _ _ (hR.fr s)
            have hge : (T0.ext (dropD d)).get s = (T.ext d).get s := by
              obtain ⟨_, q1, q2, _⟩ := hT1
              unfold St.get
              rw [q1, q2]
            rw [hge]; exact this
          · rw [k7, hT1.2.2.2]; rfl
        have hw := preT_out (N := N) (M := M) (w0 := w0) T0 (dropD d) (stripT tc)
        exact hk ρ' wc hext (hw.2 _ _ _ hrel) (by rw [hw.1]; exact k4)
    · rintro e' ac cs'' wc ⟨rfl, hd0, he', v, hv1, hv2⟩
      have hpost : ac.defers = [] ∧ ∃ u', { c₀ with mode := m' } :: cs = { c₀ with mode := u' } :: cs ∧ ∃ v', (results fg ac.tmps).run P wc = .ok v' wc ∧ Leaves P fn a.tmps R [] (settle u') wc := by
        refine ⟨hd0, m', rfl, .tuple #[], ?_, ?_⟩
        · unfold results
          rw [hresE]
          simp
        · rw [hset]
          exact ⟨v, hv1, hv2⟩
      rcases he' with rfl | rfl
      · exact hpost
      · exact hpost
  cases e with
  | exit id => cases hpv
  | normal =>
    have hx : ex = .normal := hx
    subst hx
    cases hpv
    exact key .returning .returning .nilIface (by simp) rfl (by unfold V; rfl) (fun c₀ cs hc => Or.inr ⟨recover_none hc, rfl, by cases c₀; simp_all⟩)
  | ret =>
    have hx : ex = .ret := hx
    subst hx
    cases hpv
    exact key .returning .returning .nilIface (by simp) rfl (by unfold V; rfl) (fun c₀ cs hc => Or.inr ⟨recover_none hc, rfl, by cases c₀; simp_all⟩)
  | panic v =>
    obtain ⟨u, hu, rfl⟩ := hx
    cases hpv
    exact key (.panicking [{ v := u, recovered := false }]) (.panicking [{ v := u, recovered := true }]) u (by simp) rfl hu (fun c₀ cs hc => Or.inl (recover_some hc))

theorem dfT_sound {n0 : Nat} {Γ : List (Nat × Ctr)} (hΓ : ∀ f c, lookC f Γ = some c → Sat P f c) (hmo : P.follows .mixedOrders = true) {g0 : FuncId} {fg fn : Func} (hfg : P.funcs[g0]? = some fg)
    (hcall : ∀ (args : Array Value) (w : World), (callFunc g0 args).run P w = .ok (.enter g0 args) w) {fuel : Nat} : ∀ (t : Tr) (T T0 : St) (t2 : Tr), Same0 T T0 → dfT P Γ fuel g0 fg T t = some t2 → t2.need = true → n0 ≤ T.hp.length →
    t.need = true ∧ ∀ (ρ : Rho) (a : Act) (w : World) (ex : Exit) (R : Ending → World → Prop), Rel N M w0 ρ (t.out T).2 a w → ExR ρ (t.out T).1 ex →
      (∀ ρ' w', ExtS n0 ρ ρ' → Rel N M w0 ρ' (t2.out T0).2 ⟨a.tmps, []⟩ w' → (t2.out T0).1 = .normal → ∃ v, (results fn a.tmps).run P w' = .ok v w' ∧ R (.returned v) w') → bodyPostD P fn R ex a w
  | .leaf e d, T, T0, t2, hT, h, hn, hn0 => leafD_sound hΓ hmo hfg hcall hT h hn hn0
  | .node d b l r, T, T0, t2, hT, h, hn, hn0 => by
    unfold dfT at h
    cases h
    simp only [Tr.need] at hn
    obtain ⟨h1, h2⟩ := cond_and hn
    have h1 : d.nd = true := h1
    cases b with
    | true =>
      obtain ⟨l', hl, hle, hln⟩ := orStuck_need (by simpa using h2)
      obtain ⟨k1, k2⟩ := dfT_sound hΓ hmo hfg hcall l (T.ext d) _ l' (hT.ext d) hl hln (le_ext hn0 d)
      refine ⟨by simp only [Tr.need, h1]; exact k1, fun ρ a w ex R hR hx hk => k2 ρ a w ex R (by simpa [Tr.out] using hR) (by simpa [Tr.out] using hx) (fun ρ' w' h' hr' hx' => hk ρ' w' h' (by simpa [Tr.out, hle] using hr') (by simpa [Tr.out, hle] using hx'))⟩
    | false =>
      obtain ⟨l', hl, hle, hln⟩ := orStuck_need (by simpa using h2)
      obtain ⟨k1, k2⟩ := dfT_sound hΓ hmo hfg hcall r (T.ext d) _ l' (hT.ext d) hl hln (le_ext hn0 d)
      refine ⟨by simp only [Tr.need, h1]; exact k1, fun ρ a w ex R hR hx hk => k2 ρ a w ex R (by simpa [Tr.out] using hR) (by simpa [Tr.out] using hx) (fun ρ' w' h' hr' hx' => hk ρ' w' h' (by simpa [Tr.out, hle] using hr') (by simpa [Tr.out, hle] using hx'))⟩

/-- WHAT IS SAID OF A FUNCTION THAT PUTS OFF ONE CALL IS SO. -/
theorem inlD_sat {Γ : List (Nat × Ctr)} (hΓ : ∀ f c, lookC f Γ = some c → Sat P f c) (hmo : P.follows .mixedOrders = true) {g0 : FuncId} {fg : Func} (hfg : P.funcs[g0]? = some fg)
    (hcallg : ∀ (args : Array Value) (w : World), (callFunc g0 args).run P w = .ok (.enter g0 args) w) {f : FuncId} {fn : Func} (hf : P.funcs[f]? = some fn)
    (hcall : ∀ (args : Array Value) (w : World), (callFunc f args).run P w = .ok (.enter f args) w) (fuel : Nat) : Sat P f (inlD P Γ fuel g0 fg fn) := by
  have key : SatC P f (inlD P Γ fuel g0 fg fn) → Sat P f (inlD P Γ fuel g0 fg fn) := fun h => h
  refine key ⟨hcall, fun args S out hfn hnd M w0 ρ w vs hM hv => ?_⟩
  have he : evBodyD P Γ fuel g0 fg fn args S = some out := hfn
  unfold evBodyD at he
  split at he
  case h_2 => cases he
  rename_i body hbody
  split at he
  case h_2 => cases he
  rename_i hn
  have hn := Nat.le_of_ble_eq_true hn
  rw [lenL_len] at hn
  split at he
  case h_2 => cases he
  rename_i t ht
  split at he
  case h_2 => cases he
  rename_i t2 ht2
  split at he
  case h_2 => cases he
  rename_i fr hfr
  have hnf : fr.nd = true := by
    unfold outOf at he
    split at he
    · cases he; exact hnd
    · split at he
      · cases he; exact hnd
      · cases he
  obtain ⟨hneed2, hfin⟩ := finT_sound (z := none) (fun _ _ _ h => nomatch h) (P := P) (N := fn.ntmps) (fn := fn) hM t2 _ [] [] fr hfr hnf (acc_start _ _)
  have hT : Same0 (S.start fn.ntmps args) (S.start fn.ntmps args) := ⟨⟨rfl, rfl, rfl⟩, rfl, rfl, rfl⟩
  obtain ⟨hneed, hdf⟩ := dfT_sound (N := fn.ntmps) (M := M) (w0 := w0) (n0 := S.hp.length) (fn := fn) hΓ hmo hfg hcallg t _ _ t2 hT ht2 hneed2 (Nat.le_refl _)
  refine calls_of_wp_defers hf hbody ?_
  refine (ev_sound (n0 := S.hp.length) hΓ hmo fuel body _ _ t ht hneed (Nat.le_refl _) ρ _ w _ (start_rel hM hv hn) ?_).1
  intro ρ' a' w' e hext hx hr'
  refine hdf ρ' a' w' e _ hr' hx (fun ρ'' w'' hext' hr'' hx'' => ?_)
  have := res_of_fin he (hfin ρ'' ⟨a'.tmps, []⟩ w'' .normal (hext.trans hext') hr'' (by rw [hx'']; rfl))
  exact this.2
end
end Go.Ab

namespace Go.Ab
open Go Go.RowKit
set_option linter.unusedVariables false
/-! ### A row that is written -/
section
variable {P : Program}
/-- What the function says over a memory of one row that may be written. -/
def OnRowW (P : Program) (f : FuncId) (x : VA) (ys : List AVal) (v : Vc) (out : Out) : Prop :=
  ∀ (M : Addr → Prop) (w0 : World) (ρ : Rho) (w : World) (vs : List Value), Mem M w0 ρ (stR [] [v]) w → VL ρ (vws 0 [x] ++ ys) vs → Calls P f ⟨vs⟩ w (Res M w0 ρ (stR [] [v]) out)

theorem stR1_vec {v : Vc} : (stR [] [v]).vec 0 = some v := rfl
theorem stR1_put {v u : Vc} : ((stR [] [v]).put [] [(0, u)] []).vec 0 = some u := rfl

theorem sat_mk {f : FuncId} {c : Ctr} (hcall : ∀ (args : Array Value) (w : World), (callFunc f args).run P w = .ok (.enter f args) w) (hx : c.x = none)
    (h : ∀ args S out, c.fn args S = some out → out.nd = true → (∃ ρ vs, VL ρ args vs) → ∃ x ys v u v0, args = x.av :: ys ∧ AVal.flat.flatL ys = true ∧ S.vec x.i = some v ∧ v.wr = true ∧ u.sh = v.sh ∧ u.n = v.n ∧ u.wr = true ∧
      OnRowW P f x ys v ⟨v0, [], [(0, u)], [], true, none⟩ ∧ v0.flat = true ∧ out = ⟨out.v, [], [(x.i, u)], [], out.nd, none⟩ ∧ ∀ ρ z, V ρ v0 z → V ρ out.v z) : Sat P f c := by
  unfold Sat
  rw [hx]
  refine ⟨hcall, fun args S out hfn hnd M w0 ρ w vs hM hv => ?_⟩
  obtain ⟨x, ys, v, u, v0, rfl, hys, hSv, hvw, hush, hun, huw, hon, hf0, hout, hsay⟩ := h args S out hfn hnd ⟨ρ, vs, hv⟩
  let M' : Addr → Prop := fun a => ∃ r b q, ρ x.i = some (r, b) ∧ q < ρ.cap x.i * lenL v.sh ∧ a = ⟨r, b + q, none⟩
  have hρ0 : (rhoV ρ [x.i]) 0 = ρ x.i := rfl
  have hcap0 : (rhoV ρ [x.i]).cap 0 = ρ.cap x.i := rfl
  have hρj : ∀ {j : Nat} {p : Nat × Nat}, (rhoV ρ [x.i]) j = some p → j = 0 := fun {j p} hp => by
    cases j with
    | zero => rfl
    | succ j => simp [rhoV] at hp
  have hv0 : ∀ {j : Nat} {y : Vc}, (stR [] [v]).vec j = some y → j = 0 ∧ y = v := fun {j y} hy => by
    have := stR_vec hy
    cases j with
    | zero => simp at this; exact ⟨rfl, this.symm⟩
    | succ j => simp at this
  have hMV : Mem M' w (rhoV ρ [x.i]) (stR [] [v]) w := by
    refine ⟨⟨fun j o y hy => (stR_cell j o y hy).elim, fun j vc r b k o c hy hr hk hc => ?_, fun j o y r b hy => (stR_cell j o y hy).elim, fun j vc r b q hy hw hr hq => ?_, fun j vc r b hy hw hr => ?_, fun j j' r b b' hne hw hr hr' hl => ?_, fun j p hp => ?_, fun j hk => ?_, fun j o y hy => by (simp [stR, hlookL] at hy), fun j y hy => by (simp [stR, vlookL] at hy), fun j r b hr => ?_⟩, Fr.refl _ _, ⟨fun j o y r b hy => (stR_cell j o y hy).elim, fun j vc r b q hy hw hr hq => ?_⟩⟩
    · obtain ⟨rfl, rfl⟩ := hv0 hy
      obtain ⟨z, k1, k2⟩ := hM.hp.vcell x.i vc r b k o c hSv hr hk hc
      exact ⟨z, k1, V_flat _ _ (by cases c <;> rfl) k2⟩
    · obtain ⟨rfl, rfl⟩ := hv0 hy
      exact hM.hp.vfrz x.i vc r b q hSv hw hr hq
    · obtain ⟨rfl, rfl⟩ := hv0 hy
      exact hM.hp.vcap x.i vc r b hSv hw hr
    · exact hne ((hρj hr).trans (hρj hr').symm)
    · rw [hρj hp]; show 0 < (rwB [v]).length; simp [rwB]
    · cases j with
      | zero => show 0 < (rwB [v]).length; simp [rwB]
      | succ j => simp [rhoV] at hk
    · have := hρj hr
      subst this
      exact hM.hp.lt x.i r b hr
    · obtain ⟨rfl, rfl⟩ := hv0 hy
      exact Or.inl ⟨r, b, q, hr, hq, rfl⟩
  refine (hon M' w (rhoV ρ [x.i]) w vs hMV (views_V (xs := [x]) (is := [x.i]) hys 0 vs (fun k i hk => by rw [Nat.zero_add]; exact hk) hv)).mono ?_
  intro e w' hr
  cases e with
  | outgrown => exact hr.elim
  | panicked ch => obtain ⟨z, u', hp, _⟩ := hr; cases hp
  | returned z =>
    obtain ⟨_, ρ', hext, hu, hm'⟩ := hr
    have hm' : Mem M' w ρ' ((stR [] [v]).put [] [(0, u)] []) w' := hm'
    rw [hout]
    refine ⟨fun b v h => (by cases h), ρ, ExtS.refl _ _, hsay ρ z (V_flat _ _ hf0 hu), ?_⟩
    have hkf : Fr M' w w' := hm'.fr
    have hcl : ∀ i o, (S.put [] [(x.i, u)] []).cell i o = S.cell i o := fun i o => by simp [St.put, St.ext, St.cell, St.blk, hlookL, hlook1]
    have hwB : S.wrB x.i = true := wrB_iff.2 (Or.inr ⟨v, hSv, hvw⟩)
    have hat : ∀ {r b}, ρ x.i = some (r, b) → ρ' 0 = some (r, b) ∧ ρ'.cap 0 = ρ.cap x.i := fun {r b} hr => by
      have := hext.1.at_ 0 (r, b) hr
      exact ⟨this.1, this.2.trans hcap0⟩
    have hother : ∀ (i r b q : Nat), i ≠ x.i → ρ i = some (r, b) → S.live i = true → ∀ y, w.cell? ⟨r, b + q, none⟩ = some y → w'.cell? ⟨r, b + q, none⟩ = some y := fun i r b q hne hr hlv y hy => by
      rw [hkf.cell _ (World.block_lt_of_cell? _ _ hy) (fun ⟨r', b', q', h1, h2, h3⟩ => by
        simp only [Addr.mk.injEq, and_true] at h3
        exact hM.hp.dis x.i i r' b' b (Ne.symm hne) hwB h1 (by rw [hr, h3.1]) hlv)]
      exact hy
    refine hM.step hkf (fun a ha => ?_) (fun i o y hy => ?_) (fun i o y hy => ?_) (fun i vc r b k o c hy hr hk hc => ?_) (fun i vc hy => ?_) (fun i hl => ?_) (fun i vc r b q y hy hw hr hv => ?_) (fun i => by simp [St.put, St.ext, St.blk]) (by simp [St.put, St.ext]) (fun i o y hy => ?_) (fun i y hy => ?_)
    · obtain ⟨r, b, q, h1, h2, h3⟩ := ha
      exact Or.inr ⟨x.i, v, r, b, q, hSv, hvw, h1, h2, h3⟩
    · rw [hcl] at hy
      obtain ⟨r, b, z', k1, k2, k3⟩ := hM.hp.cell i o y hy
      have hne : i ≠ x.i := fun e => by
        subst e
        have h1 := vec_cells hSv
        have h2 := cell_off hy
        rw [h1] at h2; simp at h2
      exact ⟨r, b, z', k1, hother i r b o hne k1 (live_cell hy) z' k2, k3⟩
    · rw [hcl] at hy; exact ⟨y, hy⟩
    · rw [put_vv_vec] at hy
      cases hs : S.vec i with
      | none => rw [hs] at hy; cases hy
      | some s =>
        rw [hs] at hy
        simp only at hy
        split at hy
        · rename_i hii
          subst hii
          cases hy
          obtain ⟨z', k1, k2⟩ := hm'.hp.vcell 0 u r b k o c stR1_put (hat hr).1 hk hc
          exact ⟨z', k1, V_flat _ _ (by cases c <;> rfl) k2⟩
        · rename_i hii
          cases hy
          obtain ⟨z', k1, k2⟩ := hM.hp.vcell i vc r b k o c hs hr hk hc
          exact ⟨z', hother i r b _ hii hr (live_vec hs hc) z' k1, k2⟩
    · rw [put_vv_vec] at hy
      cases hs : S.vec i with
      | none => rw [hs] at hy; cases hy
      | some s =>
        rw [hs] at hy
        simp only at hy
        split at hy
        · rename_i hii; subst hii; cases hy
          rw [hSv] at hs; cases hs
          exact ⟨v, rfl, by rw [hush], fun _ => ⟨hvw, by rw [hun]; exact Nat.le_refl _⟩⟩
        · cases hy; exact ⟨vc, rfl, rfl, fun h => ⟨h, Nat.le_refl _⟩⟩
    · rcases live_iff.1 hl with ⟨y, hy⟩ | ⟨y, c, sh, hy, hs⟩
      · rw [hcl] at hy; exact live_cell hy
      · rw [put_vv_vec] at hy
        cases hs' : S.vec i with
        | none => rw [hs'] at hy; cases hy
        | some s =>
          rw [hs'] at hy
          simp only at hy
          split at hy
          · rename_i hii; subst hii; cases hy
            rw [hSv] at hs'; cases hs'
            exact live_iff.2 (Or.inr ⟨v, c, sh, hSv, by rw [← hush]; exact hs⟩)
          · cases hy
            exact live_iff.2 (Or.inr ⟨y, c, sh, hs', hs⟩)
    · by_cases hin : M' ⟨r, b + q, none⟩
      · obtain ⟨r', b', q', h1, h2, h3⟩ := hin
        obtain ⟨g1, g2⟩ := hat h1
        obtain ⟨⟨z', hz⟩, _⟩ := hm'.hp.vfrz 0 u r' b' q' stR1_put huw g1 (by rw [g2, hush]; exact h2)
        exact ⟨z', by rw [h3]; exact hz⟩
      · exact ⟨y, by rw [hkf.cell _ (World.block_lt_of_cell? _ _ hv) hin]; exact hv⟩
    · have := hM.hp.ink i o y (by simpa [St.put, St.ext, hlookL, hlook1] using hy)
      simpa [St.put, St.ext] using this
    · simp only [St.put, St.ext, vlookL, vlook1, List.append_nil] at hy ⊢
      cases hb : Nat.beq i x.i with
      | true =>
        have := Nat.eq_of_beq_eq_true hb
        subst this
        have h1 := vec_cells hSv
        rcases Nat.lt_or_ge x.i S.hp.length with g | g
        · exact g
        · exfalso
          unfold St.vec St.blk at hSv
          rw [nthB_out _ _ g] at hSv
          simp at hSv
      | false =>
        rw [hb] at hy
        exact hM.hp.vink i y hy
end
end Go.Ab

namespace Go.Ab
open Go Go.RowKit
set_option linter.unusedVariables false
/-! ### Rows that are marked, and marks that are read -/
def incW : Nat → Int → Int
  | 0, k => k
  | n + 1, k => IntKind.i64.wrap (incW n k + 1)

theorem incW_eq : ∀ (n : Nat) (k : Int), 0 ≤ k → k + n ≤ 9223372036854775807 → incW n k = k + n
  | 0, k, _, _ => by simp [incW]
  | n + 1, k, h0, h1 => by
    unfold incW
    rw [incW_eq n k h0 (by omega)]
    rw [IntWalk.i64_in _ (by omega)]
    omega

/-- What is written into a cell. -/
noncomputable def mkC (K : Int) : CK → AVal
  | .f32 => .flt .f32 (ofInt .f32 K)
  | .int t => .sint t (t.wrap K)
  | .bool => .sbool false

noncomputable def putsF (k : Nat) (K : Int) : Nat → List CK → Vc → Vc
  | _, [], v => v
  | o, c :: r, v => putsF k K (o + 1) r (v.put k o [mkC (incW o K) c])

/-- So many elements are marked. -/
noncomputable def mrkJ (v : Vc) (a : Nat) (K : Int) (j : Nat) : Vc :=
  ⟨v.sh, v.n, fun k o => cond (Nat.ble a k && Nat.ble (k + 1) (a + j)) (ofInt .f32 (K + ((k - a) * lenL v.sh + o : Nat))) (v.fd k o),
   fun k o => cond (Nat.ble a k && Nat.ble (k + 1) (a + j)) (IntKind.i64.wrap (K + ((k - a) * lenL v.sh + o : Nat))) (v.gd k o), v.bd, v.wr⟩

def onlyFI : List CK → Bool
  | [] => true
  | .f32 :: r => onlyFI r
  | .int .i64 :: r => onlyFI r
  | _ => false

theorem onlyFI_at : ∀ {sh : List CK} {o : Nat} {c : CK}, onlyFI sh = true → nthC o sh = some c → c = .f32 ∨ c = .int .i64
  | [], o, c, _, h => by cases o <;> cases h
  | d :: sh, 0, c, h, hc => by
    simp only [nthC, Option.some.injEq] at hc
    subst hc
    cases d with
    | f32 => exact Or.inl rfl
    | int t => cases t <;> first | exact Or.inr rfl | cases h
    | bool => cases h
  | d :: sh, o + 1, c, h, hc => by
    refine onlyFI_at (sh := sh) (o := o) ?_ hc
    cases d with
    | f32 => exact h
    | int t => cases t <;> first | exact h | cases h
    | bool => cases h

theorem putsF_sh (k : Nat) (K : Int) : ∀ (r : List CK) (o : Nat) (v : Vc), (putsF k K o r v).sh = v.sh ∧ (putsF k K o r v).n = v.n ∧ (putsF k K o r v).wr = v.wr
  | [], o, v => ⟨rfl, rfl, rfl⟩
  | c :: r, o, v => putsF_sh k K r (o + 1) _

theorem mkW_mkC (c : CK) (K : Int) (h : c = .f32 ∨ c = .int .i64) : mkW c (mkC K c) = mkC K c := by
  rcases h with rfl | rfl <;> rfl

theorem putsF_mkA (k : Nat) (K : Int) : ∀ (r : List CK) (o : Nat) (v : Vc) (j q : Nat) (c : CK), onlyFI r = true → (∀ p d, nthC p r = some d → nthC (o + p) v.sh = some d) → nthC q v.sh = some c →
    (putsF k K o r v).mkA j q c = if j = k ∧ o ≤ q ∧ q < o + lenL r then mkC (incW q K) c else v.mkA j q c
  | [], o, v, j, q, c, _, _, _ => by
    rw [if_neg (by simp only [lenL]; omega)]; rfl
  | d :: r, o, v, j, q, c, ho, hs, hc => by
    unfold putsF
    have ho' : onlyFI r = true := by
      cases d with
      | f32 => exact ho
      | int t => cases t <;> first | exact ho | cases ho
      | bool => cases ho
    rw [putsF_mkA k K r (o + 1) (v.put k o [mkC (incW o K) d]) j q c ho' (fun p d' hp => by
      have := hs (p + 1) d' hp
      have e : o + (p + 1) = o + 1 + p := by omega
      rw [e] at this
      exact this) hc, put_mkA]
    have hl : lenL (d :: r) = lenL r + 1 := rfl
    rw [hl]
    by_cases h1 : j = k ∧ o + 1 ≤ q ∧ q < o + 1 + lenL r
    · rw [if_pos h1, if_pos (by omega)]
    · rw [if_neg h1]
      by_cases h2 : inSeg k o (lenL [mkC (incW o K) d]) j q = true
      · rw [if_pos h2]
        obtain ⟨rfl, g1, g2⟩ := inSeg_true.1 h2
        have g2 : q < o + 1 := g2
        have hqo : q = o := by omega
        subst hqo
        rw [if_pos (by omega)]
        have hd := hs 0 d rfl
        rw [Nat.add_zero, hc] at hd
        cases hd
        rw [Nat.sub_self]
        exact mkW_mkC _ _ (onlyFI_at (sh := _ :: r) (o := 0) ho rfl)
      · rw [if_neg h2, if_neg]
        rintro ⟨rfl, g1, g2⟩
        exact h2 (inSeg_true.2 ⟨rfl, by omega, by show q < o + 1; omega⟩)

theorem mrkJ_zero (v : Vc) (a : Nat) (K : Int) : VcLe v (mrkJ v a K 0) :=
  ⟨rfl, Nat.le_refl _, fun h => h, fun k o c _ _ => by
    have e : (Nat.ble a k && Nat.ble (k + 1) (a + 0)) = false := by
      cases h : (Nat.ble a k && Nat.ble (k + 1) (a + 0)) with
      | false => rfl
      | true =>
        rw [Bool.and_eq_true] at h
        have h1 := Nat.le_of_ble_eq_true h.1
        have h2 := Nat.le_of_ble_eq_true h.2
        omega
    cases c <;> simp only [Vc.mkA, mrkJ, e, cond_false]⟩

theorem mrkJ_next (v : Vc) (a : Nat) (K : Int) (j : Nat) (hf : onlyFI v.sh = true) (hK : 0 ≤ K) (hr : K + ((j + 1) * lenL v.sh : Nat) ≤ 9223372036854775807) :
    VcLe (putsF (Nat.add a j) (K + (j * lenL v.sh : Nat)) 0 v.sh (mrkJ v a K j)) (mrkJ v a K (j + 1)) := by
  obtain ⟨h1, h2, h3⟩ := putsF_sh (Nat.add a j) (K + (j * lenL v.sh : Nat)) v.sh 0 (mrkJ v a K j)
  refine ⟨h1.symm, by rw [h2]; exact Nat.le_refl _, fun h => by rw [h3]; exact h, fun k o c hk hc => ?_⟩
  have hc : nthC o v.sh = some c := hc
  have ho := nthC_lt hc
  rw [putsF_mkA (Nat.add a j) (K + (j * lenL v.sh : Nat)) v.sh 0 (mrkJ v a K j) k o c hf (fun p d hp => by rw [Nat.zero_add]; exact hp) hc]
  have hmul : (j + 1) * lenL v.sh = j * lenL v.sh + lenL v.sh := by rw [Nat.add_mul]; omega
  have ej : Nat.add a j = a + j := rfl
  by_cases hkj : k = a + j
  · subst hkj
    rw [if_pos ⟨rfl, Nat.zero_le _, by omega⟩]
    have e : (Nat.ble a (a + j) && Nat.ble (a + j + 1) (a + (j + 1))) = true := by
      rw [Nat.ble_eq_true_of_le (by omega), Nat.ble_eq_true_of_le (by omega)]; rfl
    have e2 : a + j - a = j := by omega
    have e3 : incW o (K + (j * lenL v.sh : Nat)) = K + (j * lenL v.sh + o : Nat) := by
      rw [incW_eq _ _ (by omega) (by omega)]; omega
    rcases onlyFI_at hf hc with rfl | rfl
    · simp only [Vc.mkA, mrkJ, e, e2, cond_true, mkC, e3]
    · simp only [Vc.mkA, mrkJ, e, e2, cond_true, mkC, e3]
  · rw [if_neg (fun h => hkj h.1)]
    have e : (Nat.ble a k && Nat.ble (k + 1) (a + j)) = (Nat.ble a k && Nat.ble (k + 1) (a + (j + 1))) := by
      congr 1
      cases h1 : Nat.ble (k + 1) (a + j) <;> cases h2 : Nat.ble (k + 1) (a + (j + 1)) <;> first | rfl | skip
      · have := Nat.le_of_ble_eq_true h2
        have h3 : ¬ (k + 1 ≤ a + j) := fun h => by rw [Nat.ble_eq_true_of_le h] at h1; cases h1
        omega
      · have := Nat.le_of_ble_eq_true h1
        have h3 : ¬ (k + 1 ≤ a + (j + 1)) := fun h => by rw [Nat.ble_eq_true_of_le h] at h2; cases h2
        omega
    rcases onlyFI_at hf hc with rfl | rfl
    · simp only [Vc.mkA, mrkJ, e]
    · simp only [Vc.mkA, mrkJ, e]

/-- A number that counts. -/
def cntOf : AVal → Option Int
  | .int .i64 z => some z
  | .sint .i64 z => some z
  | _ => none

def cntOk (K : Int) (n e : Nat) : Bool := decide (0 ≤ K) && (Nat.ble n 140737488355328 && decide (K ≤ 4611686018427387904))

/-- The contract of a marking. -/
noncomputable def mrkC (sh : List CK) : Ctr := ⟨fun args S => match args with
  | [.vec i e a n, k] => match S.vec i, cntOf k with
    | some v, some K => match v.wr && (Nat.beq e (lenL sh) && eqSh sh v.sh) with
      | true => some ⟨.sint .i64 (K + (n.val * lenL sh : Nat)), [], [(i, mrkJ v a K n.val)], [], cntOk K n.val (lenL sh) && Nat.ble (Nat.add a n.val) v.n.val, none⟩
      | false => none
    | _, _ => none
  | _ => none, none⟩

/-- The tests of an element's marks. -/
noncomputable def hldT (K : Int) (f : Nat → Nat) (g : Nat → Int) : Nat → List CK → List Bool
  | _, [] => []
  | o, .f32 :: r => (!feqB .f32 (f o) (ofInt .f32 (incW o K))) :: hldT K f g (o + 1) r
  | o, .int t :: r => (g o != t.wrap (incW o K)) :: hldT K f g (o + 1) r
  | o, .bool :: r => true :: hldT K f g (o + 1) r

def noneB : List Bool → Bool
  | [] => true
  | b :: r => cond b false (noneB r)

def falses : Nat → List Bool
  | 0 => []
  | n + 1 => false :: falses n

theorem noneB_falses : ∀ {l : List Bool}, noneB l = true → l = falses l.length
  | [], _ => rfl
  | b :: r, h => by
    cases b with
    | true => cases h
    | false => exact congrArg (false :: ·) (noneB_falses (l := r) h)

theorem hldT_len (K : Int) (f : Nat → Nat) (g : Nat → Int) : ∀ (sh : List CK) (o : Nat), (hldT K f g o sh).length = lenL sh
  | [], o => rfl
  | c :: r, o => by
    cases c <;> exact congrArg Nat.succ (hldT_len K f g r (o + 1))

theorem hldT_false {K : Int} {f : Nat → Nat} {g : Nat → Int} {sh : List CK} {o : Nat} (h : noneB (hldT K f g o sh) = true) : hldT K f g o sh = falses (lenL sh) := by
  have := noneB_falses h
  rw [hldT_len] at this
  exact this

noncomputable def hldB (sh : List CK) (v : Vc) (a n : Nat) (K : Int) : Bool := allB n (fun j => noneB (hldT (K + (j * lenL sh : Nat)) (v.fd (Nat.add a j)) (v.gd (Nat.add a j)) 0 sh))

/-- The contract of the reading of marks, where they are there. -/
noncomputable def hldC (sh : List CK) : Ctr := ⟨fun args S => match args with
  | [.vec i e a n, k] => match S.vec i, cntOf k with
    | some v, some K => match Nat.beq e (lenL sh) && eqSh sh v.sh with
      | true => some ⟨.sint .i64 (K + (n.val * lenL sh : Nat)), [], [], [], (cntOk K n.val (lenL sh) && Nat.ble (Nat.add a n.val) v.n.val) && hldB sh v a n.val K, none⟩
      | false => none
    | _, _ => none
  | _ => none, none⟩

theorem ofInt_num (z : Int) : nanB .f32 (ofInt .f32 z) = false := by
  rw [ofInt_eq]; unfold floatOfInt FloatKind.nearest
  exact near_num _ _ _

theorem hldT_mrk {K : Int} {f : Nat → Nat} {g : Nat → Int} : ∀ (r : List CK) (o : Nat), onlyFI r = true → (∀ q, f q = ofInt .f32 (incW q K)) → (∀ q, g q = IntKind.i64.wrap (incW q K)) → noneB (hldT K f g o r) = true
  | [], o, _, _, _ => rfl
  | c :: r, o, h, hf, hg => by
    cases c with
    | f32 =>
      unfold hldT noneB
      rw [hf o, feq_self, ofInt_num]
      exact hldT_mrk r (o + 1) h hf hg
    | int t =>
      cases t <;> first | (cases h; done) | skip
      unfold hldT noneB
      rw [hg o]
      have e : (IntKind.i64.wrap (incW o K) != IntKind.i64.wrap (incW o K)) = false := by simp
      rw [e]
      exact hldT_mrk r (o + 1) h hf hg
    | bool => cases h

/-- Marks are there. -/
theorem hldB_mrk {sh : List CK} {v : Vc} {a n : Nat} {K : Int} (hs : v.sh = sh) (hf : onlyFI sh = true) (hK : 0 ≤ K) (hr : ∀ j, j < n → K + ((j + 1) * lenL sh : Nat) ≤ 9223372036854775807) : hldB sh (mrkJ v a K n) a n K = true := by
  subst hs
  refine allB_all (fun j hj => ?_)
  -- beyond the shape nothing is read: numbers of so many cells are in range
  have key : ∀ (r : List CK) (o : Nat), onlyFI r = true → o + lenL r = lenL v.sh → noneB (hldT (K + (j * lenL v.sh : Nat)) ((mrkJ v a K n).fd (Nat.add a j)) ((mrkJ v a K n).gd (Nat.add a j)) o r) = true := by
    intro r
    induction r with
    | nil => intro o _ _; rfl
    | cons c r ih =>
      intro o h ho
      have ho' : o + (lenL r + 1) = lenL v.sh := ho
      have hin : incW o (K + (j * lenL v.sh : Nat)) = K + (j * lenL v.sh + o : Nat) := by
        have := hr j hj
        have hmul : (j + 1) * lenL v.sh = j * lenL v.sh + lenL v.sh := by rw [Nat.add_mul]; omega
        rw [incW_eq _ _ (by omega) (by omega)]; omega
      have e1 : (Nat.ble a (Nat.add a j) && Nat.ble (Nat.add a j + 1) (a + n)) = true := by
        rw [Nat.ble_eq_true_of_le (show a ≤ Nat.add a j from Nat.le_add_right a j), Nat.ble_eq_true_of_le (show Nat.add a j + 1 ≤ a + n by show a + j + 1 ≤ a + n; omega)]; rfl
      have e2 : Nat.add a j - a = j := by show a + j - a = j; omega
      have hfd : (mrkJ v a K n).fd (Nat.add a j) o = ofInt .f32 (K + (j * lenL v.sh + o : Nat)) := by
        show cond (Nat.ble a (Nat.add a j) && Nat.ble (Nat.add a j + 1) (a + n)) _ _ = _
        rw [e1, e2]; rfl
      have hgd : (mrkJ v a K n).gd (Nat.add a j) o = IntKind.i64.wrap (K + (j * lenL v.sh + o : Nat)) := by
        show cond (Nat.ble a (Nat.add a j) && Nat.ble (Nat.add a j + 1) (a + n)) _ _ = _
        rw [e1, e2]; rfl
      cases c with
      | f32 =>
        unfold hldT noneB
        rw [hfd, hin, feq_self, ofInt_num]
        exact ih (o + 1) h (by omega)
      | int t =>
        cases t <;> first | (cases h; done) | skip
        unfold hldT noneB
        rw [hgd, hin]
        have e : (IntKind.i64.wrap (K + (j * lenL v.sh + o : Nat)) != IntKind.i64.wrap (K + (j * lenL v.sh + o : Nat))) = false := by simp
        rw [e]
        exact ih (o + 1) h (by omega)
      | bool => cases h
  exact key v.sh 0 hf (Nat.zero_add _)
end Go.Ab

namespace Go.Ab
open Go Go.RowKit
set_option linter.unusedVariables false
/-! ### The contracts of marks -/
/-- A row that has been written over. -/
def stV (fr : List AVal) (v u : Vc) : St := ⟨fr, [], rwB [v], [], [[(0, u)]], []⟩

theorem stV_vec {fr : List AVal} {v u w : Vc} {i : Nat} (h : (stV fr v u).vec i = some w) : i = 0 ∧ w = u := by
  unfold St.vec St.blk stV at h
  simp only [nthB_rw] at h
  cases i with
  | zero => simp [vlookL, vlook1] at h; exact ⟨rfl, h.symm⟩
  | succ i => simp at h

theorem wk_stV {N : Nat} {fr : List AVal} {v u : Vc} : Wk N (stR fr [u]) (stV fr v u) := by
  refine wk_of rfl (fun t => Or.inr fun ρ x h => h) (fun i o x h => ?_) (fun i y h => ?_) rfl (fun i o => rfl) (fun i x h => ?_)
  · have := cell_off h
    unfold St.blk stV at this
    simp only [nthB_rw] at this
    cases hv : [v][i]? with
    | none => rw [hv] at this; simp at this
    | some y => rw [hv] at this; simp at this
  · obtain ⟨rfl, rfl⟩ := stV_vec h
    exact ⟨y, rfl, VcLe.refl _⟩
  · cases i with
    | zero => show 0 < (rwB [v]).length; simp [rwB]
    | succ i =>
      have h : (none : Option Vc) = some x := h
      cases h

theorem acc_stV {fr : List AVal} {v u : Vc} : Acc (stR [] [v]) (stV fr v u) [] [(0, u)] :=
  ⟨⟨[], by simp [stR, stV]⟩, fun i o => rfl, fun i => by
    simp only [stV, stR, vlookL]
    cases vlook1 i [(0, u)] <;> rfl⟩

section
variable {P : Program}
/-- How many is a number that is not told. -/
theorem onRowW_of {f : FuncId} {i e a : Nat} {n : Num} {k : AVal} {K : Int} {v : Vc} {out : Out} (hk : cntOf k = some K) (h : OnRowW P f ⟨i, e, a, .sym n.val⟩ [.sint .i64 K] v out) : OnRowW P f ⟨i, e, a, n⟩ [k] v out := by
  intro M w0 ρ w vs hM hv
  refine h M w0 ρ w vs hM ?_
  have hv : VL ρ [.vec 0 e a n, k] vs := hv
  show VL ρ [.vec 0 e a (.sym n.val), .sint .i64 K] vs
  unfold VL at hv ⊢
  obtain ⟨x, vs', rfl, h1, h2⟩ := hv
  refine ⟨x, vs', rfl, ?_, ?_⟩
  · unfold V at h1 ⊢
    obtain ⟨_, k2, base, c, k3, k4⟩ := h1
    exact ⟨trivial, k2, base, c, k3, k4⟩
  · unfold VL at h2 ⊢
    obtain ⟨y, vs'', rfl, h3, h4⟩ := h2
    refine ⟨y, vs'', rfl, ?_, h4⟩
    unfold cntOf at hk
    split at hk <;> cases hk <;> (unfold V at h3 ⊢; exact h3)

theorem onRows_of {f : FuncId} {i e a : Nat} {n : Num} {k : AVal} {K : Int} {v : Vc} {out : Out} (hk : cntOf k = some K) (h : OnRows P f [⟨i, e, a, .sym n.val⟩] [.sint .i64 K] [v] out) : OnRows P f [⟨i, e, a, n⟩] [k] [v] out := by
  intro M w0 ρ w vs hM hv
  refine h M w0 ρ w vs hM ?_
  have hv : VL ρ [.vec 0 e a n, k] vs := hv
  show VL ρ [.vec 0 e a (.sym n.val), .sint .i64 K] vs
  unfold VL at hv ⊢
  obtain ⟨x, vs', rfl, h1, h2⟩ := hv
  refine ⟨x, vs', rfl, ?_, ?_⟩
  · unfold V at h1 ⊢
    obtain ⟨_, k2, base, c, k3, k4⟩ := h1
    exact ⟨trivial, k2, base, c, k3, k4⟩
  · unfold VL at h2 ⊢
    obtain ⟨y, vs'', rfl, h3, h4⟩ := h2
    refine ⟨y, vs'', rfl, ?_, h4⟩
    unfold cntOf at hk
    split at hk <;> cases hk <;> (unfold V at h3 ⊢; exact h3)

theorem cntOf_flat {k : AVal} {K : Int} (h : cntOf k = some K) : AVal.flat.flatL [k] = true := by
  unfold cntOf at h
  split at h <;> first | rfl | cases h

theorem cntOk_spec {K : Int} {n e : Nat} (h : cntOk K n e = true) : 0 ≤ K ∧ n ≤ 140737488355328 ∧ K ≤ 4611686018427387904 := by
  unfold cntOk at h
  rw [Bool.and_eq_true, Bool.and_eq_true] at h
  exact ⟨of_decide_eq_true h.1, Nat.le_of_ble_eq_true h.2.1, of_decide_eq_true h.2.2⟩

theorem sat_mrk {f : FuncId} {sh : List CK} (hcall : ∀ (args : Array Value) (w : World), (callFunc f args).run P w = .ok (.enter f args) w)
    (h : ∀ (i a n : Nat) (K : Int) (v : Vc), v.sh = sh → v.wr = true → a + n ≤ v.n.val → n ≤ 140737488355328 → 0 ≤ K → K ≤ 4611686018427387904 → OnRowW P f ⟨i, lenL sh, a, .sym n⟩ [.sint .i64 K] v ⟨.sint .i64 (K + (n * lenL sh : Nat)), [], [(0, mrkJ v a K n)], [], true, none⟩) : Sat P f (mrkC sh) := by
  refine sat_mk hcall rfl (fun args S out hfn hnd hvs => ?_)
  simp only [mrkC] at hfn
  split at hfn
  case h_2 => cases hfn
  rename_i i e a n k
  split at hfn
  case h_2 => cases hfn
  rename_i v K hvec hk
  split at hfn
  case h_2 => cases hfn
  rename_i hb
  cases hfn
  rw [Bool.and_eq_true, Bool.and_eq_true] at hb
  obtain ⟨hw, he, hs⟩ := hb
  have he := Nat.eq_of_beq_eq_true he
  subst he
  have hs := (eqSh_eq hs).symm
  have hnd : (cntOk K n.val (lenL sh) && Nat.ble (Nat.add a n.val) v.n.val) = true := hnd
  rw [Bool.and_eq_true] at hnd
  obtain ⟨c1, c2, c3⟩ := cntOk_spec hnd.1
  exact ⟨⟨i, lenL sh, a, n⟩, [k], v, mrkJ v a K n.val, _, rfl, cntOf_flat hk, hvec, hw, rfl, rfl, hw, onRowW_of hk (h i a n.val K v hs hw (Nat.le_of_ble_eq_true hnd.2) c2 c1 c3), rfl, rfl, fun _ _ h => h⟩

theorem sat_hld {f : FuncId} {sh : List CK} (hcall : ∀ (args : Array Value) (w : World), (callFunc f args).run P w = .ok (.enter f args) w)
    (h : ∀ (i a n : Nat) (K : Int) (v : Vc), v.sh = sh → a + n ≤ v.n.val → n ≤ 140737488355328 → 0 ≤ K → K ≤ 4611686018427387904 → hldB sh v a n K = true → OnRows P f [⟨i, lenL sh, a, .sym n⟩] [.sint .i64 K] [v] ⟨.sint .i64 (K + (n * lenL sh : Nat)), [], [], [], true, none⟩) : Sat P f (hldC sh) := by
  refine sat_rd hcall rfl (fun args S out hfn hnd hvs => ?_)
  simp only [hldC] at hfn
  split at hfn
  case h_2 => cases hfn
  rename_i i e a n k
  split at hfn
  case h_2 => cases hfn
  rename_i v K hvec hk
  split at hfn
  case h_2 => cases hfn
  rename_i hb
  cases hfn
  rw [Bool.and_eq_true] at hb
  obtain ⟨he, hs⟩ := hb
  have he := Nat.eq_of_beq_eq_true he
  subst he
  have hs := (eqSh_eq hs).symm
  have hnd : ((cntOk K n.val (lenL sh) && Nat.ble (Nat.add a n.val) v.n.val) && hldB sh v a n.val K) = true := hnd
  rw [Bool.and_eq_true, Bool.and_eq_true] at hnd
  obtain ⟨⟨h1, h2⟩, h3⟩ := hnd
  obtain ⟨c1, c2, c3⟩ := cntOk_spec h1
  exact ⟨[⟨i, lenL sh, a, n⟩], [k], [v], _, rfl, cntOf_flat hk, by simp [rowsAt, hvec], onRows_of hk (h i a n.val K v hs (Nat.le_of_ble_eq_true h2) c2 c1 c3 h3), rfl, by rw [h1, h2, h3]; rfl, fun _ _ h => h⟩
end
end Go.Ab

namespace Go.Ab
open Go Go.RowKit
set_option linter.unusedVariables false
/-! ### Logs that are pointed to, in a row -/
def ctrWv (g : List Nat → AVal) : Ctr := ⟨fun args S => match args with
  | [.vptr i e k o] => match S.vec i with
    | some v => match Nat.beq e (lenL v.sh) && Nat.beq o 0 with
      | true => match v.cellsAt k 0 18 with
        | some l => match decN 18 l with | some ns => some ⟨g ns, [], [], [], Nat.ble (k + 1) v.n.val, none⟩ | none => none
        | none => none
      | false => none
    | none => none
  | _ => none, none⟩

/-- The one contract, or else the other one. -/
def orC (c1 c2 : Ctr) : Ctr := ⟨fun args S => match c1.fn args S with | some o => some o | none => c2.fn args S, none⟩

section
variable {P : Program}
theorem satC_of {f : FuncId} {c : Ctr} (h : Sat P f c) (hx : c.x = none) : SatC P f c := by
  unfold Sat at h
  rw [hx] at h
  exact h

theorem sat_or {f : FuncId} {c1 c2 : Ctr} (h1 : Sat P f c1) (h2 : Sat P f c2) (x1 : c1.x = none) (x2 : c2.x = none) : Sat P f (orC c1 c2) := by
  have k1 := satC_of h1 x1
  have k2 := satC_of h2 x2
  have key : SatC P f (orC c1 c2) → Sat P f (orC c1 c2) := fun h => h
  refine key ⟨k1.call, fun args S out hfn hnd => ?_⟩
  simp only [orC] at hfn
  split at hfn
  · rename_i o ho
    cases hfn
    exact k1.sat args S _ ho hnd
  · exact k2.sat args S out hfn hnd

theorem satWv {Γ : List (Nat × Ctr)} (hΓ : Good P Γ) (hm : P.follows .mixedOrders = true) {f : FuncId} {fn : Func} (hf : P.funcs[f]? = some fn)
    (hcall : ∀ (args : Array Value) (w : World), (callFunc f args).run P w = .ok (.enter f args) w) {g : List Nat → AVal} (fuel : Nat) (g0 : List Nat → AVal)
    (he : ∀ ns, ns.length = 18 → evBody P Γ fuel fn [.ptr 0 0] (St1 (encF ns)) = some ⟨g0 ns, [], [], [], true, none⟩) (h : ∀ ns, ns.length = 18 → ∀ ρ u, V ρ (g0 ns) u → V ρ (g ns) u) (hfl : ∀ ns, (g0 ns).flat = true := by intros; rfl) : Sat P f (ctrWv g) := by
  refine ⟨hcall, fun args S out hfn hnd M w0 ρ w vs hM hv => ?_⟩
  simp only [ctrWv] at hfn
  split at hfn
  case h_2 => cases hfn
  rename_i i e k o
  split at hfn
  case h_2 => cases hfn
  rename_i v hvec
  split at hfn
  case h_2 => cases hfn
  rename_i hb
  split at hfn
  case h_2 => cases hfn
  rename_i l hl
  split at hfn
  case h_2 => cases hfn
  rename_i ns hd
  cases hfn
  rw [Bool.and_eq_true] at hb
  have e1 := Nat.eq_of_beq_eq_true hb.1
  have e2 := Nat.eq_of_beq_eq_true hb.2
  subst e1; subst e2
  have hk : k < v.n.val := Nat.le_of_ble_eq_true hnd
  obtain ⟨rfl, hlen⟩ := decN_spec hd
  have hs' : SatC P f (inl P Γ fuel fn) := inl_sat hΓ hm hf hcall fuel
  unfold VL at hv
  obtain ⟨u, vs', rfl, hv1, hv2⟩ := hv
  obtain ⟨ρ1, hM1, hv3⟩ := vview_mem hM hvec hk hl (by decide) hv1
  have hvl : VL ρ1 [.ptr 0 0] (u :: vs') := by
    unfold VL at hv2 ⊢
    subst hv2
    exact ⟨u, [], rfl, hv3, by unfold VL; rfl⟩
  refine (hs'.sat [.ptr 0 0] _ _ (he _ hlen) rfl NoM w ρ1 w _ hM1 hvl).mono ?_
  intro e w' hr
  cases e with
  | outgrown => exact hr.elim
  | panicked ch =>
    obtain ⟨v, u, hp, _⟩ := hr
    cases hp
  | returned x =>
    obtain ⟨_, ρ', _, hu, hm'⟩ := hr
    exact ⟨fun b v h => (by cases h), ρ, ExtS.refl _ _, h ns hlen ρ x (V_flat _ _ (hfl ns) hu), (hM.quiet hm'.fr).put_nil⟩
end
end Go.Ab

namespace Go.Ab
open Go Go.RowKit
set_option linter.unusedVariables false
/-! ### Arguments with slices in them, that are read -/
def renC : Nat → List AVal → List AVal
  | _, [] => []
  | k, x :: r => match x with
    | .vec _ e _ n => .vec k e 0 n :: renC (k + 1) r
    | x => x :: renC k r
def idsC : List AVal → List VA
  | [] => []
  | x :: r => match x with
    | .vec i e a n => ⟨i, e, a, n⟩ :: idsC r
    | _ => idsC r
def flatC : List AVal → Bool
  | [] => true
  | x :: r => match x with
    | .vec _ _ _ _ => flatC r
    | x => match x.flat with | true => flatC r | false => false

def renA : Nat → List AVal → List AVal
  | _, [] => []
  | k, x :: r => match x with
    | .vec _ e _ n => .vec k e 0 n :: renA (k + 1) r
    | .agg cs => .agg (renC k cs) :: renA (k + (idsC cs).length) r
    | x => x :: renA k r
def idsA : List AVal → List VA
  | [] => []
  | x :: r => match x with
    | .vec i e a n => ⟨i, e, a, n⟩ :: idsA r
    | .agg cs => idsC cs ++ idsA r
    | _ => idsA r
def flatA : List AVal → Bool
  | [] => true
  | x :: r => match x with
    | .vec _ _ _ _ => flatA r
    | .agg cs => match flatC cs with | true => flatA r | false => false
    | x => match x.flat with | true => flatA r | false => false

/-- Where a row's part lies. -/
def shP (p : Option (Nat × Nat)) (q : Nat) : Option (Nat × Nat) := match p with | some (r, b) => some (r, b + q) | none => none

theorem vec_ren {ρ ρ' : Rho} {i k e a : Nat} {n : Num} {v : Value} (h1 : ρ' k = shP (ρ i) (a * e)) (h2 : ρ'.cap k = ρ.cap i - a) (h3 : ρ'.kn k = ρ.kn i) (h : V ρ (.vec i e a n) v) : V ρ' (.vec k e 0 n) v := by
  unfold V at h ⊢
  obtain ⟨k1, k2, base, c, k3, k4⟩ := h
  refine ⟨k1, by rw [h3]; exact k2, base, c, k3, ?_⟩
  rcases k4 with k4 | ⟨r, b, k5, k6, k7, k8⟩
  · exact Or.inl k4
  · exact Or.inr ⟨r, b + a * e, by rw [h1, k5]; rfl, by rw [k6, Nat.zero_mul, Nat.add_zero], by rw [h2]; omega, by rw [h2]; omega⟩

/-- Blocks stand for parts of rows. -/
def Stands (ρ ρ' : Rho) (k : Nat) (is : List VA) : Prop := ∀ (t : Nat) (x : VA), is[t]? = some x → ρ' (k + t) = shP (ρ x.i) (x.a * x.e) ∧ ρ'.cap (k + t) = ρ.cap x.i - x.a ∧ ρ'.kn (k + t) = ρ.kn x.i

theorem Stands.head {ρ ρ' : Rho} {k : Nat} {x : VA} {is : List VA} (h : Stands ρ ρ' k (x :: is)) : ρ' k = shP (ρ x.i) (x.a * x.e) ∧ ρ'.cap k = ρ.cap x.i - x.a ∧ ρ'.kn k = ρ.kn x.i := h 0 x rfl
theorem Stands.tail {ρ ρ' : Rho} {k : Nat} {x : VA} {is : List VA} (h : Stands ρ ρ' k (x :: is)) : Stands ρ ρ' (k + 1) is := fun t j hj => by
  have := h (t + 1) j (by simpa using hj)
  have e : k + (t + 1) = k + 1 + t := by omega
  rw [e] at this; exact this
theorem Stands.left {ρ ρ' : Rho} {k : Nat} {is js : List VA} (h : Stands ρ ρ' k (is ++ js)) : Stands ρ ρ' k is := fun t j hj => by
  refine h t j ?_
  have : t < is.length := by
    rcases Nat.lt_or_ge t is.length with g | g
    · exact g
    · rw [List.getElem?_eq_none g] at hj; cases hj
  rw [List.getElem?_append_left this]; exact hj
theorem Stands.right {ρ ρ' : Rho} {k : Nat} {is js : List VA} (h : Stands ρ ρ' k (is ++ js)) : Stands ρ ρ' (k + is.length) js := fun t j hj => by
  have := h (is.length + t) j (by rw [List.getElem?_append_right (by omega)]; simpa using hj)
  rw [← Nat.add_assoc] at this; exact this

theorem renC_V {ρ ρ' : Rho} : ∀ (cs : List AVal) (k : Nat) (vs : List Value), flatC cs = true → Stands ρ ρ' k (idsC cs) → VL ρ cs vs → VL ρ' (renC k cs) vs
  | [], k, vs, _, _, h => by unfold VL at h; subst h; unfold renC VL; rfl
  | x :: r, k, vs, hf, hs, h => by
    unfold VL at h
    obtain ⟨v, vs', rfl, h1, h2⟩ := h
    cases x with
    | vec i e a n =>
      obtain ⟨g1, g2, g3⟩ := hs.head
      show VL ρ' (.vec k e 0 n :: renC (k + 1) r) _
      unfold VL
      exact ⟨v, vs', rfl, vec_ren g1 g2 g3 h1, renC_V r (k + 1) vs' hf hs.tail h2⟩
    | _ =>
      unfold renC VL
      unfold flatC at hf
      split at hf
      · rename_i e; cases e
      · split at hf
        · rename_i hx
          exact ⟨v, vs', rfl, V_flat _ _ hx h1, renC_V r k vs' hf hs h2⟩
        · cases hf

theorem renA_V {ρ ρ' : Rho} : ∀ (as : List AVal) (k : Nat) (vs : List Value), flatA as = true → Stands ρ ρ' k (idsA as) → VL ρ as vs → VL ρ' (renA k as) vs
  | [], k, vs, _, _, h => by unfold VL at h; subst h; unfold renA VL; rfl
  | x :: r, k, vs, hf, hs, h => by
    unfold VL at h
    obtain ⟨v, vs', rfl, h1, h2⟩ := h
    cases x with
    | vec i e a n =>
      obtain ⟨g1, g2, g3⟩ := hs.head
      show VL ρ' (.vec k e 0 n :: renA (k + 1) r) _
      unfold VL
      exact ⟨v, vs', rfl, vec_ren g1 g2 g3 h1, renA_V r (k + 1) vs' hf hs.tail h2⟩
    | agg cs =>
      have hf' : (match flatC cs with | true => flatA r | false => false) = true := hf
      split at hf'
      · rename_i hc
        have hs' : Stands ρ ρ' k (idsC cs ++ idsA r) := hs
        show VL ρ' (.agg (renC k cs) :: renA (k + (idsC cs).length) r) _
        unfold VL
        refine ⟨v, vs', rfl, ?_, renA_V r _ vs' hf' hs'.right h2⟩
        unfold V at h1 ⊢
        obtain ⟨us, rfl, hu⟩ := h1
        exact ⟨us, rfl, renC_V cs k us hc hs'.left hu⟩
      · cases hf'
    | _ =>
      unfold renA VL
      unfold flatA at hf
      split at hf
      · rename_i e; cases e
      · rename_i e; cases e
      · split at hf
        · rename_i hx
          exact ⟨v, vs', rfl, V_flat _ _ hx h1, renA_V r k vs' hf hs h2⟩
        · cases hf

def rowsI (S : St) : List VA → Option (List Vc)
  | [] => some []
  | x :: r => match S.vec x.i, rowsI S r with
    | some v, some l => match Nat.beq x.e (lenL v.sh) && Nat.ble (Nat.add x.a x.n.val) v.n.val with
      | true => some (shiftV v x.a x.n :: l)
      | false => none
    | _, _ => none

theorem rowsI_spec {S : St} : ∀ (is : List VA) (vcs : List Vc), rowsI S is = some vcs → is.length = vcs.length ∧ ∀ (j : Nat) (x : VA), is[j]? = some x → ∃ v, vcs[j]? = some (shiftV v x.a x.n) ∧ S.vec x.i = some v ∧ x.e = lenL v.sh ∧ x.a + x.n.val ≤ v.n.val
  | [], vcs, h => by simp [rowsI] at h; subst h; exact ⟨rfl, fun j i hi => by simp at hi⟩
  | x :: xs, vcs, h => by
    unfold rowsI at h
    split at h
    · rename_i v l hv hl
      split at h
      · rename_i hb
        cases h
        rw [Bool.and_eq_true] at hb
        obtain ⟨h1, h2⟩ := rowsI_spec xs l hl
        refine ⟨by simp [h1], fun j i hi => ?_⟩
        cases j with
        | zero => simp at hi; subst hi; exact ⟨v, rfl, hv, Nat.eq_of_beq_eq_true hb.1, Nat.le_of_ble_eq_true hb.2⟩
        | succ j => exact h2 j i (by simpa using hi)
      · cases h
    · cases h

/-- A memory of cells that are pointed to, and of rows. -/
def cellS (cs : List AVal) (vcs : List Vc) : St := ⟨[], [], ⟨cs, false, none⟩ :: roBs vcs, [], [], []⟩

theorem cellS_cell {cs : List AVal} {vcs : List Vc} {j o : Nat} {x : AVal} (h : (cellS cs vcs).cell j o = some x) : j = 0 ∧ cs[o]? = some x := by
  cases j with
  | zero =>
    unfold St.cell St.blk cellS at h
    simp only [nthB, hlookL] at h
    split at h
    · rename_i hb
      have hb := Nat.le_of_ble_eq_true hb
      simp only [Option.some.injEq] at h
      refine ⟨rfl, ?_⟩
      rw [← h]; exact nth_get cs o (by omega)
    · cases h
  | succ j =>
    have := cell_off h
    unfold St.blk cellS at this
    simp only [nthB, nthB_ro] at this
    cases hv : vcs[j]? with
    | none => rw [hv] at this; simp at this
    | some v => rw [hv] at this; simp [roB] at this

theorem cellS_vec {cs : List AVal} {vcs : List Vc} {j : Nat} {u : Vc} (h : (cellS cs vcs).vec j = some u) : ∃ k v, j = k + 1 ∧ vcs[k]? = some v ∧ u = ⟨v.sh, v.n, v.fd, v.gd, v.bd, false⟩ := by
  cases j with
  | zero =>
    unfold St.vec St.blk cellS at h
    simp only [nthB] at h
    cases cs <;> cases h
  | succ j =>
    unfold St.vec St.blk cellS at h
    simp only [nthB, nthB_ro] at h
    cases hv : vcs[j]? with
    | none => rw [hv] at h; simp at h
    | some v =>
      rw [hv] at h
      simp only [roB, vlookL, Option.some.injEq] at h
      exact ⟨j, v, rfl, hv, h.symm⟩

theorem cellS_wr {cs : List AVal} {vcs : List Vc} {j : Nat} : ¬ (cellS cs vcs).wrB j = true := fun h => by
  rcases wrB_iff.1 h with ⟨o, x, hx, hw⟩ | ⟨v, hv, hw⟩
  · obtain ⟨rfl, _⟩ := cellS_cell hx
    cases hw
  · obtain ⟨_, u, _, _, rfl⟩ := cellS_vec hv; cases hw

def rhoW (ρ : Rho) (is : List VA) : Rho := ⟨fun j => match is[j]? with | some x => shP (ρ x.i) (x.a * x.e) | none => none, fun j => match is[j]? with | some x => ρ.cap x.i - x.a | none => 0, fun j => match is[j]? with | some x => ρ.kn x.i | none => false⟩
def rhoP (ρ : Rho) (p : Nat × Nat) (is : List VA) : Rho := ⟨fun j => match j with | 0 => some p | j + 1 => rhoW ρ is j, fun j => match j with | 0 => 0 | j + 1 => (rhoW ρ is).cap j, fun j => match j with | 0 => false | j + 1 => (rhoW ρ is).kn j⟩

theorem stands_W (ρ : Rho) (is : List VA) : Stands ρ (rhoW ρ is) 0 is := fun t x hx => by
  rw [Nat.zero_add]; simp [rhoW, hx]
theorem stands_P (ρ : Rho) (p : Nat × Nat) (is : List VA) : Stands ρ (rhoP ρ p is) 1 is := fun t x hx => by
  have e : 1 + t = t + 1 := Nat.add_comm 1 t
  rw [e]; simp [rhoP, rhoW, hx]

theorem rhoW_at {ρ : Rho} {is : List VA} {j r b : Nat} (h : rhoW ρ is j = some (r, b)) : ∃ x b0, is[j]? = some x ∧ ρ x.i = some (r, b0) ∧ b = b0 + x.a * x.e := by
  unfold rhoW at h
  simp only at h
  split at h
  · rename_i x hx
    unfold shP at h
    split at h
    · rename_i r' b' hr
      cases h
      exact ⟨x, b', hx, hr, rfl⟩
    · cases h
  · cases h

theorem is_lt {α : Type} {l : List α} {j : Nat} {x : α} (h : l[j]? = some x) : j < l.length := by
  rcases Nat.lt_or_ge j l.length with g | g
  · exact g
  · rw [List.getElem?_eq_none g] at h; cases h

theorem row_cell {M : Addr → Prop} {w0 : World} {ρ : Rho} {S : St} {w : World} (hM : Mem M w0 ρ S w) {is : List VA} {vcs : List Vc} (hr : rowsI S is = some vcs) {j r b k o : Nat} {c : CK} {v : Vc} (hv : vcs[j]? = some v) (hp : rhoW ρ is j = some (r, b)) (hk : k < v.n.val) (hc : nthC o v.sh = some c) (ρ' : Rho) :
    ∃ u, w.cell? ⟨r, b + (k * lenL v.sh + o), none⟩ = some u ∧ V ρ' (v.mkA k o c) u := by
  obtain ⟨x, b0, h1, h2, h3⟩ := rhoW_at hp
  obtain ⟨_, hat⟩ := rowsI_spec _ _ hr
  obtain ⟨u, g1, g2, g3, g4⟩ := hat j x h1
  rw [hv] at g1; cases g1
  have hk' : k < x.n.val := hk
  obtain ⟨y, k1, k2⟩ := hM.hp.vcell x.i u r b0 (x.a + k) o c g2 h2 (by omega) hc
  refine ⟨y, ?_, by rw [shiftV_mkA]; exact V_flat _ _ (by cases c <;> rfl) k2⟩
  rw [← k1, h3, g3]
  congr 1
  show (⟨r, b0 + x.a * lenL u.sh + (k * lenL u.sh + o), none⟩ : Addr) = _
  simp only [Addr.mk.injEq, true_and, and_true, Nat.add_mul]; omega

theorem viewsW_mem {M : Addr → Prop} {w0 : World} {ρ : Rho} {S : St} {w : World} (hM : Mem M w0 ρ S w) {is : List VA} {vcs : List Vc} (hr : rowsI S is = some vcs) : Mem NoM w (rhoW ρ is) (viewS vcs) w := by
  obtain ⟨hl, hat⟩ := rowsI_spec _ _ hr
  refine ⟨⟨fun j o x hx => (view_cell hx).elim, fun j vc r b k o c hx hp hk hc => ?_, fun j o x r b hx => (view_cell hx).elim, fun j vc r b q hx hw => ?_, fun j vc r b hx hw => ?_, fun j j' r b b' _ hw => (view_wr hw).elim, fun j p hp => ?_, fun j hk => ?_, fun j o x hx => by (simp [viewS, hlookL] at hx), fun j x hx => by (simp [viewS, vlookL] at hx), fun j r b hp => ?_⟩, Fr.refl _ _, ⟨fun j o x r b hx => (view_cell hx).elim, fun j vc r b q hx hw => ?_⟩⟩
  · obtain ⟨u, hu, rfl⟩ := view_vec hx
    obtain ⟨y, g1, g2⟩ := row_cell hM hr hu hp hk hc (rhoW ρ is)
    exact ⟨y, g1, V_flat _ _ (by cases c <;> rfl) g2⟩
  · obtain ⟨u, _, rfl⟩ := view_vec hx; cases hw
  · obtain ⟨u, _, rfl⟩ := view_vec hx; cases hw
  · obtain ⟨x, _, hx, _⟩ := rhoW_at (r := p.1) (b := p.2) hp
    have := is_lt hx
    show j < (roBs vcs).length
    rw [roBs_len]; omega
  · unfold rhoW at hk
    simp only at hk
    split at hk
    · rename_i x hx
      have := is_lt hx
      show j < (roBs vcs).length
      rw [roBs_len]; omega
    · cases hk
  · obtain ⟨x, b0, hx, h2, _⟩ := rhoW_at hp
    exact hM.hp.lt x.i r b0 h2
  · obtain ⟨u, _, rfl⟩ := view_vec hx; cases hw

theorem cellS_mem {M : Addr → Prop} {w0 : World} {ρ : Rho} {S : St} {w : World} (hM : Mem M w0 ρ S w) {i o n : Nat} {cs0 cs : List AVal} {vcs : List Vc} {u : Value} (hc : S.cellsAt i o n = some cs0) (hn : 1 ≤ n) (hconv : ∀ ρ vs, VL ρ cs0 vs → VL ρ cs vs) (hf : flatC cs = true) (hr : rowsI S (idsC cs) = some vcs) (hv : V ρ (.ptr i o) u) :
    ∃ ρ', Mem NoM w ρ' (cellS (renC 1 cs) vcs) w ∧ V ρ' (.ptr 0 0) u := by
  obtain ⟨hl, hget⟩ := cellsAt_len n i o cs0 hc
  have hl2 := (rowsI_spec _ _ hr).1
  unfold V at hv
  obtain ⟨r, b, hri, hue⟩ := hv
  have hlt := hM.hp.lt i r b hri
  have hst := stands_P ρ (r, b + o) (idsC cs)
  -- the cells as they are
  have hvals : ∃ vs : List Value, VL ρ cs0 vs ∧ ∀ (q : Nat) (v : Value), vs[q]? = some v → w.cell? ⟨r, b + o + q, none⟩ = some v := by
    have key : ∀ (l : List AVal) (o' : Nat), (∀ q x, l[q]? = some x → S.cell i (o' + q) = some x) → ∃ vs : List Value, VL ρ l vs ∧ ∀ (q : Nat) (v : Value), vs[q]? = some v → w.cell? ⟨r, b + o' + q, none⟩ = some v := by
      intro l
      induction l with
      | nil => intro o' _; exact ⟨[], by unfold VL; rfl, fun q v h => by simp at h⟩
      | cons x l ih =>
        intro o' h
        obtain ⟨vs, h1, h2⟩ := ih (o' + 1) (fun q y hy => by
          have := h (q + 1) y (by simpa using hy)
          have e : o' + (q + 1) = o' + 1 + q := by omega
          rw [e] at this; exact this)
        obtain ⟨r', b', v, k1, k2, k3⟩ := hM.hp.cell i o' x (h 0 x rfl)
        rw [hri] at k1; cases k1
        refine ⟨v :: vs, by unfold VL; exact ⟨v, vs, rfl, k3, h1⟩, fun q v' hq => ?_⟩
        cases q with
        | zero => simp at hq; subst hq; exact k2
        | succ q =>
          have := h2 q v' (by simpa using hq)
          rw [← this]; congr 1; simp only [Addr.mk.injEq, true_and, and_true]; omega
    exact key cs0 o (fun q x hx => hget q x hx)
  obtain ⟨vs, hvs, hcell⟩ := hvals
  have hvs' := renC_V (ρ' := rhoP ρ (r, b + o) (idsC cs)) cs 1 vs hf hst (hconv ρ vs hvs)
  refine ⟨rhoP ρ (r, b + o) (idsC cs), ⟨⟨fun j q x hx => ?_, fun j vc r' b' k q c hx hr' hk hc' => ?_, fun j q x r' b' hx hw => ?_, fun j vc r' b' q hx hw => ?_, fun j vc r' b' hx hw => ?_, fun j j' r' b' b'' _ hw => (cellS_wr hw).elim, fun j p hp => ?_, fun j hk => ?_, fun j q x hx => by (simp [cellS, hlookL] at hx), fun j x hx => by (simp [cellS, vlookL] at hx), fun j r' b' hr' => ?_⟩, Fr.refl _ _, ⟨fun j q x r' b' hx hw => ?_, fun j vc r' b' q hx hw => ?_⟩⟩, ?_⟩
  · obtain ⟨rfl, hq⟩ := cellS_cell hx
    obtain ⟨v, hv1, hv2⟩ := VL_get _ _ hvs' q x hq
    exact ⟨r, b + o, v, rfl, hcell q v hv1, hv2⟩
  · obtain ⟨k', v, rfl, hv', rfl⟩ := cellS_vec hx
    obtain ⟨y, g1, g2⟩ := row_cell hM hr hv' hr' hk hc' (rhoP ρ (r, b + o) (idsC cs))
    exact ⟨y, g1, V_flat _ _ (by cases c <;> rfl) g2⟩
  · obtain ⟨rfl, _⟩ := cellS_cell hx; cases hw
  · obtain ⟨_, v, _, _, rfl⟩ := cellS_vec hx; cases hw
  · obtain ⟨_, v, _, _, rfl⟩ := cellS_vec hx; cases hw
  · show j < (⟨_, false, none⟩ :: roBs vcs : List Blk).length
    rw [List.length_cons, roBs_len]
    cases j with
    | zero => omega
    | succ j =>
      obtain ⟨x, _, hx', _⟩ := rhoW_at (r := p.1) (b := p.2) (ρ := ρ) (is := idsC cs) (j := j) hp
      have := is_lt hx'
      omega
  · show j < (⟨_, false, none⟩ :: roBs vcs : List Blk).length
    rw [List.length_cons, roBs_len]
    cases j with
    | zero => omega
    | succ j =>
      have hk' : (rhoW ρ (idsC cs)).kn j = true := hk
      unfold rhoW at hk'
      simp only at hk'
      split at hk'
      · rename_i x hx'
        have := is_lt hx'
        omega
      · cases hk'
  · cases j with
    | zero =>
      have hr'' : some (r, b + o) = some (r', b') := hr'
      cases hr''; exact hlt
    | succ j =>
      obtain ⟨x, b0, _, h2, _⟩ := rhoW_at (ρ := ρ) (is := idsC cs) (j := j) hr'
      exact hM.hp.lt x.i r' b0 h2
  · obtain ⟨rfl, _⟩ := cellS_cell hx; cases hw
  · obtain ⟨_, v, _, _, rfl⟩ := cellS_vec hx; cases hw
  · unfold V
    exact ⟨r, b + o, rfl, by rw [hue]; simp⟩

section
variable {P : Program}
/-- A function that reads arguments with slices in them, and answers with what has no memory. -/
theorem sat_rdA {Γ : List (Nat × Ctr)} (hΓ : Good P Γ) (hm : P.follows .mixedOrders = true) {f : FuncId} {fn : Func} (hf : P.funcs[f]? = some fn) {c : Ctr} (hcall : ∀ (args : Array Value) (w : World), (callFunc f args).run P w = .ok (.enter f args) w) (hx : c.x = none) (fuel : Nat)
    (h : ∀ args S out, c.fn args S = some out → out.nd = true → (∃ ρ vs, VL ρ args vs) → ∃ as' vcs v0, (∀ ρ vs, VL ρ args vs → VL ρ as' vs) ∧ flatA as' = true ∧ rowsI S (idsA as') = some vcs ∧ evBody P Γ fuel fn (renA 0 as') (viewS vcs) = some ⟨v0, [], [], [], true, none⟩ ∧ v0.flat = true ∧ out = ⟨out.v, [], [], [], out.nd, none⟩ ∧ ∀ ρ u, V ρ v0 u → V ρ out.v u) : Sat P f c := by
  unfold Sat
  rw [hx]
  refine ⟨hcall, fun args S out hfn hnd M w0 ρ w vs hM hv => ?_⟩
  obtain ⟨as', vcs, v0, hconv, hfl, hrow, he, hf0, hout, hsay⟩ := h args S out hfn hnd ⟨ρ, vs, hv⟩
  have hs' : SatC P f (inl P Γ fuel fn) := inl_sat hΓ hm hf hcall fuel
  refine (hs'.sat _ _ _ he rfl NoM w (rhoW ρ (idsA as')) w vs (viewsW_mem hM hrow) (renA_V as' 0 vs hfl (stands_W ρ _) (hconv ρ vs hv))).mono ?_
  intro e w' hr
  cases e with
  | outgrown => exact hr.elim
  | panicked ch => obtain ⟨v, u, hp, _⟩ := hr; cases hp
  | returned u =>
    obtain ⟨_, ρ', _, hu, hm'⟩ := hr
    rw [hout]
    exact ⟨fun b v h => (by cases h), ρ, ExtS.refl _ _, hsay ρ u (V_flat _ _ hf0 hu), (hM.quiet hm'.fr).put_nil⟩

/-- The same of a pointer to cells with slices among them. -/
theorem sat_rdP {Γ : List (Nat × Ctr)} (hΓ : Good P Γ) (hm : P.follows .mixedOrders = true) {f : FuncId} {fn : Func} (hf : P.funcs[f]? = some fn) {c : Ctr} (hcall : ∀ (args : Array Value) (w : World), (callFunc f args).run P w = .ok (.enter f args) w) (hx : c.x = none) (fuel n : Nat) (hn : 1 ≤ n)
    (h : ∀ args S out, c.fn args S = some out → out.nd = true → (∃ ρ vs, VL ρ args vs) → ∃ i o cs cs' ys vcs v0, args = .ptr i o :: ys ∧ AVal.flat.flatL ys = true ∧ S.cellsAt i o n = some cs ∧ (∀ ρ vs, VL ρ cs vs → VL ρ cs' vs) ∧ flatC cs' = true ∧ rowsI S (idsC cs') = some vcs ∧ evBody P Γ fuel fn (.ptr 0 0 :: ys) (cellS (renC 1 cs') vcs) = some ⟨v0, [], [], [], true, none⟩ ∧ v0.flat = true ∧ out = ⟨out.v, [], [], [], out.nd, none⟩ ∧ ∀ ρ u, V ρ v0 u → V ρ out.v u) : Sat P f c := by
  unfold Sat
  rw [hx]
  refine ⟨hcall, fun args S out hfn hnd M w0 ρ w vs hM hv => ?_⟩
  obtain ⟨i, o, cs, cs', ys, vcs, v0, rfl, hys, hcs, hconv, hfl, hrow, he, hf0, hout, hsay⟩ := h args S out hfn hnd ⟨ρ, vs, hv⟩
  have hs' : SatC P f (inl P Γ fuel fn) := inl_sat hΓ hm hf hcall fuel
  unfold VL at hv
  obtain ⟨u, vs', rfl, hu1, hu2⟩ := hv
  obtain ⟨ρ', hM', hp'⟩ := cellS_mem hM hcs hn hconv hfl hrow hu1
  refine (hs'.sat _ _ _ he rfl NoM w ρ' w (u :: vs') hM' (by unfold VL; exact ⟨u, vs', rfl, hp', VL_flat ys vs' hys hu2⟩)).mono ?_
  intro e w' hr
  cases e with
  | outgrown => exact hr.elim
  | panicked ch => obtain ⟨v, u, hp, _⟩ := hr; cases hp
  | returned z =>
    obtain ⟨_, ρ'', _, hu, hm'⟩ := hr
    rw [hout]
    exact ⟨fun b v h => (by cases h), ρ, ExtS.refl _ _, hsay ρ z (V_flat _ _ hf0 hu), (hM.quiet hm'.fr).put_nil⟩
end
end Go.Ab

namespace Go.Ab
open Go Go.RowKit
set_option linter.unusedVariables false
/-! ### Stoves -/
def wSh : List CK := [.f32, .f32, .f32, .f32, .f32, .f32, .f32, .f32, .f32, .f32, .f32, .f32, .f32, .f32, .f32, .f32, .f32, .f32]
/-- A log of a row. -/
def wL (f : Nat → Nat) : List Nat := [f 0, f 1, f 2, f 3, f 4, f 5, f 6, f 7, f 8, f 9, f 10, f 11, f 12, f 13, f 14, f 15, f 16, f 17]
noncomputable def wOk (fd : Nat → Nat → Nat) (a k : Nat) : Bool := vOp (wL (fd (Nat.add a k)))

noncomputable def chainF (fd : Nat → Nat → Nat) (a : Nat) : Nat → Nat → Bool → Bool
  | 0, _, E => E
  | n + 1, k, E => cond (!wOk fd a k) false (chainF fd a n (k + 1) E)

theorem chainF_E (fd : Nat → Nat → Nat) (a : Nat) : ∀ (n k : Nat) (E : Bool), chainF fd a n k E = cond (chainF fd a n k true) E false
  | 0, _, E => by cases E <;> rfl
  | n + 1, k, E => by
    unfold chainF
    cases wOk fd a k with
    | true => exact chainF_E fd a n (k + 1) E
    | false => rfl

/-- Outside of the numbers of states and of ash. -/
def outSH (s h : Int) : Bool := cond (decide (s < 0)) true (cond (decide (s > 3)) true (cond (decide (h < 0)) true (decide (h > 1000000))))
noncomputable def endB (b d u : Nat) : Bool := cond (cond (fleB .f32 3262119936 b) (fleB .f32 b 1153138688) false) (cond (shO d) (cond (amtF u) (fltB .f32 u 1065353216) false) false) false
def inS (s h : Int) (x : Bool) : Bool := cond (!cond (decide (IntKind.i64.wrap s ≥ 0)) (decide (IntKind.i64.wrap s ≤ 3)) false) true (cond (!cond (decide (h ≥ 0)) (decide (h ≤ 1000000)) false) true x)
noncomputable def outS (b d u : Nat) (s h : Int) : Bool := cond (fleB .f32 3262119936 b) (cond (!fleB .f32 b 1153138688) true (cond (!shO d) true (inS s h (cond (!amtF u) true (fleB .f32 1065353216 u))))) true

/-- Whether a stove is valid. -/
noncomputable def stvB (fd : Nat → Nat → Nat) (a n b d u : Nat) (s h : Int) : Bool := cond (Nat.ble 7 n) false (cond (outSH s h) false (chainF fd a n 0 (endB b d u)))

theorem fle_one {u : Nat} (h : amtF u = true) : fleB .f32 1065353216 u = !fltB .f32 u 1065353216 := by
  have h := of_decide_eq_true (show decide (u < 2139095040) = true from h)
  have hn : nanB .f32 u = false := by rw [nan32]; simp; omega
  have n1 : nanB .f32 1065353216 = false := by rw [nan32]; decide
  rw [fle_key .f32 n1 hn, flt_key .f32 hn n1, show FloatKind.f32.format = Ieee.single from rfl, key32 (by decide), key32 (by omega)]
  have hx : u < 2147483648 := by omega
  have h1 : (1065353216 : Nat) < 2147483648 := by decide
  simp only [hx, h1, if_true]
  by_cases h2 : u < 1065353216
  · have h3 : ¬ ((1065353216 : Int) ≤ (u : Int)) := by omega
    have h4 : (u : Int) < 1065353216 := by omega
    simp [h3, h4]
  · have h3 : (1065353216 : Int) ≤ (u : Int) := by omega
    have h4 : ¬ ((u : Int) < 1065353216) := by omega
    simp [h3, h4]

theorem stv_eq (fd : Nat → Nat → Nat) (a n b d u : Nat) (s h : Int) (hs : IntKind.i64.wrap s = s) : cond (outS b d u s h) false (chainF fd a n 0 true) = cond (outSH s h) false (chainF fd a n 0 (endB b d u)) := by
  rw [chainF_E fd a n 0 (endB b d u)]
  unfold outS endB outSH inS
  rw [hs]
  have e1 : decide (s ≥ 0) = !decide (s < 0) := by by_cases h : s < 0 <;> simp [h] <;> omega
  have e2 : decide (s ≤ 3) = !decide (s > 3) := by by_cases h : s > 3 <;> simp [h] <;> omega
  have e3 : decide (h ≥ 0) = !decide (h < 0) := by by_cases k : h < 0 <;> simp [k] <;> omega
  have e4 : decide (h ≤ 1000000) = !decide (h > 1000000) := by by_cases k : h > 1000000 <;> simp [k] <;> omega
  rw [e1, e2, e3, e4]
  have key : ∀ (p1 p2 p3 p4 x y z t c : Bool), cond (cond x (cond (!y) true (cond (!z) true (cond (!cond (!p1) (!p2) false) true (cond (!cond (!p3) (!p4) false) true t)))) true) false c
      = cond (cond p1 true (cond p2 true (cond p3 true p4))) false (cond c (cond (cond x y false) (cond z (!t) false) false) false) := by decide
  cases ha : amtF u with
  | true =>
    rw [fle_one ha]
    simp only [Bool.not_true, cond_false, cond_true]
    rw [key]; simp only [Bool.not_not]
  | false =>
    simp only [Bool.not_false, cond_false, cond_true]
    rw [key]; rfl

/-- The cells of a stove. -/
structure SvA where
  i : Nat
  a : Nat
  n : Num
  b : Nat
  d : Nat
  s : Int
  h : Int
  u : Nat
def svOf : List AVal → Option SvA
  | [.vec i e a n, .flt .f32 b, .flt .f32 d, x, y, .flt .f32 u] => match intOf x, intOf y, Nat.beq e 18 with
    | some (.i8, s), some (.i64, h), true => some ⟨i, a, n, b, d, s, h, u⟩
    | _, _, _ => none
  | _ => none

noncomputable def svOut (S : St) (x : SvA) : Option Out := match S.vec x.i with
  | some v => match eqSh wSh v.sh with
    | true => some ⟨.sbool (stvB v.fd x.a x.n.val x.b x.d x.u x.s x.h), [], [], [], Nat.ble (Nat.add x.a x.n.val) v.n.val && decide (IntKind.i64.wrap x.s = x.s), none⟩
    | false => none
  | none => none

noncomputable def stvA : Ctr := ⟨fun args S => match args with
  | [.agg cs] => match svOf cs with | some x => svOut S x | none => none
  | _ => none, none⟩
noncomputable def stvP : Ctr := ⟨fun args S => match args with
  | [.ptr i o] => match S.cellsAt i o 6 with
    | some cs => match svOf cs with | some x => svOut S x | none => none
    | none => none
  | _ => none, none⟩

def svN (n : Nat) : Num := match n with
  | 0 => .lit 0 | 1 => .lit 1 | 2 => .lit 2 | 3 => .lit 3 | 4 => .lit 4 | 5 => .lit 5 | 6 => .lit 6
  | n + 7 => .ge 7 (n + 7)
theorem svN_val : ∀ n, (svN n).val = n
  | 0 => rfl | 1 => rfl | 2 => rfl | 3 => rfl | 4 => rfl | 5 => rfl | 6 => rfl | n + 7 => rfl
theorem svN_ok : ∀ n, (svN n).ok
  | 0 => trivial | 1 => trivial | 2 => trivial | 3 => trivial | 4 => trivial | 5 => trivial | 6 => trivial
  | n + 7 => by show 7 ≤ n + 7; omega

/-- As they are read. -/
def SvA.cells (x : SvA) : List AVal := [.vec x.i 18 x.a (svN x.n.val), .flt .f32 x.b, .flt .f32 x.d, .sint .i8 x.s, .sint .i64 x.h, .flt .f32 x.u]

theorem intOf_sV {ρ : Rho} {x : AVal} {k : IntKind} {n : Int} {v : Value} (h : intOf x = some (k, n)) (hv : V ρ x v) : V ρ (.sint k n) v := by
  unfold intOf at h
  split at h <;> cases h <;> (unfold V at hv ⊢; exact hv)

theorem svOf_conv {cs : List AVal} {x : SvA} (h : svOf cs = some x) (ρ : Rho) (vs : List Value) (hv : VL ρ cs vs) : VL ρ x.cells vs := by
  unfold svOf at h
  split at h
  · rename_i i e a n b d y z u
    split at h
    · rename_i s h' hy hz he
      cases h
      have he := Nat.eq_of_beq_eq_true he
      subst he
      unfold VL at hv
      obtain ⟨v0, vs, rfl, k0, hv⟩ := hv
      unfold VL at hv
      obtain ⟨v1, vs, rfl, k1, hv⟩ := hv
      unfold VL at hv
      obtain ⟨v2, vs, rfl, k2, hv⟩ := hv
      unfold VL at hv
      obtain ⟨v3, vs, rfl, k3, hv⟩ := hv
      unfold VL at hv
      obtain ⟨v4, vs, rfl, k4, hv⟩ := hv
      refine VL_cons ?_ (VL_cons k1 (VL_cons k2 (VL_cons (intOf_sV hy k3) (VL_cons (intOf_sV hz k4) hv))))
      unfold V at k0 ⊢
      obtain ⟨_, q2, base, c, q3, q4⟩ := k0
      refine ⟨svN_ok _, q2, base, c, ?_, ?_⟩
      · rw [svN_val]; exact q3
      · rw [svN_val]; exact q4
    · cases h
  · cases h

section
variable {P : Program}
/-- The row of a stove that is looked at. -/
def svRow (m : Num) (fd : Nat → Nat → Nat) (gd : Nat → Nat → Int) (bd : Nat → Nat → Bool) (wr : Bool) (a : Nat) (n : Nat) : Vc := shiftV ⟨wSh, m, fd, gd, bd, wr⟩ a (svN n)

theorem svOut_spec {S : St} {x : SvA} {out : Out} (h : svOut S x = some out) (hnd : out.nd = true) : ∃ m fd gd bd wr, S.vec x.i = some ⟨wSh, m, fd, gd, bd, wr⟩ ∧ x.a + x.n.val ≤ m.val ∧ IntKind.i64.wrap x.s = x.s ∧ out = ⟨.sbool (stvB fd x.a x.n.val x.b x.d x.u x.s x.h), [], [], [], out.nd, none⟩ := by
  unfold svOut at h
  split at h
  · rename_i v hv
    split at h
    · rename_i hs
      cases h
      obtain ⟨sh, m, fd, gd, bd, wr⟩ := v
      have hs := (eqSh_eq hs).symm
      have hs : sh = wSh := hs
      subst hs
      rw [Bool.and_eq_true] at hnd
      exact ⟨m, fd, gd, bd, wr, hv, Nat.le_of_ble_eq_true hnd.1, of_decide_eq_true hnd.2, rfl⟩
    · cases h
  · cases h

theorem sv_rows {S : St} {x : SvA} {m : Num} {fd : Nat → Nat → Nat} {gd : Nat → Nat → Int} {bd : Nat → Nat → Bool} {wr : Bool} (h : S.vec x.i = some ⟨wSh, m, fd, gd, bd, wr⟩) (hb : x.a + x.n.val ≤ m.val) : rowsI S (idsC x.cells) = some [svRow m fd gd bd wr x.a x.n.val] := by
  have e : idsC x.cells = [⟨x.i, 18, x.a, svN x.n.val⟩] := rfl
  rw [e]
  unfold rowsI
  rw [h]
  have e1 : (Nat.beq 18 (lenL wSh) && Nat.ble (Nat.add x.a (svN x.n.val).val) m.val) = true := by
    rw [svN_val, Nat.ble_eq_true_of_le (show Nat.add x.a x.n.val ≤ m.val from hb)]; rfl
  simp only [rowsI]
  rw [e1]
  rfl

theorem sat_stvA {Γ : List (Nat × Ctr)} (hΓ : Good P Γ) (hm : P.follows .mixedOrders = true) {f : FuncId} {fn : Func} (hf : P.funcs[f]? = some fn) (hcall : ∀ (args : Array Value) (w : World), (callFunc f args).run P w = .ok (.enter f args) w)
    (he : ∀ (n : Nat) (m : Num) (fd : Nat → Nat → Nat) (gd : Nat → Nat → Int) (bd : Nat → Nat → Bool) (wr : Bool) (a b d u : Nat) (s h : Int), ∃ v0, evBody P Γ 100 fn [.agg [.vec 0 18 0 (svN n), .flt .f32 b, .flt .f32 d, .sint .i8 s, .sint .i64 h, .flt .f32 u]] (viewS [svRow m fd gd bd wr a n]) = some ⟨v0, [], [], [], true, none⟩ ∧ v0.flat = true ∧ ∀ ρ z, V ρ v0 z → V ρ (.sbool (stvB fd a n b d u s h)) z) : Sat P f stvA := by
  refine sat_rdA hΓ hm hf hcall rfl 100 (fun args S out hfn hnd hex => ?_)
  simp only [stvA] at hfn
  split at hfn
  case h_2 => cases hfn
  rename_i cs
  split at hfn
  case h_2 => cases hfn
  rename_i x hx
  obtain ⟨m, fd, gd, bd, wr, hv, hb, hw, hout⟩ := svOut_spec hfn hnd
  obtain ⟨v0, h1, h2, h3⟩ := he x.n.val m fd gd bd wr x.a x.b x.d x.u x.s x.h
  refine ⟨[.agg x.cells], [svRow m fd gd bd wr x.a x.n.val], v0, fun ρ vs hv => ?_, rfl, ?_, h1, h2, by rw [hout], fun ρ z hz => by rw [hout]; exact h3 ρ z hz⟩
  · unfold VL at hv ⊢
    obtain ⟨v, vs', rfl, k1, k2⟩ := hv
    refine ⟨v, vs', rfl, ?_, k2⟩
    unfold V at k1 ⊢
    obtain ⟨us, rfl, k3⟩ := k1
    exact ⟨us, rfl, svOf_conv hx ρ us k3⟩
  · have := sv_rows hv hb
    have e : idsA [.agg x.cells] = idsC x.cells := by simp [idsA]
    rw [e]; exact this

theorem sat_stvP {Γ : List (Nat × Ctr)} (hΓ : Good P Γ) (hm : P.follows .mixedOrders = true) {f : FuncId} {fn : Func} (hf : P.funcs[f]? = some fn) (hcall : ∀ (args : Array Value) (w : World), (callFunc f args).run P w = .ok (.enter f args) w)
    (he : ∀ (n : Nat) (m : Num) (fd : Nat → Nat → Nat) (gd : Nat → Nat → Int) (bd : Nat → Nat → Bool) (wr : Bool) (a b d u : Nat) (s h : Int), IntKind.i64.wrap s = s → ∃ v0, evBody P Γ 100 fn [.ptr 0 0] (cellS [.vec 1 18 0 (svN n), .flt .f32 b, .flt .f32 d, .sint .i8 s, .sint .i64 h, .flt .f32 u] [svRow m fd gd bd wr a n]) = some ⟨v0, [], [], [], true, none⟩ ∧ v0.flat = true ∧ ∀ ρ z, V ρ v0 z → V ρ (.sbool (stvB fd a n b d u s h)) z) : Sat P f stvP := by
  refine sat_rdP hΓ hm hf hcall rfl 100 6 (by decide) (fun args S out hfn hnd hex => ?_)
  simp only [stvP] at hfn
  split at hfn
  case h_2 => cases hfn
  rename_i i o
  split at hfn
  case h_2 => cases hfn
  rename_i cs hcs
  split at hfn
  case h_2 => cases hfn
  rename_i x hx
  obtain ⟨m, fd, gd, bd, wr, hv, hb, hw, hout⟩ := svOut_spec hfn hnd
  obtain ⟨v0, h1, h2, h3⟩ := he x.n.val m fd gd bd wr x.a x.b x.d x.u x.s x.h hw
  exact ⟨i, o, cs, x.cells, [], [svRow m fd gd bd wr x.a x.n.val], v0, rfl, rfl, hcs, fun ρ vs hv => svOf_conv hx ρ vs hv, rfl, sv_rows hv hb, h1, h2, by rw [hout], fun ρ z hz => by rw [hout]; exact h3 ρ z hz⟩
end
end Go.Ab

namespace Go.Ab
open Go Go.RowKit
set_option linter.unusedVariables false
/-! ### A struct with a slice, that is an argument -/
section
variable {P : Program}
def repC : Nat → CK → List CK
  | 0, _ => []
  | n + 1, c => c :: repC n c
theorem repC_at : ∀ {n : Nat} {c d : CK} {o : Nat}, nthC o (repC n c) = some d → o < n ∧ d = c
  | 0, c, d, o, h => by cases o <;> cases h
  | n + 1, c, d, 0, h => by simp only [repC, nthC, Option.some.injEq] at h; exact ⟨by omega, h.symm⟩
  | n + 1, c, d, o + 1, h => by
    obtain ⟨h1, h2⟩ := repC_at (n := n) (c := c) (d := d) (o := o) h
    exact ⟨by omega, h2⟩

/-- An array of cells. -/
theorem elem_arr {t e : TypeId} {n : Nat} {c : CK} (ht : P.underlying t = some (.array n e)) (hc : ckT P e = some c) (h1 : P.cellsOf e = 1) (hn : P.cellsOf t = n) : ElemIs P t (repC n c) := by
  intro H enc w base spare held fuel cs y hl h o d hd
  obtain ⟨ho, rfl⟩ := repC_at hd
  obtain ⟨xs, m, _, _, hlen, hxl, hx⟩ := DataW.trod_array ht h
  have g := hx o ho
  rw [h1, Nat.mul_one] at g
  have hlt : o < cs.length := by omega
  have e1 : (cs.drop o).take 1 = [cs.getD o undef] := by
    rw [List.drop_eq_getElem_cons hlt, List.take_succ_cons, List.take_zero]
    simp [List.getD, List.getElem?_eq_getElem hlt]
  rw [e1, List.getElem?_eq_getElem (show o < xs.length by omega)] at g
  exact ⟨cs.getD o undef, by simp [List.getD, List.getElem?_eq_getElem hlt], cell_is hc g⟩

def fldOk (P : Program) : Nat → List Field → List (List CK) → Bool
  | _, [], [] => true
  | o, f :: fs, sh :: shs => Nat.beq f.offset o && (Nat.beq (P.cellsOf f.type) (lenL sh) && fldOk P (o + lenL sh) fs shs)
  | _, _, _ => false
def joinC : List (List CK) → List CK
  | [] => []
  | l :: r => l ++ joinC r

theorem nthC_app : ∀ (a b : List CK) (o : Nat), nthC o (a ++ b) = if o < lenL a then nthC o a else nthC (o - lenL a) b
  | [], b, o => by simp [lenL]
  | c :: a, b, 0 => by simp [nthC, lenL]
  | c :: a, b, o + 1 => by
    have ih := nthC_app a b o
    have hl : lenL (c :: a) = lenL a + 1 := rfl
    show nthC o (a ++ b) = if o + 1 < lenL (c :: a) then nthC o a else nthC (o + 1 - lenL (c :: a)) b
    rw [ih, hl]
    by_cases h : o < lenL a
    · rw [if_pos h, if_pos (by omega)]
    · rw [if_neg h, if_neg (by omega)]
      congr 1; omega

theorem lenL_app {α : Type} : ∀ (a b : List α), lenL (a ++ b) = lenL a + lenL b
  | [], b => by simp [lenL]
  | x :: a, b => by
    have := lenL_app a b
    simp only [List.cons_append, lenL, this]; omega

theorem fldOk_at : ∀ (fs : List Field) (shs : List (List CK)) (o0 o : Nat) (c : CK), fldOk P o0 fs shs = true → nthC o (joinC shs) = some c →
    ∃ (i : Nat) (f : Field) (sh : List CK) (q : Nat), fs[i]? = some f ∧ shs[i]? = some sh ∧ nthC q sh = some c ∧ o0 + o = f.offset + q ∧ P.cellsOf f.type = lenL sh ∧ f.offset + lenL sh ≤ o0 + lenL (joinC shs)
  | [], [], o0, o, c, _, h => by cases o <;> cases h
  | [], s :: ss, o0, o, c, hf, _ => by cases hf
  | f :: fs, [], o0, o, c, hf, _ => by cases hf
  | f :: fs, sh :: shs, o0, o, c, hf, h => by
    have hf' : (Nat.beq f.offset o0 && (Nat.beq (P.cellsOf f.type) (lenL sh) && fldOk P (o0 + lenL sh) fs shs)) = true := hf
    rw [Bool.and_eq_true, Bool.and_eq_true] at hf'
    obtain ⟨h1, h2, h3⟩ := hf'
    have h1 := Nat.eq_of_beq_eq_true h1
    have h2 := Nat.eq_of_beq_eq_true h2
    have h' : nthC o (sh ++ joinC shs) = some c := h
    have hl : lenL (joinC (sh :: shs)) = lenL sh + lenL (joinC shs) := lenL_app _ _
    rw [nthC_app] at h'
    split at h'
    · exact ⟨0, f, sh, o, rfl, rfl, h', by omega, h2, by omega⟩
    · rename_i hge
      obtain ⟨i, g, s, q, k1, k2, k3, k4, k5, k6⟩ := fldOk_at fs shs (o0 + lenL sh) (o - lenL sh) c h3 h'
      exact ⟨i + 1, g, s, q, by simpa using k1, by simpa using k2, k3, by omega, k5, by omega⟩

/-- A struct of fields of several cells. -/
theorem elem_fields {e : TypeId} {fs : Array Field} {shs : List (List CK)} (hs : P.underlying e = some (.struct fs)) (hfo : fldOk P 0 fs.toList shs = true) (hC : P.cellsOf e = lenL (joinC shs))
    (hel : ∀ (i : Nat) (f : Field) (sh : List CK), fs.toList[i]? = some f → shs[i]? = some sh → ElemIs P f.type sh) : ElemIs P e (joinC shs) := by
  intro H enc w base spare held n cs y hl h o c hc
  obtain ⟨xs, m, _, _, hlen, hxl, hf⟩ := DataW.trod_struct hs h
  obtain ⟨i, f, sh, q, k1, k2, k3, k4, k5, k6⟩ := fldOk_at fs.toList shs 0 o c hfo hc
  have hfi : fs[i]? = some f := by simpa using k1
  have hi : i < fs.size := (Array.getElem?_eq_some_iff.1 hfi).1
  have g := hf i f hfi
  rw [List.getElem?_eq_getElem (show i < xs.length by omega)] at g
  have hq := nthC_lt k3
  obtain ⟨v, hv, hcell⟩ := hel i f sh k1 k2 m _ _ (by rw [List.length_take, List.length_drop]; omega) g q c k3
  refine ⟨v, ?_, hcell⟩
  rw [List.getElem?_take_of_lt (by omega), List.getElem?_drop] at hv
  rw [Nat.zero_add] at k4
  rw [k4]; exact hv

/-- A struct of arrays of one type. -/
theorem elem_arrs {e t : TypeId} {fs : Array Field} {k : Nat} {sh : List CK} (hs : P.underlying e = some (.struct fs)) (hts : fs.toList.map (·.type) = List.replicate k t) (hfo : fldOk P 0 fs.toList (List.replicate k sh) = true) (hC : P.cellsOf e = lenL (joinC (List.replicate k sh)))
    (hel : ElemIs P t sh) : ElemIs P e (joinC (List.replicate k sh)) :=
  elem_fields hs hfo hC (fun i f s h1 h2 => by
    have e1 : f.type = t := by
      have : f.type ∈ fs.toList.map (·.type) := List.mem_map_of_mem (List.mem_of_getElem? h1)
      rw [hts] at this
      exact List.eq_of_mem_replicate this
    have e2 : s = sh := List.eq_of_mem_replicate (List.mem_of_getElem? h2)
    rw [e1, e2]; exact @hel)
end

section
variable {H : Type} {enc : TypeId × Value → H} {P : Program} {w : World}

/-- A slice of rows, off its cell. -/
theorem open_rows0 {t e : TypeId} {sh : List CK} {v : Value} {fuel : Nat} {y : DataW H × List MemPlace} {W : World} (ht : P.underlying t = some (.slice e)) (he : ElemIs P e sh) (hsz : P.cellsOf e = lenL sh) (hpos : 1 ≤ lenL sh)
    (h : DataW.trod enc P W 0 (fun _ => true) true fuel t [v] = some y) :
    ∃ (n : Nat) (fd : Nat → Nat → Nat) (gd : Nat → Nat → Int) (bd : Nat → Nat → Bool) (ρ : Rho), n ≤ 9223372036854775807 ∧ Mem NoM W ρ (viewS [⟨sh, .sym n, fd, gd, bd, false⟩]) W ∧ V ρ (.vec 0 (lenL sh) 0 (.sym n)) v := by
  have nomem : ∀ (k : Nat → Bool) (hk : ∀ i, k i = true → i = 0), Mem NoM W ⟨fun _ => none, fun _ => 0, k⟩ (viewS [⟨sh, .sym 0, fun _ _ => 0, fun _ _ => 0, fun _ _ => false, false⟩]) W := by
    intro k hk
    refine ⟨⟨fun i o x hx => (view_cell hx).elim, fun i vc r b k o c _ hr => by (cases hr), fun i o x r b hx => (view_cell hx).elim, fun i vc r b q _ _ hr => by (cases hr), fun i vc r b _ _ hr => by (cases hr), fun i j r b b' _ hw => (view_wr hw).elim, fun i p hp => by (cases hp), fun i hi => by (have := hk i hi; subst this; exact Nat.zero_lt_one), fun i o x hx => by (simp [viewS, hlookL] at hx), fun i x hx => by (simp [viewS, vlookL] at hx), fun i r b hr => by (cases hr)⟩, Fr.refl _ _, ⟨fun i o x r b hx => (view_cell hx).elim, fun i vc r b q _ _ hr => by (cases hr)⟩⟩
  rcases Deep.open_slice ht h with ⟨hcs, _⟩ | ⟨a, len, cap, m, n, D, Pl, hcs, _, hl, hm, hmm, _, hx⟩
  · simp only [List.cons.injEq, and_true] at hcs
    subst hcs
    refine ⟨0, _, _, _, ⟨fun _ => none, fun _ => 0, fun i => i == 0⟩, Nat.zero_le _, nomem _ (fun i hi => by simpa using hi), ?_⟩
    unfold V
    exact ⟨trivial, rfl, none, 0, rfl, Or.inl ⟨rfl, rfl⟩⟩
  · simp only [List.cons.injEq, and_true] at hcs
    subst hcs
    simp only [if_true] at hmm
    subst hmm
    rcases Nat.eq_zero_or_pos m with h0 | hpos'
    · subst h0
      have hl0 : len = 0 := by omega
      subst hl0
      refine ⟨0, _, _, _, ⟨fun _ => none, fun _ => 0, fun i => i == 0⟩, Nat.zero_le _, nomem _ (fun i hi => by simpa using hi), ?_⟩
      unfold V
      exact ⟨trivial, rfl, some a, 0, rfl, Or.inl ⟨rfl, rfl⟩⟩
    · have each : ∀ k, k < m → ∀ o c, nthC o sh = some c → ∃ v, W.cell? (a.add (k * lenL sh + o)) = some v ∧ CellIs c v := by
        intro k hk o c hc
        obtain ⟨cs', h1, h2⟩ := hx k hk
        obtain ⟨_, hlen, hcell⟩ := World.cells?_some h1
        obtain ⟨v, hv, hi⟩ := he n cs' _ hlen h2 o c hc
        have ho := nthC_lt hc
        refine ⟨v, ?_, hi⟩
        have := hcell o (by omega)
        rw [Deep.add_add, hsz] at this
        rw [this]; exact hv
      have hspot : a.spot = none := by
        have hc0 : ∃ c, nthC 0 sh = some c := nthC_some (by omega)
        obtain ⟨c, hc⟩ := hc0
        obtain ⟨v, hv, _⟩ := each 0 hpos' 0 c hc
        have := World.cell?_spot hv
        simpa [Addr.add] using this
      obtain ⟨blk, off, spot⟩ := a
      have hspot : spot = none := hspot
      subst hspot
      have eadd : ∀ q, (⟨blk, off, none⟩ : Addr).add q = ⟨blk, off + q, none⟩ := fun q => by unfold Addr.add; simp
      refine ⟨len, fun k o => wV ((W.cell? ⟨blk, off + (k * lenL sh + o), none⟩).getD undef), fun k o => gV ((W.cell? ⟨blk, off + (k * lenL sh + o), none⟩).getD undef), fun k o => bV ((W.cell? ⟨blk, off + (k * lenL sh + o), none⟩).getD undef),
        ⟨fun i => if i = 0 then some (blk, off) else none, fun i => m, fun i => i == 0⟩, ?_, ?_, ?_⟩
      · have : maxLen = 9223372036854775807 := by decide
        omega
      · refine ⟨⟨fun i o x hx => (view_cell hx).elim, fun i vc r b k o c hvc hr hk hc => ?_, fun i o x r b hx => (view_cell hx).elim, fun i vc r b q hvc hw => ?_, fun i vc r b hvc hw => ?_, fun i j r b b' _ hw => (view_wr hw).elim, fun i p hp => ?_, fun i hi => ?_, fun i o x hx => by (simp [viewS, hlookL] at hx), fun i x hx => by (simp [viewS, vlookL] at hx), fun i r b hr => ?_⟩, Fr.refl _ _, ⟨fun i o x r b hx => (view_cell hx).elim, fun i vc r b q hvc hw => ?_⟩⟩
        · simp only at hr
          split at hr
          · rename_i hi; subst hi
            cases hr
            obtain ⟨u, hu, rfl⟩ := view_vec hvc
            simp only [List.getElem?_cons_zero, Option.some.injEq] at hu
            subst hu
            have hk : k < len := hk
            obtain ⟨v, hv, hi⟩ := each k (by omega) o c hc
            rw [eadd] at hv
            refine ⟨v, hv, ?_⟩
            cases c with
            | f32 =>
              obtain ⟨b, rfl, hb⟩ := hi
              simp only [Vc.mkA, hv, Option.getD_some]
              unfold V
              exact ⟨b, rfl, sameW.refl _ _, hb, hb⟩
            | int k =>
              obtain ⟨z, rfl⟩ := hi
              simp only [Vc.mkA, hv, Option.getD_some]
              unfold V; rfl
            | bool =>
              obtain ⟨z, rfl⟩ := hi
              simp only [Vc.mkA, hv, Option.getD_some]
              unfold V; rfl
          · cases hr
        · obtain ⟨u, hu, rfl⟩ := view_vec hvc; cases hw
        · obtain ⟨u, hu, rfl⟩ := view_vec hvc; cases hw
        · simp only at hp
          split at hp
          · rename_i hi; subst hi; exact Nat.zero_lt_one
          · cases hp
        · have : i = 0 := by simpa using hi
          subst this; exact Nat.zero_lt_one
        · simp only at hr
          split at hr
          · cases hr
            obtain ⟨c, hc⟩ := nthC_some (l := sh) (p := 0) (by omega)
            obtain ⟨v, hv, _⟩ := each 0 hpos' 0 c hc
            have := World.block_lt_of_cell? _ _ hv
            simpa [Addr.add] using this
          · cases hr
        · obtain ⟨u, hu, rfl⟩ := view_vec hvc; cases hw
      · unfold V
        exact ⟨trivial, rfl, some ⟨blk, off, none⟩, m, rfl, Or.inr ⟨blk, off, by simp, by simp, by simp, by show 0 + len ≤ m; omega⟩⟩

theorem cell_int {r : Reach} {base : Nat} {t : TypeId} {cs : Array Value} {ts : List TypeId} (hok : Row.okWide P w r base t cs) (hct : P.cellTypes P.depth t = some ts) {o : Nat} {v : Value} {u : TypeId} {k : IntKind} (ho : cs[o]? = some v) (hu : ts[o]? = some u) (hk : P.underlying u = some (.int k)) :
    ∃ n, v = .int k n ∧ k.min ≤ n ∧ n ≤ k.max := by
  obtain ⟨ts', hts, _, hcells⟩ := hok
  rw [hct] at hts; cases hts
  obtain ⟨u', hu', hc⟩ := hcells o v ho
  have hlt := is_lt hu
  rw [Nat.mod_eq_of_lt hlt, hu] at hu'; cases hu'
  unfold Cell.okWide at hc
  rw [hk] at hc
  cases v <;> simp [Cell.ok, hk] at hc
  obtain ⟨rfl, hb⟩ := hc
  exact ⟨_, rfl, by simpa [IntKind.has] using hb⟩

/-- A struct whose first field is a slice, the others cells. -/
theorem open_st {r : Reach} {b0 : Nat} {t e t0 : TypeId} {fs : Array Field} {sh cks : List CK} {ts : List TypeId} {v : Value} {d : DataW H} {ps : List MemPlace} {W : World}
    (hs : P.underlying t = some (.struct fs)) (hone : Deep.oneCellFields P fs = true) (hC : P.cellsOf t = fs.size) (hts : fs.toList.map (·.type) = t0 :: ts) (hct : P.cellTypes P.depth t = some (t0 :: ts))
    (ht : P.underlying t0 = some (.slice e)) (he : ElemIs P e sh) (hsz : P.cellsOf e = lenL sh) (hpos : 1 ≤ lenL sh) (hk : ckTs P ts = some cks)
    (hval : Value.okWide P W r b0 t v) (h : DataW.Trod enc P W 0 (fun _ => true) true t v d ps) :
    ∃ (n : Nat) (fd : Nat → Nat → Nat) (gd : Nat → Nat → Int) (bd : Nat → Nat → Bool) (ρ : Rho) (f : Nat → Nat) (g : Nat → Int) (b : Nat → Bool), n ≤ 9223372036854775807 ∧ Mem NoM W ρ (viewS [⟨sh, .sym n, fd, gd, bd, false⟩]) W ∧ V ρ (.agg (.vec 0 (lenL sh) 0 (.sym n) :: encC f g b 0 cks)) v ∧
      ∀ (o : Nat) (u : TypeId) (k : IntKind), ts[o]? = some u → P.underlying u = some (.int k) → k.min ≤ g o ∧ g o ≤ k.max := by
  have hv' : ∃ cs, v = .agg cs ∧ cs.size = P.cellsOf t ∧ Row.okWide P W r b0 t cs := by
    unfold Value.okWide at hval
    rw [hs] at hval
    exact hval
  obtain ⟨cs, rfl, hsize, hrow⟩ := hv'
  obtain ⟨fuel, h⟩ := h
  have h : DataW.trod enc P W 0 (fun _ => true) true fuel t cs.toList = some (d, ps) := h
  obtain ⟨xs, m, _, _, hlen, _, hf⟩ := DataW.trod_struct hs h
  have hn : fs.size = ts.length + 1 := by
    have := congrArg List.length hts
    simpa using this
  have each : ∀ o, o < fs.size → ∃ (f : Field) (x : DataW H × List MemPlace), fs[o]? = some f ∧ (t0 :: ts)[o]? = some f.type ∧ DataW.trod enc P W 0 (fun _ => true) true m f.type [cs.toList.getD o undef] = some x := by
    intro o ho
    have hfo : fs[o]? = some fs[o] := Array.getElem?_eq_getElem ho
    obtain ⟨hoff, hc1⟩ := Deep.hone_of hone o _ hfo
    have g := hf o _ hfo
    rw [hoff, hc1, Deep.take1_drop cs.toList o undef (by simp; omega)] at g
    have hxs : ∃ x, xs[o]? = some x := ⟨xs[o]'(by omega), List.getElem?_eq_getElem (by omega)⟩
    obtain ⟨x, hx⟩ := hxs
    rw [hx] at g
    refine ⟨fs[o], x, hfo, ?_, g⟩
    rw [← hts]
    simp [hfo]
  have hget : ∀ o, o < fs.size → cs[o]? = some (cs.toList.getD o undef) := fun o ho => by
    have : o < cs.size := by omega
    simp [List.getD, this]
  obtain ⟨f0, x0, hf0, ht0, g0⟩ := each 0 (by omega)
  have ht0 : t0 = f0.type := by simpa using ht0
  rw [← ht0] at g0
  obtain ⟨n, fd, gd, bd, ρ, hnn, hM, w0⟩ := open_rows0 ht he hsz hpos g0
  have htail : cs.toList = cs.toList.getD 0 undef :: cs.toList.tail := by
    cases hcs : cs.toList with
    | nil =>
      have h1 : cs.toList.length = fs.size := by rw [Array.length_toList]; omega
      rw [hcs] at h1
      have h1 : 0 = fs.size := h1
      omega
    | cons a l => rfl
  have htget : ∀ o, cs.toList.tail[o]? = cs.toList[o + 1]? := fun o => by
    cases hcs : cs.toList with
    | nil => rfl
    | cons a l => simp
  refine ⟨n, fd, gd, bd, ρ, fun o => wV (cs.toList.getD (o + 1) undef), fun o => gV (cs.toList.getD (o + 1) undef), fun o => bV (cs.toList.getD (o + 1) undef), hnn, hM, ?_, fun o u k hu hk' => ?_⟩
  · unfold V
    refine ⟨cs.toList, rfl, ?_⟩
    have hrest : VL ρ (encC (fun o => wV (cs.toList.getD (o + 1) undef)) (fun o => gV (cs.toList.getD (o + 1) undef)) (fun o => bV (cs.toList.getD (o + 1) undef)) 0 cks) cs.toList.tail := by
      refine enc_of_cells (P := P) _ _ _ ts cks cs.toList.tail 0 hk (by simp; omega) (fun i v u hv hu => ?_)
      have hi : i < ts.length := is_lt hu
      obtain ⟨fi, xi, hfi, hti, gi⟩ := each (i + 1) (by omega)
      have hti : ts[i]? = some fi.type := by simpa using hti
      rw [hu] at hti; cases hti
      have hvi : v = cs.toList.getD (i + 1) undef := by
        rw [htget] at hv
        simp [List.getD, hv]
      subst hvi
      refine ⟨by simp, by simp, by simp, fun c hc => ?_⟩
      have := cell_is hc gi
      cases c <;> exact this
    have key := VL_cons w0 hrest
    rw [← htail] at key
    exact key
  · have hlt := is_lt hu
    obtain ⟨z, hz, h1, h2⟩ := cell_int hrow hct (hget (o + 1) (by omega)) (show (t0 :: ts)[o + 1]? = some u by simpa using hu) hk'
    simp only [hz, gV]
    exact ⟨h1, h2⟩
end
end Go.Ab

namespace Go.Ab
open Go Go.RowKit
set_option linter.unusedVariables false
section
variable {P : Program}
/-- As sat_rdA; the contracts, and what is asked, are chosen behind the arguments. -/
theorem sat_rdA2 (hm : P.follows .mixedOrders = true) {f : FuncId} {fn : Func} (hf : P.funcs[f]? = some fn) {c : Ctr} (hcall : ∀ (args : Array Value) (w : World), (callFunc f args).run P w = .ok (.enter f args) w) (hx : c.x = none)
    (h : ∀ args S out, c.fn args S = some out → out.nd = true → (∃ ρ vs, VL ρ args vs) → ∃ Γ fuel as' vcs v0 nd, Good P Γ ∧ (∀ ρ vs, VL ρ args vs → VL ρ as' vs) ∧ flatA as' = true ∧ rowsI S (idsA as') = some vcs ∧ evBody P Γ fuel fn (renA 0 as') (viewS vcs) = some ⟨v0, [], [], [], nd, none⟩ ∧ nd = true ∧ v0.flat = true ∧ out = ⟨out.v, [], [], [], out.nd, none⟩ ∧ ∀ ρ u, V ρ v0 u → V ρ out.v u) : Sat P f c := by
  unfold Sat
  rw [hx]
  refine ⟨hcall, fun args S out hfn hnd M w0 ρ w vs hM hv => ?_⟩
  obtain ⟨Γ, fuel, as', vcs, v0, nd, hΓ, hconv, hfl, hrow, he, hn, hf0, hout, hsay⟩ := h args S out hfn hnd ⟨ρ, vs, hv⟩
  have hs' : SatC P f (inl P Γ fuel fn) := inl_sat hΓ hm hf hcall fuel
  refine (hs'.sat _ _ _ he hn NoM w (rhoW ρ (idsA as')) w vs (viewsW_mem hM hrow) (renA_V as' 0 vs hfl (stands_W ρ _) (hconv ρ vs hv))).mono ?_
  intro e w' hr
  cases e with
  | outgrown => exact hr.elim
  | panicked ch => obtain ⟨v, u, hp, _⟩ := hr; cases hp
  | returned u =>
    obtain ⟨_, ρ', _, hu, hm'⟩ := hr
    rw [hout]
    exact ⟨fun b v h => (by cases h), ρ, ExtS.refl _ _, hsay ρ u (V_flat _ _ hf0 hu), (hM.quiet hm'.fr).put_nil⟩

/-- A function of one stove that is read: its answer is told by what is in the stove, where the stove's length is told to be 6 at most ('b'), or at any length. -/
def stvC (g : (Nat → Nat → Nat) → Nat → Nat → Nat → Nat → Nat → Int → Int → AVal) (b : Bool) : Ctr := ⟨fun args S => match args with
  | [.agg cs] => match svOf cs with
    | some x => match S.vec x.i with
      | some v => match eqSh wSh v.sh with
        | true => some ⟨g v.fd x.a x.n.val x.b x.d x.u x.s x.h, [], [], [], (cond b (Nat.ble x.n.val 6) true && Nat.ble (Nat.add x.a x.n.val) v.n.val) && decide (IntKind.i64.wrap x.s = x.s), none⟩
        | false => none
      | none => none
    | none => none
  | _ => none, none⟩

theorem sat_stvC (hm : P.follows .mixedOrders = true) {f : FuncId} {fn : Func} (hf : P.funcs[f]? = some fn) (hcall : ∀ (args : Array Value) (w : World), (callFunc f args).run P w = .ok (.enter f args) w)
    {g : (Nat → Nat → Nat) → Nat → Nat → Nat → Nat → Nat → Int → Int → AVal} {B : Bool}
    (he : ∀ (n : Nat), (B = true → n ≤ 6) → ∀ (m : Num) (fd : Nat → Nat → Nat) (gd : Nat → Nat → Int) (bd : Nat → Nat → Bool) (wr : Bool) (a b d u : Nat) (s h : Int), IntKind.i64.wrap s = s → ∃ Γ fuel v0 nd, Good P Γ ∧ evBody P Γ fuel fn [.agg [.vec 0 18 0 (svN n), .flt .f32 b, .flt .f32 d, .sint .i8 s, .sint .i64 h, .flt .f32 u]] (viewS [svRow m fd gd bd wr a n]) = some ⟨v0, [], [], [], nd, none⟩ ∧ nd = true ∧ v0.flat = true ∧ ∀ ρ z, V ρ v0 z → V ρ (g fd a n b d u s h) z) : Sat P f (stvC g B) := by
  refine sat_rdA2 hm hf hcall rfl (fun args S out hfn hnd hex => ?_)
  simp only [stvC] at hfn
  split at hfn
  case h_2 => cases hfn
  rename_i cs
  split at hfn
  case h_2 => cases hfn
  rename_i x hx
  split at hfn
  case h_2 => cases hfn
  rename_i v hv
  split at hfn
  case h_2 => cases hfn
  rename_i hs
  cases hfn
  obtain ⟨sh, m, fd, gd, bd, wr⟩ := v
  have hs := (eqSh_eq hs).symm
  have hs : sh = wSh := hs
  subst hs
  simp only [Bool.and_eq_true] at hnd
  obtain ⟨⟨hb, hl⟩, hw⟩ := hnd
  have hl := Nat.le_of_ble_eq_true hl
  have hw := of_decide_eq_true hw
  obtain ⟨Γ, fuel, v0, nd, hG, h1, hn, h2, h3⟩ := he x.n.val (fun hB => by subst hB; exact Nat.le_of_ble_eq_true hb) m fd gd bd wr x.a x.b x.d x.u x.s x.h hw
  refine ⟨Γ, fuel, [.agg x.cells], [svRow m fd gd bd wr x.a x.n.val], v0, nd, hG, fun ρ vs hv => ?_, rfl, ?_, h1, hn, h2, rfl, h3⟩
  · unfold VL at hv ⊢
    obtain ⟨v, vs', rfl, k1, k2⟩ := hv
    refine ⟨v, vs', rfl, ?_, k2⟩
    unfold V at k1 ⊢
    obtain ⟨us, rfl, k3⟩ := k1
    exact ⟨us, rfl, svOf_conv hx ρ us k3⟩
  · have := sv_rows hv hl
    have e : idsA [.agg x.cells] = idsC x.cells := by simp [idsA]
    rw [e]; exact this
end

/-- The sum of six. -/
noncomputable def sumRow (r : Nat → Nat) (o : Nat) : Nat := fop .add .f32 (fop .add .f32 (fop .add .f32 (fop .add .f32 (fop .add .f32 (r o) (r (Nat.add o 1))) (r (Nat.add o 2))) (r (Nat.add o 3))) (r (Nat.add o 4))) (r (Nat.add o 5))
/-- The fuel in so many logs. -/
noncomputable def fuS (fd : Nat → Nat → Nat) (a : Nat) : Nat → Nat
  | 0 => 0
  | j + 1 => fop .add .f32 (fuS fd a j) (sumRow (fd (Nat.add a j)) 12)
end Go.Ab

namespace Go.Ab
open Go Go.RowKit
set_option linter.unusedVariables false
/-! ### Logs that burn -/
def atN : List Nat → Nat → Nat
  | [], _ => 0
  | x :: r, k => match k with | 0 => x | k + 1 => atN r k
/-- A layer doesn't burn: as the program asks it. -/
noncomputable def coolI (w h f : Nat) : Bool := cond (fleB .f32 h 1132068864) true (cond (!fltB .f32 w 1040187392) true (feqB .f32 f 0))
noncomputable def tI (ns : List Nat) : List Bool := [coolI (atN ns 0) (atN ns 6) (atN ns 12), coolI (atN ns 1) (atN ns 7) (atN ns 13), coolI (atN ns 2) (atN ns 8) (atN ns 14), coolI (atN ns 3) (atN ns 9) (atN ns 15), coolI (atN ns 4) (atN ns 10) (atN ns 16), coolI (atN ns 5) (atN ns 11) (atN ns 17)]
def cntT : List Bool → Nat → Nat
  | [], k => k
  | t :: r, k => cond t (cntT r k) (cntT r (k + 1))
def allT : List Bool → Bool
  | [] => true
  | t :: r => cond t (allT r) false
theorem cntT_ge : ∀ (l : List Bool) (k : Nat), k ≤ cntT l k
  | [], k => Nat.le_refl _
  | true :: r, k => cntT_ge r k
  | false :: r, k => Nat.le_trans (Nat.le_succ k) (cntT_ge r (k + 1))
theorem cntT_all : ∀ (l : List Bool) (k : Nat), allT l = true → cntT l k = k
  | [], k, _ => rfl
  | true :: r, k, h => cntT_all r k h
  | false :: r, k, h => by cases h
theorem cntT_not : ∀ (l : List Bool) (k : Nat), allT l = false → k < cntT l k
  | [], k, h => by cases h
  | true :: r, k, h => cntT_not r k h
  | false :: r, k, _ => cntT_ge r (k + 1)
theorem cntT_pos (l : List Bool) : decide (Int.ofNat 0 < Int.ofNat (cntT l 0)) = !allT l := by
  cases h : allT l with
  | true => rw [cntT_all l 0 h]; rfl
  | false =>
    have := cntT_not l 0 h
    exact decide_eq_true (by show ((0 : Nat) : Int) < ((cntT l 0 : Nat) : Int); omega)
/-- Whether a log is valid, and burns. -/
noncomputable def brI (ns : List Nat) : Bool := cond (vOp ns) (!allT (tI ns)) false
theorem brO_ex : ∃ f, f = brI := ⟨_, rfl⟩
noncomputable def brO : List Nat → Bool := Classical.choose brO_ex
theorem brO_eq : brO = brI := Classical.choose_spec brO_ex
theorem br_say (ns : List Nat) : decide (Int.ofNat 0 < Int.ofNat (cond (!vOp ns) 0 (cntT (tI ns) 0))) = brO ns := by
  rw [brO_eq]; unfold brI
  cases vOp ns with
  | true => exact cntT_pos (tI ns)
  | false => rfl
/-- A layer burns: as the model asks it. -/
noncomputable def layS (w h f : Nat) : Bool := cond (fltB .f32 1132068864 h) (cond (fltB .f32 w 1040187392) (fltB .f32 0 f) false) false
noncomputable def rowS (r : Nat → Nat) (x : Bool) : Bool := cond (layS (r 0) (r 6) (r 12)) true (cond (layS (r 1) (r 7) (r 13)) true (cond (layS (r 2) (r 8) (r 14)) true (cond (layS (r 3) (r 9) (r 15)) true (cond (layS (r 4) (r 10) (r 16)) true (cond (layS (r 5) (r 11) (r 17)) true x)))))
noncomputable def anyS (fd : Nat → Nat → Nat) (a : Nat) : Nat → Nat → Bool
  | 0, _ => false
  | n + 1, k => rowS (fd (Nat.add a k)) (anyS fd a n (k + 1))
noncomputable def firstB (fd : Nat → Nat → Nat) (a : Nat) : Nat → Nat → Int
  | 0, _ => -1
  | n + 1, k => cond (brO (wL (fd (Nat.add a k)))) (Int.ofNat k) (firstB fd a n (k + 1))

theorem lay_cool {w h f : Nat} {x : Bool} (hl : okL w h f x = true) : layS w h f = !coolI w h f ∧ x = true := by
  unfold okL at hl
  cases h1 : kilF w with
  | false => rw [h1] at hl; cases hl
  | true =>
    cases h2 : kilF f with
    | false => rw [h1, h2] at hl; cases hl
    | true =>
      cases h3 : btwF h with
      | false => rw [h1, h2, h3] at hl; cases hl
      | true =>
        rw [h1, h2, h3] at hl
        refine ⟨?_, hl⟩
        have hf : f ≤ 1092616192 := of_decide_eq_true h2
        have hn : nanB .f32 h = false := by
          cases hb : nanB .f32 h with
          | false => rfl
          | true =>
            unfold btwF at h3
            rw [fle_nan .f32 (Or.inr hb)] at h3
            cases h3
        have nf : nanB .f32 f = false := by rw [nan32]; exact decide_eq_false (by omega)
        have n0 : nanB .f32 0 = false := by rw [nan32]; decide
        have nc : nanB .f32 1132068864 = false := by rw [nan32]; decide
        have e1 : fltB .f32 1132068864 h = !fleB .f32 h 1132068864 := flt_not_fle .f32 nc hn
        have e2 : fltB .f32 0 f = !feqB .f32 f 0 := by
          have k1 : key FloatKind.f32.format f = if f < 2147483648 then (f : Int) else 2147483648 - (f : Int) := key32 (by omega)
          have k0 : key FloatKind.f32.format 0 = 0 := key32 (x := 0) (by decide)
          rw [flt_key .f32 n0 nf, feq_key .f32 nf n0, k1, k0, if_pos (by omega)]
          by_cases hz : f = 0
          · subst hz; decide
          · rw [decide_eq_true (by omega), decide_eq_false (by omega)]; rfl
        unfold layS coolI
        rw [e1, e2]
        cases fleB .f32 h 1132068864 <;> cases fltB .f32 w 1040187392 <;> cases feqB .f32 f 0 <;> rfl

theorem row_br {r : Nat → Nat} (h : vOp (wL r) = true) (x : Bool) : rowS r x = cond (brO (wL r)) true x := by
  rw [brO_eq]
  unfold brI
  rw [h]
  rw [vOp_eq] at h
  have h : okL (r 0) (r 6) (r 12) (okL (r 1) (r 7) (r 13) (okL (r 2) (r 8) (r 14) (okL (r 3) (r 9) (r 15) (okL (r 4) (r 10) (r 16) (okL (r 5) (r 11) (r 17) true))))) = true := h
  obtain ⟨q0, h⟩ := lay_cool h
  obtain ⟨q1, h⟩ := lay_cool h
  obtain ⟨q2, h⟩ := lay_cool h
  obtain ⟨q3, h⟩ := lay_cool h
  obtain ⟨q4, h⟩ := lay_cool h
  obtain ⟨q5, _⟩ := lay_cool h
  unfold rowS
  rw [q0, q1, q2, q3, q4, q5]
  show _ = cond (!(cond (coolI (r 0) (r 6) (r 12)) (cond (coolI (r 1) (r 7) (r 13)) (cond (coolI (r 2) (r 8) (r 14)) (cond (coolI (r 3) (r 9) (r 15)) (cond (coolI (r 4) (r 10) (r 16)) (cond (coolI (r 5) (r 11) (r 17)) true false) false) false) false) false) false)) true x
  cases coolI (r 0) (r 6) (r 12) <;> cases coolI (r 1) (r 7) (r 13) <;> cases coolI (r 2) (r 8) (r 14) <;> cases coolI (r 3) (r 9) (r 15) <;> cases coolI (r 4) (r 10) (r 16) <;> cases coolI (r 5) (r 11) (r 17) <;> rfl

theorem any_first {fd : Nat → Nat → Nat} {a : Nat} : ∀ (n k : Nat), chainF fd a n k true = true → anyS fd a n k = decide (firstB fd a n k ≥ 0)
  | 0, k, _ => rfl
  | n + 1, k, h => by
    unfold chainF at h
    cases hw : wOk fd a k with
    | false => rw [hw] at h; cases h
    | true =>
      rw [hw] at h
      have IH := any_first n (k + 1) h
      unfold anyS firstB
      rw [row_br hw, IH]
      cases brO (wL (fd (Nat.add a k))) with
      | true => exact (decide_eq_true (Int.natCast_nonneg k)).symm
      | false => rfl
theorem stv_chain {fd : Nat → Nat → Nat} {a n b d u : Nat} {s h : Int} (h1 : stvB fd a n b d u s h = true) : chainF fd a n 0 true = true := by
  unfold stvB at h1
  cases k1 : Nat.ble 7 n with
  | true => rw [k1] at h1; exact absurd (show false = true from h1) (by decide)
  | false =>
    rw [k1] at h1
    cases k2 : outSH s h with
    | true => rw [k2] at h1; exact absurd (show false = true from h1) (by decide)
    | false =>
      rw [k2] at h1
      have h1 : chainF fd a n 0 (endB b d u) = true := h1
      rw [chainF_E] at h1
      cases k3 : chainF fd a n 0 true with
      | false => rw [k3] at h1; exact absurd (show false = true from h1) (by decide)
      | true => rfl
/-! ### Rows of ints -/
theorem mrkI_next {m : Num} {fd : Nat → Nat → Nat} {gd : Nat → Nat → Int} {bd : Nat → Nat → Bool} (a : Nat) (K : Int) (j : Nat) (h0 : 0 ≤ K) (hr : K + ((j + 1) * 1 : Nat) ≤ 9223372036854775807) :
    VcLe ((mrkJ (⟨[.int .i64], m, fd, gd, bd, true⟩ : Vc) a K j).put (Nat.add a j) 0 [.sint .i64 (K + (j * 1 : Nat))]) (mrkJ (⟨[.int .i64], m, fd, gd, bd, true⟩ : Vc) a K (j + 1)) := by
  have e : IntKind.i64.wrap (K + (j * 1 : Nat)) = K + (j * 1 : Nat) := IntWalk.i64_in _ (by omega)
  have h : VcLe ((mrkJ (⟨[.int .i64], m, fd, gd, bd, true⟩ : Vc) a K j).put (Nat.add a j) 0 [.sint .i64 (IntKind.i64.wrap (K + (j * 1 : Nat)))]) (mrkJ (⟨[.int .i64], m, fd, gd, bd, true⟩ : Vc) a K (j + 1)) := mrkJ_next (⟨[.int .i64], m, fd, gd, bd, true⟩ : Vc) a K j rfl h0 hr
  rw [e] at h
  exact h
theorem hldI_false {K : Int} {f : Nat → Nat} {g : Nat → Int} (h0 : 0 ≤ K) (h1 : K + (1 : Nat) ≤ 9223372036854775807) (h : noneB (hldT K f g 0 [.int .i64]) = true) : (g 0 != K) = false := by
  have e : IntKind.i64.wrap K = K := IntWalk.i64_in _ (by omega)
  have h : cond (g 0 != IntKind.i64.wrap K) false true = true := h
  rw [e] at h
  cases hb : (g 0 != K) with
  | false => rfl
  | true => rw [hb] at h; cases h
noncomputable def elInt : ElQ := fun _ g _ g' => !(g 0 != g' 0)
theorem elInt_t {f : Nat → Nat} {g : Nat → Int} {f' : Nat → Nat} {g' : Nat → Int} (h : elInt f g f' g' = true) : (g 0 != g' 0) = false := by
  unfold elInt at h
  cases hb : (g 0 != g' 0) with
  | false => rfl
  | true => rw [hb] at h; cases h
theorem elInt_f {f : Nat → Nat} {g : Nat → Int} {f' : Nat → Nat} {g' : Nat → Int} (h : elInt f g f' g' = false) : (g 0 != g' 0) = true := by
  unfold elInt at h
  cases hb : (g 0 != g' 0) with
  | true => rfl
  | false => rw [hb] at h; cases h
theorem elInt_self (f : Nat → Nat) (g : Nat → Int) : elInt f g f g = true := by unfold elInt; simp
/-! ### Rows of flues -/
abbrev fSh : List CK := [.f32, .f32, .f32, .f32, .int .i64]
theorem wrap_inc4 {K : Int} (h0 : 0 ≤ K) (h1 : K + (5 : Nat) ≤ 9223372036854775807) : IntKind.i64.wrap (incW 4 K) = incW 4 K := by
  rw [incW_eq 4 K h0 (by omega)]
  exact IntWalk.i64_in _ (by omega)
theorem mrkF_next {m : Num} {fd : Nat → Nat → Nat} {gd : Nat → Nat → Int} {bd : Nat → Nat → Bool} (a : Nat) (K : Int) (j : Nat) (h0 : 0 ≤ K) (hr : K + ((j + 1) * 5 : Nat) ≤ 9223372036854775807) :
    VcLe ((((((mrkJ (⟨[.f32, .f32, .f32, .f32, .int .i64], m, fd, gd, bd, true⟩ : Vc) a K j).put (Nat.add a j) 0 [.flt .f32 (ofInt .f32 (incW 0 (K + (j * 5 : Nat))))]).put (Nat.add a j) 1 [.flt .f32 (ofInt .f32 (incW 1 (K + (j * 5 : Nat))))]).put (Nat.add a j) 2 [.flt .f32 (ofInt .f32 (incW 2 (K + (j * 5 : Nat))))]).put (Nat.add a j) 3 [.flt .f32 (ofInt .f32 (incW 3 (K + (j * 5 : Nat))))]).put (Nat.add a j) 4 [.sint .i64 (incW 4 (K + (j * 5 : Nat)))])
      (mrkJ (⟨[.f32, .f32, .f32, .f32, .int .i64], m, fd, gd, bd, true⟩ : Vc) a K (j + 1)) := by
  have e := wrap_inc4 (K := K + (j * 5 : Nat)) (by omega) (by omega)
  have h : VcLe ((((((mrkJ (⟨[.f32, .f32, .f32, .f32, .int .i64], m, fd, gd, bd, true⟩ : Vc) a K j).put (Nat.add a j) 0 [.flt .f32 (ofInt .f32 (incW 0 (K + (j * 5 : Nat))))]).put (Nat.add a j) 1 [.flt .f32 (ofInt .f32 (incW 1 (K + (j * 5 : Nat))))]).put (Nat.add a j) 2 [.flt .f32 (ofInt .f32 (incW 2 (K + (j * 5 : Nat))))]).put (Nat.add a j) 3 [.flt .f32 (ofInt .f32 (incW 3 (K + (j * 5 : Nat))))]).put (Nat.add a j) 4 [.sint .i64 (IntKind.i64.wrap (incW 4 (K + (j * 5 : Nat))))])
      (mrkJ (⟨[.f32, .f32, .f32, .f32, .int .i64], m, fd, gd, bd, true⟩ : Vc) a K (j + 1)) := mrkJ_next (⟨[.f32, .f32, .f32, .f32, .int .i64], m, fd, gd, bd, true⟩ : Vc) a K j rfl h0 hr
  rw [e] at h
  exact h
theorem hldF_eq {K : Int} (h0 : 0 ≤ K) (h1 : K + (5 : Nat) ≤ 9223372036854775807) (f : Nat → Nat) (g : Nat → Int) (x : Bool) :
    [x, !feqB .f32 (f 0) (ofInt .f32 (incW 0 K)), !feqB .f32 (f 1) (ofInt .f32 (incW 1 K)), !feqB .f32 (f 2) (ofInt .f32 (incW 2 K)), !feqB .f32 (f 3) (ofInt .f32 (incW 3 K)), g 4 != incW 4 K] = x :: hldT K f g 0 [.f32, .f32, .f32, .f32, .int .i64] := by
  have e := wrap_inc4 h0 h1
  show _ = [x, !feqB .f32 (f 0) (ofInt .f32 (incW 0 K)), !feqB .f32 (f 1) (ofInt .f32 (incW 1 K)), !feqB .f32 (f 2) (ofInt .f32 (incW 2 K)), !feqB .f32 (f 3) (ofInt .f32 (incW 3 K)), g 4 != IntKind.i64.wrap (incW 4 K)]
  rw [e]
end Go.Ab

namespace Go.Ab
open Go Go.RowKit
set_option linter.unusedVariables false
section
variable {P : Program}
/-- A function that reads rows and answers with a value in which one new row is told. -/
theorem sat_newS (hm : P.follows .mixedOrders = true) {f : FuncId} {fn : Func} (hf : P.funcs[f]? = some fn) {c : Ctr} (hcall : ∀ (args : Array Value) (w : World), (callFunc f args).run P w = .ok (.enter f args) w) (hx : c.x = none)
    (h : ∀ args S out, c.fn args S = some out → out.nd = true → (∃ ρ vs, VL ρ args vs) → ∃ (Γ : List (Nat × Ctr)) (fuel : Nat) (as' : List AVal) (vcs : List Vc) (e : Nat) (m : Num) (v : Vc) (nd : Bool) (vfn : Nat → AVal), Good P Γ ∧ (∀ ρ vs, VL ρ args vs → VL ρ as' vs) ∧ flatA as' = true ∧ rowsI S (idsA as') = some vcs ∧
      evBody P Γ fuel fn (renA 0 as') (viewS vcs) = some ⟨vfn vcs.length, [], [], [⟨[], false, some v⟩], nd, none⟩ ∧ nd = true ∧ v.wr = true ∧ 1 ≤ lenL v.sh ∧
      (∀ ρ1 ρ2 k K, (∀ x, V ρ1 (.vec k e 0 m) x → V ρ2 (.vec K e 0 m) x) → ∀ u, V ρ1 (vfn k) u → V ρ2 (vfn K) u) ∧ out = ⟨vfn S.hp.length, [], [], [⟨[], false, some v⟩], out.nd, none⟩) : Sat P f c := by
  unfold Sat
  rw [hx]
  refine ⟨hcall, fun args S out hfn hnd M w0 ρ w vs hM hv => ?_⟩
  obtain ⟨Γ, fuel, as', vcs, e, m, v, nd, vfn, hΓ, hconv, hfl, hrow, he, hn, hwr, hsh, hsay, hout⟩ := h args S out hfn hnd ⟨ρ, vs, hv⟩
  have hs' : SatC P f (inl P Γ fuel fn) := inl_sat hΓ hm hf hcall fuel
  refine (hs'.sat _ _ _ he hn NoM w (rhoW ρ (idsA as')) w vs (viewsW_mem hM hrow) (renA_V as' 0 vs hfl (stands_W ρ _) (hconv ρ vs hv))).mono ?_
  intro en w' hr
  cases en with
  | outgrown => exact hr.elim
  | panicked ch => obtain ⟨v, u, hp, _⟩ := hr; cases hp
  | returned u =>
    obtain ⟨_, ρ', _, hu, hm'⟩ := hr
    rw [hout]
    have hfr : Fr NoM w w' := hm'.fr
    have hvec : ((viewS vcs).put [] [] [⟨[], false, some v⟩]).vec vcs.length = some v := by
      have e1 : ((viewS vcs).put [] [] [⟨[], false, some v⟩]).blk vcs.length = ⟨[], false, some v⟩ := by
        unfold St.blk St.put St.ext viewS
        simp only
        have := nthB_append_right (roBs vcs) [⟨[], false, some v⟩] 0
        rw [roBs_len, Nat.add_zero] at this
        rw [this]; rfl
      unfold St.vec
      rw [e1]
      simp [St.put, St.ext, viewS, vlookL, vlook1]
    refine ⟨fun b v h => (by cases h), ?_⟩
    simp only at hu ⊢
    cases hρ : ρ' vcs.length with
    | none =>
      refine ⟨updK ρ S.hp.length, ⟨updK_ext _ _, fun i _ => rfl, fun i hi => by simp only [updK]; rw [if_neg (by omega)]⟩, hsay ρ' _ vcs.length S.hp.length (fun x hxv => ?_) u hu, ?_⟩
      · unfold V at hxv ⊢
        obtain ⟨k1, k2, base, cp, k3, k4⟩ := hxv
        refine ⟨k1, updK_kn .., base, cp, k3, ?_⟩
        rcases k4 with k4 | ⟨r, b, k5, _⟩
        · exact Or.inl k4
        · rw [hρ] at k5; cases k5
      · exact ((hM.quiet hfr).ghost [] v (fun i u hu => by simp [vlook1] at hu)).known (by simp [St.put, St.ext])
    | some p =>
      obtain ⟨r, b⟩ := p
      have hge : w.heap.size ≤ r ∨ ρ'.cap vcs.length * lenL v.sh = 0 := by
        rcases Nat.eq_zero_or_pos (ρ'.cap vcs.length * lenL v.sh) with g | g
        · exact Or.inr g
        · rcases hm'.own.vec vcs.length v r b 0 hvec hwr hρ g with h | h
          · exact h.elim
          · exact Or.inl h
      rcases hge with hge | hz
      · refine ⟨upd ρ S.hp.length (r, b) (ρ'.cap vcs.length), upd_extS hM.hp.dom _ _, hsay ρ' _ vcs.length S.hp.length (fun x hxv => ?_) u hu, ?_⟩
        · unfold V at hxv ⊢
          obtain ⟨k1, k2, base, cp, k3, k4⟩ := hxv
          refine ⟨k1, upd_kn .., base, cp, k3, ?_⟩
          rcases k4 with k4 | ⟨r', b', k5, k6, k7, k8⟩
          · exact Or.inl k4
          · rw [hρ] at k5; cases k5
            exact Or.inr ⟨r, b, upd_new .., k6, by rw [upd_cap]; exact k7, by rw [upd_cap]; exact k8⟩
        · refine hM.newB hfr (fun a ha => ha.elim) ⟨[], false, some v⟩ r b (ρ'.cap vcs.length) [] (hm'.hp.lt _ r b hρ) (fun i u hu => by simp [vlook1] at hu) (fun i o x r' b' v _ _ hv => by rw [hfr.cell _ (World.block_lt_of_cell? _ _ hv) (fun h => h)]; exact hv) (fun i u r' b' q v _ _ _ _ hv => by rw [hfr.cell _ (World.block_lt_of_cell? _ _ hv) (fun h => h)]; exact hv)
            (fun o x ho => by simp at ho) (fun o ho => by simp at ho) ?_ ?_ ?_ (fun q _ => Or.inr (by have := hM.fr.size; omega)) (fun i r' b' hr _ => ?_) (fun i r' b' hr _ => ?_)
          · intro u q p ck hu hq hp
            simp only [Option.some.injEq] at hu
            subst hu
            obtain ⟨x, g1, g2⟩ := hm'.hp.vcell _ v r b q p ck hvec hρ hq hp
            exact ⟨x, g1, V_flat _ _ (by cases ck <;> rfl) g2⟩
          · intro u q hu hw hq
            simp only [Option.some.injEq] at hu
            subst hu
            exact hm'.hp.vfrz _ v r b q hvec hw hρ hq
          · intro u hu hw
            simp only [Option.some.injEq] at hu
            subst hu
            exact hm'.hp.vcap _ v r b hvec hw hρ
          · have := hM.hp.lt i r' b' hr; omega
          · have := hM.hp.lt i r' b' hr; omega
      · -- no room: nothing is there
        have hz0 : ρ'.cap vcs.length = 0 := by
          rcases Nat.eq_zero_or_pos (ρ'.cap vcs.length) with g | g
          · exact g
          · have := Nat.mul_pos g hsh; omega
        refine ⟨updK ρ S.hp.length, ⟨updK_ext _ _, fun i _ => rfl, fun i hi => by simp only [updK]; rw [if_neg (by omega)]⟩, hsay ρ' _ vcs.length S.hp.length (fun x hxv => ?_) u hu, ((hM.quiet hfr).ghost [] v (fun i u hu => by simp [vlook1] at hu)).known (by simp [St.put, St.ext])⟩
        unfold V at hxv ⊢
        obtain ⟨k1, k2, base, cp, k3, k4⟩ := hxv
        refine ⟨k1, updK_kn .., base, cp, k3, ?_⟩
        rcases k4 with k4 | ⟨r', b', k5, k6, k7, k8⟩
        · exact Or.inl k4
        · exact Or.inl ⟨by omega, by omega⟩
end
/-- What a stove and more numbers hold. -/
structure Prm where
  n : Nat
  fd : Nat → Nat → Nat
  gd : Nat → Nat → Int
  bd : Nat → Nat → Bool
  b : Nat
  d : Nat
  s : Int
  h : Int
  u : Nat
def Prm.row (p : Prm) : Vc := ⟨wSh, .sym p.n, p.fd, p.gd, p.bd, false⟩
def Prm.a (p : Prm) : AVal := .agg [.vec 0 18 0 (.sym p.n), .flt .f32 p.b, .flt .f32 p.d, .sint .i8 p.s, .sint .i64 p.h, .flt .f32 p.u]
def prmOf (x : SvA) (v : Vc) : Prm := ⟨x.n.val, fun k o => v.fd (Nat.add x.a k) o, fun k o => v.gd (Nat.add x.a k) o, fun k o => v.bd (Nat.add x.a k) o, x.b, x.d, x.s, x.h, x.u⟩
/-- A function of a stove and further flat arguments, that answers with one new row. 'D' reads the further arguments. -/
def plC {A : Type} (D : List AVal → Option A) (R : Prm → A → Vc) (W : Prm → A → Nat → AVal) (K : Nat) : Ctr := ⟨fun args S => match args with
  | .agg cs :: more => match svOf cs, D more with
    | some x, some l => match S.vec x.i with
      | some v => match eqSh wSh v.sh with
        | true => some ⟨W (prmOf x v) l S.hp.length, [], [], [⟨[], false, some (R (prmOf x v) l)⟩], (Nat.ble (Nat.add x.a x.n.val) v.n.val && decide (IntKind.i64.wrap x.s = x.s)) && Nat.ble x.n.val K, none⟩
        | false => none
      | none => none
    | _, _ => none
  | _ => none, none⟩
theorem vec_sym {ρ : Rho} {i e a : Nat} {n : Num} {v : Value} (h : V ρ (.vec i e a n) v) : V ρ (.vec i e a (.sym n.val)) v := by
  unfold V at h ⊢
  obtain ⟨_, h2, base, c, h3, h4⟩ := h
  exact ⟨trivial, h2, base, c, h3, h4⟩
theorem svOf_sym {cs : List AVal} {x : SvA} (h : svOf cs = some x) (ρ : Rho) (vs : List Value) (hv : VL ρ cs vs) : VL ρ [.vec x.i 18 x.a (.sym x.n.val), .flt .f32 x.b, .flt .f32 x.d, .sint .i8 x.s, .sint .i64 x.h, .flt .f32 x.u] vs := by
  have h1 := svOf_conv h ρ vs hv
  unfold SvA.cells at h1
  unfold VL at h1 ⊢
  obtain ⟨v, vs', rfl, k1, k2⟩ := h1
  refine ⟨v, vs', rfl, ?_, k2⟩
  have := vec_sym k1
  rw [svN_val] at this
  exact this
section
variable {P : Program}
theorem sat_pl {A : Type} {D : List AVal → Option A} {E : A → List AVal} {R : Prm → A → Vc} {W : Prm → A → Nat → AVal} {K : Nat} (hm : P.follows .mixedOrders = true) {f : FuncId} {fn : Func} (hf : P.funcs[f]? = some fn) (hcall : ∀ (args : Array Value) (w : World), (callFunc f args).run P w = .ok (.enter f args) w)
    (hD : ∀ more l, D more = some l → (∀ ρ vs, VL ρ more vs → VL ρ (E l) vs) ∧ flatA (E l) = true ∧ idsA (E l) = [] ∧ ∀ k, renA k (E l) = E l)
    (hR : ∀ p l, (R p l).wr = true ∧ 1 ≤ lenL (R p l).sh)
    (hW : ∀ p l, ∃ e m, ∀ ρ1 ρ2 k K, (∀ x, V ρ1 (.vec k e 0 m) x → V ρ2 (.vec K e 0 m) x) → ∀ u, V ρ1 (W p l k) u → V ρ2 (W p l K) u)
    (he : ∀ (p : Prm) (l : A) more, D more = some l → IntKind.i64.wrap p.s = p.s → p.n ≤ K → ∃ Γ fuel nd, Good P Γ ∧ evBody P Γ fuel fn (p.a :: E l) (viewS [p.row]) = some ⟨W p l 1, [], [], [⟨[], false, some (R p l)⟩], nd, none⟩ ∧ nd = true) : Sat P f (plC D R W K) := by
  refine sat_newS hm hf hcall rfl (fun args S out hfn hnd hex => ?_)
  simp only [plC] at hfn
  split at hfn
  case h_2 => cases hfn
  rename_i cs more
  split at hfn
  case h_2 => cases hfn
  rename_i x l hx hl
  split at hfn
  case h_2 => cases hfn
  rename_i v hv
  split at hfn
  case h_2 => cases hfn
  rename_i hs
  cases hfn
  obtain ⟨sh, m, fd, gd, bd, wr⟩ := v
  have hs := (eqSh_eq hs).symm
  have hs : sh = wSh := hs
  subst hs
  simp only [Bool.and_eq_true] at hnd
  obtain ⟨⟨h1, h2⟩, h3⟩ := hnd
  have h1 := Nat.le_of_ble_eq_true h1
  have h2 := of_decide_eq_true h2
  have h3 := Nat.le_of_ble_eq_true h3
  obtain ⟨d1, d2, d3, d4⟩ := hD more l hl
  obtain ⟨Γ, fuel, nd, hG, k1, k2⟩ := he (prmOf x ⟨wSh, m, fd, gd, bd, wr⟩) l more hl h2 h3
  obtain ⟨e, mm, hw⟩ := hW (prmOf x ⟨wSh, m, fd, gd, bd, wr⟩) l
  refine ⟨Γ, fuel, .agg [.vec x.i 18 x.a (.sym x.n.val), .flt .f32 x.b, .flt .f32 x.d, .sint .i8 x.s, .sint .i64 x.h, .flt .f32 x.u] :: E l, [shiftV ⟨wSh, m, fd, gd, bd, wr⟩ x.a (.sym x.n.val)], e, mm, _, nd, _, hG, fun ρ vs hv => ?_, ?_, ?_, ?_, k2, (hR _ _).1, (hR _ _).2, hw, rfl⟩
  · unfold VL at hv ⊢
    obtain ⟨v, vs', rfl, g1, g2⟩ := hv
    refine ⟨v, vs', rfl, ?_, d1 ρ vs' g2⟩
    unfold V at g1 ⊢
    obtain ⟨us, rfl, g3⟩ := g1
    exact ⟨us, rfl, svOf_sym hx ρ us g3⟩
  · show flatA (.agg _ :: E l) = true
    simp only [flatA, flatC, AVal.flat]
    exact d2
  · have e0 : idsA (.agg [.vec x.i 18 x.a (.sym x.n.val), .flt .f32 x.b, .flt .f32 x.d, .sint .i8 x.s, .sint .i64 x.h, .flt .f32 x.u] :: E l) = [⟨x.i, 18, x.a, .sym x.n.val⟩] := by
      simp [idsA, idsC, d3]
    rw [e0]
    unfold rowsI
    rw [hv]
    have e1 : (Nat.beq 18 (lenL wSh) && Nat.ble (Nat.add x.a (Num.sym x.n.val).val) m.val) = true := by
      rw [show (Num.sym x.n.val).val = x.n.val from rfl, Nat.ble_eq_true_of_le h1]; rfl
    simp only [rowsI]
    rw [e1]
  · have e0 : renA 0 (.agg [.vec x.i 18 x.a (.sym x.n.val), .flt .f32 x.b, .flt .f32 x.d, .sint .i8 x.s, .sint .i64 x.h, .flt .f32 x.u] :: E l) = (prmOf x ⟨wSh, m, fd, gd, bd, wr⟩).a :: E l := by
      simp only [renA, renC, d4]
      rfl
    rw [e0]
    exact k1
end
theorem andN_eq' (a b : Bool) : andN a b = (a && b) := by cases a <;> cases b <;> rfl
theorem Nat.ble_refl' (n : Nat) : Nat.ble n n = true := Nat.ble_eq_true_of_le (Nat.le_refl _)
/-! ### PutLog: the answers by names -/
noncomputable def plInv (p : Prm) (l : List Nat) : Bool := cond (stvB p.fd 0 p.n p.b p.d p.u p.s p.h) (!vOp l) true
noncomputable def plSix (p : Prm) : Bool := decide (Int.ofNat p.n = Int.ofNat 6)
noncomputable def plN (p : Prm) (l : List Nat) : Nat := cond (plInv p l) 0 (cond (plSix p) 0 (p.n + 1))
noncomputable def plF (p : Prm) (l : List Nat) (k o : Nat) : Nat := cond (Nat.ble (k + 1) p.n) (p.fd k o) (wF (nth ((k - p.n) * 18 + o) (encF l)))
noncomputable def plG (p : Prm) (l : List Nat) (k o : Nat) : Int := cond (Nat.ble (k + 1) p.n) (p.gd k o) (wG (nth ((k - p.n) * 18 + o) (encF l)))
noncomputable def plB (p : Prm) (l : List Nat) (k o : Nat) : Bool := cond (Nat.ble (k + 1) p.n) (p.bd k o) (wB (nth ((k - p.n) * 18 + o) (encF l)))
noncomputable def plV (p : Prm) (l : List Nat) (x : Nat) : Nat := cond (plInv p l) 0 (cond (plSix p) 0 x)
noncomputable def plI (p : Prm) (l : List Nat) (x : Int) : Int := cond (plInv p l) 0 (cond (plSix p) 0 x)
noncomputable def plCd (p : Prm) (l : List Nat) : Int := cond (plInv p l) 1 (cond (plSix p) 3 0)
theorem PN_ex : ∃ f, f = plN := ⟨_, rfl⟩
noncomputable def PN : Prm → List Nat → Nat := Classical.choose PN_ex
theorem PN_eq : PN = plN := Classical.choose_spec PN_ex
theorem PF_ex : ∃ f, f = plF := ⟨_, rfl⟩
noncomputable def PF : Prm → List Nat → Nat → Nat → Nat := Classical.choose PF_ex
theorem PF_eq : PF = plF := Classical.choose_spec PF_ex
theorem PG_ex : ∃ f, f = plG := ⟨_, rfl⟩
noncomputable def PG : Prm → List Nat → Nat → Nat → Int := Classical.choose PG_ex
theorem PG_eq : PG = plG := Classical.choose_spec PG_ex
theorem PB_ex : ∃ f, f = plB := ⟨_, rfl⟩
noncomputable def PB : Prm → List Nat → Nat → Nat → Bool := Classical.choose PB_ex
theorem PB_eq : PB = plB := Classical.choose_spec PB_ex
theorem PV_ex : ∃ f, f = plV := ⟨_, rfl⟩
noncomputable def PV : Prm → List Nat → Nat → Nat := Classical.choose PV_ex
theorem PV_eq : PV = plV := Classical.choose_spec PV_ex
theorem PI_ex : ∃ f, f = plI := ⟨_, rfl⟩
noncomputable def PI : Prm → List Nat → Int → Int := Classical.choose PI_ex
theorem PI_eq : PI = plI := Classical.choose_spec PI_ex
theorem PC_ex : ∃ f, f = plCd := ⟨_, rfl⟩
noncomputable def PC : Prm → List Nat → Int := Classical.choose PC_ex
theorem PC_eq : PC = plCd := Classical.choose_spec PC_ex
noncomputable def plR (p : Prm) (l : List Nat) : Vc := ⟨wSh, .sym (PN p l), PF p l, PG p l, PB p l, true⟩
noncomputable def plW (p : Prm) (l : List Nat) (K : Nat) : AVal := .tuple [.agg [.vec K 18 0 (.sym (PN p l)), .flt .f32 (PV p l p.b), .flt .f32 (PV p l p.d), .sint .i8 (PI p l p.s), .sint .i64 (PI p l p.h), .flt .f32 (PV p l p.u)], .sint .i64 (PC p l)]
theorem plW_conv (p : Prm) (l : List Nat) : ∃ e m, ∀ ρ1 ρ2 k K, (∀ x, V ρ1 (.vec k e 0 m) x → V ρ2 (.vec K e 0 m) x) → ∀ u, V ρ1 (plW p l k) u → V ρ2 (plW p l K) u := by
  refine ⟨18, .sym (PN p l), fun ρ1 ρ2 k K h u hu => ?_⟩
  unfold plW at hu ⊢
  unfold V at hu ⊢
  obtain ⟨vs, rfl, hl⟩ := hu
  refine ⟨vs, rfl, ?_⟩
  unfold VL at hl ⊢
  obtain ⟨v, vs', rfl, h1, h2⟩ := hl
  refine ⟨v, vs', rfl, ?_, VL_flat' _ _ rfl h2⟩
  unfold V at h1 ⊢
  obtain ⟨us, rfl, h3⟩ := h1
  refine ⟨us, rfl, ?_⟩
  unfold VL at h3 ⊢
  obtain ⟨x, us', rfl, h4, h5⟩ := h3
  exact ⟨x, us', rfl, h x h4, VL_flat' _ _ rfl h5⟩
def decL : List AVal → Option (List Nat)
  | [.agg ls] => decN 18 ls
  | _ => none
theorem decL_spec {more : List AVal} {l : List Nat} (h : decL more = some l) : more = [.agg (encF l)] ∧ l.length = 18 := by
  unfold decL at h
  split at h
  · obtain ⟨h1, h2⟩ := decN_spec h
    exact ⟨by rw [h1], h2⟩
  · cases h
theorem encF_C : ∀ l : List Nat, flatC (encF l) = true ∧ idsC (encF l) = [] ∧ ∀ k, renC k (encF l) = encF l
  | [] => ⟨rfl, rfl, fun _ => rfl⟩
  | a :: r => by
    obtain ⟨h1, h2, h3⟩ := encF_C r
    refine ⟨?_, ?_, fun k => ?_⟩
    · simp only [encF, flatC, AVal.flat]; exact h1
    · simp only [encF, idsC]; exact h2
    · simp only [encF, renC, h3]
theorem encF_A (l : List Nat) : flatA [.agg (encF l)] = true ∧ idsA [.agg (encF l)] = [] ∧ ∀ k, renA k [.agg (encF l)] = [.agg (encF l)] := by
  obtain ⟨h1, h2, h3⟩ := encF_C l
  refine ⟨?_, ?_, fun k => ?_⟩
  · simp only [flatA, h1]
  · simp only [idsA, h2, List.nil_append]
  · simp only [renA, h3]
end Go.Ab
