import Derived.Test.YtbblhkjkokbheaaAbKp
import Derived.Test.YtbblhkjkokbheaaGf
import Derived.Test.YtbblhkjkokbheaaGd
namespace Go.Ab
open Go Go.RowKit
set_option linter.unusedVariables false
/-! ### A contract whose answer is known beforehand; a stove's row of a told length; rows picked by tests, as trees -/
/-- The contract where its answer is 'b'. -/
def setB (b : Bool) (c : Ctr) : Ctr := ⟨fun args S => match c.fn args S with
  | some o => match o.v, o.hv, o.vv, o.nw, o.pn with
    | .sbool x, [], [], [], none => some ⟨.bool b, [], [], [], cond o.nd (x == b) false, none⟩
    | _, _, _, _, _ => none
  | none => none, none⟩
theorem sat_setB {P : Program} {f : FuncId} {c : Ctr} (b : Bool) (hx : c.x = none) (h : Sat P f c) : Sat P f (setB b c) := by
  have h := satC_of h hx
  have key : SatC P f (setB b c) → Sat P f (setB b c) := fun h => h
  refine key ⟨h.call, fun args S out hfn hnd M w0 ρ w vs hM hv => ?_⟩
  simp only [setB] at hfn
  split at hfn
  case h_2 => cases hfn
  rename_i o ho
  split at hfn
  case h_2 => cases hfn
  rename_i x h1 h2 h3 h4 h5
  cases hfn
  have hnd : cond o.nd (x == b) false = true := hnd
  have hd : o.nd = true := by
    cases hh : o.nd with
    | true => rfl
    | false => rw [hh] at hnd; cases hnd
  rw [hd] at hnd
  have hxb : x = b := by simpa using hnd
  subst hxb
  refine (h.sat args S o ho hd M w0 ρ w vs hM hv).mono ?_
  intro e w' hr
  cases e with
  | outgrown => exact hr.elim
  | panicked ch =>
    obtain ⟨v, u, hp, _⟩ := hr
    rw [h5] at hp; cases hp
  | returned u =>
    obtain ⟨_, ρ', he, hu, hm'⟩ := hr
    refine ⟨fun b v hp => (by cases hp), ρ', he, ?_, ?_⟩
    · rw [h1] at hu; unfold V at hu ⊢; exact hu
    · rw [h2, h3, h4] at hm'; exact hm'
/-- What becomes of a call where nil is told as a row that is known to be nowhere. -/
noncomputable def evBodyG (P : Program) (Γ : List (Nat × Ctr)) (fuel : Nat) (fn : Func) (z : Nat × Nat × Nat) (args : List AVal) (S : St) : Option Out :=
  match fn.body with
  | some c => match Nat.ble (lenL args) fn.ntmps with
    | true => match ev P Γ fn.ntmps fuel c (S.start fn.ntmps args) Dl.nil with
      | some t => match finT (leafT P (some z) fn.results.toList S.hp.length) S (S.start fn.ntmps args) [] [] t with
        | some f => outOf f
        | none => none
      | none => none
    | false => none
  | none => none
section
variable {P : Program}
theorem callG {Γ : List (Nat × Ctr)} (hΓ : ∀ f c, lookC f Γ = some c → Sat P f c) (hmo : P.follows .mixedOrders = true) {f : FuncId} {fn : Func} (hf : P.funcs[f]? = some fn)
    {fuel : Nat} {z : Nat × Nat × Nat} {args : List AVal} {S : St} {out : Out} (he : evBodyG P Γ fuel fn z args S = some out) (hnd : out.nd = true) {M : Addr → Prop} {w0 : World} {ρ : Rho} {w : World} {vs : List Value} (hz : ρ.kn z.1 = true) (hM : Mem M w0 ρ S w) (hv : VL ρ args vs) :
    Calls P f ⟨vs⟩ w (Res M w0 ρ S out) := by
  unfold evBodyG at he
  split at he
  · rename_i body hbody
    split at he
    · rename_i hn
      have hn := Nat.le_of_ble_eq_true hn
      rw [lenL_len] at hn
      split at he
      · rename_i t ht
        split at he
        · rename_i fr hfr
          have hnf : fr.nd = true := by
            unfold outOf at he
            split at he
            · cases he; exact hnd
            · split at he
              · cases he; exact hnd
              · cases he
          obtain ⟨hneed, hfin⟩ := finT_sound (z := some z) (fun i e a h => by cases h; exact hz) (P := P) (N := fn.ntmps) (fn := fn) hM t _ [] [] fr hfr hnf (acc_start _ _)
          refine calls_of_wp hf hbody ?_
          refine (ev_sound (n0 := S.hp.length) hΓ hmo fuel body _ _ t ht hneed (Nat.le_refl _) ρ _ w _ (start_rel hM hv hn) ?_).1
          intro ρ' a' w' e hext hx hr'
          exact res_of_fin he (hfin ρ' a' w' e hext hr' hx)
        · cases he
      · cases he
    · cases he
  · cases he
end
def Prm.rowN (p : Prm) : Vc := ⟨wSh, svN p.n, p.fd, p.gd, p.bd, false⟩
def Prm.aN (p : Prm) : AVal := .agg [.vec 0 18 0 (svN p.n), .flt .f32 p.b, .flt .f32 p.d, .sint .i8 p.s, .sint .i64 p.h, .flt .f32 p.u]
section
variable {P : Program}
theorem sat_newS2 (hm : P.follows .mixedOrders = true) {f : FuncId} {fn : Func} (hf : P.funcs[f]? = some fn) {c : Ctr} (hcall : ∀ (args : Array Value) (w : World), (callFunc f args).run P w = .ok (.enter f args) w) (hx : c.x = none)
    (h : ∀ args S out, c.fn args S = some out → out.nd = true → (∃ ρ vs, VL ρ args vs) → ∃ (Γ : List (Nat × Ctr)) (fuel : Nat) (as' : List AVal) (vcs : List Vc) (v : Vc) (vfn : Nat → AVal), Good P Γ ∧ (∀ ρ vs, VL ρ args vs → VL ρ as' vs) ∧ flatA as' = true ∧ rowsI S (idsA as') = some vcs ∧
      v.wr = true ∧ 1 ≤ lenL v.sh ∧ out = ⟨vfn S.hp.length, [], [], [⟨[], false, some v⟩], out.nd, none⟩ ∧
      ((∃ (e : Nat) (m n' : Num) (nd : Bool) (vf0 : Nat → AVal), evBody P Γ fuel fn (renA 0 as') (viewS vcs) = some ⟨vf0 vcs.length, [], [], [⟨[], false, some ⟨v.sh, n', v.fd, v.gd, v.bd, true⟩⟩], nd, none⟩ ∧ nd = true ∧ n'.val = v.n.val ∧
        (∀ ρ1 ρ2 k K, (∀ x, V ρ1 (.vec k e 0 m) x → V ρ2 (.vec K e 0 m) x) → ∀ u, V ρ1 (vf0 k) u → V ρ2 (vfn K) u)) ∨
       (∃ (nd : Bool) (v0 : AVal) (u0 : Vc) (e : Nat), evBodyG P Γ fuel fn (vcs.length, e, 0) (renA 0 as') ((viewS vcs).put [] [] [⟨[], false, some u0⟩]) = some ⟨v0, [], [], [], nd, none⟩ ∧ nd = true ∧ ∀ ρ1 ρ2 K, ρ1 vcs.length = none → ρ2.kn K = true → ∀ u, V ρ1 v0 u → V ρ2 (vfn K) u))) : Sat P f c := by
  unfold Sat
  rw [hx]
  refine ⟨hcall, fun args S out hfn hnd M w0 ρ w vs hM hv => ?_⟩
  obtain ⟨Γ, fuel, as', vcs, v, vfn, hΓ, hconv, hfl, hrow, hwr, hsh, hout, hcase⟩ := h args S out hfn hnd ⟨ρ, vs, hv⟩
  have hs' : SatC P f (inl P Γ fuel fn) := inl_sat hΓ hm hf hcall fuel
  rcases hcase with ⟨e, m, n', nd, vf0, he, hn, hnv, hsay⟩ | ⟨nd, v0, u0, e, he, hn, hsay⟩
  case inr =>
    have hm1 := ((viewsW_mem hM hrow).ghost [] u0 (fun i u hu => by simp [vlook1] at hu)).known (n := vcs.length) (by simp [St.put, St.ext, viewS, roBs_len])
    have hv1 : VL (updK (rhoW ρ (idsA as')) vcs.length) (renA 0 as') vs := VL_ext (updK_ext _ _) _ _ (renA_V as' 0 vs hfl (stands_W ρ _) (hconv ρ vs hv))
    refine (callG hΓ hm hf he hn (updK_kn ..) hm1 hv1).mono ?_
    intro en w' hr
    cases en with
    | outgrown => exact hr.elim
    | panicked ch => obtain ⟨v, u, hp, _⟩ := hr; cases hp
    | returned u =>
      obtain ⟨_, ρ', hext, hu, hm'⟩ := hr
      have hnil : ρ' vcs.length = none := by
        have h1 := hext.2.1 vcs.length (by simp [St.put, St.ext, viewS, roBs_len])
        rw [h1]
        show (rhoW ρ (idsA as')) vcs.length = none
        have hl := (rowsI_spec _ _ hrow).1
        simp [rhoW, hl]
      rw [hout]
      have hfr : Fr NoM w w' := hm'.fr
      refine ⟨fun b v h => (by cases h), updK ρ S.hp.length, ⟨updK_ext _ _, fun i _ => rfl, fun i hi => by simp only [updK]; rw [if_neg (by omega)]⟩, hsay ρ' _ S.hp.length hnil (updK_kn ..) u hu, ?_⟩
      exact ((hM.quiet hfr).ghost [] v (fun i u hu => by simp [vlook1] at hu)).known (by simp [St.put, St.ext])
  refine (hs'.sat _ _ _ he hn NoM w (rhoW ρ (idsA as')) w vs (viewsW_mem hM hrow) (renA_V as' 0 vs hfl (stands_W ρ _) (hconv ρ vs hv))).mono ?_
  intro en w' hr
  cases en with
  | outgrown => exact hr.elim
  | panicked ch => obtain ⟨v, u, hp, _⟩ := hr; cases hp
  | returned u =>
    obtain ⟨_, ρ', _, hu, hm'⟩ := hr
    rw [hout]
    have hfr : Fr NoM w w' := hm'.fr
    have hvec : ((viewS vcs).put [] [] [⟨[], false, some (⟨v.sh, n', v.fd, v.gd, v.bd, true⟩ : Vc)⟩]).vec vcs.length = some (⟨v.sh, n', v.fd, v.gd, v.bd, true⟩ : Vc) := by
      have e1 : ((viewS vcs).put [] [] [⟨[], false, some (⟨v.sh, n', v.fd, v.gd, v.bd, true⟩ : Vc)⟩]).blk vcs.length = ⟨[], false, some (⟨v.sh, n', v.fd, v.gd, v.bd, true⟩ : Vc)⟩ := by
        unfold St.blk St.put St.ext viewS
        simp only
        have := nthB_append_right (roBs vcs) [⟨[], false, some (⟨v.sh, n', v.fd, v.gd, v.bd, true⟩ : Vc)⟩] 0
        rw [roBs_len, Nat.add_zero] at this
        rw [this]; rfl
      unfold St.vec
      rw [e1]
      simp [St.put, St.ext, viewS, vlookL, vlook1]
    refine ⟨fun b v h => (by cases h), ?_⟩
    simp only at hu ⊢
    cases hρ : ρ' vcs.length with
    | none =>
      refine ⟨updK ρ S.hp.length, ⟨updK_ext _ _, fun i _ => rfl, fun i hi => by simp only [updK]; rw [if_neg (by omega)]⟩, hsay ρ' _ vcs.length S.hp.length (fun x hxv => ?_) u hu, ?_⟩
      · unfold V at hxv ⊢
        obtain ⟨k1, k2, base, cp, k3, k4⟩ := hxv
        refine ⟨k1, updK_kn .., base, cp, k3, ?_⟩
        rcases k4 with k4 | ⟨r, b, k5, _⟩
        · exact Or.inl k4
        · rw [hρ] at k5; cases k5
      · exact ((hM.quiet hfr).ghost [] v (fun i u hu => by simp [vlook1] at hu)).known (by simp [St.put, St.ext])
    | some p =>
      obtain ⟨r, b⟩ := p
      have hge : w.heap.size ≤ r ∨ ρ'.cap vcs.length * lenL v.sh = 0 := by
        rcases Nat.eq_zero_or_pos (ρ'.cap vcs.length * lenL v.sh) with g | g
        · exact Or.inr g
        · rcases hm'.own.vec vcs.length _ r b 0 hvec rfl hρ g with h | h
          · exact h.elim
          · exact Or.inl h
      rcases hge with hge | hz
      · refine ⟨upd ρ S.hp.length (r, b) (ρ'.cap vcs.length), upd_extS hM.hp.dom _ _, hsay ρ' _ vcs.length S.hp.length (fun x hxv => ?_) u hu, ?_⟩
        · unfold V at hxv ⊢
          obtain ⟨k1, k2, base, cp, k3, k4⟩ := hxv
          refine ⟨k1, upd_kn .., base, cp, k3, ?_⟩
          rcases k4 with k4 | ⟨r', b', k5, k6, k7, k8⟩
          · exact Or.inl k4
          · rw [hρ] at k5; cases k5
            exact Or.inr ⟨r, b, upd_new .., k6, by rw [upd_cap]; exact k7, by rw [upd_cap]; exact k8⟩
        · refine hM.newB hfr (fun a ha => ha.elim) ⟨[], false, some v⟩ r b (ρ'.cap vcs.length) [] (hm'.hp.lt _ r b hρ) (fun i u hu => by simp [vlook1] at hu) (fun i o x r' b' v _ _ hv => by rw [hfr.cell _ (World.block_lt_of_cell? _ _ hv) (fun h => h)]; exact hv) (fun i u r' b' q v _ _ _ _ hv => by rw [hfr.cell _ (World.block_lt_of_cell? _ _ hv) (fun h => h)]; exact hv)
            (fun o x ho => by simp at ho) (fun o ho => by simp at ho) ?_ ?_ ?_ (fun q _ => Or.inr (by have := hM.fr.size; omega)) (fun i r' b' hr _ => ?_) (fun i r' b' hr _ => ?_)
          · intro u q p ck hu hq hp
            simp only [Option.some.injEq] at hu
            subst hu
            obtain ⟨x, g1, g2⟩ := hm'.hp.vcell _ _ r b q p ck hvec hρ (show q < n'.val by rw [hnv]; exact hq) hp
            exact ⟨x, g1, V_flat _ _ (by cases ck <;> rfl) g2⟩
          · intro u q hu hw hq
            simp only [Option.some.injEq] at hu
            subst hu
            exact hm'.hp.vfrz _ _ r b q hvec rfl hρ hq
          · intro u hu hw
            simp only [Option.some.injEq] at hu
            subst hu
            have := hm'.hp.vcap _ _ r b hvec rfl hρ; rw [← hnv]; exact this
          · have := hM.hp.lt i r' b' hr; omega
          · have := hM.hp.lt i r' b' hr; omega
      · -- no room: nothing is there
        have hz0 : ρ'.cap vcs.length = 0 := by
          rcases Nat.eq_zero_or_pos (ρ'.cap vcs.length) with g | g
          · exact g
          · have := Nat.mul_pos g hsh; omega
        refine ⟨updK ρ S.hp.length, ⟨updK_ext _ _, fun i _ => rfl, fun i hi => by simp only [updK]; rw [if_neg (by omega)]⟩, hsay ρ' _ vcs.length S.hp.length (fun x hxv => ?_) u hu, ((hM.quiet hfr).ghost [] v (fun i u hu => by simp [vlook1] at hu)).known (by simp [St.put, St.ext])⟩
        unfold V at hxv ⊢
        obtain ⟨k1, k2, base, cp, k3, k4⟩ := hxv
        refine ⟨k1, updK_kn .., base, cp, k3, ?_⟩
        rcases k4 with k4 | ⟨r', b', k5, k6, k7, k8⟩
        · exact Or.inl k4
        · exact Or.inl ⟨by omega, by omega⟩
theorem sat_plN {A : Type} {D : List AVal → Option A} {E : A → List AVal} {R : Prm → A → Vc} {W : Prm → A → Nat → AVal} {K : Nat} (hm : P.follows .mixedOrders = true) {f : FuncId} {fn : Func} (hf : P.funcs[f]? = some fn) (hcall : ∀ (args : Array Value) (w : World), (callFunc f args).run P w = .ok (.enter f args) w)
    (hD : ∀ more l, D more = some l → (∀ ρ vs, VL ρ more vs → VL ρ (E l) vs) ∧ flatA (E l) = true ∧ idsA (E l) = [] ∧ ∀ k, renA k (E l) = E l)
    (hR : ∀ p l, (R p l).wr = true ∧ 1 ≤ lenL (R p l).sh)
    (he : ∀ (p : Prm) (l : A) more, D more = some l → IntKind.i64.wrap p.s = p.s → p.n ≤ K → ∃ Γ fuel, Good P Γ ∧
      ((∃ (e : Nat) (m n' : Num) (nd : Bool) (vf0 : Nat → AVal), evBody P Γ fuel fn (p.aN :: E l) (viewS [p.rowN]) = some ⟨vf0 1, [], [], [⟨[], false, some ⟨(R p l).sh, n', (R p l).fd, (R p l).gd, (R p l).bd, true⟩⟩], nd, none⟩ ∧ nd = true ∧ n'.val = (R p l).n.val ∧
        (∀ ρ1 ρ2 k K, (∀ x, V ρ1 (.vec k e 0 m) x → V ρ2 (.vec K e 0 m) x) → ∀ u, V ρ1 (vf0 k) u → V ρ2 (W p l K) u)) ∨
       (∃ (nd : Bool) (v0 : AVal) (u0 : Vc) (e : Nat), evBodyG P Γ fuel fn (1, e, 0) (p.aN :: E l) ((viewS [p.rowN]).put [] [] [⟨[], false, some u0⟩]) = some ⟨v0, [], [], [], nd, none⟩ ∧ nd = true ∧ ∀ ρ1 ρ2 K, ρ1 1 = none → ρ2.kn K = true → ∀ u, V ρ1 v0 u → V ρ2 (W p l K) u))) : Sat P f (plC D R W K) := by
  refine sat_newS2 hm hf hcall rfl (fun args S out hfn hnd hex => ?_)
  simp only [plC] at hfn
  split at hfn
  case h_2 => cases hfn
  rename_i cs more
  split at hfn
  case h_2 => cases hfn
  rename_i x l hx hl
  split at hfn
  case h_2 => cases hfn
  rename_i v hv
  split at hfn
  case h_2 => cases hfn
  rename_i hs
  cases hfn
  obtain ⟨sh, m, fd, gd, bd, wr⟩ := v
  have hs := (eqSh_eq hs).symm
  have hs : sh = wSh := hs
  subst hs
  simp only [Bool.and_eq_true] at hnd
  obtain ⟨⟨h1, h2⟩, h3⟩ := hnd
  have h1 := Nat.le_of_ble_eq_true h1
  have h2 := of_decide_eq_true h2
  have h3 := Nat.le_of_ble_eq_true h3
  obtain ⟨d1, d2, d3, d4⟩ := hD more l hl
  obtain ⟨Γ, fuel, hG, k1⟩ := he (prmOf x ⟨wSh, m, fd, gd, bd, wr⟩) l more hl h2 h3
  refine ⟨Γ, fuel, .agg [.vec x.i 18 x.a (svN x.n.val), .flt .f32 x.b, .flt .f32 x.d, .sint .i8 x.s, .sint .i64 x.h, .flt .f32 x.u] :: E l, [shiftV ⟨wSh, m, fd, gd, bd, wr⟩ x.a (svN x.n.val)], _, _, hG, fun ρ vs hv => ?_, ?_, ?_, (hR _ _).1, (hR _ _).2, rfl, ?_⟩
  · unfold VL at hv ⊢
    obtain ⟨v, vs', rfl, g1, g2⟩ := hv
    refine ⟨v, vs', rfl, ?_, d1 ρ vs' g2⟩
    unfold V at g1 ⊢
    obtain ⟨us, rfl, g3⟩ := g1
    exact ⟨us, rfl, svOf_conv hx ρ us g3⟩
  · show flatA (.agg _ :: E l) = true
    simp only [flatA, flatC, AVal.flat]
    exact d2
  · have e0 : idsA (.agg [.vec x.i 18 x.a (svN x.n.val), .flt .f32 x.b, .flt .f32 x.d, .sint .i8 x.s, .sint .i64 x.h, .flt .f32 x.u] :: E l) = [⟨x.i, 18, x.a, svN x.n.val⟩] := by
      simp [idsA, idsC, d3]
    rw [e0]
    unfold rowsI
    rw [hv]
    have e1 : (Nat.beq 18 (lenL wSh) && Nat.ble (Nat.add x.a (svN x.n.val).val) m.val) = true := by
      rw [svN_val, Nat.ble_eq_true_of_le h1]; rfl
    simp only [rowsI]
    rw [e1]
  · have e0 : renA 0 (.agg [.vec x.i 18 x.a (svN x.n.val), .flt .f32 x.b, .flt .f32 x.d, .sint .i8 x.s, .sint .i64 x.h, .flt .f32 x.u] :: E l) = (prmOf x ⟨wSh, m, fd, gd, bd, wr⟩).aN :: E l := by
      simp only [renA, renC, d4]
      rfl
    rw [e0]
    exact k1
end
/-- What a run through tests comes to, as a tree: 'c' counts the ones that are kept. -/
def tW {α : Type} (q : Nat → Bool) (g : Nat → α) : Nat → Nat → Nat → α
  | 0, _, c => g c
  | m + 1, k, c => cond (q k) (tW q g m (k + 1) (c + 1)) (tW q g m (k + 1) c)
theorem tW_eq {α : Type} (q : Nat → Bool) (g : Nat → α) : ∀ m k, tW q g m k (kpN q k) = g (kpN q (k + m))
  | 0, k => rfl
  | m + 1, k => by
    have ih := tW_eq q g m (k + 1)
    rw [show k + (m + 1) = k + 1 + m by omega, ← ih]
    show cond (q k) (tW q g m (k + 1) (kpN q k + 1)) (tW q g m (k + 1) (kpN q k)) = _
    cases h : q k with
    | true => rw [kpN_keep h]; rfl
    | false => rw [kpN_drop h]; rfl
def one18 (fd : Nat → Nat → Nat) (k : Nat) : Vc := Vc.ofCells wSh 1 [.flt .f32 (fd k 0), .flt .f32 (fd k 1), .flt .f32 (fd k 2), .flt .f32 (fd k 3), .flt .f32 (fd k 4), .flt .f32 (fd k 5), .flt .f32 (fd k 6), .flt .f32 (fd k 7), .flt .f32 (fd k 8), .flt .f32 (fd k 9), .flt .f32 (fd k 10), .flt .f32 (fd k 11), .flt .f32 (fd k 12), .flt .f32 (fd k 13), .flt .f32 (fd k 14), .flt .f32 (fd k 15), .flt .f32 (fd k 16), .flt .f32 (fd k 17)]
def zero18 : Vc := Vc.all wSh (.lit 0) [.flt .f32 0, .flt .f32 0, .flt .f32 0, .flt .f32 0, .flt .f32 0, .flt .f32 0, .flt .f32 0, .flt .f32 0, .flt .f32 0, .flt .f32 0, .flt .f32 0, .flt .f32 0, .flt .f32 0, .flt .f32 0, .flt .f32 0, .flt .f32 0, .flt .f32 0, .flt .f32 0]
def joinW (fd : Nat → Nat → Nat) (k c : Nat) (v : Vc) : Vc := Vc.join wSh (.lit c) 0 (some v) (.lit 1) 0 (one18 fd k)
def trR (q : Nat → Bool) (fd : Nat → Nat → Nat) : Nat → Nat → Nat → Vc → Vc
  | 0, _, c, v => shiftV v 0 (.lit c)
  | m + 1, k, c, v => mergeVr (q k) (trR q fd m (k + 1) (c + 1) (joinW fd k c v)) (trR q fd m (k + 1) c v)
theorem mergeVr_w {b : Bool} {A B : Vc} (h1 : A.sh = wSh) (h2 : B.sh = wSh) : (mergeVr b A B).sh = wSh ∧ (mergeVr b A B).fd = fun k o => cond b (A.fd k o) (B.fd k o) := by
  obtain ⟨s1, n1, f1, g1, b1, w1⟩ := A
  obtain ⟨s2, n2, f2, g2, b2, w2⟩ := B
  have h1 : s1 = wSh := h1
  have h2 : s2 = wSh := h2
  subst h1; subst h2
  exact ⟨rfl, rfl⟩
theorem one18_fd (fd : Nat → Nat → Nat) (k o : Nat) (ho : o < 18) : (one18 fd k).fd 0 o = fd k o := by
  have e : (one18 fd k).fd 0 o = wF (nth (Nat.add (Nat.mul 0 (lenL wSh)) o) [.flt .f32 (fd k 0), .flt .f32 (fd k 1), .flt .f32 (fd k 2), .flt .f32 (fd k 3), .flt .f32 (fd k 4), .flt .f32 (fd k 5), .flt .f32 (fd k 6), .flt .f32 (fd k 7), .flt .f32 (fd k 8), .flt .f32 (fd k 9), .flt .f32 (fd k 10), .flt .f32 (fd k 11), .flt .f32 (fd k 12), .flt .f32 (fd k 13), .flt .f32 (fd k 14), .flt .f32 (fd k 15), .flt .f32 (fd k 16), .flt .f32 (fd k 17)]) := rfl
  rw [e, show Nat.add (Nat.mul 0 (lenL wSh)) o = o by show 0 * lenL wSh + o = o; omega]
  match o, ho with
  | 0, _ => rfl
  | 1, _ => rfl
  | 2, _ => rfl
  | 3, _ => rfl
  | 4, _ => rfl
  | 5, _ => rfl
  | 6, _ => rfl
  | 7, _ => rfl
  | 8, _ => rfl
  | 9, _ => rfl
  | 10, _ => rfl
  | 11, _ => rfl
  | 12, _ => rfl
  | 13, _ => rfl
  | 14, _ => rfl
  | 15, _ => rfl
  | 16, _ => rfl
  | 17, _ => rfl
  | n + 18, h => omega
/-- The picked rows stand where the kept ones stand. -/
theorem trR_fd (q : Nat → Bool) (fd : Nat → Nat → Nat) : ∀ (m k : Nat) (v : Vc), v.sh = wSh → (∀ j o, j < kpN q k → o < 18 → v.fd j o = kpR q fd k j o) →
    (trR q fd m k (kpN q k) v).sh = wSh ∧ ∀ j o, j < kpN q (k + m) → o < 18 → (trR q fd m k (kpN q k) v).fd j o = kpR q fd (k + m) j o
  | 0, k, v, hs, hv => ⟨hs, fun j o hj ho => by
      show v.fd (Nat.add 0 j) o = _
      rw [show Nat.add 0 j = j by show 0 + j = j; omega]
      exact hv j o hj ho⟩
  | m + 1, k, v, hs, hv => by
    rw [show k + (m + 1) = k + 1 + m by omega]
    have key : ∀ (c : Nat) (u : Vc), c = kpN q (k + 1) → u.sh = wSh → (∀ j o, j < kpN q (k + 1) → o < 18 → u.fd j o = kpR q fd (k + 1) j o) → (trR q fd m (k + 1) c u).sh = wSh ∧ ∀ j o, j < kpN q (k + 1 + m) → o < 18 → (trR q fd m (k + 1) c u).fd j o = kpR q fd (k + 1 + m) j o :=
      fun c u hc h1 h2 => by rw [hc]; exact trR_fd q fd m (k + 1) u h1 h2
    have hj : (joinW fd k (kpN q k) v).sh = wSh := rfl
    cases h : q k with
    | true =>
      have h1 := key (kpN q k + 1) (joinW fd k (kpN q k) v) (kpN_keep h).symm hj (fun j o hj ho => by
        rw [kpN_keep h] at hj
        have e : (joinW fd k (kpN q k) v).fd j o = cond (Nat.ble (j + 1) (kpN q k)) (v.fd (0 + j) o) ((one18 fd k).fd (0 + (j - kpN q k)) o) := rfl
        rw [e, kpR_keep h]
        show _ = (cond (Nat.beq j (kpN q k)) (fd k) (kpR q fd k j)) o
        by_cases hjk : j < kpN q k
        · rw [Nat.ble_eq_true_of_le (show j + 1 ≤ kpN q k from hjk), beq_ne (show j ≠ kpN q k by omega)]
          show v.fd (0 + j) o = kpR q fd k j o
          rw [Nat.zero_add]; exact hv j o hjk ho
        · have ej : j = kpN q k := by omega
          have hb : Nat.ble (j + 1) (kpN q k) = false := by
            cases hb : Nat.ble (j + 1) (kpN q k) with
            | false => rfl
            | true => exact absurd (Nat.le_of_ble_eq_true hb) (by omega)
          rw [hb, ej, beq_rfl]
          show (one18 fd k).fd (0 + (kpN q k - kpN q k)) o = fd k o
          rw [show 0 + (kpN q k - kpN q k) = 0 by omega]
          exact one18_fd fd k o ho)
      have hsh : ∀ (m k c : Nat) (u : Vc), u.sh = wSh → (trR q fd m k c u).sh = wSh := trR_sh q fd
      have hm := mergeVr_w (b := q k) h1.1 (hsh m (k + 1) (kpN q k) v hs)
      unfold trR
      refine ⟨hm.1, fun j o hj ho => ?_⟩
      rw [hm.2, h]
      exact h1.2 j o hj ho
    | false =>
      have h1 := key (kpN q k) v (kpN_drop h).symm hs (fun j o hj ho => by
        rw [kpN_drop h] at hj
        rw [kpR_drop h]
        exact hv j o hj ho)
      have hm := mergeVr_w (b := q k) (trR_sh q fd m (k + 1) (kpN q k + 1) (joinW fd k (kpN q k) v) hj) h1.1
      unfold trR
      refine ⟨hm.1, fun j o hj ho => ?_⟩
      rw [hm.2, h]
      exact h1.2 j o hj ho
where trR_sh (q : Nat → Bool) (fd : Nat → Nat → Nat) : ∀ (m k c : Nat) (u : Vc), u.sh = wSh → (trR q fd m k c u).sh = wSh
  | 0, _, _, _, h => h
  | m + 1, k, c, u, h => (mergeVr_w (trR_sh q fd m (k + 1) (c + 1) (joinW fd k c u) rfl) (trR_sh q fd m (k + 1) c u h)).1
/-- Equal tests keep the same. -/
theorem kpN_same {q q' : Nat → Bool} : ∀ n, (∀ j, j < n → q j = q' j) → kpN q n = kpN q' n
  | 0, _ => rfl
  | n + 1, h => by
    have ih := kpN_same n (fun j hj => h j (by omega))
    unfold kpN
    rw [h n (by omega), ih]
theorem kpR_same {α : Type} {q q' : Nat → Bool} (fd : Nat → α) : ∀ n, (∀ j, j < n → q j = q' j) → kpR q fd n = kpR q' fd n
  | 0, _ => rfl
  | n + 1, h => by
    have ih := kpR_same fd n (fun j hj => h j (by omega))
    have e := kpN_same n (fun j hj => h j (by omega))
    funext k
    unfold kpR
    rw [h n (by omega), ih, e]
/-- The fuel of a log. -/
noncomputable def fuW (f : Nat → Nat) : Nat := fop .add .f32 (fop .add .f32 (fop .add .f32 (fop .add .f32 (fop .add .f32 (f 12) (f 13)) (f 14)) (f 15)) (f 16)) (f 17)
theorem okL_fuel {a h c : Nat} {x : Bool} (hk : okL a h c x = true) : c ≤ 2139095040 ∧ x = true := by
  unfold okL at hk
  cases h1 : kilF a with
  | false => rw [h1] at hk; cases hk
  | true =>
    cases h2 : kilF c with
    | false => rw [h1, h2] at hk; cases hk
    | true =>
      cases h3 : btwF h with
      | false => rw [h1, h2, h3] at hk; cases hk
      | true =>
        rw [h1, h2, h3] at hk
        have g2 : c ≤ 1092616192 := of_decide_eq_true h2
        exact ⟨by omega, hk⟩
theorem fuS_num {f : Nat → Nat} (h : vOp (wL f) = true) : nanB .f32 (fuW f) = false := by
  rw [vOp_eq] at h
  simp only [wL, validI] at h
  obtain ⟨l0, h⟩ := okL_fuel h
  obtain ⟨l1, h⟩ := okL_fuel h
  obtain ⟨l2, h⟩ := okL_fuel h
  obtain ⟨l3, h⟩ := okL_fuel h
  obtain ⟨l4, h⟩ := okL_fuel h
  obtain ⟨l5, h⟩ := okL_fuel h
  have hs : fuW f ≤ 2139095040 := add_nn (add_nn (add_nn (add_nn (add_nn l0 l1) l2) l3) l4) l5
  rw [nan32]; exact decide_eq_false (by omega)
theorem keep_eq {f : Nat → Nat} (h : vOp (wL f) = true) : (!fltB .f32 (fuW f) 1015021568) = fleB .f32 1015021568 (fuW f) := by
  rw [flt_not_fle .f32 (fuS_num h) (by rw [nan32]; decide), Bool.not_not]
theorem chain_w {fd : Nat → Nat → Nat} : ∀ (n k : Nat), chainF fd 0 n k true = true → ∀ j, k ≤ j → j < k + n → vOp (wL (fd j)) = true
  | 0, k, _, j, h1, h2 => by omega
  | n + 1, k, h, j, h1, h2 => by
    unfold chainF at h
    cases hw : wOk fd 0 k with
    | false => rw [hw] at h; cases h
    | true =>
      rw [hw] at h
      by_cases e : j = k
      · rw [e]
        have hw : vOp (wL (fd (Nat.add 0 k))) = true := hw
        rw [show Nat.add 0 k = k by show 0 + k = k; omega] at hw
        exact hw
      · exact chain_w n (k + 1) h j (by omega) (by omega)
end Go.Ab
