import Derived.Test.YtmegbdgnnbjbmaaAbP
namespace Go.Ab
open Go Go.RowKit
set_option linter.unusedVariables false
/-! ### Contracts over rows that are read -/
structure VA where
  i : Nat
  e : Nat
  a : Nat
  n : Num

def VA.av (x : VA) : AVal := .vec x.i x.e x.a x.n
def vavs : List VA → List AVal
  | [] => []
  | x :: r => x.av :: vavs r
def vws : Nat → List VA → List AVal
  | _, [] => []
  | j, x :: r => .vec j x.e x.a x.n :: vws (j + 1) r

def roB (v : Vc) : Blk := ⟨[], false, some ⟨v.sh, v.n, v.fd, v.gd, v.bd, false⟩⟩
def roBs : List Vc → List Blk
  | [] => []
  | v :: r => roB v :: roBs r
/-- A memory of rows that are read. -/
def viewS (vs : List Vc) : St := ⟨[], [], roBs vs, [], [], []⟩

theorem nthB_ro : ∀ (vs : List Vc) (j : Nat), nthB j (roBs vs) = match vs[j]? with | some v => roB v | none => ⟨[], false, none⟩
  | [], j => by cases j <;> rfl
  | v :: vs, 0 => rfl
  | v :: vs, j + 1 => by simpa [roBs, nthB] using nthB_ro vs j

theorem roBs_len : ∀ vs : List Vc, (roBs vs).length = vs.length
  | [] => rfl
  | v :: vs => by simp [roBs, roBs_len vs]

theorem view_vec {vs : List Vc} {j : Nat} {u : Vc} (h : (viewS vs).vec j = some u) : ∃ v, vs[j]? = some v ∧ u = ⟨v.sh, v.n, v.fd, v.gd, v.bd, false⟩ := by
  unfold St.vec St.blk viewS at h
  simp only [nthB_ro] at h
  cases hv : vs[j]? with
  | none => rw [hv] at h; simp at h
  | some v =>
    rw [hv] at h
    simp only [roB, vlookL, Option.some.injEq] at h
    exact ⟨v, rfl, h.symm⟩

theorem view_cell {vs : List Vc} {j o : Nat} {x : AVal} : ¬ (viewS vs).cell j o = some x := fun h => by
  have := cell_off h
  unfold St.blk viewS at this
  simp only [nthB_ro] at this
  cases hv : vs[j]? with
  | none => rw [hv] at this; simp at this
  | some v => rw [hv] at this; simp [roB] at this

theorem view_wr {vs : List Vc} {j : Nat} : ¬ (viewS vs).wrB j = true := fun h => by
  rcases wrB_iff.1 h with ⟨o, x, hx, _⟩ | ⟨v, hv, hw⟩
  · exact view_cell hx
  · obtain ⟨u, _, rfl⟩ := view_vec hv; cases hw

/-- Where the rows lie. -/
def rhoV (ρ : Rho) (is : List Nat) : Rho := ⟨fun j => match is[j]? with | some i => ρ i | none => none, fun j => match is[j]? with | some i => ρ.cap i | none => 0, fun j => match is[j]? with | some i => ρ.kn i | none => false⟩

theorem views_mem {M : Addr → Prop} {w0 : World} {ρ : Rho} {S : St} {w : World} (hM : Mem M w0 ρ S w) (is : List Nat) (vcs : List Vc) (hl : is.length = vcs.length) (h : ∀ (j i : Nat), is[j]? = some i → ∃ v, vcs[j]? = some v ∧ S.vec i = some v) :
    Mem NoM w (rhoV ρ is) (viewS vcs) w := by
  have hat : ∀ {j : Nat} {p : Nat × Nat}, rhoV ρ is j = some p → ∃ i, is[j]? = some i ∧ ρ i = some p := fun {j p} hp => by
    unfold rhoV at hp
    simp only at hp
    split at hp
    · rename_i i hi; exact ⟨i, hi, hp⟩
    · cases hp
  refine ⟨⟨fun j o x hx => (view_cell hx).elim, fun j vc r b k o c hx hr hk hc => ?_, fun j o x r b hx => (view_cell hx).elim, fun j vc r b q hx hw => ?_, fun j vc r b hx hw => ?_, fun j j' r b b' _ hw => (view_wr hw).elim, fun j p hp => ?_, fun j hk => ?_, fun j o x hx => by (simp [viewS, hlookL] at hx), fun j x hx => by (simp [viewS, vlookL] at hx), fun j r b hr => ?_⟩, Fr.refl _ _, ⟨fun j o x r b hx => (view_cell hx).elim, fun j vc r b q hx hw => ?_⟩⟩
  · obtain ⟨i, hi, hri⟩ := hat hr
    obtain ⟨u, hu, rfl⟩ := view_vec hx
    obtain ⟨v, hv, hSv⟩ := h j i hi
    rw [hu] at hv; cases hv
    obtain ⟨x, k1, k2⟩ := hM.hp.vcell i u r b k o c hSv hri hk hc
    exact ⟨x, k1, V_flat _ _ (by cases c <;> rfl) k2⟩
  · obtain ⟨u, _, rfl⟩ := view_vec hx; cases hw
  · obtain ⟨u, _, rfl⟩ := view_vec hx; cases hw
  · obtain ⟨i, hi, _⟩ := hat hp
    have : j < is.length := by
      rcases Nat.lt_or_ge j is.length with g | g
      · exact g
      · rw [List.getElem?_eq_none g] at hi; cases hi
    show j < (roBs vcs).length
    rw [roBs_len]; omega
  · unfold rhoV at hk
    simp only at hk
    split at hk
    · rename_i i hi
      have : j < is.length := by
        rcases Nat.lt_or_ge j is.length with g | g
        · exact g
        · rw [List.getElem?_eq_none g] at hi; cases hi
      show j < (roBs vcs).length
      rw [roBs_len]; omega
    · cases hk
  · obtain ⟨i, _, hri⟩ := hat hr
    exact hM.hp.lt i r b hri
  · obtain ⟨u, _, rfl⟩ := view_vec hx; cases hw

def idsOf : List VA → List Nat
  | [] => []
  | x :: r => x.i :: idsOf r

theorem views_V {ρ : Rho} {is : List Nat} {ys : List AVal} (hf : AVal.flat.flatL ys = true) : ∀ (xs : List VA) (j : Nat) (vs : List Value), (∀ (k i : Nat), (idsOf xs)[k]? = some i → is[j + k]? = some i) → VL ρ (vavs xs ++ ys) vs → VL (rhoV ρ is) (vws j xs ++ ys) vs
  | [], j, vs, _, h => VL_flat ys vs hf h
  | x :: xs, j, vs, hi, h => by
    show VL _ (.vec j x.e x.a x.n :: (vws (j + 1) xs ++ ys)) vs
    have h : VL ρ (x.av :: (vavs xs ++ ys)) vs := h
    unfold VL at h ⊢
    obtain ⟨v, vs', rfl, h1, h2⟩ := h
    refine ⟨v, vs', rfl, ?_, views_V hf xs (j + 1) vs' (fun k i hk => by
      have := hi (k + 1) i (by simpa [idsOf] using hk)
      have e : j + (k + 1) = j + 1 + k := by omega
      rwa [e] at this) h2⟩
    have h0 := hi 0 x.i rfl
    rw [Nat.add_zero] at h0
    unfold VA.av at h1
    unfold V at h1 ⊢
    obtain ⟨k1, k2, base, c, k3, k4⟩ := h1
    refine ⟨k1, by simp only [rhoV, h0]; exact k2, base, c, k3, ?_⟩
    rcases k4 with k4 | ⟨r, b, k5, k6, k7, k8⟩
    · exact Or.inl k4
    · exact Or.inr ⟨r, b, by simp only [rhoV, h0]; exact k5, k6, by simp only [rhoV, h0]; exact k7, by simp only [rhoV, h0]; exact k8⟩

section
variable {P : Program}
/-- What the function says over a memory of rows. -/
def OnRows (P : Program) (f : FuncId) (xs : List VA) (ys : List AVal) (vcs : List Vc) (out : Out) : Prop :=
  ∀ (M : Addr → Prop) (w0 : World) (ρ : Rho) (w : World) (vs : List Value), Mem M w0 ρ (viewS vcs) w → VL ρ (vws 0 xs ++ ys) vs → Calls P f ⟨vs⟩ w (Res M w0 ρ (viewS vcs) out)

theorem ids_len : ∀ xs : List VA, (idsOf xs).length = xs.length
  | [] => rfl
  | x :: xs => by simp [idsOf, ids_len xs]

/-- The rows of the arguments. -/
def rowsAt (S : St) : List VA → Option (List Vc)
  | [] => some []
  | x :: r => match S.vec x.i, rowsAt S r with | some v, some l => some (v :: l) | _, _ => none

theorem rowsAt_spec {S : St} : ∀ (xs : List VA) (vcs : List Vc), rowsAt S xs = some vcs → xs.length = vcs.length ∧ ∀ (j i : Nat), (idsOf xs)[j]? = some i → ∃ v, vcs[j]? = some v ∧ S.vec i = some v
  | [], vcs, h => by simp [rowsAt] at h; subst h; exact ⟨rfl, fun j i hi => by simp [idsOf] at hi⟩
  | x :: xs, vcs, h => by
    unfold rowsAt at h
    split at h
    · rename_i v l hv hl
      cases h
      obtain ⟨h1, h2⟩ := rowsAt_spec xs l hl
      refine ⟨by simp [h1], fun j i hi => ?_⟩
      cases j with
      | zero => simp [idsOf] at hi; subst hi; exact ⟨v, rfl, hv⟩
      | succ j => exact h2 j i (by simpa [idsOf] using hi)
    · cases h

/-- A function that reads rows and answers with what has no memory. -/
theorem sat_rd {f : FuncId} {c : Ctr} (hcall : ∀ (args : Array Value) (w : World), (callFunc f args).run P w = .ok (.enter f args) w) (hx : c.x = none)
    (h : ∀ args S out, c.fn args S = some out → out.nd = true → (∃ ρ vs, VL ρ args vs) → ∃ xs ys vcs v0, args = vavs xs ++ ys ∧ AVal.flat.flatL ys = true ∧ rowsAt S xs = some vcs ∧ OnRows P f xs ys vcs ⟨v0, [], [], [], true, none⟩ ∧ v0.flat = true ∧ out = ⟨out.v, [], [], [], true, none⟩ ∧ ∀ ρ u, V ρ v0 u → V ρ out.v u) : Sat P f c := by
  unfold Sat
  rw [hx]
  refine ⟨hcall, fun args S out hfn hnd M w0 ρ w vs hM hv => ?_⟩
  obtain ⟨xs, ys, vcs, v0, rfl, hys, hrow, hon, hf0, hout, hsay⟩ := h args S out hfn hnd ⟨ρ, vs, hv⟩
  obtain ⟨hl, hat⟩ := rowsAt_spec xs vcs hrow
  refine (hon NoM w (rhoV ρ (idsOf xs)) w vs (views_mem hM _ _ (by rw [ids_len, hl]) hat) (views_V hys xs 0 vs (fun k i hk => by rw [Nat.zero_add]; exact hk) hv)).mono ?_
  intro e w' hr
  cases e with
  | outgrown => exact hr.elim
  | panicked ch => obtain ⟨v, u, hp, _⟩ := hr; cases hp
  | returned u =>
    obtain ⟨_, ρ', _, hu, hm'⟩ := hr
    rw [hout]
    exact ⟨fun b v h => (by cases h), ρ, ExtS.refl _ _, hsay ρ u (V_flat _ _ hf0 hu), (hM.quiet hm'.fr).put_nil⟩

/-- A function that reads rows and answers with a new one. -/
theorem sat_new {f : FuncId} {c : Ctr} (hcall : ∀ (args : Array Value) (w : World), (callFunc f args).run P w = .ok (.enter f args) w) (hx : c.x = none)
    (h : ∀ args S out, c.fn args S = some out → out.nd = true → (∃ ρ vs, VL ρ args vs) → ∃ xs ys vcs e m v, args = vavs xs ++ ys ∧ AVal.flat.flatL ys = true ∧ rowsAt S xs = some vcs ∧ v.wr = true ∧ 1 ≤ lenL v.sh ∧ OnRows P f xs ys vcs ⟨.vec vcs.length e 0 m, [], [], [⟨[], false, some v⟩], true, none⟩ ∧ out = ⟨.vec S.hp.length e 0 m, [], [], [⟨[], false, some v⟩], true, none⟩) : Sat P f c := by
  unfold Sat
  rw [hx]
  refine ⟨hcall, fun args S out hfn hnd M w0 ρ w vs hM hv => ?_⟩
  obtain ⟨xs, ys, vcs, e, m, v, rfl, hys, hrow, hwr, hsh, hon, rfl⟩ := h args S out hfn hnd ⟨ρ, vs, hv⟩
  obtain ⟨hl, hat⟩ := rowsAt_spec xs vcs hrow
  refine (hon NoM w (rhoV ρ (idsOf xs)) w vs (views_mem hM _ _ (by rw [ids_len, hl]) hat) (views_V hys xs 0 vs (fun k i hk => by rw [Nat.zero_add]; exact hk) hv)).mono ?_
  intro en w' hr
  cases en with
  | outgrown => exact hr.elim
  | panicked ch => obtain ⟨v, u, hp, _⟩ := hr; cases hp
  | returned u =>
    obtain ⟨_, ρ', _, hu, hm'⟩ := hr
    have hfr : Fr NoM w w' := hm'.fr
    have hvec : ((viewS vcs).put [] [] [⟨[], false, some v⟩]).vec vcs.length = some v := by
      have e1 : ((viewS vcs).put [] [] [⟨[], false, some v⟩]).blk vcs.length = ⟨[], false, some v⟩ := by
        unfold St.blk St.put St.ext viewS
        simp only
        have := nthB_append_right (roBs vcs) [⟨[], false, some v⟩] 0
        rw [roBs_len, Nat.add_zero] at this
        rw [this]; rfl
      unfold St.vec
      rw [e1]
      simp [St.put, St.ext, viewS, vlookL, vlook1]
    refine ⟨fun b v h => (by cases h), ?_⟩
    simp only at hu ⊢
    unfold V at hu
    obtain ⟨k1, k2, base, cp, k3, k4⟩ := hu
    cases hρ : ρ' vcs.length with
    | none =>
      refine ⟨updK ρ S.hp.length, ⟨updK_ext _ _, fun i _ => rfl, fun i hi => by simp only [updK]; rw [if_neg (by omega)]⟩, ?_, ?_⟩
      · unfold V
        refine ⟨k1, updK_kn .., base, cp, k3, ?_⟩
        rcases k4 with k4 | ⟨r, b, k5, _⟩
        · exact Or.inl k4
        · rw [hρ] at k5; cases k5
      · exact ((hM.quiet hfr).ghost [] v (fun i u hu => by simp [vlook1] at hu)).known (by simp [St.put, St.ext])
    | some p =>
      obtain ⟨r, b⟩ := p
      have hge : w.heap.size ≤ r ∨ ρ'.cap vcs.length * lenL v.sh = 0 := by
        rcases Nat.eq_zero_or_pos (ρ'.cap vcs.length * lenL v.sh) with g | g
        · exact Or.inr g
        · rcases hm'.own.vec vcs.length v r b 0 hvec hwr hρ g with h | h
          · exact h.elim
          · exact Or.inl h
      rcases hge with hge | hz
      · refine ⟨upd ρ S.hp.length (r, b) (ρ'.cap vcs.length), upd_extS hM.hp.dom _ _, ?_, ?_⟩
        · unfold V
          refine ⟨k1, upd_kn .., base, cp, k3, ?_⟩
          rcases k4 with k4 | ⟨r', b', k5, k6, k7, k8⟩
          · exact Or.inl k4
          · rw [hρ] at k5; cases k5
            exact Or.inr ⟨r, b, upd_new .., k6, by rw [upd_cap]; exact k7, by rw [upd_cap]; exact k8⟩
        · refine hM.newB hfr (fun a ha => ha.elim) ⟨[], false, some v⟩ r b (ρ'.cap vcs.length) [] (hm'.hp.lt _ r b hρ) (fun i u hu => by simp [vlook1] at hu) (fun i o x r' b' v _ _ hv => by rw [hfr.cell _ (World.block_lt_of_cell? _ _ hv) (fun h => h)]; exact hv) (fun i u r' b' q v _ _ _ _ hv => by rw [hfr.cell _ (World.block_lt_of_cell? _ _ hv) (fun h => h)]; exact hv)
            (fun o x ho => by simp at ho) (fun o ho => by simp at ho) ?_ ?_ ?_ (fun q _ => Or.inr (by have := hM.fr.size; omega)) (fun i r' b' hr _ => ?_) (fun i r' b' hr _ => ?_)
          · intro u q p ck hu hq hp
            simp only [Option.some.injEq] at hu
            subst hu
            obtain ⟨x, g1, g2⟩ := hm'.hp.vcell _ v r b q p ck hvec hρ hq hp
            exact ⟨x, g1, V_flat _ _ (by cases ck <;> rfl) g2⟩
          · intro u q hu hw hq
            simp only [Option.some.injEq] at hu
            subst hu
            exact hm'.hp.vfrz _ v r b q hvec hw hρ hq
          · intro u hu hw
            simp only [Option.some.injEq] at hu
            subst hu
            exact hm'.hp.vcap _ v r b hvec hw hρ
          · have := hM.hp.lt i r' b' hr; omega
          · have := hM.hp.lt i r' b' hr; omega
      · -- no room: nothing is there
        have hz0 : ρ'.cap vcs.length = 0 := by
          rcases Nat.eq_zero_or_pos (ρ'.cap vcs.length) with g | g
          · exact g
          · have := Nat.mul_pos g hsh; omega
        exact (by
          refine ⟨updK ρ S.hp.length, ⟨updK_ext _ _, fun i _ => rfl, fun i hi => by simp only [updK]; rw [if_neg (by omega)]⟩, ?_, ((hM.quiet hfr).ghost [] v (fun i u hu => by simp [vlook1] at hu)).known (by simp [St.put, St.ext])⟩
          unfold V
          refine ⟨k1, updK_kn .., base, cp, k3, ?_⟩
          rcases k4 with k4 | ⟨r', b', k5, k6, k7, k8⟩
          · exact Or.inl k4
          · exact Or.inl ⟨by omega, by omega⟩)
end
end Go.Ab
