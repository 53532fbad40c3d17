import Derived.Test.YtbblhkjkokbheaaGc
import Derived.IntWalk
import Derived.Deep.Fields
namespace Go.Ab
open Go Go.RowKit
set_option linter.unusedVariables false
/-! ### Pieces of code, run -/
section
variable {P : Program} {N : Nat}

/-- From a state the code ends so. -/
def Run (P : Program) (N : Nat) (c : Code) (S : St) (O : Ex × St) : Prop :=
  ∀ (n0 : Nat), n0 ≤ S.hp.length → ∀ (M : Addr → Prop) (w0 : World) (ρ : Rho) (a : Act) (w : World) (Q : Exit → Act → World → Prop), Rel N M w0 ρ S a w →
    (∀ ρ' a' w' e, ExtS n0 ρ ρ' → ExR ρ' O.1 e → Rel N M w0 ρ' O.2 a' w' → Q e a' w') → c.wp P Q a w

/-- The one state says what the other says. -/
def Wk (N : Nat) (S S' : St) : Prop := ∀ (M : Addr → Prop) (w0 : World) (ρ : Rho) (a : Act) (w : World), Rel N M w0 ρ S a w → Rel N M w0 ρ S' a w

theorem Run.ev {Γ : List (Nat × Ctr)} (hΓ : Good P Γ) (hmo : P.follows .mixedOrders = true) {fuel : Nat} {c : Code} {S : St} {t : Tr} (h : Ab.ev P Γ N fuel c S Dl.nil = some t) (hn : t.need = true) : Run P N c S (t.out S) :=
  fun n0 hn0 M w0 ρ a w Q hR hQ => (ev_sound (n0 := n0) hΓ hmo fuel c S Dl.nil t h hn hn0 ρ a w Q hR.nil hQ).1

theorem Run.weak {c : Code} {S S' : St} {O O' : Ex × St} (h : Run P N c S' O) (h1 : Wk N S S') (hl : S.hp.length ≤ S'.hp.length) (h2 : O'.1 = O.1) (h3 : Wk N O.2 O'.2) : Run P N c S O' :=
  fun n0 hn0 M w0 ρ a w Q hR hQ => h n0 (Nat.le_trans hn0 hl) M w0 ρ a w Q (h1 M w0 ρ a w hR) (fun ρ' a' w' e hx he hr => hQ ρ' a' w' e hx (by rw [h2]; exact he) (h3 M w0 ρ' a' w' hr))

theorem Wk.refl (S : St) : Wk N S S := fun _ _ _ _ _ h => h
theorem Wk.trans {S T U : St} (h : Wk N S T) (k : Wk N T U) : Wk N S U := fun M w0 ρ a w r => k M w0 ρ a w (h M w0 ρ a w r)

theorem exr_normal {ρ : Rho} {x : Ex} (hx : x ≠ .normal) : ¬ ExR ρ x .normal := fun h => by
  cases x with
  | normal => exact hx rfl
  | exit id => cases h
  | ret => cases h
  | panic v => obtain ⟨u, _, hu⟩ := h; cases hu

theorem Run.seq {x y : Code} {S S1 : St} {O : Ex × St} (h1 : Run P N x S (.normal, S1)) (hl : S.hp.length ≤ S1.hp.length) (h2 : Run P N y S1 O) : Run P N (.seq x y) S O :=
  fun n0 hn0 M w0 ρ a w Q hR hQ => by
    apply wp_seq
    refine h1 n0 hn0 M w0 ρ a w _ hR ?_
    intro ρ' a' w' e hext hx hr'
    have hx : e = .normal := hx
    subst hx
    show y.wp P Q a' w'
    exact h2 n0 (Nat.le_trans hn0 hl) M w0 ρ' a' w' Q hr' (fun ρ'' a'' w'' e' hext' hx' hr'' => hQ ρ'' a'' w'' e' (hext.trans hext') hx' hr'')

theorem Run.seq_out {x y : Code} {S : St} {O : Ex × St} (h1 : Run P N x S O) (hO : O.1 ≠ .normal) : Run P N (.seq x y) S O :=
  fun n0 hn0 M w0 ρ a w Q hR hQ => by
    apply wp_seq
    refine h1 n0 hn0 M w0 ρ a w _ hR ?_
    intro ρ' a' w' e hext hx hr'
    have := hQ ρ' a' w' e hext hx hr'
    cases e with
    | normal => exact (exr_normal hO hx).elim
    | _ => exact this

theorem Run.block {id : Nat} {c : Code} {S S1 : St} (h : Run P N c S (.exit id, S1)) : Run P N (.block id c) S (.normal, S1) :=
  fun n0 hn0 M w0 ρ a w Q hR hQ => by
    apply wp_block
    refine h n0 hn0 M w0 ρ a w _ hR ?_
    intro ρ' a' w' e hext hx hr'
    have hx : e = .exit id := hx
    subst hx
    simp only [Exit.inBlock, if_true]
    exact hQ ρ' a' w' .normal hext rfl hr'

theorem Run.block_out {id : Nat} {c : Code} {S : St} {O : Ex × St} (h : Run P N c S O) (hO : O.1 ≠ .exit id) : Run P N (.block id c) S O :=
  fun n0 hn0 M w0 ρ a w Q hR hQ => by
    apply wp_block
    refine h n0 hn0 M w0 ρ a w _ hR ?_
    intro ρ' a' w' e hext hx hr'
    have := hQ ρ' a' w' e hext hx hr'
    cases e with
    | exit j =>
      simp only [Exit.inBlock]
      rw [if_neg (fun e => hO (by
        subst e
        cases he : O.1 with
        | normal => rw [he] at hx; cases hx
        | exit i => rw [he] at hx; cases hx; rfl
        | ret => rw [he] at hx; cases hx
        | panic v => rw [he] at hx; obtain ⟨u, _, hu⟩ := hx; cases hu))]
      exact this
    | _ => exact this

/-- A loop, by what is so ahead of each round. -/
theorem Run.loop {x : Code} {O : Ex × St} (T : Nat) (I : Nat → St) (hl : ∀ j, (I j).hp.length = (I 0).hp.length) (hstep : ∀ j, j < T → Run P N x (I j) (.normal, I (j + 1))) (hend : Run P N x (I T) O) (hO : O.1 ≠ .normal) : Run P N (.loop x) (I 0) O :=
  fun n0 hn0 M w0 ρ a w Q hR hQ => by
    have key : ∀ (k j : Nat), j + k = T → ∀ ρ' a w, ExtS n0 ρ ρ' → Rel N M w0 ρ' (I j) a w → Code.rounds P x Q (k + 1) a w := by
      intro k
      induction k with
      | zero =>
        intro j hj ρ' a w hx hr
        have : j = T := by omega
        subst this
        rw [rounds_succ]
        refine hend n0 (by rw [hl]; exact hn0) M w0 ρ' a w _ hr ?_
        intro ρ'' a' w' e hext hxe hr'
        have := hQ ρ'' a' w' e (hx.trans hext) hxe hr'
        cases e with
        | normal => exact (exr_normal hO hxe).elim
        | _ => exact this
      | succ k ih =>
        intro j hj ρ' a w hx hr
        rw [rounds_succ]
        refine hstep j (by omega) n0 (by rw [hl]; exact hn0) M w0 ρ' a w _ hr ?_
        intro ρ'' a' w' e hext hxe hr'
        have hxe : e = .normal := hxe
        subst hxe
        exact ih (j + 1) (by omega) ρ'' a' w' (hx.trans hext) hr'
    exact wp_loop_rounds (T + 1) (key T 0 (by omega) ρ a w (ExtS.refl _ _) hR)

/-- A function, by its body. -/
theorem Run.calls {f : FuncId} {fn : Func} {c : Code} (hf : P.funcs[f]? = some fn) (hb : fn.body = some c) {args : List AVal} {S T : St} {e : Ex} {fr : FR} {out : Out} {ahv : List ((Nat × Nat) × AVal)} {avv : List (Nat × Vc)}
    (hr : Run P fn.ntmps c (S.start fn.ntmps args) (e, T)) (hfin : leafT P none fn.results.toList S.hp.length T e Dl.nil ahv avv = some fr) (ho : outOf fr = some out) (hnd : out.nd = true) (hacc : Acc S T ahv avv) (hn : args.length ≤ fn.ntmps)
    {M : Addr → Prop} {w0 : World} {ρ : Rho} {w : World} {vs : List Value} (hM : Mem M w0 ρ S w) (hv : VL ρ args vs) : Calls P f ⟨vs⟩ w (Res M w0 ρ S out) := by
  have hnf : fr.nd = true := by
    unfold outOf at ho
    split at ho
    · cases ho; exact hnd
    · split at ho
      · cases ho; exact hnd
      · cases ho
  obtain ⟨_, hs⟩ := leafT_sound (z := none) (fun _ _ _ h => nomatch h) (P := P) (N := fn.ntmps) (fn := fn) hM hfin hnf hacc
  refine calls_of_wp hf hb ?_
  have hR := start_rel (n := fn.ntmps) hM hv hn
  have hR' : Rel fn.ntmps M w0 ρ (S.start fn.ntmps args) { tmps := (⟨vs⟩ : Array Value) ++ Array.replicate (fn.ntmps - (⟨vs⟩ : Array Value).size) undef, defers := [] } w := by
    refine hR.alk ⟨fun t => by rw [get_ext]; rfl, fun i o => by simp [St.ext, Dl.nil, St.cell, St.blk, hlookL, hlook1], fun i => by simp [St.ext, Dl.nil, St.blk], fun i => by simp [St.ext, Dl.nil, St.vec, St.blk, vlookL, vlook1], by simp [St.ext, Dl.nil],
      fun i o x hx => ⟨x, by simpa [St.ext, Dl.nil, hlookL, hlook1] using hx⟩, fun i x hx => ⟨x, by simpa [St.ext, Dl.nil, vlookL, vlook1] using hx⟩, by simp [St.ext, Dl.nil]⟩
  refine hr S.hp.length (Nat.le_refl _) M w0 ρ _ w _ hR' ?_
  intro ρ' a' w' ex hext hx hr'
  exact res_of_fin ho (hs ρ' a' w' ex hext hr'.nil hx)
end
end Go.Ab

namespace Go.Ab
open Go Go.RowKit
set_option linter.unusedVariables false
/-! ### Contracts over rows that are read -/
structure VA where
  i : Nat
  e : Nat
  a : Nat
  n : Num

def VA.av (x : VA) : AVal := .vec x.i x.e x.a x.n
def vavs : List VA → List AVal
  | [] => []
  | x :: r => x.av :: vavs r
def vws : Nat → List VA → List AVal
  | _, [] => []
  | j, x :: r => .vec j x.e x.a x.n :: vws (j + 1) r

def roB (v : Vc) : Blk := ⟨[], false, some ⟨v.sh, v.n, v.fd, v.gd, v.bd, false⟩⟩
def roBs : List Vc → List Blk
  | [] => []
  | v :: r => roB v :: roBs r
/-- A memory of rows that are read. -/
def viewS (vs : List Vc) : St := ⟨[], [], roBs vs, [], [], []⟩

theorem nthB_ro : ∀ (vs : List Vc) (j : Nat), nthB j (roBs vs) = match vs[j]? with | some v => roB v | none => ⟨[], false, none⟩
  | [], j => by cases j <;> rfl
  | v :: vs, 0 => rfl
  | v :: vs, j + 1 => by simpa [roBs, nthB] using nthB_ro vs j

theorem roBs_len : ∀ vs : List Vc, (roBs vs).length = vs.length
  | [] => rfl
  | v :: vs => by simp [roBs, roBs_len vs]

theorem view_vec {vs : List Vc} {j : Nat} {u : Vc} (h : (viewS vs).vec j = some u) : ∃ v, vs[j]? = some v ∧ u = ⟨v.sh, v.n, v.fd, v.gd, v.bd, false⟩ := by
  unfold St.vec St.blk viewS at h
  simp only [nthB_ro] at h
  cases hv : vs[j]? with
  | none => rw [hv] at h; simp at h
  | some v =>
    rw [hv] at h
    simp only [roB, vlookL, Option.some.injEq] at h
    exact ⟨v, rfl, h.symm⟩

theorem view_cell {vs : List Vc} {j o : Nat} {x : AVal} : ¬ (viewS vs).cell j o = some x := fun h => by
  have := cell_off h
  unfold St.blk viewS at this
  simp only [nthB_ro] at this
  cases hv : vs[j]? with
  | none => rw [hv] at this; simp at this
  | some v => rw [hv] at this; simp [roB] at this

theorem view_wr {vs : List Vc} {j : Nat} : ¬ (viewS vs).wrB j = true := fun h => by
  rcases wrB_iff.1 h with ⟨o, x, hx, _⟩ | ⟨v, hv, hw⟩
  · exact view_cell hx
  · obtain ⟨u, _, rfl⟩ := view_vec hv; cases hw

/-- Where the rows lie. -/
def rhoV (ρ : Rho) (is : List Nat) : Rho := ⟨fun j => match is[j]? with | some i => ρ i | none => none, fun j => match is[j]? with | some i => ρ.cap i | none => 0, fun j => match is[j]? with | some i => ρ.kn i | none => false⟩

theorem views_mem {M : Addr → Prop} {w0 : World} {ρ : Rho} {S : St} {w : World} (hM : Mem M w0 ρ S w) (is : List Nat) (vcs : List Vc) (hl : is.length = vcs.length) (h : ∀ (j i : Nat), is[j]? = some i → ∃ v, vcs[j]? = some v ∧ S.vec i = some v) :
    Mem NoM w (rhoV ρ is) (viewS vcs) w := by
  have hat : ∀ {j : Nat} {p : Nat × Nat}, rhoV ρ is j = some p → ∃ i, is[j]? = some i ∧ ρ i = some p := fun {j p} hp => by
    unfold rhoV at hp
    simp only at hp
    split at hp
    · rename_i i hi; exact ⟨i, hi, hp⟩
    · cases hp
  refine ⟨⟨fun j o x hx => (view_cell hx).elim, fun j vc r b k o c hx hr hk hc => ?_, fun j o x r b hx => (view_cell hx).elim, fun j vc r b q hx hw => ?_, fun j vc r b hx hw => ?_, fun j j' r b b' _ hw => (view_wr hw).elim, fun j p hp => ?_, fun j hk => ?_, fun j o x hx => by (simp [viewS, hlookL] at hx), fun j x hx => by (simp [viewS, vlookL] at hx), fun j r b hr => ?_⟩, Fr.refl _ _, ⟨fun j o x r b hx => (view_cell hx).elim, fun j vc r b q hx hw => ?_⟩⟩
  · obtain ⟨i, hi, hri⟩ := hat hr
    obtain ⟨u, hu, rfl⟩ := view_vec hx
    obtain ⟨v, hv, hSv⟩ := h j i hi
    rw [hu] at hv; cases hv
    obtain ⟨x, k1, k2⟩ := hM.hp.vcell i u r b k o c hSv hri hk hc
    exact ⟨x, k1, V_flat _ _ (by cases c <;> rfl) k2⟩
  · obtain ⟨u, _, rfl⟩ := view_vec hx; cases hw
  · obtain ⟨u, _, rfl⟩ := view_vec hx; cases hw
  · obtain ⟨i, hi, _⟩ := hat hp
    have : j < is.length := by
      rcases Nat.lt_or_ge j is.length with g | g
      · exact g
      · rw [List.getElem?_eq_none g] at hi; cases hi
    show j < (roBs vcs).length
    rw [roBs_len]; omega
  · unfold rhoV at hk
    simp only at hk
    split at hk
    · rename_i i hi
      have : j < is.length := by
        rcases Nat.lt_or_ge j is.length with g | g
        · exact g
        · rw [List.getElem?_eq_none g] at hi; cases hi
      show j < (roBs vcs).length
      rw [roBs_len]; omega
    · cases hk
  · obtain ⟨i, _, hri⟩ := hat hr
    exact hM.hp.lt i r b hri
  · obtain ⟨u, _, rfl⟩ := view_vec hx; cases hw

def idsOf : List VA → List Nat
  | [] => []
  | x :: r => x.i :: idsOf r

theorem views_V {ρ : Rho} {is : List Nat} {ys : List AVal} (hf : AVal.flat.flatL ys = true) : ∀ (xs : List VA) (j : Nat) (vs : List Value), (∀ (k i : Nat), (idsOf xs)[k]? = some i → is[j + k]? = some i) → VL ρ (vavs xs ++ ys) vs → VL (rhoV ρ is) (vws j xs ++ ys) vs
  | [], j, vs, _, h => VL_flat ys vs hf h
  | x :: xs, j, vs, hi, h => by
    show VL _ (.vec j x.e x.a x.n :: (vws (j + 1) xs ++ ys)) vs
    have h : VL ρ (x.av :: (vavs xs ++ ys)) vs := h
    unfold VL at h ⊢
    obtain ⟨v, vs', rfl, h1, h2⟩ := h
    refine ⟨v, vs', rfl, ?_, views_V hf xs (j + 1) vs' (fun k i hk => by
      have := hi (k + 1) i (by simpa [idsOf] using hk)
      have e : j + (k + 1) = j + 1 + k := by omega
      rwa [e] at this) h2⟩
    have h0 := hi 0 x.i rfl
    rw [Nat.add_zero] at h0
    unfold VA.av at h1
    unfold V at h1 ⊢
    obtain ⟨k1, k2, base, c, k3, k4⟩ := h1
    refine ⟨k1, by simp only [rhoV, h0]; exact k2, base, c, k3, ?_⟩
    rcases k4 with k4 | ⟨r, b, k5, k6, k7, k8⟩
    · exact Or.inl k4
    · exact Or.inr ⟨r, b, by simp only [rhoV, h0]; exact k5, k6, by simp only [rhoV, h0]; exact k7, by simp only [rhoV, h0]; exact k8⟩

section
variable {P : Program}
/-- What the function says over a memory of rows. -/
def OnRows (P : Program) (f : FuncId) (xs : List VA) (ys : List AVal) (vcs : List Vc) (out : Out) : Prop :=
  ∀ (M : Addr → Prop) (w0 : World) (ρ : Rho) (w : World) (vs : List Value), Mem M w0 ρ (viewS vcs) w → VL ρ (vws 0 xs ++ ys) vs → Calls P f ⟨vs⟩ w (Res M w0 ρ (viewS vcs) out)

theorem ids_len : ∀ xs : List VA, (idsOf xs).length = xs.length
  | [] => rfl
  | x :: xs => by simp [idsOf, ids_len xs]

/-- The rows of the arguments. -/
def rowsAt (S : St) : List VA → Option (List Vc)
  | [] => some []
  | x :: r => match S.vec x.i, rowsAt S r with | some v, some l => some (v :: l) | _, _ => none

theorem rowsAt_spec {S : St} : ∀ (xs : List VA) (vcs : List Vc), rowsAt S xs = some vcs → xs.length = vcs.length ∧ ∀ (j i : Nat), (idsOf xs)[j]? = some i → ∃ v, vcs[j]? = some v ∧ S.vec i = some v
  | [], vcs, h => by simp [rowsAt] at h; subst h; exact ⟨rfl, fun j i hi => by simp [idsOf] at hi⟩
  | x :: xs, vcs, h => by
    unfold rowsAt at h
    split at h
    · rename_i v l hv hl
      cases h
      obtain ⟨h1, h2⟩ := rowsAt_spec xs l hl
      refine ⟨by simp [h1], fun j i hi => ?_⟩
      cases j with
      | zero => simp [idsOf] at hi; subst hi; exact ⟨v, rfl, hv⟩
      | succ j => exact h2 j i (by simpa [idsOf] using hi)
    · cases h

/-- A function that reads rows and answers with what has no memory. -/
theorem sat_rd {f : FuncId} {c : Ctr} (hcall : ∀ (args : Array Value) (w : World), (callFunc f args).run P w = .ok (.enter f args) w) (hx : c.x = none)
    (h : ∀ args S out, c.fn args S = some out → out.nd = true → (∃ ρ vs, VL ρ args vs) → ∃ xs ys vcs v0, args = vavs xs ++ ys ∧ AVal.flat.flatL ys = true ∧ rowsAt S xs = some vcs ∧ OnRows P f xs ys vcs ⟨v0, [], [], [], true, none⟩ ∧ v0.flat = true ∧ out = ⟨out.v, [], [], [], true, none⟩ ∧ ∀ ρ u, V ρ v0 u → V ρ out.v u) : Sat P f c := by
  unfold Sat
  rw [hx]
  refine ⟨hcall, fun args S out hfn hnd M w0 ρ w vs hM hv => ?_⟩
  obtain ⟨xs, ys, vcs, v0, rfl, hys, hrow, hon, hf0, hout, hsay⟩ := h args S out hfn hnd ⟨ρ, vs, hv⟩
  obtain ⟨hl, hat⟩ := rowsAt_spec xs vcs hrow
  refine (hon NoM w (rhoV ρ (idsOf xs)) w vs (views_mem hM _ _ (by rw [ids_len, hl]) hat) (views_V hys xs 0 vs (fun k i hk => by rw [Nat.zero_add]; exact hk) hv)).mono ?_
  intro e w' hr
  cases e with
  | outgrown => exact hr.elim
  | panicked ch => obtain ⟨v, u, hp, _⟩ := hr; cases hp
  | returned u =>
    obtain ⟨_, ρ', _, hu, hm'⟩ := hr
    rw [hout]
    exact ⟨fun b v h => (by cases h), ρ, ExtS.refl _ _, hsay ρ u (V_flat _ _ hf0 hu), (hM.quiet hm'.fr).put_nil⟩

/-- A function that reads rows and answers with a new one. -/
theorem sat_new {f : FuncId} {c : Ctr} (hcall : ∀ (args : Array Value) (w : World), (callFunc f args).run P w = .ok (.enter f args) w) (hx : c.x = none)
    (h : ∀ args S out, c.fn args S = some out → out.nd = true → (∃ ρ vs, VL ρ args vs) → ∃ xs ys vcs e m v, args = vavs xs ++ ys ∧ AVal.flat.flatL ys = true ∧ rowsAt S xs = some vcs ∧ v.wr = true ∧ 1 ≤ lenL v.sh ∧ OnRows P f xs ys vcs ⟨.vec vcs.length e 0 m, [], [], [⟨[], false, some v⟩], true, none⟩ ∧ out = ⟨.vec S.hp.length e 0 m, [], [], [⟨[], false, some v⟩], true, none⟩) : Sat P f c := by
  unfold Sat
  rw [hx]
  refine ⟨hcall, fun args S out hfn hnd M w0 ρ w vs hM hv => ?_⟩
  obtain ⟨xs, ys, vcs, e, m, v, rfl, hys, hrow, hwr, hsh, hon, rfl⟩ := h args S out hfn hnd ⟨ρ, vs, hv⟩
  obtain ⟨hl, hat⟩ := rowsAt_spec xs vcs hrow
  refine (hon NoM w (rhoV ρ (idsOf xs)) w vs (views_mem hM _ _ (by rw [ids_len, hl]) hat) (views_V hys xs 0 vs (fun k i hk => by rw [Nat.zero_add]; exact hk) hv)).mono ?_
  intro en w' hr
  cases en with
  | outgrown => exact hr.elim
  | panicked ch => obtain ⟨v, u, hp, _⟩ := hr; cases hp
  | returned u =>
    obtain ⟨_, ρ', _, hu, hm'⟩ := hr
    have hfr : Fr NoM w w' := hm'.fr
    have hvec : ((viewS vcs).put [] [] [⟨[], false, some v⟩]).vec vcs.length = some v := by
      have e1 : ((viewS vcs).put [] [] [⟨[], false, some v⟩]).blk vcs.length = ⟨[], false, some v⟩ := by
        unfold St.blk St.put St.ext viewS
        simp only
        have := nthB_append_right (roBs vcs) [⟨[], false, some v⟩] 0
        rw [roBs_len, Nat.add_zero] at this
        rw [this]; rfl
      unfold St.vec
      rw [e1]
      simp [St.put, St.ext, viewS, vlookL, vlook1]
    refine ⟨fun b v h => (by cases h), ?_⟩
    simp only at hu ⊢
    unfold V at hu
    obtain ⟨k1, k2, base, cp, k3, k4⟩ := hu
    cases hρ : ρ' vcs.length with
    | none =>
      refine ⟨updK ρ S.hp.length, ⟨updK_ext _ _, fun i _ => rfl, fun i hi => by simp only [updK]; rw [if_neg (by omega)]⟩, ?_, ?_⟩
      · unfold V
        refine ⟨k1, updK_kn .., base, cp, k3, ?_⟩
        rcases k4 with k4 | ⟨r, b, k5, _⟩
        · exact Or.inl k4
        · rw [hρ] at k5; cases k5
      · exact ((hM.quiet hfr).ghost [] v (fun i u hu => by simp [vlook1] at hu)).known (by simp [St.put, St.ext])
    | some p =>
      obtain ⟨r, b⟩ := p
      have hge : w.heap.size ≤ r ∨ ρ'.cap vcs.length * lenL v.sh = 0 := by
        rcases Nat.eq_zero_or_pos (ρ'.cap vcs.length * lenL v.sh) with g | g
        · exact Or.inr g
        · rcases hm'.own.vec vcs.length v r b 0 hvec hwr hρ g with h | h
          · exact h.elim
          · exact Or.inl h
      rcases hge with hge | hz
      · refine ⟨upd ρ S.hp.length (r, b) (ρ'.cap vcs.length), upd_extS hM.hp.dom _ _, ?_, ?_⟩
        · unfold V
          refine ⟨k1, upd_kn .., base, cp, k3, ?_⟩
          rcases k4 with k4 | ⟨r', b', k5, k6, k7, k8⟩
          · exact Or.inl k4
          · rw [hρ] at k5; cases k5
            exact Or.inr ⟨r, b, upd_new .., k6, by rw [upd_cap]; exact k7, by rw [upd_cap]; exact k8⟩
        · refine hM.newB hfr (fun a ha => ha.elim) ⟨[], false, some v⟩ r b (ρ'.cap vcs.length) [] (hm'.hp.lt _ r b hρ) (fun i u hu => by simp [vlook1] at hu) (fun i o x r' b' v _ _ hv => by rw [hfr.cell _ (World.block_lt_of_cell? _ _ hv) (fun h => h)]; exact hv) (fun i u r' b' q v _ _ _ _ hv => by rw [hfr.cell _ (World.block_lt_of_cell? _ _ hv) (fun h => h)]; exact hv)
            (fun o x ho => by simp at ho) (fun o ho => by simp at ho) ?_ ?_ ?_ (fun q _ => Or.inr (by have := hM.fr.size; omega)) (fun i r' b' hr _ => ?_) (fun i r' b' hr _ => ?_)
          · intro u q p ck hu hq hp
            simp only [Option.some.injEq] at hu
            subst hu
            obtain ⟨x, g1, g2⟩ := hm'.hp.vcell _ v r b q p ck hvec hρ hq hp
            exact ⟨x, g1, V_flat _ _ (by cases ck <;> rfl) g2⟩
          · intro u q hu hw hq
            simp only [Option.some.injEq] at hu
            subst hu
            exact hm'.hp.vfrz _ v r b q hvec hw hρ hq
          · intro u hu hw
            simp only [Option.some.injEq] at hu
            subst hu
            exact hm'.hp.vcap _ v r b hvec hw hρ
          · have := hM.hp.lt i r' b' hr; omega
          · have := hM.hp.lt i r' b' hr; omega
      · -- no room: nothing is there
        have hz0 : ρ'.cap vcs.length = 0 := by
          rcases Nat.eq_zero_or_pos (ρ'.cap vcs.length) with g | g
          · exact g
          · have := Nat.mul_pos g hsh; omega
        exact (by
          refine ⟨updK ρ S.hp.length, ⟨updK_ext _ _, fun i _ => rfl, fun i hi => by simp only [updK]; rw [if_neg (by omega)]⟩, ?_, ((hM.quiet hfr).ghost [] v (fun i u hu => by simp [vlook1] at hu)).known (by simp [St.put, St.ext])⟩
          unfold V
          refine ⟨k1, updK_kn .., base, cp, k3, ?_⟩
          rcases k4 with k4 | ⟨r', b', k5, k6, k7, k8⟩
          · exact Or.inl k4
          · exact Or.inl ⟨by omega, by omega⟩)
end
end Go.Ab

namespace Go.Ab
open Go Go.RowKit
set_option linter.unusedVariables false
/-! ### Ways through a tree -/
structure Way where
  nd : Bool
  bs : List Bool
  e : Ex
  S : St

/-- Along a way: what it asks, the tests met, the end. -/
def fol : List Bool → St → Tr → Option Way
  | [], S, .leaf e d => some ⟨d.nd, [], e, S.ext d⟩
  | c :: p, S, .node d b l r => match fol p (S.ext d) (match c with | true => l | false => r) with
    | some w => some ⟨cond d.nd w.nd false, b :: w.bs, w.e, w.S⟩
    | none => none
  | _, _, _ => none

theorem fol_spec : ∀ (p : List Bool) (S : St) (t : Tr) (w : Way), fol p S t = some w → w.bs = p → w.nd = true → t.need = true ∧ t.out S = (w.e, w.S)
  | [], S, .leaf e d, w, h, _, hn => by
    simp only [fol, Option.some.injEq] at h
    subst h
    exact ⟨hn, rfl⟩
  | [], S, .node d b l r, w, h, _, _ => by simp [fol] at h
  | c :: p, S, .leaf e d, w, h, _, _ => by simp [fol] at h
  | c :: p, S, .node d b l r, w, h, hb, hn => by
    unfold fol at h
    split at h
    · rename_i u hu
      cases h
      simp only [List.cons.injEq] at hb
      obtain ⟨rfl, hb⟩ := hb
      obtain ⟨h1, h2⟩ := cond_and hn
      obtain ⟨h3, h4⟩ := fol_spec p _ _ u hu hb h2
      simp only [Tr.need, Tr.out]
      rw [h1]
      cases b with
      | true => exact ⟨by simpa using h3, by simpa using h4⟩
      | false => exact ⟨by simpa using h3, by simpa using h4⟩
    · cases h

def wayO (p : List Bool) (S : St) (o : Option Tr) : Option Way := match o with | some t => fol p S t | none => none
def wNd (o : Option Way) : Bool := match o with | some w => w.nd | none => false
def wBs (o : Option Way) : List Bool := match o with | some w => w.bs | none => [false, true, false, true]
def wE (o : Option Way) : Ex := match o with | some w => w.e | none => .normal
def wS (o : Option Way) : St := match o with | some w => w.S | none => ⟨[], [], [], [], [], []⟩
def isWay (o : Option Way) : Bool := match o with | some _ => true | none => false

section
variable {P : Program} {N : Nat}
/-- One way, where its tests come out so. -/
theorem Run.way {Γ : List (Nat × Ctr)} (hΓ : Good P Γ) (hmo : P.follows .mixedOrders = true) {fuel : Nat} {c : Code} {S : St} (p : List Bool) (h0 : isWay (wayO p S (Ab.ev P Γ N fuel c S Dl.nil)) = true)
    (hb : wBs (wayO p S (Ab.ev P Γ N fuel c S Dl.nil)) = p) (hn : wNd (wayO p S (Ab.ev P Γ N fuel c S Dl.nil)) = true) :
    Run P N c S (wE (wayO p S (Ab.ev P Γ N fuel c S Dl.nil)), wS (wayO p S (Ab.ev P Γ N fuel c S Dl.nil))) := by
  cases he : Ab.ev P Γ N fuel c S Dl.nil with
  | none => rw [he] at h0; cases h0
  | some t =>
    rw [he] at h0 hb hn
    simp only [wayO] at h0 hb hn ⊢
    cases hf : fol p S t with
    | none => rw [hf] at h0; cases h0
    | some w =>
      rw [hf] at hb hn
      obtain ⟨h1, h2⟩ := fol_spec p S t w hf hb hn
      have := Run.ev hΓ hmo he h1
      rw [h2] at this
      exact this
end

/-! ### To say less of a state -/
theorem V_bad {ρ : Rho} (v : Value) : V ρ .bad v := by unfold V; trivial

/-- Rows of one content. -/
structure VcLe (u v : Vc) : Prop where
  sh : v.sh = u.sh
  n : v.n.val ≤ u.n.val
  wr : v.wr = true → u.wr = true
  at_ : ∀ k o c, k < v.n.val → nthC o v.sh = some c → v.mkA k o c = u.mkA k o c

theorem mem_of {M : Addr → Prop} {w0 : World} {ρ : Rho} {w : World} {S S' : St} (h : Mem M w0 ρ S w) (hl : S'.hp.length = S.hp.length) (hcell : ∀ i o x, ¬ S'.cell i o = some x)
    (hvec : ∀ i v, S'.vec i = some v → ∃ u, S.vec i = some u ∧ VcLe u v) (hhv : ∀ i o, hlookL i o S'.hvs = none) (hvv : ∀ i x, vlookL i S'.vvs = some x → i < S'.hp.length) : Mem M w0 ρ S' w := by
  have hwr : ∀ i, S'.wrB i = true → S.wrB i = true := fun i hw => by
    rcases wrB_iff.1 hw with ⟨o, x, hx, _⟩ | ⟨v, hv, hw⟩
    · exact (hcell i o x hx).elim
    · obtain ⟨u, hu, k⟩ := hvec i v hv
      exact wrB_iff.2 (Or.inr ⟨u, hu, k.wr hw⟩)
  have hlv : ∀ i, S'.live i = true → S.live i = true := fun i hw => by
    rcases live_iff.1 hw with ⟨x, hx⟩ | ⟨v, c, sh, hv, hs⟩
    · exact (hcell i 0 x hx).elim
    · obtain ⟨u, hu, k⟩ := hvec i v hv
      exact live_iff.2 (Or.inr ⟨u, c, sh, hu, by rw [← k.sh]; exact hs⟩)
  refine ⟨⟨fun i o x hx => (hcell i o x hx).elim, fun i vc r b k o c hx hr hk hc => ?_, fun i o x r b hx => (hcell i o x hx).elim, fun i vc r b q hx hw hr hq => ?_, fun i vc r b hx hw hr => ?_, fun i j r b b' hij hw hr hr' hj => h.hp.dis i j r b b' hij (hwr i hw) hr hr' (hlv j hj), fun i p hp => by rw [hl]; exact h.hp.dom i p hp, fun i hk => by rw [hl]; exact h.hp.kdm i hk, fun i o x hx => by (rw [hhv] at hx; cases hx), hvv, h.hp.lt⟩, h.fr, ⟨fun i o x r b hx => (hcell i o x hx).elim, fun i vc r b q hx hw hr hq => ?_⟩⟩
  · obtain ⟨u, hu, k1⟩ := hvec i vc hx
    rw [k1.at_ k o c hk hc, k1.sh]
    have hn := k1.n
    exact h.hp.vcell i u r b k o c hu hr (by omega) (by rw [← k1.sh]; exact hc)
  · obtain ⟨u, hu, k1⟩ := hvec i vc hx
    rw [k1.sh] at hq
    exact h.hp.vfrz i u r b q hu (k1.wr hw) hr hq
  · obtain ⟨u, hu, k1⟩ := hvec i vc hx
    have := h.hp.vcap i u r b hu (k1.wr hw) hr
    have hn := k1.n
    omega
  · obtain ⟨u, hu, k1⟩ := hvec i vc hx
    rw [k1.sh] at hq
    exact h.own.vec i u r b q hu (k1.wr hw) hr hq

theorem wk_of {N : Nat} {S S' : St} (hl : S'.hp.length = S.hp.length) (hget : ∀ t, S'.get t = .bad ∨ ∀ (ρ : Rho) (u : Value), V ρ (S.get t) u → V ρ (S'.get t) u) (hcell : ∀ i o x, ¬ S'.cell i o = some x)
    (hvec : ∀ i v, S'.vec i = some v → ∃ u, S.vec i = some u ∧ VcLe u v) (hd : S'.dfs = S.dfs) (hhv : ∀ i o, hlookL i o S'.hvs = none) (hvv : ∀ i x, vlookL i S'.vvs = some x → i < S'.hp.length) : Wk N S S' := by
  intro M w0 ρ a w h
  refine ⟨fun t => ?_, h.sz, by rw [hd]; exact h.df, mem_of h.mem hl hcell hvec hhv hvv⟩
  rcases hget t with hb | hv
  · rw [hb]; exact V_bad _
  · exact hv ρ _ (h.fr t)

/-- A state of slots and rows as they are now. -/
def rwB : List Vc → List Blk
  | [] => []
  | v :: r => ⟨[], false, some v⟩ :: rwB r
def stR (fr : List AVal) (rows : List Vc) : St := ⟨fr, [], rwB rows, [], [], []⟩

theorem rwB_len : ∀ l : List Vc, (rwB l).length = l.length
  | [] => rfl
  | v :: l => by simp [rwB, rwB_len l]
theorem nthB_rw : ∀ (vs : List Vc) (j : Nat), nthB j (rwB vs) = match vs[j]? with | some v => ⟨[], false, some v⟩ | none => ⟨[], false, none⟩
  | [], j => by cases j <;> rfl
  | v :: vs, 0 => rfl
  | v :: vs, j + 1 => by simpa [rwB, nthB] using nthB_rw vs j
theorem stR_cell {fr : List AVal} {rows : List Vc} (i o : Nat) (x : AVal) : ¬ (stR fr rows).cell i o = some x := fun h => by
  have := cell_off h
  unfold St.blk stR at this
  simp only [nthB_rw] at this
  cases hv : rows[i]? with
  | none => rw [hv] at this; simp at this
  | some v => rw [hv] at this; simp at this
theorem stR_vec {fr : List AVal} {rows : List Vc} {i : Nat} {v : Vc} (h : (stR fr rows).vec i = some v) : rows[i]? = some v := by
  unfold St.vec St.blk stR at h
  simp only [nthB_rw] at h
  cases hv : rows[i]? with
  | none => rw [hv] at h; simp at h
  | some u => rw [hv] at h; simpa [vlookL] using h

def GetEq (S : St) : Nat → List AVal → Prop
  | _, [] => True
  | t, x :: r => (x = .bad ∨ ∀ (ρ : Rho) (u : Value), V ρ (S.get t) u → V ρ x u) ∧ GetEq S (t + 1) r
def VecsLe (S : St) : Nat → List Vc → Prop
  | _, [] => True
  | i, v :: r => (∃ u, S.vec i = some u ∧ VcLe u v) ∧ VecsLe S (i + 1) r

theorem ge_eq {S : St} {t : Nat} {x : AVal} (h : S.get t = x) (ρ : Rho) (u : Value) (hu : V ρ (S.get t) u) : V ρ x u := by rw [← h]; exact hu
theorem ge_int {S : St} {t : Nat} {k : IntKind} {n : Int} (h : S.get t = .int k n) (ρ : Rho) (u : Value) (hu : V ρ (S.get t) u) : V ρ (.sint k n) u := by rw [h] at hu; unfold V at hu ⊢; exact hu
theorem ge_bool {S : St} {t : Nat} {b : Bool} (h : S.get t = .bool b) (ρ : Rho) (u : Value) (hu : V ρ (S.get t) u) : V ρ (.sbool b) u := by rw [h] at hu; unfold V at hu ⊢; exact hu
theorem getEq_at {S : St} : ∀ (fr : List AVal) (t k : Nat), GetEq S t fr → nth k fr = .bad ∨ ∀ (ρ : Rho) (u : Value), V ρ (S.get (t + k)) u → V ρ (nth k fr) u
  | [], t, k, _ => Or.inl (by cases k <;> rfl)
  | x :: r, t, 0, h => h.1
  | x :: r, t, k + 1, h => by
    have := getEq_at r (t + 1) k h.2
    have e : t + (k + 1) = t + 1 + k := by omega
    rw [e]; exact this
theorem vecsLe_at {S : St} : ∀ (rows : List Vc) (i k : Nat) (v : Vc), VecsLe S i rows → rows[k]? = some v → ∃ u, S.vec (i + k) = some u ∧ VcLe u v
  | [], i, k, v, _, h => by simp at h
  | x :: r, i, 0, v, h, hk => by simp at hk; subst hk; exact h.1
  | x :: r, i, k + 1, v, h, hk => by
    have := vecsLe_at r (i + 1) k v h.2 (by simpa using hk)
    have e : i + (k + 1) = i + 1 + k := by omega
    rw [e]; exact this

theorem wk_row {N : Nat} {S : St} {fr : List AVal} {rows : List Vc} (hl : S.hp.length = rows.length) (hg : GetEq S 0 fr) (hv : VecsLe S 0 rows) (hd : S.dfs = []) : Wk N S (stR fr rows) := by
  refine wk_of (by show (rwB rows).length = _; rw [rwB_len, hl]) (fun t => ?_) stR_cell (fun i v h => ?_) (by rw [hd]; rfl) (fun i o => rfl) (fun i x h => by simp [stR, vlookL] at h)
  · have := getEq_at fr 0 t hg
    rw [Nat.zero_add] at this
    exact this
  · have := vecsLe_at rows 0 i v hv (stR_vec h)
    rw [Nat.zero_add] at this
    exact this

theorem VcLe.refl (v : Vc) : VcLe v v := ⟨rfl, Nat.le_refl _, fun h => h, fun _ _ _ _ _ => rfl⟩

section
variable {P : Program} {N : Nat}
/-- One way, to a state of slots and rows. -/
theorem Run.to {Γ : List (Nat × Ctr)} (hΓ : Good P Γ) (hmo : P.follows .mixedOrders = true) (fuel : Nat) {c : Code} {S : St} (p : List Bool) {e : Ex} {fr : List AVal} {rows : List Vc} (h0 : isWay (wayO p S (Ab.ev P Γ N fuel c S Dl.nil)) = true)
    (hb : wBs (wayO p S (Ab.ev P Γ N fuel c S Dl.nil)) = p) (hn : wNd (wayO p S (Ab.ev P Γ N fuel c S Dl.nil)) = true) (he : wE (wayO p S (Ab.ev P Γ N fuel c S Dl.nil)) = e)
    (hl : (wS (wayO p S (Ab.ev P Γ N fuel c S Dl.nil))).hp.length = rows.length) (hg : GetEq (wS (wayO p S (Ab.ev P Γ N fuel c S Dl.nil))) 0 fr) (hv : VecsLe (wS (wayO p S (Ab.ev P Γ N fuel c S Dl.nil))) 0 rows)
    (hd : (wS (wayO p S (Ab.ev P Γ N fuel c S Dl.nil))).dfs = []) : Run P N c S (e, stR fr rows) := by
  have := Run.way hΓ hmo p h0 hb hn
  rw [he] at this
  exact this.weak (Wk.refl S) (Nat.le_refl _) rfl (wk_row hl hg hv hd)
end

theorem wrap_next {j n : Nat} (h : j < n) (hn : n ≤ 140737488355328) : IntKind.i64.wrap (Int.ofNat j + 1) = Int.ofNat (j + 1) := by
  have e : (Int.ofNat j + 1 : Int) = ((j + 1 : Nat) : Int) := by simp
  rw [e]
  exact IntWalk.i64_in _ (by omega)
end Go.Ab

namespace Go.Ab
open Go Go.RowKit
set_option linter.unusedVariables false
/-! ### Rows that are copied -/
def cA : Code → Code | .seq a _ => a | _ => .skip
def cB : Code → Code | .seq _ b => b | _ => .skip
def cK : Code → Code | .block _ c => c | _ => .skip
def cL : Code → Code | .loop c => c | _ => .skip
def bodyOf (fn : Func) : Code := match fn.body with | some c => c | none => .skip

theorem dec_lt {j n : Nat} (h : j < n) : decide (Int.ofNat j < Int.ofNat n) = true := decide_eq_true (by show (j : Int) < (n : Int); omega)
theorem dec_irr {n : Nat} : decide (Int.ofNat n < Int.ofNat n) = false := decide_eq_false (by show ¬ (n : Int) < (n : Int); omega)
def roV1 (v : Vc) : Vc := ⟨v.sh, v.n, v.fd, v.gd, v.bd, false⟩
/-- So many elements are copied. -/
def rowJ (sh : List CK) (n a : Nat) (v : Vc) (z : List AVal) (j : Nat) : Vc :=
  ⟨sh, .sym n, fun k o => cond (Nat.ble (k + 1) j) (v.fd (Nat.add a k) o) (wF (nth o z)), fun k o => cond (Nat.ble (k + 1) j) (v.gd (Nat.add a k) o) (wG (nth o z)), fun k o => cond (Nat.ble (k + 1) j) (v.bd (Nat.add a k) o) (wB (nth o z)), true⟩
/-- A copy. -/
def cpyR (sh : List CK) (n : Num) (a : Nat) (v : Vc) : Vc :=
  ⟨sh, n, fun k o => v.fd (Nat.add a k) o, fun k o => v.gd (Nat.add a k) o, fun k o => v.bd (Nat.add a k) o, true⟩

theorem shift_cpy (sh : List CK) (n : Num) (a : Nat) (v : Vc) : shiftV (cpyR sh n a v) 0 n = cpyR sh n a v := by
  simp [shiftV, cpyR]

theorem rowJ_zero (sh : List CK) (n a : Nat) (v : Vc) (z : List AVal) : VcLe (Vc.all sh (.sym n) z) (rowJ sh n a v z 0) :=
  ⟨rfl, Nat.le_refl _, fun h => h, fun k o c _ _ => by cases c <;> rfl⟩

theorem rowJ_all (sh : List CK) (n a : Nat) (v : Vc) (z : List AVal) : VcLe (rowJ sh n a v z n) (cpyR sh (.sym n) a v) :=
  ⟨rfl, Nat.le_refl _, fun h => h, fun k o c hk _ => by
    have hk : k < n := hk
    have e : Nat.ble (k + 1) n = true := Nat.ble_eq_true_of_le (by omega)
    cases c <;> simp only [Vc.mkA, rowJ, cpyR, e, cond_true]⟩

theorem nth_encC (fd : Nat → Nat) (gd : Nat → Int) (bd : Nat → Bool) : ∀ (sh : List CK) (o q : Nat) (c : CK), nthC q sh = some c → nth q (encC fd gd bd o sh) = match c with | .f32 => .flt .f32 (fd (o + q)) | .int t => .sint t (gd (o + q)) | .bool => .sbool (bd (o + q))
  | [], o, q, c, h => by cases q <;> cases h
  | d :: sh, o, 0, c, h => by
    simp only [nthC, Option.some.injEq] at h
    subst h
    cases d <;> rfl
  | d :: sh, o, q + 1, c, h => by
    have := nth_encC fd gd bd sh (o + 1) q c (by simpa [nthC] using h)
    have e : o + 1 + q = o + (q + 1) := by omega
    rw [e] at this
    cases d <;> exact this

theorem lenL_encC (fd : Nat → Nat) (gd : Nat → Int) (bd : Nat → Bool) : ∀ (sh : List CK) (o : Nat), lenL (encC fd gd bd o sh) = lenL sh
  | [], o => rfl
  | d :: sh, o => by cases d <;> exact congrArg Nat.succ (lenL_encC fd gd bd sh (o + 1))

theorem rowJ_next (sh : List CK) (n a : Nat) (v : Vc) (z : List AVal) (j : Nat) :
    VcLe ((rowJ sh n a v z j).put (Nat.add 0 j) 0 (encC (v.fd (Nat.add a j)) (v.gd (Nat.add a j)) (v.bd (Nat.add a j)) 0 sh)) (rowJ sh n a v z (j + 1)) := by
  refine ⟨rfl, Nat.le_refl _, fun h => h, fun k o c hk hc => ?_⟩
  have ho : o < lenL sh := nthC_lt hc
  rw [put_mkA, lenL_encC]
  have e0 : Nat.add 0 j = j := Nat.zero_add j
  rw [e0]
  by_cases hkj : k = j
  · subst hkj
    rw [if_pos (inSeg_true.2 ⟨rfl, Nat.zero_le _, by omega⟩), Nat.sub_zero, nth_encC _ _ _ sh 0 o c hc]
    have e : Nat.ble (k + 1) (k + 1) = true := Nat.ble_eq_true_of_le (Nat.le_refl _)
    cases c <;> simp only [Vc.mkA, rowJ, e, cond_true, Nat.zero_add] <;> rfl
  · rw [if_neg (fun h => hkj (inSeg_true.1 h).1)]
    have e : Nat.ble (k + 1) j = Nat.ble (k + 1) (j + 1) := by
      cases h1 : Nat.ble (k + 1) j <;> cases h2 : Nat.ble (k + 1) (j + 1) <;> first | rfl | skip
      · have := Nat.le_of_ble_eq_true h2
        have h3 : ¬ (k + 1 ≤ j) := fun h => by rw [Nat.ble_eq_true_of_le h] at h1; cases h1
        omega
      · have := Nat.le_of_ble_eq_true h1
        have h3 : ¬ (k + 1 ≤ j + 1) := fun h => by rw [Nat.ble_eq_true_of_le h] at h2; cases h2
        omega
    cases c <;> simp only [Vc.mkA, rowJ, e]

/-- The contract of a copy. -/
def cpyC (sh : List CK) (by_ : Nat) : Ctr := ⟨fun args S => match args with
  | [.vec i e a n] => match S.vec i with
    | some v => match Nat.beq e (lenL sh) && eqSh sh v.sh with
      | true => some ⟨.vec S.hp.length (lenL sh) 0 n, [], [], [⟨[], false, some (cpyR sh n a v)⟩], needN n (.lit 0) by_ && Nat.ble (Nat.add a n.val) v.n.val, none⟩
      | false => none
    | none => none
  | _ => none, none⟩

section
variable {P : Program}
/-- How many is a number that is not told. -/
theorem onRows_sym {f : FuncId} {i e a : Nat} {n : Num} {v : Vc} {sh : List CK} {u : Vc} (hn : n.ok) (h : OnRows P f [⟨i, e, a, .sym n.val⟩] [] [v] ⟨.vec 1 e 0 (.sym n.val), [], [], [⟨[], false, some (cpyR sh (.sym n.val) a u)⟩], true, none⟩) :
    OnRows P f [⟨i, e, a, n⟩] [] [v] ⟨.vec 1 e 0 n, [], [], [⟨[], false, some (cpyR sh n a u)⟩], true, none⟩ := by
  intro M w0 ρ w vs hM hv
  have hv' : VL ρ (vws 0 [⟨i, e, a, .sym n.val⟩] ++ []) vs := by
    have hv : VL ρ [.vec 0 e a n] vs := hv
    show VL ρ [.vec 0 e a (.sym n.val)] vs
    unfold VL at hv ⊢
    obtain ⟨x, vs', rfl, h1, h2⟩ := hv
    refine ⟨x, vs', rfl, ?_, h2⟩
    unfold V at h1 ⊢
    obtain ⟨_, k2, base, c, k3, k4⟩ := h1
    exact ⟨trivial, k2, base, c, k3, k4⟩
  refine (h M w0 ρ w vs hM hv').mono ?_
  intro en w' hr
  cases en with
  | outgrown => exact hr.elim
  | panicked ch => obtain ⟨v, u, hp, _⟩ := hr; cases hp
  | returned x =>
    obtain ⟨_, ρ', hx, hu, hm'⟩ := hr
    refine ⟨fun b v h => (by cases h), ρ', hx, ?_, ?_⟩
    · simp only at hu ⊢
      unfold V at hu ⊢
      obtain ⟨_, k2, base, c, k3, k4⟩ := hu
      exact ⟨hn, k2, base, c, k3, k4⟩
    · have hblk : ∀ (m : Num) (i : Nat) (x : Vc), ((viewS [v]).put [] [] [⟨[], false, some (cpyR sh m a u)⟩]).vec i = some x → (i = 0 ∧ x = roV1 v) ∨ (i = 1 ∧ x = cpyR sh m a u) := by
        intro m i x hx
        match i with
        | 0 => left; exact ⟨rfl, by simpa [St.vec, St.blk, St.put, St.ext, viewS, roBs, roB, nthB, vlookL, vlook1, roV1] using hx.symm⟩
        | 1 => right; exact ⟨rfl, by simpa [St.vec, St.blk, St.put, St.ext, viewS, roBs, roB, nthB, vlookL, vlook1] using hx.symm⟩
        | i + 2 => simp [St.vec, St.blk, St.put, St.ext, viewS, roBs, roB, nthB] at hx
      have hcell : ∀ (m : Num) (i o : Nat) (x : AVal), ¬ ((viewS [v]).put [] [] [⟨[], false, some (cpyR sh m a u)⟩]).cell i o = some x := by
        intro m i o x hx
        have := cell_off hx
        match i with
        | 0 => simp [St.blk, St.put, St.ext, viewS, roBs, roB, nthB] at this
        | 1 => simp [St.blk, St.put, St.ext, viewS, roBs, roB, nthB] at this
        | i + 2 => simp [St.blk, St.put, St.ext, viewS, roBs, roB, nthB] at this
      refine mem_of hm' rfl (hcell n) (fun i x hx => ?_) (fun i o => rfl) (fun i x hx => by simp [St.put, St.ext, viewS, vlookL, vlook1] at hx)
      rcases hblk n i x hx with ⟨rfl, rfl⟩ | ⟨rfl, rfl⟩
      · exact ⟨roV1 v, rfl, VcLe.refl _⟩
      · exact ⟨cpyR sh (.sym n.val) a u, rfl, ⟨rfl, Nat.le_refl _, fun h => h, fun k o c _ _ => by cases c <;> rfl⟩⟩

/-- A function that copies. -/
theorem sat_cpy {f : FuncId} {sh : List CK} {by_ : Nat} (hcall : ∀ (args : Array Value) (w : World), (callFunc f args).run P w = .ok (.enter f args) w) (hsh : 1 ≤ lenL sh)
    (h : ∀ (i a n : Nat) (v : Vc), v.sh = sh → a + n ≤ v.n.val → n * by_ ≤ 140737488355328 → n ≤ 140737488355328 → OnRows P f [⟨i, lenL sh, a, .sym n⟩] [] [v] ⟨.vec 1 (lenL sh) 0 (.sym n), [], [], [⟨[], false, some (cpyR sh (.sym n) a v)⟩], true, none⟩) : Sat P f (cpyC sh by_) :=
  sat_new hcall rfl (fun args S out hfn hnd hv => by
    simp only [cpyC] at hfn
    split at hfn
    · rename_i i e a n
      split at hfn
      · rename_i v hvec
        split at hfn
        · rename_i hb
          cases hfn
          simp only [Bool.and_eq_true] at hb hnd
          have he := Nat.eq_of_beq_eq_true hb.1
          have hs := (eqSh_eq hb.2).symm
          obtain ⟨h1, h2⟩ := hnd
          unfold needN at h1
          simp only [Bool.and_eq_true] at h1
          have n1 := Nat.le_of_ble_eq_true h1.1
          have n2 := Nat.le_of_ble_eq_true h1.2
          have n3 := Nat.le_of_ble_eq_true h2
          have ez : (Num.lit 0).val = 0 := rfl
          rw [ez] at n1 n2
          simp only [Nat.add_eq, Nat.add_zero, Nat.mul_eq] at n1 n2 n3
          subst he
          have hok : n.ok := by
            obtain ⟨ρ, vs, hv⟩ := hv
            unfold VL at hv
            obtain ⟨x, vs', rfl, k1, _⟩ := hv
            unfold V at k1
            exact k1.1
          have hand : (needN n (.lit 0) by_ && Nat.ble (Nat.add a n.val) v.n.val) = true := by
            unfold needN
            simp only [Bool.and_eq_true]
            exact ⟨⟨h1.1, h1.2⟩, h2⟩
          rw [hand]
          exact ⟨[⟨i, lenL sh, a, n⟩], [], [v], lenL sh, n, cpyR sh n a v, rfl, rfl, by simp [rowsAt, hvec], rfl, hsh, onRows_sym hok (h i a n.val v hs n3 n1 n2), rfl⟩
        · cases hfn
      · cases hfn
    · cases hfn)
end
end Go.Ab

namespace Go.Ab
open Go Go.RowKit
set_option linter.unusedVariables false
/-! ### Rows that are compared -/
def allB : Nat → (Nat → Bool) → Bool
  | 0, _ => true
  | n + 1, p => cond (allB n p) (p n) false

theorem allB_true {p : Nat → Bool} : ∀ {n : Nat}, allB n p = true → ∀ j, j < n → p j = true
  | 0, _, j, h => by omega
  | n + 1, h, j, hj => by
    obtain ⟨h1, h2⟩ := cond_and h
    by_cases e : j = n
    · subst e; exact h2
    · exact allB_true h1 j (by omega)

theorem allB_false {p : Nat → Bool} : ∀ {n : Nat}, allB n p = false → ∃ j, j < n ∧ p j = false ∧ ∀ k, k < j → p k = true
  | 0, h => by cases h
  | n + 1, h => by
    cases h1 : allB n p with
    | false =>
      obtain ⟨j, a, b, c⟩ := allB_false h1
      exact ⟨j, by omega, b, c⟩
    | true =>
      refine ⟨n, by omega, ?_, allB_true h1⟩
      unfold allB at h
      rw [h1] at h
      exact h

theorem allB_all {p : Nat → Bool} : ∀ {n : Nat}, (∀ j, j < n → p j = true) → allB n p = true
  | 0, _ => rfl
  | n + 1, h => by
    unfold allB
    rw [allB_all (fun j hj => h j (by omega)), h n (by omega)]; rfl

abbrev ElQ := (Nat → Nat) → (Nat → Int) → (Nat → Nat) → (Nat → Int) → Bool

noncomputable def elAt (el : ElQ) (v v' : Vc) (a a' j : Nat) : Bool := el (v.fd (Nat.add a j)) (v.gd (Nat.add a j)) (v'.fd (Nat.add a' j)) (v'.gd (Nat.add a' j))
/-- Two rows alike. -/
noncomputable def eqRows (el : ElQ) (v v' : Vc) (a a' n n' : Nat) : Bool := cond (Int.ofNat n != Int.ofNat n') false (allB n (fun j => elAt el v v' a a' j))

theorem eqRows_self {el : ElQ} (h : ∀ f g, el f g f g = true) (v v' : Vc) (a a' n : Nat) (hv : ∀ j, j < n → v.fd (Nat.add a j) = v'.fd (Nat.add a' j) ∧ v.gd (Nat.add a j) = v'.gd (Nat.add a' j)) : eqRows el v v' a a' n n = true := by
  unfold eqRows
  have : (Int.ofNat n != Int.ofNat n) = false := by simp
  rw [this]
  refine allB_all (fun j hj => ?_)
  obtain ⟨h1, h2⟩ := hv j hj
  unfold elAt
  rw [h1, h2]; exact h _ _

/-- The contract of a comparison. -/
noncomputable def eqC (sh : List CK) (el : ElQ) : Ctr := ⟨fun args S => match args with
  | [.vec i e a n, .vec i' e' a' n'] => match S.vec i, S.vec i' with
    | some v, some v' => match Nat.beq e (lenL sh) && (Nat.beq e' (lenL sh) && (eqSh sh v.sh && eqSh sh v'.sh)) with
      | true => some ⟨.sbool (eqRows el v v' a a' n.val n'.val), [], [], [], Nat.ble n.val 140737488355328 && (Nat.ble (Nat.add a n.val) v.n.val && Nat.ble (Nat.add a' n'.val) v'.n.val), none⟩
      | false => none
    | _, _ => none
  | _ => none, none⟩

section
variable {P : Program}
theorem onRows_sym2 {f : FuncId} {i e a i' e' a' : Nat} {n n' : Num} {vcs : List Vc} {out : Out} (h : OnRows P f [⟨i, e, a, .sym n.val⟩, ⟨i', e', a', .sym n'.val⟩] [] vcs out) : OnRows P f [⟨i, e, a, n⟩, ⟨i', e', a', n'⟩] [] vcs out := by
  intro M w0 ρ w vs hM hv
  refine h M w0 ρ w vs hM ?_
  have hv : VL ρ [.vec 0 e a n, .vec 1 e' a' n'] vs := hv
  show VL ρ [.vec 0 e a (.sym n.val), .vec 1 e' a' (.sym n'.val)] vs
  unfold VL at hv ⊢
  obtain ⟨x, vs', rfl, h1, h2⟩ := hv
  unfold VL at h2 ⊢
  obtain ⟨y, vs', rfl, h2, h3⟩ := h2
  refine ⟨x, _, rfl, ?_, y, vs', rfl, ?_, h3⟩
  · unfold V at h1 ⊢
    obtain ⟨_, k2, base, c, k3, k4⟩ := h1
    exact ⟨trivial, k2, base, c, k3, k4⟩
  · unfold V at h2 ⊢
    obtain ⟨_, k2, base, c, k3, k4⟩ := h2
    exact ⟨trivial, k2, base, c, k3, k4⟩

/-- A function that compares. -/
theorem sat_eq {f : FuncId} {sh : List CK} {el : ElQ} (hcall : ∀ (args : Array Value) (w : World), (callFunc f args).run P w = .ok (.enter f args) w)
    (h : ∀ (i i' a a' n n' : Nat) (v v' : Vc), v.sh = sh → v'.sh = sh → a + n ≤ v.n.val → a' + n' ≤ v'.n.val → n ≤ 140737488355328 → OnRows P f [⟨i, lenL sh, a, .sym n⟩, ⟨i', lenL sh, a', .sym n'⟩] [] [v, v'] ⟨.sbool (eqRows el v v' a a' n n'), [], [], [], true, none⟩) : Sat P f (eqC sh el) :=
  sat_rd hcall rfl (fun args S out hfn hnd hv => by
    simp only [eqC] at hfn
    split at hfn
    · rename_i i e a n i' e' a' n'
      split at hfn
      · rename_i v v' hvec hvec'
        split at hfn
        · rename_i hb
          cases hfn
          simp only [Bool.and_eq_true] at hb hnd
          obtain ⟨b1, b2, b3, b4⟩ := hb
          have he := Nat.eq_of_beq_eq_true b1
          have he' := Nat.eq_of_beq_eq_true b2
          have hs := (eqSh_eq b3).symm
          have hs' := (eqSh_eq b4).symm
          obtain ⟨h1, h2, h3⟩ := hnd
          have n1 := Nat.le_of_ble_eq_true h1
          have n2 := Nat.le_of_ble_eq_true h2
          have n3 := Nat.le_of_ble_eq_true h3
          simp only [Nat.add_eq] at n1 n2 n3
          subst he
          subst he'
          have hand : (Nat.ble n.val 140737488355328 && (Nat.ble (Nat.add a n.val) v.n.val && Nat.ble (Nat.add a' n'.val) v'.n.val)) = true := by
            simp only [Bool.and_eq_true]
            exact ⟨h1, h2, h3⟩
          rw [hand]
          exact ⟨[⟨i, lenL sh, a, n⟩, ⟨i', lenL sh, a', n'⟩], [], [v, v'], .sbool (eqRows el v v' a a' n.val n'.val), rfl, rfl, by simp [rowsAt, hvec, hvec'], onRows_sym2 (h i i' a a' n.val n'.val v v' hs hs' n2 n3 n1), rfl, rfl, fun ρ u hu => hu⟩
        · cases hfn
      · cases hfn
    · cases hfn)
end
end Go.Ab

namespace Go.Ab
open Go Go.RowKit
set_option linter.unusedVariables false
/-! ### What a piece of code has made is forgotten -/
def GetEqU (S : St) (n : Nat) : Nat → List AVal → Prop
  | _, [] => True
  | t, x :: r => (x = .bad ∨ (x.under n = true ∧ ∀ (ρ : Rho) (u : Value), V ρ (S.get t) u → V ρ x u)) ∧ GetEqU S n (t + 1) r

theorem getEqU_at {S : St} {n : Nat} : ∀ (fr : List AVal) (t k : Nat), GetEqU S n t fr → nth k fr = .bad ∨ ((nth k fr).under n = true ∧ ∀ (ρ : Rho) (u : Value), V ρ (S.get (t + k)) u → V ρ (nth k fr) u)
  | [], t, k, _ => Or.inl (by cases k <;> rfl)
  | x :: r, t, 0, h => h.1
  | x :: r, t, k + 1, h => by
    have := getEqU_at r (t + 1) k h.2
    have e : t + (k + 1) = t + 1 + k := by omega
    rw [e]; exact this

theorem rel_cut {N : Nat} {M : Addr → Prop} {w0 : World} {ρ : Rho} {S : St} {a : Act} {w : World} {fr : List AVal} {rows : List Vc} (h : Rel N M w0 ρ S a w) (hl : rows.length ≤ S.hp.length) (hg : GetEqU S rows.length 0 fr) (hv : VecsLe S 0 rows) (hd : S.dfs = []) :
    Rel N M w0 (cutR rows.length ρ) (stR fr rows) a w := by
  have hag := cutR_agr rows.length ρ
  have hold : ∀ {i p}, cutR rows.length ρ i = some p → i < rows.length ∧ ρ i = some p := fun {i p} hp => cutR_old hp
  have hcap : ∀ i, (cutR rows.length ρ).cap i = ρ.cap i := fun i => rfl
  have vec : ∀ i v, (stR fr rows).vec i = some v → ∃ u, S.vec i = some u ∧ VcLe u v := fun i v hx => by
    have := vecsLe_at rows 0 i v hv (stR_vec hx)
    rw [Nat.zero_add] at this
    exact this
  have hwr : ∀ i, (stR fr rows).wrB i = true → S.wrB i = true := fun i hw => by
    rcases wrB_iff.1 hw with ⟨o, x, hx, _⟩ | ⟨v, hv, hw⟩
    · exact (stR_cell i o x hx).elim
    · obtain ⟨u, hu, k⟩ := vec i v hv
      exact wrB_iff.2 (Or.inr ⟨u, hu, k.wr hw⟩)
  have hlv : ∀ i, (stR fr rows).live i = true → S.live i = true := fun i hw => by
    rcases live_iff.1 hw with ⟨x, hx⟩ | ⟨v, c, sh, hv, hs⟩
    · exact (stR_cell i 0 x hx).elim
    · obtain ⟨u, hu, k⟩ := vec i v hv
      exact live_iff.2 (Or.inr ⟨u, c, sh, hu, by rw [← k.sh]; exact hs⟩)
  have hlen : (stR fr rows).hp.length = rows.length := rwB_len rows
  refine ⟨fun t => ?_, h.sz, ?_, ⟨⟨fun i o x hx => (stR_cell i o x hx).elim, fun i vc r b k o c hx hr hk hc => ?_, fun i o x r b hx => (stR_cell i o x hx).elim, fun i vc r b q hx hw hr hq => ?_, fun i vc r b hx hw hr => ?_, fun i j r b b' hij hw hr hr' hj => h.mem.hp.dis i j r b b' hij (hwr i hw) (hold hr).2 (hold hr').2 (hlv j hj), fun i p hp => by rw [hlen]; exact (hold hp).1, fun i hk => ?_, fun i o x hx => by (simp [stR, hlookL] at hx), fun i x hx => by (simp [stR, vlookL] at hx), fun i r b hr => h.mem.hp.lt i r b (hold hr).2⟩, h.mem.fr, ⟨fun i o x r b hx => (stR_cell i o x hx).elim, fun i vc r b q hx hw hr hq => ?_⟩⟩⟩
  · have := getEqU_at fr 0 t hg
    rw [Nat.zero_add] at this
    show V _ (nth t fr) _
    rcases this with hb | ⟨hu, hv⟩
    · rw [hb]; exact V_bad _
    · exact V_under hag _ _ hu (hv ρ _ (h.fr t))
  · have := h.df
    rw [hd] at this
    exact this
  · obtain ⟨u, hu, k1⟩ := vec i vc hx
    rw [k1.at_ k o c hk hc, k1.sh]
    have hn := k1.n
    obtain ⟨x, g1, g2⟩ := h.mem.hp.vcell i u r b k o c hu (hold hr).2 (by omega) (by rw [← k1.sh]; exact hc)
    exact ⟨x, g1, V_flat _ _ (by cases c <;> rfl) g2⟩
  · obtain ⟨u, hu, k1⟩ := vec i vc hx
    rw [k1.sh] at hq
    exact h.mem.hp.vfrz i u r b q hu (k1.wr hw) (hold hr).2 hq
  · obtain ⟨u, hu, k1⟩ := vec i vc hx
    have := h.mem.hp.vcap i u r b hu (k1.wr hw) (hold hr).2
    have hn := k1.n
    show vc.n.val ≤ ρ.cap i
    omega
  · rw [hlen]
    simp only [cutR, Bool.and_eq_true, decide_eq_true_eq] at hk
    exact hk.1
  · obtain ⟨u, hu, k1⟩ := vec i vc hx
    rw [k1.sh] at hq
    exact h.mem.own.vec i u r b q hu (k1.wr hw) (hold hr).2 hq

section
variable {P : Program} {N : Nat}
/-- One way, to a state of slots and rows, what was made on it forgotten. -/
theorem Run.toC {Γ : List (Nat × Ctr)} (hΓ : Good P Γ) (hmo : P.follows .mixedOrders = true) (fuel : Nat) {c : Code} {S : St} (p : List Bool) {e : Ex} {fr : List AVal} {rows : List Vc} (he : ∀ v, e ≠ .panic v) (hS : S.hp.length ≤ rows.length) (h0 : isWay (wayO p S (Ab.ev P Γ N fuel c S Dl.nil)) = true)
    (hb : wBs (wayO p S (Ab.ev P Γ N fuel c S Dl.nil)) = p) (hn : wNd (wayO p S (Ab.ev P Γ N fuel c S Dl.nil)) = true) (hE : wE (wayO p S (Ab.ev P Γ N fuel c S Dl.nil)) = e)
    (hl : rows.length ≤ (wS (wayO p S (Ab.ev P Γ N fuel c S Dl.nil))).hp.length) (hg : GetEqU (wS (wayO p S (Ab.ev P Γ N fuel c S Dl.nil))) rows.length 0 fr) (hv : VecsLe (wS (wayO p S (Ab.ev P Γ N fuel c S Dl.nil))) 0 rows)
    (hd : (wS (wayO p S (Ab.ev P Γ N fuel c S Dl.nil))).dfs = []) : Run P N c S (e, stR fr rows) := by
  have hr := Run.way hΓ hmo p h0 hb hn
  rw [hE] at hr
  intro n0 hn0 M w0 ρ a w Q hR hQ
  refine hr n0 hn0 M w0 ρ a w Q hR (fun ρ' a' w' ex hext hx hr' => ?_)
  refine hQ (cutR rows.length ρ') a' w' ex ?_ ?_ (rel_cut hr' hl hg hv hd)
  · refine ⟨⟨fun i p hp => ?_, fun i hk => ?_⟩, fun i hi => ?_, fun i hi => ?_⟩
    · have := hR.mem.hp.dom i p hp
      obtain ⟨k1, k2⟩ := hext.1.at_ i p hp
      exact ⟨by simp only [cutR]; rw [if_pos (by omega)]; exact k1, k2⟩
    · have := hR.mem.hp.kdm i hk
      have k1 := hext.1.kn i hk
      simp only [cutR, Bool.and_eq_true, decide_eq_true_eq]
      exact ⟨by omega, k1⟩
    · simp only [cutR]; rw [if_pos (by omega)]; exact hext.2.1 i hi
    · have : decide (i < rows.length) = true := decide_eq_true (by omega)
      simp only [cutR, this, Bool.true_and]; exact hext.2.2 i hi
  · cases e with
    | panic v => exact (he v rfl).elim
    | _ => exact hx
end
end Go.Ab

namespace Go.Ab
open Go
set_option linter.unusedVariables false
/-! ### WHAT ROUNDING GIVES -/
theorem log2_scale {m : Nat} (k : Nat) (h : m ≠ 0) : (m * 2 ^ k).log2 = m.log2 + k := by
  have h1 : 2 ^ m.log2 ≤ m := Nat.log2_self_le h
  have h2 : m < 2 ^ (m.log2 + 1) := Nat.lt_log2_self
  have hk : 0 < 2 ^ k := Nat.two_pow_pos k
  have hne : m * 2 ^ k ≠ 0 := Nat.mul_ne_zero h (by omega)
  refine (Nat.log2_eq_iff hne).2 ⟨?_, ?_⟩
  · rw [Nat.pow_add]; exact Nat.mul_le_mul_right _ h1
  · have : m.log2 + k + 1 = m.log2 + 1 + k := by omega
    rw [this, Nat.pow_add]; exact Nat.mul_lt_mul_of_pos_right h2 hk

theorem cut_scale (s : Bool) {m : Nat} (k d : Nat) (h : m ≠ 0) : Ieee.Toward.even.cut s (m * 2 ^ k) (k + d) = Ieee.Toward.even.cut s m d := by
  have hk : 0 < 2 ^ k := Nat.two_pow_pos k
  unfold Ieee.Toward.cut
  have e : min (k + d) ((m * 2 ^ k).log2 + 2) = k + min d (m.log2 + 2) := by rw [log2_scale k h]; omega
  simp only [e, Nat.one_shiftLeft]
  have e1 : m * 2 ^ k / 2 ^ (k + min d (m.log2 + 2)) = m / 2 ^ min d (m.log2 + 2) := by
    rw [Nat.pow_add, Nat.mul_comm m, Nat.mul_div_mul_left _ _ hk]
  have e2 : m * 2 ^ k % 2 ^ (k + min d (m.log2 + 2)) = 2 ^ k * (m % 2 ^ min d (m.log2 + 2)) := by
    rw [Nat.pow_add, Nat.mul_comm m, Nat.mul_mod_mul_left]
  rw [e1, e2, Nat.pow_add]
  have e3 : decide (2 ^ k * 2 ^ min d (m.log2 + 2) < 2 * (2 ^ k * (m % 2 ^ min d (m.log2 + 2)))) = decide (2 ^ min d (m.log2 + 2) < 2 * (m % 2 ^ min d (m.log2 + 2))) := by
    rw [Nat.mul_left_comm 2]
    exact decide_eq_decide.2 (Nat.mul_lt_mul_left hk)
  have e4 : (2 ^ k * 2 ^ min d (m.log2 + 2) == 2 * (2 ^ k * (m % 2 ^ min d (m.log2 + 2)))) = (2 ^ min d (m.log2 + 2) == 2 * (m % 2 ^ min d (m.log2 + 2))) := by
    rw [Nat.mul_left_comm 2]
    have : (2 ^ k * 2 ^ min d (m.log2 + 2) = 2 ^ k * (2 * (m % 2 ^ min d (m.log2 + 2)))) ↔ (2 ^ min d (m.log2 + 2) = 2 * (m % 2 ^ min d (m.log2 + 2))) := Nat.mul_right_inj (by omega)
    rw [Bool.eq_iff_iff]; simp only [beq_iff_eq]; exact this
  simp only [e3, e4]

theorem cut_zero (s : Bool) (n : Nat) : Ieee.Toward.even.cut s n 0 = n := by
  unfold Ieee.Toward.cut
  simp [Nat.mod_one]

theorem cut_exact (s : Bool) {m : Nat} {k d : Nat} (h : m ≠ 0) (hd : d ≤ k) : Ieee.Toward.even.cut s (m * 2 ^ k) d = m * 2 ^ (k - d) := by
  have e : m * 2 ^ k = (m * 2 ^ (k - d)) * 2 ^ d := by
    rw [Nat.mul_assoc, ← Nat.pow_add]; congr 2; omega
  have hne : m * 2 ^ (k - d) ≠ 0 := Nat.mul_ne_zero h (by have := Nat.two_pow_pos (k - d); omega)
  have := cut_scale s d 0 hne
  rw [Nat.add_zero] at this
  rw [e, this, cut_zero]

/-- A number may be written with more digits. -/
theorem near_scale (f : Ieee.Format) (s : Bool) (m k : Nat) (e : Int) : f.nearest s (m * 2 ^ k) (e - k) = f.nearest s m e := by
  have hk : 0 < 2 ^ k := Nat.two_pow_pos k
  by_cases h : m = 0
  · subst h; simp [Ieee.Format.nearest]
  have hne : m * 2 ^ k ≠ 0 := Nat.mul_ne_zero h (by omega)
  unfold Ieee.Format.nearest
  rw [if_neg hne, if_neg h]
  have el : max (e - (k : Int) + ((m * 2 ^ k).log2 : Nat) - (f.fractionBits : Int)) f.leastPlace = max (e + (m.log2 : Nat) - (f.fractionBits : Int)) f.leastPlace := by
    rw [log2_scale k h]; congr 1; omega
  simp only [el]
  generalize max (e + (m.log2 : Nat) - (f.fractionBits : Int)) f.leastPlace = last
  have key : Ieee.Toward.even.cut s ((m * 2 ^ k) <<< (e - (k : Int) - last).toNat) (last - (e - (k : Int))).toNat = Ieee.Toward.even.cut s (m <<< (e - last).toNat) (last - e).toNat := by
    rcases Int.lt_or_le (e - last) 0 with h1 | h1
    · have a1 : (e - (k : Int) - last).toNat = 0 := by omega
      have a2 : (e - last).toNat = 0 := by omega
      have a3 : (last - (e - (k : Int))).toNat = k + (last - e).toNat := by omega
      rw [a1, a2, a3]
      simp only [Nat.shiftLeft_zero]
      exact cut_scale s k _ h
    · have a2 : (last - e).toNat = 0 := by omega
      rw [a2, cut_zero]
      rcases Int.lt_or_le (e - (k : Int) - last) 0 with h2 | h2
      · have a1 : (e - (k : Int) - last).toNat = 0 := by omega
        rw [a1, Nat.shiftLeft_zero, Nat.shiftLeft_eq, cut_exact s h (by omega)]
        congr 2; omega
      · have a1 : (last - (e - (k : Int))).toNat = 0 := by omega
        rw [a1, cut_zero, Nat.shiftLeft_eq, Nat.shiftLeft_eq, Nat.mul_assoc, ← Nat.pow_add]
        congr 2; omega
  rw [key]

/-- The rung of a rounding. -/
theorem near_pos (m : Nat) (e : Int) : Ieee.single.nearest false m e ≤ 2139095040 := by
  have hi : Ieee.single.infRung = 2139095040 := rfl
  unfold Ieee.Format.nearest
  split
  · simp only [Ieee.Format.word, Bool.false_eq_true, if_false]; exact Nat.zero_le _
  · simp only [Ieee.Format.word, Bool.false_eq_true, if_false, hi]
    exact Nat.min_le_right _ _

theorem near_nz {m : Nat} {e : Int} (hm : m ≠ 0) (he : -149 ≤ e) : 0 < Ieee.single.nearest false m e := by
  have hl : Ieee.single.leastPlace = -149 := rfl
  have hb : Ieee.single.binade = 8388608 := rfl
  have hf : Ieee.single.fractionBits = 23 := rfl
  have hi : Ieee.single.infRung = 2139095040 := rfl
  unfold Ieee.Format.nearest
  rw [if_neg hm]
  simp only [hl, hb, hf, hi, Ieee.Format.word, Bool.false_eq_true, if_false]
  refine Nat.lt_min.2 ⟨?_, Nat.zero_lt_succ _⟩
  generalize hlast : max (e + (m.log2 : Int) - ((23 : Nat) : Int)) (-149) = last
  rcases Int.lt_or_le (-149) last with h | h
  · have h1 : 1 ≤ (last - -149).toNat := by omega
    have := Nat.mul_le_mul_right 8388608 h1
    exact Nat.lt_of_lt_of_le (by decide) (Nat.le_trans this (Nat.le_add_right _ _))
  · have h' : last = -149 := by omega
    rw [h']
    have a : (-149 - e).toNat = 0 := by omega
    rw [a, cut_zero, Nat.shiftLeft_eq]
    have : 0 < m * 2 ^ (e - -149).toNat := Nat.mul_pos (by omega) (Nat.two_pow_pos _)
    exact Nat.lt_of_lt_of_le this (Nat.le_add_left _ _)

/-- Halving is multiplying by a half. -/
theorem half_quo (x : Nat) : fop .quo .f32 x 1073741824 = fop .mul .f32 1056964608 x := by
  have r2 : FloatKind.f32.format.read 1073741824 = .number false 8388608 (-22) := by decide +kernel
  have rh : FloatKind.f32.format.read 1056964608 = .number false 8388608 (-24) := by decide +kernel
  rw [fop_eq]; unfold fopImpl floatBits
  simp only [Ieee.Format.div, Ieee.Format.mul, r2, rh]
  cases hx : FloatKind.f32.format.read x with
  | nan s t => rfl
  | infinity s => cases s <;> rfl
  | number s m i =>
    have e1 : (Ieee.Datum.quotient (FloatKind.f32.format.fractionBits + 2) (.number s m i) (.number false 8388608 (-22))) = some (.number (s ^^ false) (2 * ((m <<< (25 + 23 - m.log2)) / 8388608) + ((m <<< (25 + 23 - m.log2)) % 8388608 != 0).toNat) (i - -22 - ((25 + 23 - m.log2 : Nat) : Int) - 1)) := by
      have hlog : Nat.log2 8388608 = 23 := by decide +kernel
      unfold Ieee.Datum.quotient
      simp only [show (8388608 : Nat) ≠ 0 by decide, if_false, hlog]
      rfl
    rw [e1]
    simp only [Ieee.Datum.product, Option.map_some, Option.getD_some, Ieee.Format.write, Bool.false_xor, Bool.xor_false]
    by_cases hm : m = 0
    · subst hm; simp [Ieee.Format.nearest]
    have hmlt : m.log2 ≤ 23 := by
      have hb : m < 2 ^ 24 := (single_number hx).1
      have := (Nat.log2_lt hm).2 hb
      omega
    obtain ⟨q, hq⟩ : ∃ q, 25 + 23 - m.log2 = q + 23 := ⟨25 - m.log2, by omega⟩
    rw [hq, Nat.shiftLeft_eq, Nat.pow_add, ← Nat.mul_assoc]
    have hdiv : m * 2 ^ q * 2 ^ 23 / 8388608 = m * 2 ^ q := Nat.mul_div_cancel _ (by decide)
    have hmod : m * 2 ^ q * 2 ^ 23 % 8388608 = 0 := Nat.mul_mod_left _ _
    rw [hdiv, hmod]
    have hA := near_scale FloatKind.f32.format s m (q + 1) (i - 1)
    have hB := near_scale FloatKind.f32.format s m 23 (i - 1)
    have eA : 2 * (m * 2 ^ q) + ((0 : Nat) != 0).toNat = m * 2 ^ (q + 1) := by
      show 2 * (m * 2 ^ q) + 0 = _
      rw [Nat.add_zero, Nat.pow_succ, ← Nat.mul_assoc m]; exact Nat.mul_comm _ _
    have eB : 8388608 * m = m * 2 ^ 23 := by rw [Nat.mul_comm]
    rw [eA, eB]
    have pA : i - -22 - ((q + 23 : Nat) : Int) - 1 = i - 1 - ((q + 1 : Nat) : Int) := by omega
    have pB : (-24 : Int) + i = i - 1 - ((23 : Nat) : Int) := by omega
    rw [pA, pB, hA, hB]
end Go.Ab

namespace Go.Ab
open Go
set_option linter.unusedVariables false
/-! ### WORDS THAT ARE NOT BELOW NOUGHT -/
theorem isub : Ieee.single.infRung = 2139095040 := rfl
theorem word_pos (r : Nat) : Ieee.single.word false r = r := by simp only [Ieee.Format.word, Bool.false_eq_true, if_false]

/-- The number of a word below infinity. -/
theorem read_fin {x : Nat} (h : x < 2139095040) : ∃ (m p : Nat), FloatKind.f32.format.read x = .number false m (-149 + p) ∧ m < 16777216 ∧ p ≤ x / 8388608 ∧ (x ≠ 0 → m ≠ 0) ∧ Ieee.single.nearest false m (-149 + p) = x := by
  have hs : Ieee.single.signWeight = 2147483648 := rfl
  have hb : Ieee.single.binade = 8388608 := rfl
  have hl : Ieee.single.leastPlace = -149 := rfl
  have hf : Ieee.single.fractionBits = 23 := rfl
  have e1 : x / 2147483648 = 0 := Nat.div_eq_of_lt (by omega)
  have e2 : x % 2147483648 = x := Nat.mod_eq_of_lt (by omega)
  change ∃ (m p : Nat), Ieee.single.read x = _ ∧ _
  simp only [Ieee.Format.read, hs, hb, hl, isub, e1, e2]
  by_cases h1 : x < 8388608
  · refine ⟨x, 0, ?_, by omega, Nat.zero_le _, fun h => h, ?_⟩
    · simp [h1]
    · by_cases h0 : x = 0
      · subst h0; simp [Ieee.Format.nearest, Ieee.Format.word]
      · unfold Ieee.Format.nearest
        rw [if_neg h0]
        have hlog : x.log2 < 23 := (Nat.log2_lt h0).2 (by omega)
        simp only [hl, hb, hf, isub]
        have e : max (-149 + ((0 : Nat) : Int) + (x.log2 : Int) - ((23 : Nat) : Int)) (-149) = -149 := by omega
        rw [e]
        have a : (-149 - (-149 + ((0 : Nat) : Int))).toNat = 0 := by omega
        have b : (-149 + ((0 : Nat) : Int) - -149).toNat = 0 := by omega
        rw [a, b, cut_zero, Nat.shiftLeft_zero]
        have c : (-149 - -149 : Int).toNat = 0 := by omega
        rw [c, word_pos, Nat.zero_mul, Nat.zero_add]
        exact Nat.min_eq_left (by omega)
  · have hq1 : 1 ≤ x / 8388608 := (Nat.one_le_div_iff (by decide)).2 (by omega)
    have hml : x % 8388608 < 8388608 := Nat.mod_lt _ (by decide)
    have hdm := Nat.div_add_mod x 8388608
    refine ⟨8388608 + x % 8388608, x / 8388608 - 1, ?_, by omega, by omega, fun _ => by omega, ?_⟩
    · simp [h1, h]
    · unfold Ieee.Format.nearest
      rw [if_neg (by omega)]
      have hlog : (8388608 + x % 8388608).log2 = 23 := (Nat.log2_eq_iff (by omega)).2 ⟨by omega, by omega⟩
      simp only [hl, hb, hf, isub, hlog]
      have e : max (-149 + ((x / 8388608 - 1 : Nat) : Int) + ((23 : Nat) : Int) - ((23 : Nat) : Int)) (-149) = -149 + ((x / 8388608 - 1 : Nat) : Int) := by omega
      rw [e]
      generalize hP : x / 8388608 - 1 = P
      have a : (-149 + (P : Int) - (-149 + (P : Int))).toNat = 0 := by omega
      rw [a, cut_zero, Nat.shiftLeft_zero]
      have c : (-149 + (P : Int) - -149).toNat = P := by omega
      rw [c, word_pos]
      have hx : P * 8388608 + (8388608 + x % 8388608) = x := by
        have : x / 8388608 = P + 1 := by omega
        rw [this] at hdm
        omega
      rw [hx]
      exact Nat.min_eq_left (by omega)

theorem read_top : FloatKind.f32.format.read 2139095040 = .infinity false := by decide +kernel

/-- Products. -/
theorem mul_nn {x y : Nat} (hx : x < 2139095040) (hy : y < 2139095040) : fop .mul .f32 x y ≤ 2139095040 := by
  obtain ⟨m, p, hr, _⟩ := read_fin hx
  obtain ⟨n, q, hs, _⟩ := read_fin hy
  rw [fop_eq]; unfold fopImpl floatBits
  simp only [Ieee.Format.mul, hr, hs, Ieee.Datum.product, Option.map_some, Option.getD_some, Ieee.Format.write, Bool.xor_false]
  exact near_pos _ _

/-- Sums. -/
theorem sum_fin (m n p q : Nat) : (Ieee.Datum.number false m (-149 + (p : Int))).sum (.number false n (-149 + (q : Int))) =
    some (.number false (m * 2 ^ (p - min p q) + n * 2 ^ (q - min p q)) (-149 + ((min p q : Nat) : Int))) := by
  have hb : min (-149 + (p : Int)) (-149 + (q : Int)) = -149 + ((min p q : Nat) : Int) := by omega
  have h1 : (-149 + (p : Int) - (-149 + ((min p q : Nat) : Int))).toNat = p - min p q := by omega
  have h2 : (-149 + (q : Int) - (-149 + ((min p q : Nat) : Int))).toNat = q - min p q := by omega
  simp only [Ieee.Datum.sum, Ieee.signed, hb, h1, h2, Bool.false_eq_true, if_false, Nat.shiftLeft_eq]
  generalize m * 2 ^ (p - min p q) = a
  generalize n * 2 ^ (q - min p q) = b
  have e1 : (if (a : Int) + (b : Int) = 0 then false && false else decide ((a : Int) + (b : Int) < 0)) = false := by
    split
    · rfl
    · simp only [decide_eq_false_iff_not]; omega
  have e2 : ((a : Int) + (b : Int)).natAbs = a + b := by omega
  rw [e1, e2]

theorem add_fin {x y : Nat} (hx : x < 2139095040) (hy : y < 2139095040) : fop .add .f32 x y ≤ 2139095040 := by
  obtain ⟨m, p, hr, _⟩ := read_fin hx
  obtain ⟨n, q, hs, _⟩ := read_fin hy
  rw [fop_eq]; unfold fopImpl floatBits
  simp only [Ieee.Format.add, hr, hs, sum_fin, Option.map_some, Option.getD_some, Ieee.Format.write]
  exact near_pos _ _

theorem add_top_l {y : Nat} (hy : y ≤ 2139095040) : fop .add .f32 2139095040 y = 2139095040 := by
  rw [fop_eq]; unfold fopImpl floatBits
  simp only [Ieee.Format.add, read_top]
  rcases Nat.lt_or_eq_of_le hy with h | h
  · obtain ⟨n, q, hs, _⟩ := read_fin h
    rw [hs]; rfl
  · subst h; rw [read_top]; rfl
theorem add_top_r {x : Nat} (hx : x ≤ 2139095040) : fop .add .f32 x 2139095040 = 2139095040 := by
  rw [fop_eq]; unfold fopImpl floatBits
  simp only [Ieee.Format.add, read_top]
  rcases Nat.lt_or_eq_of_le hx with h | h
  · obtain ⟨n, q, hs, _⟩ := read_fin h
    rw [hs]; rfl
  · subst h; rw [read_top]; rfl

theorem add_nn {x y : Nat} (hx : x ≤ 2139095040) (hy : y ≤ 2139095040) : fop .add .f32 x y ≤ 2139095040 := by
  rcases Nat.lt_or_eq_of_le hx with h | h
  · rcases Nat.lt_or_eq_of_le hy with h' | h'
    · exact add_fin h h'
    · subst h'; rw [add_top_r hx]; exact Nat.le_refl _
  · subst h; rw [add_top_l hy]; exact Nat.le_refl _

/-- Nought added. -/
theorem add_zero {x : Nat} (hx : x ≤ 2139095040) : fop .add .f32 x 0 = x ∧ fop .add .f32 0 x = x := by
  rcases Nat.lt_or_eq_of_le hx with h | h
  · obtain ⟨m, p, hr, _, _, _, hn⟩ := read_fin h
    have r0 : FloatKind.f32.format.read 0 = .number false 0 (-149 + ((0 : Nat) : Int)) := by decide +kernel
    have hsc := near_scale Ieee.single false m p (-149 + (p : Int))
    have ep : -149 + (p : Int) - (p : Int) = -149 + ((0 : Nat) : Int) := by omega
    rw [ep, hn] at hsc
    rw [fop_eq]; unfold fopImpl floatBits
    simp only [Ieee.Format.add, hr, r0, sum_fin, Option.map_some, Option.getD_some, Ieee.Format.write, Nat.min_zero, Nat.zero_min, Nat.sub_zero, Nat.zero_mul, Nat.add_zero, Nat.zero_add]
    exact ⟨hsc, hsc⟩
  · subst h; exact ⟨add_top_l (by decide), add_top_r (by decide)⟩

/-- A sum with something is something. -/
theorem add_nz {x y : Nat} (hx : x ≤ 2139095040) (hy : y < 2139095040) (h0 : y ≠ 0) : 0 < fop .add .f32 x y := by
  rcases Nat.lt_or_eq_of_le hx with h | h
  · obtain ⟨m, p, hr, _⟩ := read_fin h
    obtain ⟨n, q, hs, _, _, hn, _⟩ := read_fin hy
    rw [fop_eq]; unfold fopImpl floatBits
    simp only [Ieee.Format.add, hr, hs, sum_fin, Option.map_some, Option.getD_some, Ieee.Format.write]
    refine near_nz ?_ (by omega)
    have : 0 < n * 2 ^ (q - min p q) := Nat.mul_pos (Nat.pos_of_ne_zero (hn h0)) (Nat.two_pow_pos _)
    omega
  · subst h; rw [add_top_l (Nat.le_of_lt hy)]; decide

/-- Quotients. -/
theorem quo_nn {x y : Nat} (hx : x < 2139095040) (hy : y ≤ 2139095040) (h0 : y ≠ 0) : fop .quo .f32 x y ≤ 2139095040 := by
  obtain ⟨m, p, hr, _⟩ := read_fin hx
  rw [fop_eq]; unfold fopImpl floatBits
  rcases Nat.lt_or_eq_of_le hy with h | h
  · obtain ⟨n, q, hs, _, _, hn, _⟩ := read_fin h
    simp only [Ieee.Format.div, hr, hs, Ieee.Datum.quotient, if_neg (hn h0), Option.map_some, Option.getD_some, Ieee.Format.write, Bool.xor_false]
    exact near_pos _ _
  · subst h
    simp only [Ieee.Format.div, hr, read_top, Ieee.Datum.quotient, Option.map_some, Option.getD_some, Ieee.Format.write, Bool.xor_false]
    exact near_pos _ _

/-- A difference that is a number. -/
theorem sub_num {x y : Nat} (hx : x % 2147483648 < 2139095040) (hy : y ≤ 2139095040) : nanB .f32 (fop .sub .f32 x y) = false := by
  obtain ⟨m, p, hr, _⟩ := read_number .f32 (x := x) hx
  have key : ∀ s r, r ≤ 2139095040 → nanB .f32 (Ieee.single.word s r) = false := by
    intro s r hrr
    have hs : Ieee.single.signWeight = 2147483648 := rfl
    rw [nan32]
    simp only [Ieee.Format.word, hs]
    cases s
    · simp only [Bool.false_eq_true, if_false, decide_eq_false_iff_not]; omega
    · simp only [if_true, decide_eq_false_iff_not]; omega
  have near : ∀ s m e, nanB .f32 (Ieee.single.nearest s m e) = false := by
    intro s m e
    unfold Ieee.Format.nearest
    split
    · exact key s 0 (Nat.zero_le _)
    · exact key s _ (by rw [isub]; exact Nat.min_le_right _ _)
  rw [fop_eq]; unfold fopImpl floatBits
  rcases Nat.lt_or_eq_of_le hy with h | h
  · obtain ⟨n, q, hs, _⟩ := read_fin h
    simp only [Ieee.Format.sub, hr, hs, Ieee.Datum.opposite, Ieee.Datum.sum, Option.map_some, Option.getD_some, Ieee.Format.write]
    exact near _ _ _
  · subst h
    simp only [Ieee.Format.sub, hr, read_top, Ieee.Datum.opposite, Ieee.Datum.sum, Option.map_some, Option.getD_some, Ieee.Format.write]
    exact key _ _ (by rw [show FloatKind.f32.format = Ieee.single from rfl, isub]; exact Nat.le_refl _)
end Go.Ab

namespace Go.Ab
open Go
set_option linter.unusedVariables false
theorem cut_le (s : Bool) (n d : Nat) : Ieee.Toward.even.cut s n d ≤ n / 2 ^ min d (n.log2 + 2) + 1 := by
  unfold Ieee.Toward.cut
  simp only [Nat.one_shiftLeft]
  exact Nat.add_le_add_left (Bool.toNat_le _) _

/-- A rounding that stays below infinity. -/
theorem near_fin {m : Nat} {e : Int} (h : e + (m.log2 : Int) ≤ 125) : Ieee.single.nearest false m e < 2139095040 := by
  have hl : Ieee.single.leastPlace = -149 := rfl
  have hb : Ieee.single.binade = 8388608 := rfl
  have hf : Ieee.single.fractionBits = 23 := rfl
  unfold Ieee.Format.nearest
  split
  · rw [word_pos]; decide
  · rename_i hm
    simp only [hl, hb, hf, isub, word_pos]
    have hlt : m < 2 ^ (m.log2 + 1) := Nat.lt_log2_self
    have kept : Ieee.Toward.even.cut false (m <<< (e - max (e + (m.log2 : Int) - ((23 : Nat) : Int)) (-149)).toNat) (max (e + (m.log2 : Int) - ((23 : Nat) : Int)) (-149) - e).toNat ≤ 16777216 := by
      generalize hlast : max (e + (m.log2 : Int) - ((23 : Nat) : Int)) (-149) = last
      rcases Int.lt_or_le e last with h1 | h1
      · have a : (e - last).toNat = 0 := by omega
        rw [a, Nat.shiftLeft_zero]
        refine Nat.le_trans (cut_le _ _ _) ?_
        generalize hd : min (last - e).toNat (m.log2 + 2) = d
        have h2 : m < 2 ^ d * 16777216 := by
          have : m.log2 + 1 ≤ d + 24 := by omega
          calc m < 2 ^ (m.log2 + 1) := hlt
            _ ≤ 2 ^ (d + 24) := Nat.pow_le_pow_right (by decide) this
            _ = 2 ^ d * 16777216 := by rw [Nat.pow_add]
        have := Nat.div_lt_of_lt_mul h2
        omega
      · have a : (last - e).toNat = 0 := by omega
        rw [a, cut_zero, Nat.shiftLeft_eq]
        have : m * 2 ^ (e - last).toNat < 2 ^ (m.log2 + 1) * 2 ^ (e - last).toNat := Nat.mul_lt_mul_of_pos_right hlt (Nat.two_pow_pos _)
        rw [← Nat.pow_add] at this
        have h3 : m.log2 + 1 + (e - last).toNat ≤ 24 := by omega
        have h4 : 2 ^ (m.log2 + 1 + (e - last).toNat) ≤ 2 ^ 24 := Nat.pow_le_pow_right (by decide) h3
        have h5 : (2 : Nat) ^ 24 = 16777216 := by decide
        omega
    have hr : (max (e + (m.log2 : Int) - ((23 : Nat) : Int)) (-149) - -149).toNat ≤ 251 := by omega
    have := Nat.mul_le_mul_right 8388608 hr
    exact Nat.lt_of_le_of_lt (Nat.min_le_left _ _) (by omega)

theorem log2_mul {m n : Nat} (hm : m < 16777216) (hn : n < 16777216) : (m * n).log2 ≤ 47 := by
  by_cases h : m * n = 0
  · rw [h]; decide
  · have h1 : m * n < 2 ^ 48 := by
      have : m * n ≤ 16777215 * 16777215 := Nat.mul_le_mul (by omega) (by omega)
      have e : (2 : Nat) ^ 48 = 281474976710656 := by decide
      omega
    have := (Nat.log2_lt h).2 h1
    omega

/-- A product below infinity. -/
theorem mul_fin {x y : Nat} (hx : x < 2139095040) (hy : y < 2139095040) (h : x / 8388608 + y / 8388608 ≤ 376) : fop .mul .f32 x y < 2139095040 := by
  obtain ⟨m, p, hr, h1, h2, _⟩ := read_fin hx
  obtain ⟨n, q, hs, h3, h4, _⟩ := read_fin hy
  rw [fop_eq]; unfold fopImpl floatBits
  simp only [Ieee.Format.mul, hr, hs, Ieee.Datum.product, Option.map_some, Option.getD_some, Ieee.Format.write, Bool.xor_false]
  refine near_fin ?_
  have := log2_mul h1 h3
  omega

theorem keyp {x : Nat} (h : x < 2147483648) : key FloatKind.f32.format x = (x : Int) := by
  rw [show FloatKind.f32.format = Ieee.single from rfl, key32 (by omega), if_pos h]
theorem nanp {x : Nat} (h : x ≤ 2139095040) : nanB .f32 x = false := by rw [nan32]; simp; omega

/-- More than a hundred, less a hundred. -/
theorem sub_hundred {h : Nat} (h1 : 1120403456 < h) (h2 : h ≤ 1153138688) : fop .sub .f32 h 1120403456 < 2139095040 := by
  obtain ⟨m, p, hr, hm1, hp, _⟩ := read_fin (x := h) (by omega)
  have r1 : FloatKind.f32.format.read 1120403456 = .number false 13107200 (-149 + ((132 : Nat) : Int)) := by decide +kernel
  have hs : FloatKind.f32.format.signWeight = 2147483648 := rfl
  have hi : FloatKind.f32.format.infRung = 2139095040 := rfl
  have hl : FloatKind.f32.format.leastPlace = -149 := rfl
  have e1 : h % 2147483648 = h := Nat.mod_eq_of_lt (by omega)
  obtain ⟨m', p', hr', hg⟩ := read_number .f32 (x := h) (by rw [hs, hi, e1]; omega)
  obtain ⟨n', q', hq', hg'⟩ := read_number .f32 (x := 1120403456) (by rw [hs, hi]; decide)
  rw [hr] at hr'; rw [r1] at hq'
  rw [hl] at hr' hq'
  simp only [Ieee.Datum.number.injEq] at hr' hq'
  obtain ⟨_, rfl, hpp⟩ := hr'
  obtain ⟨_, rfl, hqq⟩ := hq'
  have hpp : p' = p := by omega
  have hqq : q' = 132 := by omega
  subst hpp; subst hqq
  rw [hs] at hg hg'
  have hmg := mg_lt FloatKind.f32.format h1
  rw [e1] at hg
  have e2 : (1120403456 : Nat) % 2147483648 = 1120403456 := by decide
  rw [e2] at hg'
  rw [← hg, ← hg'] at hmg
  have hb : min (-149 + (p' : Int)) (-149 + ((132 : Nat) : Int)) = -149 + ((min p' 132 : Nat) : Int) := by omega
  have a1 : (-149 + (p' : Int) - (-149 + ((min p' 132 : Nat) : Int))).toNat = p' - min p' 132 := by omega
  have a2 : (-149 + ((132 : Nat) : Int) - (-149 + ((min p' 132 : Nat) : Int))).toNat = 132 - min p' 132 := by omega
  have hlt : 13107200 * 2 ^ (132 - min p' 132) < m * 2 ^ (p' - min p' 132) := by
    have c1 : m * 2 ^ p' = (m * 2 ^ (p' - min p' 132)) * 2 ^ min p' 132 := by rw [Nat.mul_assoc, ← Nat.pow_add]; congr 2; omega
    have c2 : 13107200 * 2 ^ 132 = (13107200 * 2 ^ (132 - min p' 132)) * 2 ^ min p' 132 := by rw [Nat.mul_assoc, ← Nat.pow_add]; congr 2; omega
    rw [c1, c2] at hmg
    exact Nat.lt_of_mul_lt_mul_right hmg
  have hA : m * 2 ^ (p' - min p' 132) < 2 ^ (24 + (p' - min p' 132)) := by
    rw [Nat.pow_add]; exact Nat.mul_lt_mul_of_pos_right hm1 (Nat.two_pow_pos _)
  rw [fop_eq]; unfold fopImpl floatBits
  simp only [Ieee.Format.sub, hr, r1, Ieee.Datum.opposite, Ieee.Datum.sum, Ieee.signed, hb, a1, a2, Bool.not_false, Bool.false_eq_true, if_false, if_true, Nat.shiftLeft_eq, Option.map_some, Option.getD_some, Ieee.Format.write]
  generalize m * 2 ^ (p' - min p' 132) = A at hlt hA
  generalize 13107200 * 2 ^ (132 - min p' 132) = B at hlt
  have t1 : (if (A : Int) + -(B : Int) = 0 then false && true else decide ((A : Int) + -(B : Int) < 0)) = false := by
    split
    · rfl
    · simp only [decide_eq_false_iff_not]; omega
  have t2 : ((A : Int) + -(B : Int)).natAbs = A - B := by omega
  rw [t1, t2]
  refine near_fin ?_
  have hT : A - B ≠ 0 := by omega
  have := (Nat.log2_lt hT).2 (Nat.lt_of_le_of_lt (Nat.sub_le A B) hA)
  omega

theorem fmin_less {a x : Nat} (ha : a ≤ 2139095040) (hx : x ≤ 2139095040) : fmin .f32 a x = cond (fltB .f32 x a) x a := by
  rw [flt_key .f32 (nanp hx) (nanp ha), keyp (by omega), keyp (by omega), fmin_eq]; unfold fminImpl
  rw [ord_key .f32 (nanp ha) (nanp hx), keyp (by omega), keyp (by omega)]
  rcases Int.lt_trichotomy (a : Int) (x : Int) with h | h | h
  · rw [cmp_lt h]
    have : decide ((x : Int) < a) = false := by simp; omega
    rw [this]; rfl
  · have : a = x := by omega
    subst this
    rw [cmp_eq rfl]; simp
  · rw [cmp_gt h]
    have : decide ((x : Int) < a) = true := by simp; omega
    rw [this]; rfl

theorem fmax_more {q c : Nat} (hq : nanB .f32 q = false) (hw : q < 4294967296) (hc : c ≤ 2139095040) (hc0 : 0 < c) : fmax .f32 q c = cond (fltB .f32 q c) c q := by
  rw [flt_key .f32 hq (nanp hc), fmax_eq]; unfold fmaxImpl
  rw [ord_key .f32 hq (nanp hc)]
  rcases Int.lt_trichotomy (key FloatKind.f32.format q) (key FloatKind.f32.format c) with h | h | h
  · rw [cmp_lt h]
    have : decide (key FloatKind.f32.format q < key FloatKind.f32.format c) = true := by simp; omega
    rw [this]; rfl
  · have : q = c := by
      rw [keyp (x := c) (by omega)] at h
      rw [show FloatKind.f32.format = Ieee.single from rfl, key32 hw] at h
      split at h <;> omega
    subst this
    rw [cmp_eq rfl]; simp
  · rw [cmp_gt h]
    have : decide (key FloatKind.f32.format q < key FloatKind.f32.format c) = false := by simp; omega
    rw [this]; rfl
end Go.Ab

namespace Go.Ab
open Go
set_option linter.unusedVariables false
/-- What a valid layer tells. -/
structure Lay (a h c : Nat) : Prop where
  wet : a ≤ 1092616192
  fuel : c ≤ 1092616192
  wf : h < 4294967296
  num : nanB .f32 h = false
  fin : h % 2147483648 < 2139095040
  top : key FloatKind.f32.format h ≤ 1153138688

theorem lay_of {a h c : Nat} {x : Bool} (hw : h < 4294967296) (hk : okL a h c x = true) : Lay a h c ∧ x = true := by
  unfold okL at hk
  cases h1 : kilF a with
  | false => rw [h1] at hk; cases hk
  | true =>
    cases h2 : kilF c with
    | false => rw [h1, h2] at hk; cases hk
    | true =>
      cases h3 : btwF h with
      | false => rw [h1, h2, h3] at hk; cases hk
      | true =>
        rw [h1, h2, h3] at hk
        refine ⟨?_, hk⟩
        have g1 : a ≤ 1092616192 := of_decide_eq_true h1
        have g2 : c ≤ 1092616192 := of_decide_eq_true h2
        unfold btwF at h3
        cases h4 : fleB .f32 3262119936 h with
        | false => rw [h4] at h3; cases h3
        | true =>
          rw [h4] at h3
          have h3 : fleB .f32 h 1153138688 = true := h3
          have hn : nanB .f32 h = false := by
            cases hh : nanB .f32 h with
            | false => rfl
            | true => rw [fle_nan .f32 (Or.inl hh)] at h3; cases h3
          have n1 : nanB .f32 3262119936 = false := by rw [nan32]; decide
          rw [fle_key .f32 hn (nanp (by decide)), keyp (x := 1153138688) (by decide)] at h3
          rw [fle_key .f32 n1 hn] at h4
          have h3 := of_decide_eq_true h3
          have h4 := of_decide_eq_true h4
          have k1 : key FloatKind.f32.format 3262119936 = -1114636288 := by rw [show FloatKind.f32.format = Ieee.single from rfl, key32 (by decide)]; decide
          rw [k1] at h4
          refine ⟨g1, g2, hw, hn, ?_, h3⟩
          rw [show FloatKind.f32.format = Ieee.single from rfl, key32 hw] at h3 h4
          split at h3 <;> rename_i hs <;> simp only [hs, if_true, if_false] at h4 <;> omega

noncomputable def dX (h t : Nat) : Nat := fop .mul .f32 (fop .mul .f32 (fop .sub .f32 h 1120403456) 990057071) t
noncomputable def dL (a h t : Nat) : Nat := cond (fltB .f32 (dX h t) a) (dX h t) a
noncomputable def dM (a h t : Nat) : Nat := fmin .f32 a (dX h t)
noncomputable def masF (a c : Nat) : Nat := fop .add .f32 (fop .add .f32 (fop .mul .f32 a 1082130432) (fop .mul .f32 c 1073741824)) 1048576000
noncomputable def hqF (d a h c : Nat) : Nat := fop .sub .f32 h (fop .quo .f32 (fop .mul .f32 1157234688 d) (masF a c))
noncomputable def wetS (a h t : Nat) : Nat := cond (fltB .f32 1120403456 h) (fop .sub .f32 a (dL a h t)) a
noncomputable def wetI (a h t : Nat) : Nat := cond (fleB .f32 h 1120403456) a (fop .sub .f32 a (dM a h t))
noncomputable def heatS (a h c t : Nat) : Nat := cond (fltB .f32 1120403456 h) (cond (fltB .f32 (hqF (dL a h t) a h c) 1120403456) 1120403456 (hqF (dL a h t) a h c)) h
noncomputable def heatI (a h c t : Nat) : Nat := cond (fleB .f32 h 1120403456) h (fmax .f32 (hqF (dM a h t) a h c) 1120403456)
noncomputable def dS (a h t : Nat) : Nat := cond (fltB .f32 1120403456 h) (dL a h t) 0
noncomputable def sumI (s a h t : Nat) : Nat := cond (fleB .f32 h 1120403456) s (fop .add .f32 s (dM a h t))

variable {a h c t : Nat}
theorem lay_flt (L : Lay a h c) : fltB .f32 1120403456 h = !fleB .f32 h 1120403456 := flt_not_fle .f32 (nanp (by decide)) L.num

theorem lay_hot (L : Lay a h c) (hf : fleB .f32 h 1120403456 = false) : 1120403456 < h ∧ h ≤ 1153138688 := by
  rw [fle_key .f32 L.num (nanp (by decide)), keyp (x := 1120403456) (by decide)] at hf
  have hf := of_decide_eq_false hf
  have ht := L.top
  have hw := L.wf
  rw [show FloatKind.f32.format = Ieee.single from rfl, key32 hw] at hf ht
  split at hf <;> rename_i hs <;> simp only [hs, if_true, if_false] at ht <;> omega

theorem lay_dX (L : Lay a h c) (ht : t ≤ 1065353216) (hf : fleB .f32 h 1120403456 = false) : dX h t ≤ 2139095040 := by
  obtain ⟨h1, h2⟩ := lay_hot L hf
  have hy := sub_hundred h1 h2
  unfold dX
  refine mul_nn (mul_fin hy (by decide) ?_) (by omega)
  have : fop .sub .f32 h 1120403456 / 8388608 ≤ 254 := by omega
  omega

theorem lay_dL (L : Lay a h c) (ht : t ≤ 1065353216) (hf : fleB .f32 h 1120403456 = false) : dL a h t ≤ 1092616192 := by
  have hx := lay_dX L ht hf
  have ha := L.wet
  unfold dL
  rw [flt_key .f32 (nanp hx) (nanp (by omega)), keyp (by omega), keyp (by omega)]
  cases hd : decide ((dX h t : Int) < a) with
  | true => have := of_decide_eq_true hd; show dX h t ≤ _; omega
  | false => exact ha

theorem lay_dM (L : Lay a h c) (ht : t ≤ 1065353216) (hf : fleB .f32 h 1120403456 = false) : dM a h t = dL a h t := by
  have ha := L.wet
  exact fmin_less (by omega) (lay_dX L ht hf)

theorem wet_eq (L : Lay a h c) (ht : t ≤ 1065353216) : wetI a h t = wetS a h t := by
  unfold wetI wetS
  rw [lay_flt L]
  cases hf : fleB .f32 h 1120403456 with
  | true => rfl
  | false => rw [lay_dM L ht hf]; rfl

theorem heat_eq (L : Lay a h c) (ht : t ≤ 1065353216) : heatI a h c t = heatS a h c t := by
  unfold heatI heatS
  rw [lay_flt L]
  cases hf : fleB .f32 h 1120403456 with
  | true => rfl
  | false =>
    rw [lay_dM L ht hf]
    have hd := lay_dL L ht hf
    have ha := L.wet
    have hc := L.fuel
    have h1 : fop .mul .f32 1157234688 (dL a h t) < 2139095040 := mul_fin (by decide) (by omega) (by omega)
    have h2 : fop .add .f32 (fop .mul .f32 a 1082130432) (fop .mul .f32 c 1073741824) ≤ 2139095040 := add_nn (mul_nn (by omega) (by decide)) (mul_nn (by omega) (by decide))
    have h3 : masF a c ≤ 2139095040 := add_nn h2 (by decide)
    have h4 : 0 < masF a c := add_nz h2 (by decide) (by decide)
    have h5 := quo_nn h1 h3 (by omega)
    have h6 : nanB .f32 (hqF (dL a h t) a h c) = false := sub_num L.fin h5
    exact fmax_more h6 (fop_wf _ .f32 _ _) (by decide) (by decide)

theorem dS_nn (L : Lay a h c) (ht : t ≤ 1065353216) : dS a h t ≤ 2139095040 := by
  unfold dS
  rw [lay_flt L]
  cases hf : fleB .f32 h 1120403456 with
  | true => exact Nat.zero_le _
  | false => have := lay_dL L ht hf; show dL a h t ≤ _; omega

theorem sum_eq (L : Lay a h c) (ht : t ≤ 1065353216) {s : Nat} (hs : s ≤ 2139095040) : sumI s a h t = fop .add .f32 s (dS a h t) := by
  unfold sumI dS
  rw [lay_flt L]
  cases hf : fleB .f32 h 1120403456 with
  | true => exact (add_zero hs).1.symm
  | false => rw [lay_dM L ht hf]; rfl

theorem sum_first (L : Lay a h c) (ht : t ≤ 1065353216) : sumI 0 a h t = dS a h t := by
  rw [sum_eq L ht (Nat.zero_le _), (add_zero (dS_nn L ht)).2]

theorem sh_le (h : shO t = true) : t ≤ 1065353216 := by
  rw [shO_eq] at h
  unfold shI at h
  cases ha : amtF t with
  | false => rw [ha] at h; cases h
  | true =>
    rw [ha] at h
    have h : fleB .f32 t 1065353216 = true := h
    have ha := of_decide_eq_true (show decide (t < 2139095040) = true from ha)
    rw [fle_key .f32 (nanp (by omega)) (nanp (by decide)), keyp (by omega), keyp (by decide)] at h
    have := of_decide_eq_true h
    omega

noncomputable def gat (v s : Bool) (x : Nat) : Nat := cond (!v) 0 (cond (!s) 0 x)
theorem gat_eq {v s : Bool} {x y : Nat} (h : v = true → s = true → x = y) : gat v s x = gat v s y := by
  cases v <;> cases s <;> first | rfl | exact h rfl rfl
end Go.Ab
namespace Go.Ab
open Go
noncomputable def outF (ws : List Nat) (s : Nat) (c : Int) : Option AVal := some (.tuple [.agg (encF ws), .flt .f32 s, .sint .i64 c])
theorem sums_eq {t a0 a1 a2 a3 a4 a5 h0 h1 h2 h3 h4 h5 c0 c1 c2 c3 c4 c5 : Nat} (ht : t ≤ 1065353216) (L0 : Lay a0 h0 c0) (L1 : Lay a1 h1 c1) (L2 : Lay a2 h2 c2) (L3 : Lay a3 h3 c3) (L4 : Lay a4 h4 c4) (L5 : Lay a5 h5 c5) :
    sumI (sumI (sumI (sumI (sumI (sumI 0 a0 h0 t) a1 h1 t) a2 h2 t) a3 h3 t) a4 h4 t) a5 h5 t =
      fop .add .f32 (fop .add .f32 (fop .add .f32 (fop .add .f32 (fop .add .f32 (dS a0 h0 t) (dS a1 h1 t)) (dS a2 h2 t)) (dS a3 h3 t)) (dS a4 h4 t)) (dS a5 h5 t) := by
  have n0 := dS_nn L0 ht
  have n1 := add_nn n0 (dS_nn L1 ht)
  have n2 := add_nn n1 (dS_nn L2 ht)
  have n3 := add_nn n2 (dS_nn L3 ht)
  have n4 := add_nn n3 (dS_nn L4 ht)
  rw [sum_first L0 ht, sum_eq L1 ht n0, sum_eq L2 ht n1, sum_eq L3 ht n2, sum_eq L4 ht n3, sum_eq L5 ht n4]
theorem lays_of {a0 a1 a2 a3 a4 a5 h0 h1 h2 h3 h4 h5 c0 c1 c2 c3 c4 c5 : Nat} (hw : ∀ n ∈ [a0, a1, a2, a3, a4, a5, h0, h1, h2, h3, h4, h5, c0, c1, c2, c3, c4, c5], wfW .f32 n) (hv : vOp [a0, a1, a2, a3, a4, a5, h0, h1, h2, h3, h4, h5, c0, c1, c2, c3, c4, c5] = true) :
    Lay a0 h0 c0 ∧ Lay a1 h1 c1 ∧ Lay a2 h2 c2 ∧ Lay a3 h3 c3 ∧ Lay a4 h4 c4 ∧ Lay a5 h5 c5 := by
  rw [vOp_eq] at hv
  simp only [validI] at hv
  obtain ⟨l0, hv⟩ := lay_of (hw h0 (by simp)) hv
  obtain ⟨l1, hv⟩ := lay_of (hw h1 (by simp)) hv
  obtain ⟨l2, hv⟩ := lay_of (hw h2 (by simp)) hv
  obtain ⟨l3, hv⟩ := lay_of (hw h3 (by simp)) hv
  obtain ⟨l4, hv⟩ := lay_of (hw h4 (by simp)) hv
  obtain ⟨l5, hv⟩ := lay_of (hw h5 (by simp)) hv
  exact ⟨l0, l1, l2, l3, l4, l5⟩
end Go.Ab

namespace Go.Ab
open Go
set_option linter.unusedVariables false
theorem near_bd {m : Nat} {e : Int} (L : Nat) (h : e + (m.log2 : Int) + 128 ≤ L) (h2 : 2 ≤ L) : Ieee.single.nearest false m e ≤ L * 8388608 := by
  have hl : Ieee.single.leastPlace = -149 := rfl
  have hb : Ieee.single.binade = 8388608 := rfl
  have hf : Ieee.single.fractionBits = 23 := rfl
  unfold Ieee.Format.nearest
  split
  · rw [word_pos]; exact Nat.zero_le _
  · rename_i hm
    simp only [hl, hb, hf, isub, word_pos]
    have hlt : m < 2 ^ (m.log2 + 1) := Nat.lt_log2_self
    have kept : Ieee.Toward.even.cut false (m <<< (e - max (e + (m.log2 : Int) - ((23 : Nat) : Int)) (-149)).toNat) (max (e + (m.log2 : Int) - ((23 : Nat) : Int)) (-149) - e).toNat ≤ 16777216 := by
      generalize hlast : max (e + (m.log2 : Int) - ((23 : Nat) : Int)) (-149) = last
      rcases Int.lt_or_le e last with h1 | h1
      · have a : (e - last).toNat = 0 := by omega
        rw [a, Nat.shiftLeft_zero]
        refine Nat.le_trans (cut_le _ _ _) ?_
        generalize hd : min (last - e).toNat (m.log2 + 2) = d
        have h2 : m < 2 ^ d * 16777216 := by
          have : m.log2 + 1 ≤ d + 24 := by omega
          calc m < 2 ^ (m.log2 + 1) := hlt
            _ ≤ 2 ^ (d + 24) := Nat.pow_le_pow_right (by decide) this
            _ = 2 ^ d * 16777216 := by rw [Nat.pow_add]
        have := Nat.div_lt_of_lt_mul h2
        omega
      · have a : (last - e).toNat = 0 := by omega
        rw [a, cut_zero, Nat.shiftLeft_eq]
        have : m * 2 ^ (e - last).toNat < 2 ^ (m.log2 + 1) * 2 ^ (e - last).toNat := Nat.mul_lt_mul_of_pos_right hlt (Nat.two_pow_pos _)
        rw [← Nat.pow_add] at this
        have h3 : m.log2 + 1 + (e - last).toNat ≤ 24 := by omega
        have h4 : 2 ^ (m.log2 + 1 + (e - last).toNat) ≤ 2 ^ 24 := Nat.pow_le_pow_right (by decide) h3
        have h5 : (2 : Nat) ^ 24 = 16777216 := by decide
        omega
    have hr : (max (e + (m.log2 : Int) - ((23 : Nat) : Int)) (-149) - -149).toNat ≤ L - 2 := by omega
    have := Nat.mul_le_mul_right 8388608 hr
    generalize (max (e + (m.log2 : Int) - ((23 : Nat) : Int)) (-149) - -149).toNat = R at hr this ⊢
    generalize Ieee.Toward.even.cut false (m <<< (e - max (e + (m.log2 : Int) - ((23 : Nat) : Int)) (-149)).toNat) (max (e + (m.log2 : Int) - ((23 : Nat) : Int)) (-149) - e).toNat = K at kept ⊢
    have e5 : R * 8388608 + K ≤ L * 8388608 := by
      have e6 : L * 8388608 = (L - 2) * 8388608 + 2 * 8388608 := by
        rw [← Nat.add_mul]; congr 1; omega
      rw [e6]; exact Nat.add_le_add this kept
    refine Nat.le_trans (Nat.min_le_left _ _) ?_
    exact e5

theorem mul_bd {x y : Nat} (L : Nat) (hx : x < 2139095040) (hy : y < 2139095040) (h : x / 8388608 + y / 8388608 ≤ L + 123) (h2 : 2 ≤ L) : fop .mul .f32 x y ≤ L * 8388608 := by
  obtain ⟨m, p, hr, h1, h2', _⟩ := read_fin hx
  obtain ⟨n, q, hs, h3, h4, _⟩ := read_fin hy
  rw [fop_eq]; unfold fopImpl floatBits
  simp only [Ieee.Format.mul, hr, hs, Ieee.Datum.product, Option.map_some, Option.getD_some, Ieee.Format.write, Bool.xor_false]
  refine near_bd L ?_ h2
  have := log2_mul h1 h3
  omega

theorem mul_zero {x : Nat} (hx : x < 2139095040) : fop .mul .f32 x 0 = 0 := by
  obtain ⟨m, p, hr, h1, _⟩ := read_fin hx
  have r0 : FloatKind.f32.format.read 0 = .number false 0 (-149 + ((0 : Nat) : Int)) := by decide +kernel
  rw [fop_eq]; unfold fopImpl floatBits
  simp only [Ieee.Format.mul, hr, r0, Ieee.Datum.product, Option.map_some, Option.getD_some, Ieee.Format.write, Bool.xor_false, Nat.mul_zero]
  simp [Ieee.Format.nearest, Ieee.Format.word]

/-- A difference that is not below nought. -/
theorem sub_ge {h c : Nat} (h1 : c ≤ h) (h2 : h ≤ 1153138688) : fop .sub .f32 h c ≤ 139 * 8388608 := by
  obtain ⟨m, p, hr, hm1, hp, _⟩ := read_fin (x := h) (by omega)
  obtain ⟨n, q, r1, _⟩ := read_fin (x := c) (by omega)
  have hs : FloatKind.f32.format.signWeight = 2147483648 := rfl
  have hi : FloatKind.f32.format.infRung = 2139095040 := rfl
  have hl : FloatKind.f32.format.leastPlace = -149 := rfl
  have e1 : h % 2147483648 = h := Nat.mod_eq_of_lt (by omega)
  have e2 : c % 2147483648 = c := Nat.mod_eq_of_lt (by omega)
  obtain ⟨m', p', hr', hg⟩ := read_number .f32 (x := h) (by rw [hs, hi, e1]; omega)
  obtain ⟨n', q', hq', hg'⟩ := read_number .f32 (x := c) (by rw [hs, hi, e2]; omega)
  rw [hr] at hr'; rw [r1] at hq'
  rw [hl] at hr' hq'
  simp only [Ieee.Datum.number.injEq] at hr' hq'
  obtain ⟨_, rfl, hpp⟩ := hr'
  obtain ⟨_, rfl, hqq⟩ := hq'
  have hpp : p' = p := by omega
  have hqq : q' = q := by omega
  subst hpp; subst hqq
  rw [hs] at hg hg'
  have hmg := mg_le FloatKind.f32.format h1
  rw [e1] at hg
  rw [e2] at hg'
  rw [← hg, ← hg'] at hmg
  have hb : min (-149 + (p' : Int)) (-149 + (q' : Int)) = -149 + ((min p' q' : Nat) : Int) := by omega
  have a1 : (-149 + (p' : Int) - (-149 + ((min p' q' : Nat) : Int))).toNat = p' - min p' q' := by omega
  have a2 : (-149 + (q' : Int) - (-149 + ((min p' q' : Nat) : Int))).toNat = q' - min p' q' := by omega
  have hlt : n * 2 ^ (q' - min p' q') ≤ m * 2 ^ (p' - min p' q') := by
    have c1 : m * 2 ^ p' = (m * 2 ^ (p' - min p' q')) * 2 ^ min p' q' := by rw [Nat.mul_assoc, ← Nat.pow_add]; congr 2; omega
    have c2 : n * 2 ^ q' = (n * 2 ^ (q' - min p' q')) * 2 ^ min p' q' := by rw [Nat.mul_assoc, ← Nat.pow_add]; congr 2; omega
    rw [c1, c2] at hmg
    exact Nat.le_of_mul_le_mul_right hmg (Nat.two_pow_pos _)
  have hA : m * 2 ^ (p' - min p' q') < 2 ^ (24 + (p' - min p' q')) := by
    rw [Nat.pow_add]; exact Nat.mul_lt_mul_of_pos_right hm1 (Nat.two_pow_pos _)
  rw [fop_eq]; unfold fopImpl floatBits
  simp only [Ieee.Format.sub, hr, r1, Ieee.Datum.opposite, Ieee.Datum.sum, Ieee.signed, hb, a1, a2, Bool.not_false, Bool.false_eq_true, if_false, if_true, Nat.shiftLeft_eq, Option.map_some, Option.getD_some, Ieee.Format.write]
  generalize m * 2 ^ (p' - min p' q') = A at hlt hA
  generalize n * 2 ^ (q' - min p' q') = B at hlt
  have t1 : (if (A : Int) + -(B : Int) = 0 then false && true else decide ((A : Int) + -(B : Int) < 0)) = false := by
    split
    · rfl
    · simp only [decide_eq_false_iff_not]; omega
  have t2 : ((A : Int) + -(B : Int)).natAbs = A - B := by omega
  rw [t1, t2]
  by_cases hT : A - B = 0
  · rw [hT]
    simp [Ieee.Format.nearest, Ieee.Format.word]
  · refine near_bd 139 ?_ (by decide)
    have := (Nat.log2_lt hT).2 (Nat.lt_of_le_of_lt (Nat.sub_le A B) hA)
    omega
end Go.Ab

namespace Go.Ab
open Go
set_option linter.unusedVariables false
/-! ### A layer that burns -/
noncomputable def bK (a h : Nat) : Bool := cond (fleB .f32 1132068864 h) (fltB .f32 a 1040187392) false
noncomputable def bSk (a h : Nat) : Bool := cond (fltB .f32 h 1132068864) true (!fltB .f32 a 1040187392)
noncomputable def bX (h x t : Nat) : Nat := fop .mul .f32 (fop .mul .f32 (fop .mul .f32 (fop .sub .f32 h 1132068864) 981668463) x) t
noncomputable def bL (c h x t : Nat) : Nat := cond (fltB .f32 (bX h x t) c) (bX h x t) c
noncomputable def bM (c h x t : Nat) : Nat := fmin .f32 c (bX h x t)
noncomputable def bQ (d a h c : Nat) : Nat := fop .add .f32 h (fop .quo .f32 (fop .mul .f32 1157234688 d) (masF a c))
noncomputable def bfS (a h c x t : Nat) : Nat := cond (bK a h) (fop .sub .f32 c (bL c h x t)) c
noncomputable def bfI (a h c x t : Nat) : Nat := cond (bSk a h) c (fop .sub .f32 c (bM c h x t))
noncomputable def bhS (a h c x t : Nat) : Nat := cond (bK a h) (cond (fltB .f32 1153138688 (bQ (bL c h x t) a h c)) 1153138688 (bQ (bL c h x t) a h c)) h
noncomputable def bhI (a h c x t : Nat) : Nat := cond (bSk a h) h (fmin .f32 (bQ (bM c h x t) a h c) 1153138688)
noncomputable def bS (a h c x t : Nat) : Nat := cond (bK a h) (bL c h x t) 0
noncomputable def bsI (s a h c x t : Nat) : Nat := cond (bSk a h) s (fop .add .f32 s (bM c h x t))
noncomputable def beI (s a h c x t : Nat) : Nat := cond (bSk a h) s (fop .add .f32 s (fop .mul .f32 1167867904 (bM c h x t)))

variable {a h c x t : Nat}
theorem b_skip (L : Lay a h c) : bSk a h = !bK a h := by
  unfold bSk bK
  rw [flt_not_fle .f32 L.num (nanp (by decide))]
  cases fleB .f32 1132068864 h <;> rfl

theorem b_hot (L : Lay a h c) (hk : bK a h = true) : 1132068864 ≤ h ∧ h ≤ 1153138688 := by
  unfold bK at hk
  cases hf : fleB .f32 1132068864 h with
  | false => rw [hf] at hk; cases hk
  | true =>
    rw [fle_key .f32 (nanp (by decide)) L.num, keyp (x := 1132068864) (by decide)] at hf
    have hf := of_decide_eq_true hf
    have ht := L.top
    have hw := L.wf
    rw [show FloatKind.f32.format = Ieee.single from rfl, key32 hw] at hf ht
    split at hf <;> rename_i hs <;> simp only [hs, if_true, if_false] at ht <;> omega

theorem b_X (L : Lay a h c) (hx : x ≤ 1065353216) (ht : t ≤ 1065353216) (hk : bK a h = true) : bX h x t ≤ 2139095040 := by
  obtain ⟨h1, h2⟩ := b_hot L hk
  have hy := sub_ge h1 h2
  unfold bX
  generalize fop .sub .f32 h 1132068864 = y at hy
  have y1 : y / 8388608 ≤ 139 := by omega
  have hz := mul_bd (x := y) (y := 981668463) 133 (by omega) (by decide) (by omega) (by decide)
  generalize fop .mul .f32 y 981668463 = z at hz
  have z1 : z / 8388608 ≤ 133 := by omega
  have hu := mul_bd (x := z) (y := x) 137 (by omega) (by omega) (by omega) (by decide)
  exact mul_nn (by omega) (by omega)

theorem b_L (L : Lay a h c) (hx : x ≤ 1065353216) (ht : t ≤ 1065353216) (hk : bK a h = true) : bL c h x t ≤ 1092616192 := by
  have hX := b_X L hx ht hk
  have hc := L.fuel
  unfold bL
  rw [flt_key .f32 (nanp hX) (nanp (by omega)), keyp (by omega), keyp (by omega)]
  cases hd : decide ((bX h x t : Int) < c) with
  | true => have := of_decide_eq_true hd; show bX h x t ≤ _; omega
  | false => exact hc

theorem b_M (L : Lay a h c) (hx : x ≤ 1065353216) (ht : t ≤ 1065353216) (hk : bK a h = true) : bM c h x t = bL c h x t := by
  have hc := L.fuel
  exact fmin_less (by omega) (b_X L hx ht hk)

theorem bf_eq (L : Lay a h c) (hx : x ≤ 1065353216) (ht : t ≤ 1065353216) : bfI a h c x t = bfS a h c x t := by
  unfold bfI bfS
  rw [b_skip L]
  cases hk : bK a h with
  | false => rfl
  | true => rw [b_M L hx ht hk]; rfl

theorem bh_eq (L : Lay a h c) (hx : x ≤ 1065353216) (ht : t ≤ 1065353216) : bhI a h c x t = bhS a h c x t := by
  unfold bhI bhS
  rw [b_skip L]
  cases hk : bK a h with
  | false => rfl
  | true =>
    rw [b_M L hx ht hk]
    have hd := b_L L hx ht hk
    have ha := L.wet
    have hc := L.fuel
    obtain ⟨g1, g2⟩ := b_hot L hk
    have h1 : fop .mul .f32 1157234688 (bL c h x t) < 2139095040 := mul_fin (by decide) (by omega) (by omega)
    have h2 : fop .add .f32 (fop .mul .f32 a 1082130432) (fop .mul .f32 c 1073741824) ≤ 2139095040 := add_nn (mul_nn (by omega) (by decide)) (mul_nn (by omega) (by decide))
    have h3 : masF a c ≤ 2139095040 := add_nn h2 (by decide)
    have h4 : 0 < masF a c := add_nz h2 (by decide) (by decide)
    have h5 := quo_nn h1 h3 (by omega)
    have h6 : bQ (bL c h x t) a h c ≤ 2139095040 := add_nn (by omega) h5
    exact fmin_less h6 (by decide)

theorem b_nn (L : Lay a h c) (hx : x ≤ 1065353216) (ht : t ≤ 1065353216) : bS a h c x t ≤ 1092616192 := by
  unfold bS
  cases hk : bK a h with
  | false => exact Nat.zero_le _
  | true => exact b_L L hx ht hk

theorem be_nn (L : Lay a h c) (hx : x ≤ 1065353216) (ht : t ≤ 1065353216) : fop .mul .f32 1167867904 (bS a h c x t) ≤ 2139095040 := by
  have := b_nn L hx ht
  exact mul_nn (by decide) (by omega)

theorem bs_eq (L : Lay a h c) (hx : x ≤ 1065353216) (ht : t ≤ 1065353216) {s : Nat} (hs : s ≤ 2139095040) : bsI s a h c x t = fop .add .f32 s (bS a h c x t) := by
  unfold bsI bS
  rw [b_skip L]
  cases hk : bK a h with
  | false => exact (add_zero hs).1.symm
  | true => rw [b_M L hx ht hk]; rfl

theorem be_eq (L : Lay a h c) (hx : x ≤ 1065353216) (ht : t ≤ 1065353216) {s : Nat} (hs : s ≤ 2139095040) : beI s a h c x t = fop .add .f32 s (fop .mul .f32 1167867904 (bS a h c x t)) := by
  unfold beI bS
  rw [b_skip L]
  cases hk : bK a h with
  | false =>
    show s = fop .add .f32 s (fop .mul .f32 1167867904 0)
    rw [mul_zero (by decide)]; exact (add_zero hs).1.symm
  | true => rw [b_M L hx ht hk]; rfl

theorem bsums_eq {x t a0 a1 a2 a3 a4 a5 h0 h1 h2 h3 h4 h5 c0 c1 c2 c3 c4 c5 : Nat} (hx : x ≤ 1065353216) (ht : t ≤ 1065353216) (L0 : Lay a0 h0 c0) (L1 : Lay a1 h1 c1) (L2 : Lay a2 h2 c2) (L3 : Lay a3 h3 c3) (L4 : Lay a4 h4 c4) (L5 : Lay a5 h5 c5) :
    bsI (bsI (bsI (bsI (bsI (bsI 0 a0 h0 c0 x t) a1 h1 c1 x t) a2 h2 c2 x t) a3 h3 c3 x t) a4 h4 c4 x t) a5 h5 c5 x t =
      fop .add .f32 (fop .add .f32 (fop .add .f32 (fop .add .f32 (fop .add .f32 (bS a0 h0 c0 x t) (bS a1 h1 c1 x t)) (bS a2 h2 c2 x t)) (bS a3 h3 c3 x t)) (bS a4 h4 c4 x t)) (bS a5 h5 c5 x t) := by
  have m0 := b_nn L0 hx ht
  have m1 := b_nn L1 hx ht
  have m2 := b_nn L2 hx ht
  have m3 := b_nn L3 hx ht
  have m4 := b_nn L4 hx ht
  have n0 : bS a0 h0 c0 x t ≤ 2139095040 := by omega
  have n1 := add_nn n0 (y := bS a1 h1 c1 x t) (by omega)
  have n2 := add_nn n1 (y := bS a2 h2 c2 x t) (by omega)
  have n3 := add_nn n2 (y := bS a3 h3 c3 x t) (by omega)
  have n4 := add_nn n3 (y := bS a4 h4 c4 x t) (by omega)
  rw [bs_eq L0 hx ht (Nat.zero_le _), (add_zero n0).2, bs_eq L1 hx ht n0, bs_eq L2 hx ht n1, bs_eq L3 hx ht n2, bs_eq L4 hx ht n3, bs_eq L5 hx ht n4]

theorem besums_eq {x t a0 a1 a2 a3 a4 a5 h0 h1 h2 h3 h4 h5 c0 c1 c2 c3 c4 c5 : Nat} (hx : x ≤ 1065353216) (ht : t ≤ 1065353216) (L0 : Lay a0 h0 c0) (L1 : Lay a1 h1 c1) (L2 : Lay a2 h2 c2) (L3 : Lay a3 h3 c3) (L4 : Lay a4 h4 c4) (L5 : Lay a5 h5 c5) :
    beI (beI (beI (beI (beI (beI 0 a0 h0 c0 x t) a1 h1 c1 x t) a2 h2 c2 x t) a3 h3 c3 x t) a4 h4 c4 x t) a5 h5 c5 x t =
      fop .add .f32 (fop .add .f32 (fop .add .f32 (fop .add .f32 (fop .add .f32 (fop .mul .f32 1167867904 (bS a0 h0 c0 x t)) (fop .mul .f32 1167867904 (bS a1 h1 c1 x t))) (fop .mul .f32 1167867904 (bS a2 h2 c2 x t))) (fop .mul .f32 1167867904 (bS a3 h3 c3 x t))) (fop .mul .f32 1167867904 (bS a4 h4 c4 x t))) (fop .mul .f32 1167867904 (bS a5 h5 c5 x t)) := by
  have n0 := be_nn L0 hx ht
  have n1 := add_nn n0 (be_nn L1 hx ht)
  have n2 := add_nn n1 (be_nn L2 hx ht)
  have n3 := add_nn n2 (be_nn L3 hx ht)
  have n4 := add_nn n3 (be_nn L4 hx ht)
  rw [be_eq L0 hx ht (Nat.zero_le _), (add_zero n0).2, be_eq L1 hx ht n0, be_eq L2 hx ht n1, be_eq L3 hx ht n2, be_eq L4 hx ht n3, be_eq L5 hx ht n4]

/-- Two shares are asked. -/
noncomputable def gat2 (v s r : Bool) (x : Nat) : Nat := cond (!v) 0 (cond (cond (!s) true (!r)) 0 x)
noncomputable def cod2 (v s r : Bool) : Int := cond (!v) 1 (cond (cond (!s) true (!r)) 2 0)
theorem gat2_eq {v s r : Bool} {x y : Nat} (h : v = true → s = true → r = true → x = y) : gat2 v r s x = gat2 v s r y := by
  cases v <;> cases s <;> cases r <;> first | rfl | exact h rfl rfl rfl
theorem cod2_eq (v s r : Bool) : cod2 v r s = cod2 v s r := by cases v <;> cases s <;> cases r <;> rfl
noncomputable def outF2 (ws : List Nat) (s u : Nat) (c : Int) : Option AVal := some (.tuple [.agg (encF ws), .flt .f32 s, .flt .f32 u, .sint .i64 c])
end Go.Ab

namespace Go.Ab
open Go
set_option linter.unusedVariables false
/-! ### ROUNDING IS MONOTONE -/
theorem cut_def (s : Bool) (n d : Nat) (h : d ≤ n.log2 + 2) : Ieee.Toward.even.cut s n d = n / 2 ^ d + (2 ^ d < 2 * (n % 2 ^ d) || (2 ^ d == 2 * (n % 2 ^ d) && n / 2 ^ d % 2 == 1) : Bool).toNat := by
  unfold Ieee.Toward.cut
  have e : min d (n.log2 + 2) = d := by omega
  simp only [e, Nat.one_shiftLeft]

theorem cut_mono (s : Bool) {n n' d : Nat} (h : d ≤ n.log2 + 2) (h' : d ≤ n'.log2 + 2) (hn : n ≤ n') : Ieee.Toward.even.cut s n d ≤ Ieee.Toward.even.cut s n' d := by
  rw [cut_def s n d h, cut_def s n' d h']
  have hq : n / 2 ^ d ≤ n' / 2 ^ d := Nat.div_le_div_right hn
  have b1 := Bool.toNat_le (2 ^ d < 2 * (n % 2 ^ d) || (2 ^ d == 2 * (n % 2 ^ d) && n / 2 ^ d % 2 == 1))
  rcases Nat.lt_or_eq_of_le hq with hlt | heq
  · omega
  · have e1 := Nat.div_add_mod n (2 ^ d)
    have e2 := Nat.div_add_mod n' (2 ^ d)
    rw [← heq] at e2 ⊢
    have hr : n % 2 ^ d ≤ n' % 2 ^ d := by omega
    refine Nat.add_le_add_left ?_ _
    generalize n % 2 ^ d = r at hr
    generalize n' % 2 ^ d = r' at hr
    generalize (n / 2 ^ d % 2 == 1) = o
    generalize 2 ^ d = g
    by_cases h1 : g < 2 * r
    · have h2 : g < 2 * r' := by omega
      simp [h1, h2]
    · by_cases h3 : g = 2 * r
      · by_cases h4 : g < 2 * r'
        · simp only [h4, decide_true, Bool.true_or]; exact Bool.toNat_le _
        · have h5 : g = 2 * r' := by omega
          have : r = r' := by omega
          subst this
          exact Nat.le_refl _
      · have : (decide (g < 2 * r) || (g == 2 * r && o)) = false := by simp [h1, h3]
        rw [this]; exact Nat.zero_le _

/-- The rung of a number of a place that is not too low. -/
def rg (m : Nat) (E : Nat) : Nat :=
  if m.log2 ≤ 23 then (if E + m.log2 ≤ 23 then m * 2 ^ E else (E + m.log2 - 23) * 8388608 + m * 2 ^ (23 - m.log2))
  else (E + m.log2 - 23) * 8388608 + Ieee.Toward.even.cut false m (m.log2 - 23)

theorem near_rg {m : Nat} (E : Nat) (hm : m ≠ 0) : Ieee.single.nearest false m (-149 + (E : Int)) = min (rg m E) 2139095040 := by
  have hl : Ieee.single.leastPlace = -149 := rfl
  have hb : Ieee.single.binade = 8388608 := rfl
  have hf : Ieee.single.fractionBits = 23 := rfl
  unfold Ieee.Format.nearest
  rw [if_neg hm]
  simp only [hl, hb, hf, isub, word_pos]
  congr 1
  unfold rg
  by_cases h1 : m.log2 ≤ 23
  · rw [if_pos h1]
    by_cases h2 : E + m.log2 ≤ 23
    · rw [if_pos h2]
      have e : max (-149 + (E : Int) + (m.log2 : Int) - ((23 : Nat) : Int)) (-149) = -149 := by omega
      rw [e]
      have a : (-149 - (-149 + (E : Int))).toNat = 0 := by omega
      have b : (-149 + (E : Int) - -149).toNat = E := by omega
      have c : (-149 - -149 : Int).toNat = 0 := by omega
      rw [a, b, c, cut_zero, Nat.shiftLeft_eq, Nat.zero_mul, Nat.zero_add]
    · rw [if_neg h2]
      have e : max (-149 + (E : Int) + (m.log2 : Int) - ((23 : Nat) : Int)) (-149) = -149 + ((E + m.log2 - 23 : Nat) : Int) := by omega
      rw [e]
      have a : (-149 + ((E + m.log2 - 23 : Nat) : Int) - (-149 + (E : Int))).toNat = 0 := by omega
      have b : (-149 + (E : Int) - (-149 + ((E + m.log2 - 23 : Nat) : Int))).toNat = 23 - m.log2 := by omega
      have c : (-149 + ((E + m.log2 - 23 : Nat) : Int) - -149 : Int).toNat = E + m.log2 - 23 := by omega
      rw [a, b, c, cut_zero, Nat.shiftLeft_eq]
  · rw [if_neg h1]
    have e : max (-149 + (E : Int) + (m.log2 : Int) - ((23 : Nat) : Int)) (-149) = -149 + ((E + m.log2 - 23 : Nat) : Int) := by omega
    rw [e]
    have a : (-149 + ((E + m.log2 - 23 : Nat) : Int) - (-149 + (E : Int))).toNat = m.log2 - 23 := by omega
    have b : (-149 + (E : Int) - (-149 + ((E + m.log2 - 23 : Nat) : Int))).toNat = 0 := by omega
    have c : (-149 + ((E + m.log2 - 23 : Nat) : Int) - -149 : Int).toNat = E + m.log2 - 23 := by omega
    rw [a, b, c, Nat.shiftLeft_zero]

theorem rg_low {m E : Nat} (hm : m ≠ 0) (h : E + m.log2 ≤ 23) : rg m E = m * 2 ^ E ∧ m * 2 ^ E < 16777216 := by
  have h1 : m.log2 ≤ 23 := by omega
  unfold rg
  rw [if_pos h1, if_pos h]
  refine ⟨rfl, ?_⟩
  have hlt : m < 2 ^ (m.log2 + 1) := Nat.lt_log2_self
  calc m * 2 ^ E < 2 ^ (m.log2 + 1) * 2 ^ E := Nat.mul_lt_mul_of_pos_right hlt (Nat.two_pow_pos _)
    _ = 2 ^ (m.log2 + 1 + E) := by rw [← Nat.pow_add]
    _ ≤ 2 ^ 24 := Nat.pow_le_pow_right (by decide) (by omega)

theorem rg_high {m E : Nat} (hm : m ≠ 0) (h : 23 < E + m.log2) : ∃ k, rg m E = (E + m.log2 - 23) * 8388608 + k ∧ 8388608 ≤ k ∧ k ≤ 16777216 ∧ k = if m.log2 ≤ 23 then m * 2 ^ (23 - m.log2) else Ieee.Toward.even.cut false m (m.log2 - 23) := by
  have hlt : m < 2 ^ (m.log2 + 1) := Nat.lt_log2_self
  have hle : 2 ^ m.log2 ≤ m := Nat.log2_self_le hm
  unfold rg
  by_cases h1 : m.log2 ≤ 23
  · rw [if_pos h1, if_neg (by omega), if_pos h1]
    refine ⟨_, rfl, ?_, ?_, rfl⟩
    · calc 8388608 = 2 ^ m.log2 * 2 ^ (23 - m.log2) := by rw [← Nat.pow_add]; have : m.log2 + (23 - m.log2) = 23 := by omega
                                                          rw [this]
        _ ≤ m * 2 ^ (23 - m.log2) := Nat.mul_le_mul_right _ hle
    · have : m * 2 ^ (23 - m.log2) ≤ 2 ^ (m.log2 + 1) * 2 ^ (23 - m.log2) := Nat.mul_le_mul_right _ (Nat.le_of_lt hlt)
      rw [← Nat.pow_add] at this
      have e : m.log2 + 1 + (23 - m.log2) = 24 := by omega
      rw [e] at this
      exact this
  · rw [if_neg h1, if_neg h1]
    refine ⟨_, rfl, ?_, ?_, rfl⟩
    · rw [cut_def false m _ (by omega)]
      have : 8388608 ≤ m / 2 ^ (m.log2 - 23) := by
        rw [Nat.le_div_iff_mul_le (Nat.two_pow_pos _)]
        calc 8388608 * 2 ^ (m.log2 - 23) = 2 ^ 23 * 2 ^ (m.log2 - 23) := rfl
          _ = 2 ^ m.log2 := by rw [← Nat.pow_add]; congr 1; omega
          _ ≤ m := hle
      exact Nat.le_trans this (Nat.le_add_right _ _)
    · refine Nat.le_trans (cut_le _ _ _) ?_
      have e : min (m.log2 - 23) (m.log2 + 2) = m.log2 - 23 := by omega
      rw [e]
      have : m / 2 ^ (m.log2 - 23) < 16777216 := by
        rw [Nat.div_lt_iff_lt_mul (Nat.two_pow_pos _)]
        calc m < 2 ^ (m.log2 + 1) := hlt
          _ = 2 ^ 24 * 2 ^ (m.log2 - 23) := by rw [← Nat.pow_add]; congr 1; omega
      omega

theorem rg_mono {m n : Nat} (E : Nat) (hm : m ≠ 0) (h : m ≤ n) : rg m E ≤ rg n E := by
  have hn : n ≠ 0 := by omega
  have hll : m.log2 ≤ n.log2 := by
    have h1 : 2 ^ m.log2 ≤ n := Nat.le_trans (Nat.log2_self_le hm) h
    exact (Nat.le_log2 hn).2 h1
  by_cases c1 : E + n.log2 ≤ 23
  · rw [(rg_low hn c1).1, (rg_low hm (by omega)).1]
    exact Nat.mul_le_mul_right _ h
  · obtain ⟨k, h1, h2, h3, h4⟩ := rg_high hn (E := E) (by omega)
    rw [h1]
    by_cases c2 : E + m.log2 ≤ 23
    · obtain ⟨g1, g2⟩ := rg_low hm c2
      rw [g1]
      have : 1 * 8388608 ≤ (E + n.log2 - 23) * 8388608 := Nat.mul_le_mul_right _ (by omega)
      omega
    · obtain ⟨j, g1, g2, g3, g4⟩ := rg_high hm (E := E) (by omega)
      rw [g1]
      by_cases c3 : m.log2 = n.log2
      · rw [← c3] at h4 ⊢
        refine Nat.add_le_add_left ?_ _
        rw [g4, h4]
        split
        · exact Nat.mul_le_mul_right _ h
        · exact cut_mono false (by omega) (by omega) h
      · have e : (E + m.log2 - 23 + 1) * 8388608 ≤ (E + n.log2 - 23) * 8388608 := Nat.mul_le_mul_right _ (by omega)
        rw [Nat.add_mul] at e
        omega

/-- Rounding is monotone. -/
theorem near_mono {m n : Nat} (E : Nat) (h : m ≤ n) : Ieee.single.nearest false m (-149 + (E : Int)) ≤ Ieee.single.nearest false n (-149 + (E : Int)) := by
  by_cases hm : m = 0
  · subst hm
    have : Ieee.single.nearest false 0 (-149 + (E : Int)) = 0 := by simp [Ieee.Format.nearest, Ieee.Format.word]
    rw [this]; exact Nat.zero_le _
  · rw [near_rg E hm, near_rg E (by omega)]
    have := rg_mono E hm h
    omega
end Go.Ab

namespace Go.Ab
open Go
set_option linter.unusedVariables false
/-! ### WORDS WITH A SIGN -/
theorem near_word (s : Bool) (m : Nat) (e : Int) : Ieee.single.nearest s m e = Ieee.single.word s (Ieee.single.nearest false m e) := by
  unfold Ieee.Format.nearest
  split
  · rw [word_pos]
  · rw [word_pos]; rfl

theorem word_mod (s : Bool) {r : Nat} (h : r ≤ 2139095040) : Ieee.single.word s r % 2147483648 = r := by
  have hs : Ieee.single.signWeight = 2147483648 := rfl
  simp only [Ieee.Format.word, hs]
  cases s
  · simp only [Bool.false_eq_true, if_false]; omega
  · simp only [if_true]; omega

theorem word_num (s : Bool) {r : Nat} (h : r ≤ 2139095040) : nanB .f32 (Ieee.single.word s r) = false := by
  rw [nan32, word_mod s h]; simp only [decide_eq_false_iff_not]; omega

theorem near_mod (s : Bool) (m : Nat) (e : Int) : Ieee.single.nearest s m e % 2147483648 = Ieee.single.nearest false m e := by
  rw [near_word]; exact word_mod s (near_pos m e)

theorem near_num (s : Bool) (m : Nat) (e : Int) : nanB .f32 (Ieee.single.nearest s m e) = false := by
  rw [near_word]; exact word_num s (near_pos m e)

/-- A finite word with its sign. -/
theorem read_sgn {x : Nat} (h : x % 2147483648 < 2139095040) : ∃ (s : Bool) (m p : Nat), FloatKind.f32.format.read x = .number s m (-149 + p) ∧ FloatKind.f32.format.read (x % 2147483648) = .number false m (-149 + p) ∧ m < 16777216 ∧ p ≤ x % 2147483648 / 8388608 := by
  obtain ⟨m, p, hr, h1, h2, _⟩ := read_fin h
  have hs : Ieee.single.signWeight = 2147483648 := rfl
  have key : ∀ (m : Nat) (i : Int), Ieee.single.read (x % 2147483648) = .number false m i → ∃ s, Ieee.single.read x = .number s m i := by
    intro m i hh
    unfold Ieee.Format.read at hh ⊢
    simp only [hs, Nat.mod_mod] at hh ⊢
    have e0 : x % 2147483648 / 2147483648 = 0 := Nat.div_eq_of_lt (Nat.mod_lt _ (by decide))
    rw [e0] at hh
    split at hh
    · rename_i g
      simp only [Ieee.Datum.number.injEq] at hh
      exact ⟨_, by rw [if_pos g, hh.2.1, hh.2.2]⟩
    · rename_i g
      split at hh
      · rename_i g2
        simp only [Ieee.Datum.number.injEq] at hh
        exact ⟨_, by rw [if_neg g, if_pos g2, hh.2.1, hh.2.2]⟩
      · split at hh <;> cases hh
  obtain ⟨s, hk⟩ := key m _ hr
  exact ⟨s, m, p, hk, hr, h1, h2⟩

theorem sum_num (x y : Nat) (s t : Bool) (m n : Nat) (i j : Int) (hx : FloatKind.f32.format.read x = .number s m i) (hy : FloatKind.f32.format.read y = .number t n j) : nanB .f32 (fop .add .f32 x y) = false ∧ nanB .f32 (fop .sub .f32 x y) = false := by
  rw [fop_eq]; unfold fopImpl floatBits
  simp only [Ieee.Format.add, Ieee.Format.sub, hx, hy, Ieee.Datum.opposite, Ieee.Datum.sum, Option.map_some, Option.getD_some, Ieee.Format.write]
  exact ⟨near_num _ _ _, near_num _ _ _⟩

/-- What is no NaN is a number or infinity. -/
theorem num_cases {x : Nat} (h : nanB .f32 x = false) : x % 2147483648 < 2139095040 ∨ ∃ s, FloatKind.f32.format.read x = .infinity s := by
  rw [nan32] at h
  have h := of_decide_eq_false h
  rcases Nat.lt_or_ge (x % 2147483648) 2139095040 with g | g
  · exact Or.inl g
  · have e : x % 2147483648 = 2139095040 := by omega
    exact Or.inr ⟨_, read_inf .f32 (x := x) e⟩

theorem inf_num {s : Bool} : nanB .f32 (FloatKind.f32.format.word s FloatKind.f32.format.infRung) = false := word_num s (Nat.le_refl _)

/-- A number and what is no NaN. -/
theorem add_num {x y : Nat} (hx : x % 2147483648 < 2139095040) (hy : nanB .f32 y = false) : nanB .f32 (fop .add .f32 x y) = false := by
  obtain ⟨s, m, p, hr, _⟩ := read_sgn hx
  rcases num_cases hy with h | ⟨t, h⟩
  · obtain ⟨t, n, q, hq, _⟩ := read_sgn h
    exact (sum_num x y _ _ _ _ _ _ hr hq).1
  · rw [fop_eq]; unfold fopImpl floatBits
    simp only [Ieee.Format.add, hr, h, Ieee.Datum.sum, Option.map_some, Option.getD_some, Ieee.Format.write]
    exact inf_num

theorem sub_num2 {x y : Nat} (hx : x % 2147483648 < 2139095040) (hy : nanB .f32 y = false) : nanB .f32 (fop .sub .f32 x y) = false := by
  obtain ⟨s, m, p, hr, _⟩ := read_sgn hx
  rcases num_cases hy with h | ⟨t, h⟩
  · obtain ⟨t, n, q, hq, _⟩ := read_sgn h
    exact (sum_num x y _ _ _ _ _ _ hr hq).2
  · rw [fop_eq]; unfold fopImpl floatBits
    simp only [Ieee.Format.sub, hr, h, Ieee.Datum.opposite, Ieee.Datum.sum, Option.map_some, Option.getD_some, Ieee.Format.write]
    exact inf_num

/-- What is no NaN by a number that is not nought. -/
theorem quo_num {x y : Nat} (hx : nanB .f32 x = false) (hy : y < 2139095040) (h0 : y ≠ 0) : nanB .f32 (fop .quo .f32 x y) = false := by
  obtain ⟨n, q, hs, _, _, hn, _⟩ := read_fin hy
  rw [fop_eq]; unfold fopImpl floatBits
  rcases num_cases hx with h | ⟨t, h⟩
  · obtain ⟨t, m, p, hq, _⟩ := read_sgn h
    simp only [Ieee.Format.div, hq, hs, Ieee.Datum.quotient, if_neg (hn h0), Option.map_some, Option.getD_some, Ieee.Format.write]
    exact near_num _ _ _
  · simp only [Ieee.Format.div, h, hs, Ieee.Datum.quotient, Option.map_some, Option.getD_some, Ieee.Format.write]
    exact inf_num

/-- The size of a product. -/
theorem mul_size {x y : Nat} (L : Nat) (hx : x % 2147483648 < 2139095040) (hy : y % 2147483648 < 2139095040) (h : x % 2147483648 / 8388608 + y % 2147483648 / 8388608 ≤ L + 123) (h2 : 2 ≤ L) : fop .mul .f32 x y % 2147483648 ≤ L * 8388608 := by
  obtain ⟨s, m, p, hr, _, h1, h2'⟩ := read_sgn hx
  obtain ⟨t, n, q, hs, _, h3, h4⟩ := read_sgn hy
  rw [fop_eq]; unfold fopImpl floatBits
  simp only [Ieee.Format.mul, hr, hs, Ieee.Datum.product, Option.map_some, Option.getD_some, Ieee.Format.write]
  rw [show FloatKind.f32.format = Ieee.single from rfl, near_mod]
  refine near_bd L ?_ h2
  have := log2_mul h1 h3
  omega

theorem signed_abs (s : Bool) (m k : Nat) : (Ieee.signed s m k).natAbs = m * 2 ^ k := by
  unfold Ieee.signed; cases s <;> simp [Nat.shiftLeft_eq, Int.natAbs_mul, Int.natAbs_pow]

/-- The size of a difference. -/
theorem sub_size {x y : Nat} (hx : x % 2147483648 ≤ 1153138688) (hy : y % 2147483648 ≤ 1153138688) : fop .sub .f32 x y % 2147483648 ≤ 140 * 8388608 := by
  obtain ⟨s, m, p, hr, _, h1, h2⟩ := read_sgn (x := x) (by omega)
  obtain ⟨t, n, q, hs, _, h3, h4⟩ := read_sgn (x := y) (by omega)
  have hb : min (-149 + (p : Int)) (-149 + (q : Int)) = -149 + ((min p q : Nat) : Int) := by omega
  have a1 : (-149 + (p : Int) - (-149 + ((min p q : Nat) : Int))).toNat = p - min p q := by omega
  have a2 : (-149 + (q : Int) - (-149 + ((min p q : Nat) : Int))).toNat = q - min p q := by omega
  rw [fop_eq]; unfold fopImpl floatBits
  simp only [Ieee.Format.sub, hr, hs, Ieee.Datum.opposite, Ieee.Datum.sum, hb, a1, a2, Nat.shiftLeft_eq, Option.map_some, Option.getD_some, Ieee.Format.write]
  rw [show FloatKind.f32.format = Ieee.single from rfl, near_mod]
  have hA : m * 2 ^ (p - min p q) < 2 ^ (24 + (p - min p q)) := by
    rw [Nat.pow_add]; exact Nat.mul_lt_mul_of_pos_right h1 (Nat.two_pow_pos _)
  have hB : n * 2 ^ (q - min p q) < 2 ^ (24 + (q - min p q)) := by
    rw [Nat.pow_add]; exact Nat.mul_lt_mul_of_pos_right h3 (Nat.two_pow_pos _)
  have s1 := signed_abs s m (p - min p q)
  have s2 := signed_abs (!t) n (q - min p q)
  generalize m * 2 ^ (p - min p q) = A at hA s1
  generalize n * 2 ^ (q - min p q) = B at hB s2
  have hT : (Ieee.signed s m (p - min p q) + Ieee.signed (!t) n (q - min p q)).natAbs ≤ A + B := by omega
  generalize (Ieee.signed s m (p - min p q) + Ieee.signed (!t) n (q - min p q)).natAbs = T at hT
  have hT2 : T < 2 ^ (25 + (max p q - min p q)) := by
    have g1 : 2 ^ (24 + (p - min p q)) ≤ 2 ^ (24 + (max p q - min p q)) := Nat.pow_le_pow_right (by decide) (by omega)
    have g2 : 2 ^ (24 + (q - min p q)) ≤ 2 ^ (24 + (max p q - min p q)) := Nat.pow_le_pow_right (by decide) (by omega)
    have g3 : 2 ^ (25 + (max p q - min p q)) = 2 ^ (24 + (max p q - min p q)) + 2 ^ (24 + (max p q - min p q)) := by
      have : 25 + (max p q - min p q) = 24 + (max p q - min p q) + 1 := by omega
      rw [this, Nat.pow_succ]; omega
    omega
  by_cases h0 : T = 0
  · subst h0
    simp [Ieee.Format.nearest, Ieee.Format.word]
  · refine near_bd 140 ?_ (by decide)
    have := (Nat.log2_lt h0).2 hT2
    omega

/-- A difference of what is not below nought. -/
theorem sub_split {a d : Nat} (ha : a < 2139095040) (hd : d < 2139095040) : ∃ (A B g : Nat), FloatKind.f32.format.read a ≠ .nan false 0 ∧ fop .sub .f32 a d = Ieee.single.nearest (if (A : Int) - B = 0 then false else decide ((A : Int) - B < 0)) ((A : Int) - B).natAbs (-149 + (g : Int)) ∧ Ieee.single.nearest false A (-149 + (g : Int)) = a ∧ (d ≤ a → B ≤ A) ∧ (a < d → A < B) := by
  obtain ⟨m, p, hr, hm1, hp, _, hna⟩ := read_fin ha
  obtain ⟨n, q, r1, _⟩ := read_fin hd
  have hs : FloatKind.f32.format.signWeight = 2147483648 := rfl
  have hi : FloatKind.f32.format.infRung = 2139095040 := rfl
  have hl : FloatKind.f32.format.leastPlace = -149 := rfl
  have e1 : a % 2147483648 = a := Nat.mod_eq_of_lt (by omega)
  have e2 : d % 2147483648 = d := Nat.mod_eq_of_lt (by omega)
  obtain ⟨m', p', hr', hg⟩ := read_number .f32 (x := a) (by rw [hs, hi, e1]; omega)
  obtain ⟨n', q', hq', hg'⟩ := read_number .f32 (x := d) (by rw [hs, hi, e2]; omega)
  have hr0 := hr
  rw [hr] at hr'; rw [r1] at hq'
  rw [hl] at hr' hq'
  simp only [Ieee.Datum.number.injEq] at hr' hq'
  obtain ⟨_, rfl, hpp⟩ := hr'
  obtain ⟨_, rfl, hqq⟩ := hq'
  have hpp : p' = p := by omega
  have hqq : q' = q := by omega
  subst hpp; subst hqq
  rw [hs] at hg hg'
  rw [e1] at hg
  rw [e2] at hg'
  have hb : min (-149 + (p' : Int)) (-149 + (q' : Int)) = -149 + ((min p' q' : Nat) : Int) := by omega
  have a1 : (-149 + (p' : Int) - (-149 + ((min p' q' : Nat) : Int))).toNat = p' - min p' q' := by omega
  have a2 : (-149 + (q' : Int) - (-149 + ((min p' q' : Nat) : Int))).toNat = q' - min p' q' := by omega
  have c1 : m * 2 ^ p' = (m * 2 ^ (p' - min p' q')) * 2 ^ min p' q' := by rw [Nat.mul_assoc, ← Nat.pow_add]; congr 2; omega
  have c2 : n * 2 ^ q' = (n * 2 ^ (q' - min p' q')) * 2 ^ min p' q' := by rw [Nat.mul_assoc, ← Nat.pow_add]; congr 2; omega
  refine ⟨m * 2 ^ (p' - min p' q'), n * 2 ^ (q' - min p' q'), min p' q', by rw [hr0]; simp, ?_, ?_, ?_, ?_⟩
  · rw [fop_eq]; unfold fopImpl floatBits
    simp only [Ieee.Format.sub, hr, r1, Ieee.Datum.opposite, Ieee.Datum.sum, Ieee.signed, hb, a1, a2, Bool.not_false, Bool.false_eq_true, if_false, if_true, Nat.shiftLeft_eq, Option.map_some, Option.getD_some, Ieee.Format.write]
    generalize m * 2 ^ (p' - min p' q') = A
    generalize n * 2 ^ (q' - min p' q') = B
    rfl
  · have hsc := near_scale Ieee.single false m (p' - min p' q') (-149 + (p' : Int))
    have ep : -149 + (p' : Int) - ((p' - min p' q' : Nat) : Int) = -149 + ((min p' q' : Nat) : Int) := by omega
    rw [ep] at hsc
    rw [hsc]; exact hna
  · intro hle
    have hmg := mg_le FloatKind.f32.format hle
    rw [← hg, ← hg', c1, c2] at hmg
    exact Nat.le_of_mul_le_mul_right hmg (Nat.two_pow_pos _)
  · intro hlt
    have hmg := mg_lt FloatKind.f32.format hlt
    rw [← hg, ← hg', c1, c2] at hmg
    exact Nat.lt_of_mul_lt_mul_right hmg

/-- What is taken away leaves no more. -/
theorem sub_le_self {a d : Nat} (ha : a < 2139095040) (h : d ≤ a) : fop .sub .f32 a d ≤ a := by
  obtain ⟨A, B, g, _, h1, h2, h3, _⟩ := sub_split ha (d := d) (by omega)
  have h3 := h3 h
  rw [h1]
  have t1 : (if (A : Int) - B = 0 then false else decide ((A : Int) - B < 0)) = false := by
    split
    · rfl
    · simp only [decide_eq_false_iff_not]; omega
  have t2 : ((A : Int) - B).natAbs = A - B := by omega
  rw [t1, t2]
  calc _ ≤ Ieee.single.nearest false A (-149 + (g : Int)) := near_mono g (Nat.sub_le _ _)
    _ = a := h2

theorem key_word (s : Bool) {r : Nat} (h : r ≤ 2139095040) : key FloatKind.f32.format (Ieee.single.word s r) = if s then -(r : Int) else r := by
  have hs : Ieee.single.signWeight = 2147483648 := rfl
  have hw : Ieee.single.word s r < 4294967296 := by
    simp only [Ieee.Format.word, hs]; cases s <;> simp <;> omega
  rw [show FloatKind.f32.format = Ieee.single from rfl, key32 hw]
  have hm := word_mod s h
  cases s
  · have : Ieee.single.word false r = r := word_pos r
    rw [this, if_pos (by omega)]; simp
  · have e : Ieee.single.word true r = r + 2147483648 ∨ Ieee.single.word true r = 2147483648 + r := by
      simp only [Ieee.Format.word, hs, if_true]; omega
    rw [if_neg (by omega)]
    simp only [if_true]
    omega

/-- More taken away than there is: below nought. -/
theorem sub_below {a d : Nat} (ha : a < 2139095040) (h : a < d) (hd : d ≤ 2139095040) : key FloatKind.f32.format (fop .sub .f32 a d) ≤ 0 := by
  rcases Nat.lt_or_eq_of_le hd with g | g
  · obtain ⟨A, B, e, _, h1, h2, _, h4⟩ := sub_split ha g
    have h4 := h4 h
    rw [h1]
    have t1 : (if (A : Int) - B = 0 then false else decide ((A : Int) - B < 0)) = true := by
      rw [if_neg (by omega)]; simp only [decide_eq_true_eq]; omega
    rw [t1, near_word, key_word true (near_pos _ _)]
    simp
  · subst g
    obtain ⟨m, p, hr, _⟩ := read_fin ha
    have : fop .sub .f32 a 2139095040 = Ieee.single.word true 2139095040 := by
      rw [fop_eq]; unfold fopImpl floatBits
      simp only [Ieee.Format.sub, hr, read_top, Ieee.Datum.opposite, Ieee.Datum.sum, Option.map_some, Option.getD_some, Ieee.Format.write]
      rfl
    rw [this, key_word true (Nat.le_refl _)]
    decide
end Go.Ab

namespace Go.Ab
open Go
set_option linter.unusedVariables false
/-- The size of a sum of what is not below nought. -/
theorem add_bd {x y : Nat} (L : Nat) (hx : x < 2139095040) (hy : y < 2139095040) (h1 : x / 8388608 + 3 ≤ L) (h2 : y / 8388608 + 3 ≤ L) : fop .add .f32 x y ≤ L * 8388608 := by
  obtain ⟨m, p, hr, hm, hp, _⟩ := read_fin hx
  obtain ⟨n, q, hs, hn, hq, _⟩ := read_fin hy
  rw [fop_eq]; unfold fopImpl floatBits
  simp only [Ieee.Format.add, hr, hs, sum_fin, Option.map_some, Option.getD_some, Ieee.Format.write]
  rw [show FloatKind.f32.format = Ieee.single from rfl]
  have hA : m * 2 ^ (p - min p q) < 2 ^ (24 + (p - min p q)) := by
    rw [Nat.pow_add]; exact Nat.mul_lt_mul_of_pos_right hm (Nat.two_pow_pos _)
  have hB : n * 2 ^ (q - min p q) < 2 ^ (24 + (q - min p q)) := by
    rw [Nat.pow_add]; exact Nat.mul_lt_mul_of_pos_right hn (Nat.two_pow_pos _)
  generalize m * 2 ^ (p - min p q) = A at hA
  generalize n * 2 ^ (q - min p q) = B at hB
  have hT2 : A + B < 2 ^ (25 + (max p q - min p q)) := by
    have g1 : 2 ^ (24 + (p - min p q)) ≤ 2 ^ (24 + (max p q - min p q)) := Nat.pow_le_pow_right (by decide) (by omega)
    have g2 : 2 ^ (24 + (q - min p q)) ≤ 2 ^ (24 + (max p q - min p q)) := Nat.pow_le_pow_right (by decide) (by omega)
    have g3 : 2 ^ (25 + (max p q - min p q)) = 2 ^ (24 + (max p q - min p q)) + 2 ^ (24 + (max p q - min p q)) := by
      have : 25 + (max p q - min p q) = 24 + (max p q - min p q) + 1 := by omega
      rw [this, Nat.pow_succ]; omega
    omega
  by_cases h0 : A + B = 0
  · rw [h0]
    simp [Ieee.Format.nearest, Ieee.Format.word]
  · refine near_bd L ?_ (by omega)
    have := (Nat.log2_lt h0).2 hT2
    omega

/-- The mass of a layer is a number, and not nought. -/
theorem mas_fin {a c : Nat} (ha : a ≤ 1092616192) (hc : c ≤ 1092616192) : masF a c < 2139095040 ∧ masF a c ≠ 0 := by
  have h1 := mul_bd (x := a) (y := 1082130432) 136 (by omega) (by decide) (by omega) (by decide)
  have h2 := mul_bd (x := c) (y := 1073741824) 136 (by omega) (by decide) (by omega) (by decide)
  have h3 := add_bd (x := fop .mul .f32 a 1082130432) (y := fop .mul .f32 c 1073741824) 140 (by omega) (by omega) (by omega) (by omega)
  have h4 := add_bd (x := fop .add .f32 (fop .mul .f32 a 1082130432) (fop .mul .f32 c 1073741824)) (y := 1048576000) 144 (by omega) (by omega) (by omega) (by omega)
  refine ⟨?_, ?_⟩
  · unfold masF; omega
  · have := add_nz (x := fop .add .f32 (fop .mul .f32 a 1082130432) (fop .mul .f32 c 1073741824)) (y := 1048576000) (by omega) (by decide) (by decide)
    unfold masF; omega

/-- A heat that is held. -/
noncomputable def hW (f g a h c : Nat) : Nat := hO (fop .add .f32 h (fop .quo .f32 (fop .sub .f32 f g) (masF a c))) 3262119936 1153138688

theorem key_lo : key FloatKind.f32.format 3262119936 = -1114636288 := by
  rw [show FloatKind.f32.format = Ieee.single from rfl, key32 (by decide)]; decide

/-- What is held lies between -60 and 1500. -/
theorem held_lay {a v c : Nat} (ha : a ≤ 1092616192) (hc : c ≤ 1092616192) (hv : nanB .f32 v = false) (hw : v < 4294967296) : Lay a (hO v 3262119936 1153138688) c := by
  have n1 : nanB .f32 3262119936 = false := by rw [nan32]; decide
  have n2 : nanB .f32 1153138688 = false := nanp (by decide)
  rw [hO_eq]; unfold heldI
  rw [flt_key .f32 hv n1, flt_key .f32 n2 hv, key_lo, keyp (x := 1153138688) (by decide)]
  cases h1 : decide (key FloatKind.f32.format v < -1114636288) with
  | true =>
    show Lay a 3262119936 c
    exact ⟨ha, hc, by decide, n1, by decide, by show key _ 3262119936 ≤ _; rw [key_lo]; decide⟩
  | false =>
    have h1 := of_decide_eq_false h1
    cases h2 : decide (((1153138688 : Nat) : Int) < key FloatKind.f32.format v) with
    | true =>
      show Lay a 1153138688 c
      exact ⟨ha, hc, by decide, n2, by decide, by show key _ 1153138688 ≤ _; rw [keyp (by decide)]; decide⟩
    | false =>
      have h2 := of_decide_eq_false h2
      refine ⟨ha, hc, hw, hv, ?_, by show key _ v ≤ _; omega⟩
      show v % 2147483648 < _
      rw [show FloatKind.f32.format = Ieee.single from rfl, key32 hw] at h1 h2
      split at h1 <;> rename_i hs <;> simp only [hs, if_true, if_false] at h2 <;> omega

theorem lay_warm {f g a h c : Nat} (L : Lay a h c) (hn : nanB .f32 (fop .sub .f32 f g) = false) : Lay a (hW f g a h c) c := by
  obtain ⟨m1, m2⟩ := mas_fin L.wet L.fuel
  unfold hW
  exact held_lay L.wet L.fuel (add_num L.fin (quo_num hn m1 m2)) (fop_wf _ .f32 _ _)

/-- What flows between two layers. -/
noncomputable def flw (h h' t : Nat) : Nat := fop .mul .f32 (fop .mul .f32 1048576000 (fop .sub .f32 h h')) t

theorem lay_size {a h c : Nat} (L : Lay a h c) (hl : fleB .f32 3262119936 h = true) : h % 2147483648 ≤ 1153138688 := by
  have n1 : nanB .f32 3262119936 = false := by rw [nan32]; decide
  rw [fle_key .f32 n1 L.num, key_lo] at hl
  have hl := of_decide_eq_true hl
  have ht := L.top
  have hw := L.wf
  rw [show FloatKind.f32.format = Ieee.single from rfl, key32 hw] at hl ht
  split at hl <;> rename_i hs <;> simp only [hs, if_true, if_false] at ht <;> omega

theorem flw_fin {h h' t : Nat} (h1 : h % 2147483648 ≤ 1153138688) (h2 : h' % 2147483648 ≤ 1153138688) (ht : t ≤ 1065353216) : flw h h' t % 2147483648 < 2139095040 := by
  have a := sub_size h1 h2
  have b := mul_size (x := 1048576000) (y := fop .sub .f32 h h') 143 (by decide) (by omega) (by omega) (by decide)
  have c := mul_size (x := fop .mul .f32 1048576000 (fop .sub .f32 h h')) (y := t) 150 (by omega) (by omega) (by omega) (by decide)
  unfold flw; omega

/-- A layer that has dried is a layer. -/
theorem lay_dry {a h c t : Nat} (L : Lay a h c) (ht : t ≤ 1065353216) : Lay (wetS a h t) (heatS a h c t) c := by
  unfold wetS heatS
  cases hf : fltB .f32 1120403456 h with
  | false => exact L
  | true =>
    have hfe : fleB .f32 h 1120403456 = false := by rw [lay_flt L] at hf; simpa using hf
    have hX := lay_dX L ht hfe
    have ha := L.wet
    have hc := L.fuel
    obtain ⟨g1, g2⟩ := lay_hot L hfe
    have hd : dL a h t ≤ a := by
      unfold dL
      rw [flt_key .f32 (nanp hX) (nanp (by omega)), keyp (by omega), keyp (by omega)]
      cases hd : decide ((dX h t : Int) < a) with
      | true => have := of_decide_eq_true hd; show dX h t ≤ _; omega
      | false => exact Nat.le_refl _
    have hw := sub_le_self (a := a) (by omega) hd
    show Lay (fop .sub .f32 a (dL a h t)) (cond (fltB .f32 (hqF (dL a h t) a h c) 1120403456) 1120403456 (hqF (dL a h t) a h c)) c
    have h1 : fop .mul .f32 1157234688 (dL a h t) < 2139095040 := mul_fin (by decide) (by omega) (by omega)
    obtain ⟨m1, m2⟩ := mas_fin ha hc
    have h5 := quo_nn h1 (Nat.le_of_lt m1) m2
    have h6 : nanB .f32 (hqF (dL a h t) a h c) = false := sub_num L.fin h5
    rw [flt_key .f32 h6 (nanp (by decide)), keyp (x := 1120403456) (by decide)]
    cases hq : decide (key FloatKind.f32.format (hqF (dL a h t) a h c) < ((1120403456 : Nat) : Int)) with
    | true =>
      show Lay _ 1120403456 c
      exact ⟨by omega, hc, by decide, nanp (by decide), by decide, by show key _ 1120403456 ≤ _; rw [keyp (by decide)]; decide⟩
    | false =>
      have hq := of_decide_eq_false hq
      have hle : hqF (dL a h t) a h c ≤ h := by
        rcases Nat.lt_or_ge h (fop .quo .f32 (fop .mul .f32 1157234688 (dL a h t)) (masF a c)) with hlt | hge
        · have := sub_below (a := h) (by omega) hlt h5
          unfold hqF at hq
          omega
        · exact sub_le_self (by omega) hge
      refine ⟨by omega, hc, ?_, h6, ?_, ?_⟩
      · show hqF _ _ _ _ < _; omega
      · show hqF _ _ _ _ % _ < _; omega
      · show key _ (hqF _ _ _ _) ≤ _
        rw [keyp (by omega)]; omega

theorem siz_of {a h c : Nat} {x : Bool} (hw : h < 4294967296) (hk : okL a h c x = true) : h % 2147483648 ≤ 1153138688 := by
  have L := (lay_of hw hk).1
  unfold okL at hk
  cases h1 : kilF a with
  | false => rw [h1] at hk; cases hk
  | true =>
    cases h2 : kilF c with
    | false => rw [h1, h2] at hk; cases hk
    | true =>
      cases h3 : btwF h with
      | false => rw [h1, h2, h3] at hk; cases hk
      | true =>
        unfold btwF at h3
        cases h4 : fleB .f32 3262119936 h with
        | false => rw [h4] at h3; cases h3
        | true => exact lay_size L h4

theorem sizes_of {a0 a1 a2 a3 a4 a5 h0 h1 h2 h3 h4 h5 c0 c1 c2 c3 c4 c5 : Nat} (hw : ∀ n ∈ [a0, a1, a2, a3, a4, a5, h0, h1, h2, h3, h4, h5, c0, c1, c2, c3, c4, c5], wfW .f32 n) (hv : vOp [a0, a1, a2, a3, a4, a5, h0, h1, h2, h3, h4, h5, c0, c1, c2, c3, c4, c5] = true) :
    h0 % 2147483648 ≤ 1153138688 ∧ h1 % 2147483648 ≤ 1153138688 ∧ h2 % 2147483648 ≤ 1153138688 ∧ h3 % 2147483648 ≤ 1153138688 ∧ h4 % 2147483648 ≤ 1153138688 ∧ h5 % 2147483648 ≤ 1153138688 := by
  rw [vOp_eq] at hv
  simp only [validI] at hv
  have s0 := siz_of (hw h0 (by simp)) hv
  obtain ⟨_, hv⟩ := lay_of (hw h0 (by simp)) hv
  have s1 := siz_of (hw h1 (by simp)) hv
  obtain ⟨_, hv⟩ := lay_of (hw h1 (by simp)) hv
  have s2 := siz_of (hw h2 (by simp)) hv
  obtain ⟨_, hv⟩ := lay_of (hw h2 (by simp)) hv
  have s3 := siz_of (hw h3 (by simp)) hv
  obtain ⟨_, hv⟩ := lay_of (hw h3 (by simp)) hv
  have s4 := siz_of (hw h4 (by simp)) hv
  obtain ⟨_, hv⟩ := lay_of (hw h4 (by simp)) hv
  have s5 := siz_of (hw h5 (by simp)) hv
  exact ⟨s0, s1, s2, s3, s4, s5⟩
end Go.Ab

namespace Go.Ab
open Go
set_option linter.unusedVariables false
/-! ### Flues -/
noncomputable def bw (lo a hi : Nat) : Bool := cond (fleB .f32 lo a) (fleB .f32 a hi) false
noncomputable def flI (h w t d : Nat) : Bool := cond (bw 1031798784 h 1106247680) (cond (bw 1015021568 w 1082130432) (cond (bw 3262119936 t 1153138688) (shO d) false) false) false
noncomputable def flS (h w t d : Nat) : Bool := cond (amtF h) (cond (fleB .f32 1031798784 h) (cond (fleB .f32 h 1106247680) (cond (amtF w) (cond (fleB .f32 1015021568 w) (cond (fleB .f32 w 1082130432) (cond (bw 3262119936 t 1153138688) (shO d) false) false) false) false) false) false) false

theorem num_of_fle {a b : Nat} (h : fleB .f32 a b = true) : nanB .f32 a = false ∧ nanB .f32 b = false := by
  constructor
  · cases hh : nanB .f32 a with
    | false => rfl
    | true => rw [fle_nan .f32 (Or.inl hh)] at h; cases h
  · cases hh : nanB .f32 b with
    | false => rfl
    | true => rw [fle_nan .f32 (Or.inr hh)] at h; cases h

/-- What lies between two words is a word between them. -/
theorem bw_word {lo a hi : Nat} (ha : a < 4294967296) (h1 : fleB .f32 lo a = true) (h2 : fleB .f32 a hi = true) (l0 : 0 < lo) (l1 : lo ≤ 2139095040) (l2 : hi ≤ 2139095040) : lo ≤ a ∧ a ≤ hi := by
  obtain ⟨_, hn⟩ := num_of_fle h1
  rw [fle_key .f32 (nanp l1) hn, keyp (x := lo) (by omega)] at h1
  rw [fle_key .f32 hn (nanp l2), keyp (x := hi) (by omega)] at h2
  have h1 := of_decide_eq_true h1
  have h2 := of_decide_eq_true h2
  rw [show FloatKind.f32.format = Ieee.single from rfl, key32 ha] at h1 h2
  split at h1 <;> rename_i hs <;> simp only [hs, if_true, if_false] at h2 <;> omega

theorem amt_bw {lo a hi : Nat} (ha : a < 4294967296) (h1 : fleB .f32 lo a = true) (h2 : fleB .f32 a hi = true) (l0 : 0 < lo) (l1 : lo ≤ 2139095040) (l2 : hi < 2139095040) : amtF a = true := by
  have := bw_word ha h1 h2 l0 l1 (by omega)
  unfold amtF
  exact decide_eq_true (by omega)

theorem fl_eq {h w t d : Nat} (hh : h < 4294967296) (hw : w < 4294967296) : flS h w t d = flI h w t d := by
  unfold flS flI bw
  cases h1 : fleB .f32 1031798784 h with
  | false => cases amtF h <;> rfl
  | true =>
    cases h2 : fleB .f32 h 1106247680 with
    | false => cases amtF h <;> rfl
    | true =>
      rw [amt_bw hh h1 h2 (by decide) (by decide) (by decide)]
      cases h3 : fleB .f32 1015021568 w with
      | false => cases amtF w <;> rfl
      | true =>
        cases h4 : fleB .f32 w 1082130432 with
        | false => cases amtF w <;> rfl
        | true =>
          rw [amt_bw hw h3 h4 (by decide) (by decide) (by decide)]
          rfl

theorem fl_facts {h w t d : Nat} (hh : h < 4294967296) (hw : w < 4294967296) (hf : flI h w t d = true) : (1031798784 ≤ h ∧ h ≤ 1106247680) ∧ (1015021568 ≤ w ∧ w ≤ 1082130432) ∧ (fleB .f32 3262119936 t = true ∧ fleB .f32 t 1153138688 = true) ∧ d ≤ 1065353216 := by
  unfold flI bw at hf
  cases h1 : fleB .f32 1031798784 h with
  | false => rw [h1] at hf; cases hf
  | true =>
    cases h2 : fleB .f32 h 1106247680 with
    | false => rw [h1, h2] at hf; cases hf
    | true =>
      cases h3 : fleB .f32 1015021568 w with
      | false => rw [h1, h2, h3] at hf; cases hf
      | true =>
        cases h4 : fleB .f32 w 1082130432 with
        | false => rw [h1, h2, h3, h4] at hf; cases hf
        | true =>
          cases h5 : fleB .f32 3262119936 t with
          | false => rw [h1, h2, h3, h4, h5] at hf; cases hf
          | true =>
            cases h6 : fleB .f32 t 1153138688 with
            | false => rw [h1, h2, h3, h4, h5, h6] at hf; cases hf
            | true =>
              rw [h1, h2, h3, h4, h5, h6] at hf
              exact ⟨bw_word hh h1 h2 (by decide) (by decide) (by decide), bw_word hw h3 h4 (by decide) (by decide) (by decide), ⟨rfl, rfl⟩, sh_le hf⟩

/-- The resistance. -/
noncomputable def reF (h w d : Nat) : Nat := fop .quo .f32 (fop .add .f32 1065353216 (fop .mul .f32 1048576000 h)) (fop .mul .f32 (fop .mul .f32 w d) (fop .mul .f32 w d))

theorem quo_zero {x : Nat} (hx : x < 2139095040) : finF (fop .quo .f32 x 0) = false := by
  obtain ⟨m, p, hr, _⟩ := read_fin hx
  have r0 : FloatKind.f32.format.read 0 = .number false 0 (-149 + ((0 : Nat) : Int)) := by decide +kernel
  rw [fop_eq]; unfold fopImpl floatBits
  simp only [Ieee.Format.div, hr, r0, Ieee.Datum.quotient, if_true]
  by_cases hm : m = 0
  · simp only [hm, if_true, Option.map_none, Option.getD_none]
    unfold finF nanW; decide
  · simp only [hm, if_false, Option.map_some, Option.getD_some, Ieee.Format.write]
    decide

theorem re_zero {h w t d : Nat} (hh : h < 4294967296) (hw : w < 4294967296) (hf : flI h w t d = true) (hd : feqB .f32 d 0 = true) : finF (reF h w d) = false := by
  obtain ⟨⟨_, h1⟩, ⟨_, w1⟩, _, d1⟩ := fl_facts hh hw hf
  have hd0 : d = 0 := by
    rw [feq_key .f32 (nanp (by omega)) (nanp (by decide)), keyp (by omega), keyp (by decide)] at hd
    have := of_decide_eq_true hd
    omega
  subst hd0
  have z1 := mul_zero (x := w) (by omega)
  have z2 := mul_zero (x := 0) (by decide)
  have b1 := mul_bd (x := 1048576000) (y := h) 140 (by decide) (by omega) (by omega) (by decide)
  have b2 := add_bd (x := 1065353216) (y := fop .mul .f32 1048576000 h) 145 (by decide) (by omega) (by omega) (by omega)
  unfold reF
  rw [z1, z2]
  exact quo_zero (by omega)

/-- A gate of two tests. -/
noncomputable def gt2 (v o : Bool) (x : Nat) : Nat := cond (!v) 0 (cond (!o) 0 x)
noncomputable def cd2 (v o : Bool) (e : Int) : Int := cond (!v) 1 (cond (!o) e 0)
noncomputable def outX (x : Nat) (c : Int) : Option AVal := some (.tuple [.flt .f32 x, .sint .i64 c])
noncomputable def dnF (a : Nat) : Nat := fop .quo .f32 1135640576 (fop .add .f32 a 1133019136)
noncomputable def drF (h t o : Nat) : Nat := fop .mul .f32 (fop .mul .f32 1092354048 h) (fop .sub .f32 (dnF o) (dnF t))
/-- The model asks for the damper first. -/
theorem re_gate {h w t d : Nat} (hh : h < 4294967296) (hw : w < 4294967296) :
    cond (!flI h w t d) 0 (cond (feqB .f32 d 0) 0 (cond (!finF (reF h w d)) 0 (reF h w d))) = gt2 (flI h w t d) (finF (reF h w d)) (reF h w d) ∧
    cond (!flI h w t d) (1 : Int) (cond (feqB .f32 d 0) 4 (cond (!finF (reF h w d)) 4 0)) = cd2 (flI h w t d) (finF (reF h w d)) 4 := by
  unfold gt2 cd2
  cases hf : flI h w t d with
  | false => exact ⟨rfl, rfl⟩
  | true =>
    cases hd : feqB .f32 d 0 with
    | false => exact ⟨rfl, rfl⟩
    | true =>
      rw [re_zero hh hw hf hd]; exact ⟨rfl, rfl⟩
end Go.Ab

namespace Go.Ab
open Go
set_option linter.unusedVariables false
/-! ### A whole step of a log -/
theorem fin_size {a : Nat} (h : finF a = true) : a % 2147483648 < 2139095040 := by
  unfold finF at h
  simpa using h
theorem fin_nan {a : Nat} (h : a % 2147483648 < 2139095040) : nanB .f32 a = false := by
  rw [nan32]; simp only [decide_eq_false_iff_not]; omega
noncomputable def gv (g : Bool) (x : Nat) : Nat := cond (!g) 0 x
noncomputable def sA (g : Bool) (a h t : Nat) : Nat := wetS (gv g a) (gv g h) t
noncomputable def sH2 (g : Bool) (a h c t : Nat) : Nat := heatS (gv g a) (gv g h) (gv g c) t
noncomputable def sH (g : Bool) (a h c x t : Nat) : Nat := bhS (sA g a h t) (sH2 g a h c t) (gv g c) x t
noncomputable def sC (g : Bool) (a h c x t : Nat) : Nat := bfS (sA g a h t) (sH2 g a h c t) (gv g c) x t
noncomputable def sB (g : Bool) (a h c x t : Nat) : Nat := bS (sA g a h t) (sH2 g a h c t) (gv g c) x t
noncomputable def sD (g : Bool) (a h t : Nat) : Nat := dS (gv g a) (gv g h) t
noncomputable def iH (a h c x t : Nat) : Nat := bhI (wetI a h t) (heatI a h c t) c x t
noncomputable def iC (a h c x t : Nat) : Nat := bfI (wetI a h t) (heatI a h c t) c x t
noncomputable def iB (s a h c x t : Nat) : Nat := bsI s (wetI a h t) (heatI a h c t) c x t
noncomputable def iE (s a h c x t : Nat) : Nat := beI s (wetI a h t) (heatI a h c t) c x t
variable {a h c x t : Nat}
theorem wet3 (L : Lay a h c) (ht : t ≤ 1065353216) : wetI a h t = sA true a h t := wet_eq L ht
theorem heat3 (L : Lay a h c) (hx : x ≤ 1065353216) (ht : t ≤ 1065353216) : iH a h c x t = sH true a h c x t := by
  unfold iH
  rw [wet_eq L ht, heat_eq L ht]
  exact bh_eq (lay_dry L ht) hx ht
theorem fuel3 (L : Lay a h c) (hx : x ≤ 1065353216) (ht : t ≤ 1065353216) : iC a h c x t = sC true a h c x t := by
  unfold iC
  rw [wet_eq L ht, heat_eq L ht]
  exact bf_eq (lay_dry L ht) hx ht
theorem warm_lays {f0 h0 h1 h2 h3 h4 h5 a0 a1 a2 a3 a4 a5 c0 c1 c2 c3 c4 c5 : Nat} (ht : t ≤ 1065353216) (hg : finF f0 = true) (L0 : Lay a0 h0 c0) (L1 : Lay a1 h1 c1) (L2 : Lay a2 h2 c2) (L3 : Lay a3 h3 c3) (L4 : Lay a4 h4 c4) (L5 : Lay a5 h5 c5) (hs : h0 % 2147483648 ≤ 1153138688 ∧ h1 % 2147483648 ≤ 1153138688 ∧ h2 % 2147483648 ≤ 1153138688 ∧ h3 % 2147483648 ≤ 1153138688 ∧ h4 % 2147483648 ≤ 1153138688 ∧ h5 % 2147483648 ≤ 1153138688) :
    Lay a0 (hW f0 (flw h0 h1 t) a0 h0 c0) c0 ∧ Lay a1 (hW (flw h0 h1 t) (flw h1 h2 t) a1 h1 c1) c1 ∧ Lay a2 (hW (flw h1 h2 t) (flw h2 h3 t) a2 h2 c2) c2 ∧ Lay a3 (hW (flw h2 h3 t) (flw h3 h4 t) a3 h3 c3) c3 ∧ Lay a4 (hW (flw h3 h4 t) (flw h4 h5 t) a4 h4 c4) c4 ∧ Lay a5 (hW (flw h4 h5 t) 0 a5 h5 c5) c5 := by
  obtain ⟨s0, s1, s2, s3, s4, s5⟩ := hs
  have k0 := fin_size hg
  have k1 := flw_fin s0 s1 ht
  have k2 := flw_fin s1 s2 ht
  have k3 := flw_fin s2 s3 ht
  have k4 := flw_fin s3 s4 ht
  have k5 := flw_fin s4 s5 ht
  have n1 := fin_nan k1
  have n2 := fin_nan k2
  have n3 := fin_nan k3
  have n4 := fin_nan k4
  have n5 := fin_nan k5
  have n6 : nanB .f32 0 = false := nanp (by decide)
  exact ⟨lay_warm L0 (sub_num2 k0 n1), lay_warm L1 (sub_num2 k1 n2), lay_warm L2 (sub_num2 k2 n3), lay_warm L3 (sub_num2 k3 n4), lay_warm L4 (sub_num2 k4 n5), lay_warm L5 (sub_num2 k5 n6)⟩
theorem steam3 {a0 a1 a2 a3 a4 a5 h0 h1 h2 h3 h4 h5 c0 c1 c2 c3 c4 c5 : Nat} (ht : t ≤ 1065353216) (L0 : Lay a0 h0 c0) (L1 : Lay a1 h1 c1) (L2 : Lay a2 h2 c2) (L3 : Lay a3 h3 c3) (L4 : Lay a4 h4 c4) (L5 : Lay a5 h5 c5) :
    sumI (sumI (sumI (sumI (sumI (sumI (0) a0 h0 t) a1 h1 t) a2 h2 t) a3 h3 t) a4 h4 t) a5 h5 t = fop .add .f32 (fop .add .f32 (fop .add .f32 (fop .add .f32 (fop .add .f32 (sD true a0 h0 t) (sD true a1 h1 t)) (sD true a2 h2 t)) (sD true a3 h3 t)) (sD true a4 h4 t)) (sD true a5 h5 t) := sums_eq ht L0 L1 L2 L3 L4 L5
theorem burn3 {a0 a1 a2 a3 a4 a5 h0 h1 h2 h3 h4 h5 c0 c1 c2 c3 c4 c5 : Nat} (hx : x ≤ 1065353216) (ht : t ≤ 1065353216) (L0 : Lay a0 h0 c0) (L1 : Lay a1 h1 c1) (L2 : Lay a2 h2 c2) (L3 : Lay a3 h3 c3) (L4 : Lay a4 h4 c4) (L5 : Lay a5 h5 c5) :
    iB (iB (iB (iB (iB (iB (0) a0 h0 c0 x t) a1 h1 c1 x t) a2 h2 c2 x t) a3 h3 c3 x t) a4 h4 c4 x t) a5 h5 c5 x t = fop .add .f32 (fop .add .f32 (fop .add .f32 (fop .add .f32 (fop .add .f32 (sB true a0 h0 c0 x t) (sB true a1 h1 c1 x t)) (sB true a2 h2 c2 x t)) (sB true a3 h3 c3 x t)) (sB true a4 h4 c4 x t)) (sB true a5 h5 c5 x t) := by
  unfold iB
  rw [wet_eq L0 ht, heat_eq L0 ht, wet_eq L1 ht, heat_eq L1 ht, wet_eq L2 ht, heat_eq L2 ht, wet_eq L3 ht, heat_eq L3 ht, wet_eq L4 ht, heat_eq L4 ht, wet_eq L5 ht, heat_eq L5 ht]
  exact bsums_eq hx ht (lay_dry L0 ht) (lay_dry L1 ht) (lay_dry L2 ht) (lay_dry L3 ht) (lay_dry L4 ht) (lay_dry L5 ht)
theorem energy3 {a0 a1 a2 a3 a4 a5 h0 h1 h2 h3 h4 h5 c0 c1 c2 c3 c4 c5 : Nat} (hx : x ≤ 1065353216) (ht : t ≤ 1065353216) (L0 : Lay a0 h0 c0) (L1 : Lay a1 h1 c1) (L2 : Lay a2 h2 c2) (L3 : Lay a3 h3 c3) (L4 : Lay a4 h4 c4) (L5 : Lay a5 h5 c5) :
    iE (iE (iE (iE (iE (iE (0) a0 h0 c0 x t) a1 h1 c1 x t) a2 h2 c2 x t) a3 h3 c3 x t) a4 h4 c4 x t) a5 h5 c5 x t = fop .add .f32 (fop .add .f32 (fop .add .f32 (fop .add .f32 (fop .add .f32 (fop .mul .f32 1167867904 (sB true a0 h0 c0 x t)) (fop .mul .f32 1167867904 (sB true a1 h1 c1 x t))) (fop .mul .f32 1167867904 (sB true a2 h2 c2 x t))) (fop .mul .f32 1167867904 (sB true a3 h3 c3 x t))) (fop .mul .f32 1167867904 (sB true a4 h4 c4 x t))) (fop .mul .f32 1167867904 (sB true a5 h5 c5 x t)) := by
  unfold iE
  rw [wet_eq L0 ht, heat_eq L0 ht, wet_eq L1 ht, heat_eq L1 ht, wet_eq L2 ht, heat_eq L2 ht, wet_eq L3 ht, heat_eq L3 ht, wet_eq L4 ht, heat_eq L4 ht, wet_eq L5 ht, heat_eq L5 ht]
  exact besums_eq hx ht (lay_dry L0 ht) (lay_dry L1 ht) (lay_dry L2 ht) (lay_dry L3 ht) (lay_dry L4 ht) (lay_dry L5 ht)
/-! gates -/
noncomputable def cdI (v f t x : Bool) : Int := cond (!v) 1 (cond (cond (!f) true (cond (!t) true (!x))) 2 0)
noncomputable def gtI (c : Int) (g : Bool) (y : Nat) : Nat := cond (c != 0) 0 (cond (!g) 0 y)
noncomputable def gtS (c : Int) (g : Bool) (y : Nat) : Nat := cond (c != 0) 0 (cond ((cond (!g) (4 : Int) 0) != 0) 0 y)
noncomputable def coI (c : Int) (g : Bool) : Int := cond (c != 0) c (cond (!g) 4 0)
noncomputable def coS (c : Int) (g : Bool) : Int := cond (c != 0) c (cond ((cond (!g) (4 : Int) 0) != 0) (cond (!g) 4 0) 0)
theorem gt3 {v f t x g : Bool} {y : Nat} (F : Bool → Nat) (h : v = true → f = true → t = true → x = true → g = true → y = F true) : gtI (cdI v f t x) g y = gtS (cdI v f x t) g (F g) := by
  cases v <;> cases f <;> cases t <;> cases x <;> cases g <;> first | rfl | exact h rfl rfl rfl rfl rfl
theorem co3 (v f t x g : Bool) : coI (cdI v f t x) g = coS (cdI v f x t) g := by
  cases v <;> cases f <;> cases t <;> cases x <;> cases g <;> rfl
noncomputable def outF3 (ws : List Nat) (s u v : Nat) (c : Int) : Option AVal := some (.tuple [.agg (encF ws), .flt .f32 s, .flt .f32 u, .flt .f32 v, .sint .i64 c])
theorem outF3_eq {ws ws' : List Nat} {s s' u u' v v' : Nat} {c c' : Int} (h1 : ws = ws') (h2 : s = s') (h3 : u = u') (h4 : v = v') (h5 : c = c') : outF3 ws s u v c = outF3 ws' s' u' v' c' := by
  subst h1; subst h2; subst h3; subst h4; subst h5; rfl
theorem cons_eq {x y : Nat} {xs ys : List Nat} (h : x = y) (k : xs = ys) : x :: xs = y :: ys := by subst h; subst k; rfl
end Go.Ab

namespace Go.Ab
open Go Go.RowKit
set_option linter.unusedVariables false
/-! ### An element that is pointed to -/
theorem vcells_get {v : Vc} {k : Nat} : ∀ (n o : Nat) (l : List AVal), v.cellsAt k o n = some l → l.length = n ∧ ∀ (q : Nat) (x : AVal), l[q]? = some x → ∃ c, nthC (o + q) v.sh = some c ∧ x = v.mkA k (o + q) c
  | 0, o, l, h => by simp [Vc.cellsAt] at h; subst h; exact ⟨rfl, fun q x hx => by simp at hx⟩
  | n + 1, o, l, h => by
    unfold Vc.cellsAt at h
    split at h
    · rename_i c hc
      split at h
      · rename_i r hr; cases h
        obtain ⟨h1, h2⟩ := vcells_get n (o + 1) r hr
        refine ⟨by simp [h1], fun q x hx => ?_⟩
        cases q with
        | zero => simp at hx; exact ⟨c, hc, hx.symm⟩
        | succ q =>
          have := h2 q x (by simpa using hx)
          have e : o + (q + 1) = o + 1 + q := by omega
          rw [e]; exact this
      · cases h
    · cases h

theorem vcells_flat {v : Vc} {k : Nat} : ∀ (n o : Nat) (l : List AVal), v.cellsAt k o n = some l → AVal.flat.flatL l = true
  | 0, o, l, h => by simp [Vc.cellsAt] at h; subst h; rfl
  | n + 1, o, l, h => by
    unfold Vc.cellsAt at h
    split at h
    · rename_i c hc
      split at h
      · rename_i r hr; cases h
        have := vcells_flat n (o + 1) r hr
        unfold AVal.flat.flatL
        cases c <;> simp only [Vc.mkA, AVal.flat, this]
      · cases h
    · cases h

theorem vview_mem {M : Addr → Prop} {w0 : World} {ρ : Rho} {S : St} {w : World} (hM : Mem M w0 ρ S w) {i k n : Nat} {vc : Vc} {l : List AVal} (hS : S.vec i = some vc) (hk : k < vc.n.val) (hc : vc.cellsAt k 0 n = some l) (hn : 1 ≤ n) {v : Value} (hv : V ρ (.vptr i (lenL vc.sh) k 0) v) :
    ∃ ρ1, Mem NoM w ρ1 (St1 l) w ∧ V ρ1 (.ptr 0 0) v := by
  obtain ⟨hl, hget⟩ := vcells_get n 0 l hc
  have hfl := vcells_flat n 0 l hc
  unfold V at hv
  obtain ⟨r, b, hr, hve⟩ := hv
  have hlt := hM.hp.lt i r b hr
  have hwb : ∀ j, ((St1 l).blk j).wr = false := fun j => by
    cases j with
    | zero => rfl
    | succ j => unfold St.blk St1; simp only [nthB]
  have hvn : ∀ j vc, ¬ (St1 l).vec j = some vc := fun j vc h => by
    obtain ⟨u, hu⟩ := vec_blk h
    cases j with
    | zero => cases hu
    | succ j => unfold St.blk St1 at hu; simp only [nthB] at hu; cases hu
  refine ⟨⟨fun j => if j = 0 then some (r, b + k * lenL vc.sh) else none, fun _ => 0, fun _ => false⟩, ⟨⟨fun j q x hx => ?_, fun j vc _ _ _ _ _ h => (hvn j vc h).elim, fun j q x r b _ hw => ?_, fun j vc _ _ _ h => (hvn j vc h).elim, fun j vc _ _ h => (hvn j vc h).elim, fun j k r b b' _ hw => ?_, fun j p hp => ?_, fun j h => by (cases h), fun j q x h => by (simp [St1, hlookL] at h), fun j x h => by (simp [St1, vlookL] at h), fun j r' b' hp => ?_⟩, Fr.refl _ _, ⟨fun j q x r b _ hw => ?_, fun j vc _ _ _ h => (hvn j vc h).elim⟩⟩, ?_⟩
  · obtain ⟨rfl, hq⟩ := st1_cell hx
    obtain ⟨c, hcq, rfl⟩ := hget q x hq
    rw [Nat.zero_add] at hcq ⊢
    obtain ⟨u, k2, k3⟩ := hM.hp.vcell i vc r b k q c hS hr hk hcq
    exact ⟨r, b + k * lenL vc.sh, u, rfl, by rw [Nat.add_assoc]; exact k2, V_flat _ _ (by cases c <;> rfl) k3⟩
  · rw [hwb j] at hw; cases hw
  · rcases wrB_iff.1 hw with ⟨q, x, hx, hw⟩ | ⟨vc, hx, _⟩
    · rw [hwb j] at hw; cases hw
    · exact (hvn j vc hx).elim
  · dsimp only at hp
    split at hp
    · rename_i hj; subst hj; show 0 < ([_] : List Blk).length; simp
    · cases hp
  · dsimp only at hp
    split at hp
    · cases hp; exact hlt
    · cases hp
  · rw [hwb j] at hw; cases hw
  · unfold V
    exact ⟨r, b + k * lenL vc.sh, rfl, by rw [hve]; simp⟩

/-- The words of a row fit. -/
theorem row_wf {M : Addr → Prop} {w0 : World} {ρ : Rho} {S : St} {w : World} (hM : Mem M w0 ρ S w) {i k o : Nat} {vc : Vc} {p : Nat × Nat} (hS : S.vec i = some vc) (hk : k < vc.n.val) (hr : ρ i = some p) (hc : nthC o vc.sh = some .f32) : wfW .f32 (vc.fd k o) := by
  obtain ⟨u, _, h2⟩ := hM.hp.vcell i vc p.1 p.2 k o .f32 hS hr hk hc
  exact V_wf h2

def flSh : List CK := [.f32, .f32, .f32, .f32, .int .i64]
noncomputable def flV (v : Vc) (k : Nat) : Bool := flI (v.fd k 0) (v.fd k 1) (v.fd k 2) (v.fd k 3)

/-- Whether a flue that is pointed to is valid for itself. -/
noncomputable def fluC : Ctr := ⟨fun args S => match args with
  | [.vptr i e k o] => match S.vec i with
    | some v => match Nat.beq e 5 && (Nat.beq o 0 && eqSh flSh v.sh) with
      | true => some ⟨.sbool (flV v k), [], [], [], Nat.ble (k + 1) v.n.val, none⟩
      | false => none
    | none => none
  | _ => none, none⟩

section
variable {P : Program}
theorem sat_flu {Γ : List (Nat × Ctr)} (hΓ : Good P Γ) (hm : P.follows .mixedOrders = true) {f : FuncId} {fn : Func} (hf : P.funcs[f]? = some fn)
    (hcall : ∀ (args : Array Value) (w : World), (callFunc f args).run P w = .ok (.enter f args) w)
    (he : ∀ (h w t d : Nat) (z : Int), evBody P Γ 100 fn [.ptr 0 0] (St1 [.flt .f32 h, .flt .f32 w, .flt .f32 t, .flt .f32 d, .sint .i64 z]) = some ⟨.sbool (flS h w t d), [], [], [], true, none⟩) : Sat P f fluC := by
  refine ⟨hcall, fun args S out hfn hnd M w0 ρ w vs hM hv => ?_⟩
  simp only [fluC] at hfn
  split at hfn
  · rename_i i e k o
    split at hfn
    · rename_i v hvec
      split at hfn
      · rename_i hb
        cases hfn
        simp only [Bool.and_eq_true] at hb hnd
        have e1 := Nat.eq_of_beq_eq_true hb.1
        have e2 := Nat.eq_of_beq_eq_true hb.2.1
        have hs := (eqSh_eq hb.2.2).symm
        subst e1; subst e2
        have hk : k < v.n.val := Nat.le_of_ble_eq_true hnd
        have hlen : lenL v.sh = 5 := by rw [hs]; rfl
        have hs' : SatC P f (inl P Γ 100 fn) := inl_sat hΓ hm hf hcall 100
        unfold VL at hv
        obtain ⟨u, vs', rfl, hv1, hv2⟩ := hv
        have hc : v.cellsAt k 0 5 = some [.flt .f32 (v.fd k 0), .flt .f32 (v.fd k 1), .flt .f32 (v.fd k 2), .flt .f32 (v.fd k 3), .sint .i64 (v.gd k 4)] := by
          obtain ⟨sh, n, fd, gd, bd, wr⟩ := v
          have hs : sh = flSh := hs
          subst hs
          rfl
        obtain ⟨ρ1, hM1, hv3⟩ := vview_mem hM hvec hk hc (by decide) (by rw [hlen]; exact hv1)
        have hvl : VL ρ1 [.ptr 0 0] (u :: vs') := by
          unfold VL at hv2 ⊢
          subst hv2
          exact ⟨u, [], rfl, hv3, by unfold VL; rfl⟩
        have hp : ∃ p, ρ i = some p := by
          unfold V at hv1
          obtain ⟨r, b, hr, _⟩ := hv1
          exact ⟨_, hr⟩
        obtain ⟨p, hp⟩ := hp
        have w0' := row_wf hM (o := 0) hvec hk hp (by rw [hs]; rfl)
        have w1' := row_wf hM (o := 1) hvec hk hp (by rw [hs]; rfl)
        refine (hs'.sat [.ptr 0 0] _ _ (he _ _ _ _ _) rfl NoM w ρ1 w _ hM1 hvl).mono ?_
        intro e w' hr
        cases e with
        | outgrown => exact hr.elim
        | panicked ch =>
          obtain ⟨v, u, hp, _⟩ := hr
          cases hp
        | returned x =>
          obtain ⟨_, ρ', _, hu, hm'⟩ := hr
          refine ⟨fun b v h => (by cases h), ρ, ExtS.refl _ _, ?_, (hM.quiet hm'.fr).put_nil⟩
          have : V ρ (.sbool (flS (v.fd k 0) (v.fd k 1) (v.fd k 2) (v.fd k 3))) x := V_flat _ _ rfl hu
          rw [fl_eq w0' w1'] at this
          exact this
      · cases hfn
    · cases hfn
  · cases hfn
end

/-! ### Chimneys -/
/-- What is wrong with a flue, as the program asks. -/
noncomputable def badI (v : Vc) (a n k : Nat) : Bool := cond (!flV v (Nat.add a k)) true (cond (!(v.gd (Nat.add a k) 4 == -1)) (cond (cond (decide (0 ≤ v.gd (Nat.add a k) 4)) (decide (v.gd (Nat.add a k) 4 < Int.ofNat n)) false) (!(v.gd (Nat.add a (v.gd (Nat.add a k) 4).toNat) 4 == -1)) true) false)
/-- .. and as the model asks. -/
noncomputable def badS (v : Vc) (a n k : Nat) : Bool := cond (v.gd (Nat.add a k) 4 == -1) false (cond (!(cond (decide (v.gd (Nat.add a k) 4 ≥ 0)) (decide (v.gd (Nat.add a k) 4 ≤ IntKind.i64.wrap (Int.ofNat n - 1))) false)) true (cond (v.gd (Nat.add a k) 4 == Int.ofNat k) true (!(v.gd (Nat.add a (v.gd (Nat.add a k) 4).toNat) 4 == -1))))

theorem bad_eq {v : Vc} {a n k : Nat} (hn : n ≤ 140737488355328) (hk : k < n) : cond (!flV v (Nat.add a k)) true (badS v a n k) = badI v a n k := by
  unfold badS badI
  have hw : IntKind.i64.wrap (Int.ofNat n - 1) = Int.ofNat n - 1 := IntWalk.i64_in _ (by show _ ≤ (n : Int) - 1 ∧ (n : Int) - 1 ≤ _; omega)
  rw [hw]
  cases h1 : flV v (Nat.add a k) with
  | false => rfl
  | true =>
    show cond _ _ _ = cond _ _ _
    by_cases h2 : v.gd (Nat.add a k) 4 = -1
    · have h2' : (v.gd (Nat.add a k) 4 == -1) = true := by rw [h2]; rfl
      rw [h2']; rfl
    · have h2' : (v.gd (Nat.add a k) 4 == -1) = false := by simpa using h2
      rw [h2']
      show cond (!(cond _ _ _)) true _ = cond (cond _ _ _) _ true
      generalize hz : v.gd (Nat.add a k) 4 = z at *
      by_cases h3 : 0 ≤ z
      · have d1 : decide (z ≥ 0) = true := decide_eq_true h3
        have d2 : decide (0 ≤ z) = true := decide_eq_true h3
        rw [d1]
        by_cases h4 : z < Int.ofNat n
        · have d3 : decide (z < Int.ofNat n) = true := decide_eq_true h4
          have d4 : decide (z ≤ Int.ofNat n - 1) = true := decide_eq_true (by omega)
          rw [d3, d4]
          show cond (z == Int.ofNat k) true _ = _
          by_cases h5 : z = Int.ofNat k
          · have e5 : (z == Int.ofNat k) = true := by simpa using h5
            rw [e5]
            show true = _
            have : z.toNat = k := by rw [h5]; rfl
            rw [this, hz]
            rw [h2']; rfl
          · have e5 : (z == Int.ofNat k) = false := by simpa using h5
            rw [e5]; rfl
        · have d3 : decide (z < Int.ofNat n) = false := decide_eq_false h4
          have d4 : decide (z ≤ Int.ofNat n - 1) = false := decide_eq_false (by omega)
          rw [d3, d4]; rfl
      · have d1 : decide (z ≥ 0) = false := decide_eq_false h3
        have d2 : decide (0 ≤ z) = false := decide_eq_false h3
        rw [d1]; rfl

noncomputable def chimV (v : Vc) (a n : Nat) : Bool := cond (cond (decide (Int.ofNat n < 1)) true (decide (Int.ofNat n > 6))) false (allB n (fun k => !badI v a n k))

/-- Whether a chimney is valid. -/
noncomputable def chimC : Ctr := ⟨fun args S => match args with
  | [.vec i e a n] => match S.vec i with
    | some v => match Nat.beq e 5 && eqSh flSh v.sh with
      | true => some ⟨.sbool (chimV v a n.val), [], [], [], Nat.ble n.val 140737488355328 && Nat.ble (Nat.add a n.val) v.n.val, none⟩
      | false => none
    | none => none
  | _ => none, none⟩

section
variable {P : Program}
theorem onRows_sym1 {f : FuncId} {i e a : Nat} {n : Num} {vcs : List Vc} {out : Out} (h : OnRows P f [⟨i, e, a, .sym n.val⟩] [] vcs out) : OnRows P f [⟨i, e, a, n⟩] [] vcs out := by
  intro M w0 ρ w vs hM hv
  refine h M w0 ρ w vs hM ?_
  have hv : VL ρ [.vec 0 e a n] vs := hv
  show VL ρ [.vec 0 e a (.sym n.val)] vs
  unfold VL at hv ⊢
  obtain ⟨x, vs', rfl, h1, h2⟩ := hv
  refine ⟨x, _, rfl, ?_, h2⟩
  unfold V at h1 ⊢
  obtain ⟨_, k2, base, c, k3, k4⟩ := h1
  exact ⟨trivial, k2, base, c, k3, k4⟩

theorem sat_chim {f : FuncId} (hcall : ∀ (args : Array Value) (w : World), (callFunc f args).run P w = .ok (.enter f args) w)
    (h : ∀ (i a n : Nat) (v : Vc), v.sh = flSh → a + n ≤ v.n.val → n ≤ 140737488355328 → OnRows P f [⟨i, 5, a, .sym n⟩] [] [v] ⟨.sbool (chimV v a n), [], [], [], true, none⟩) : Sat P f chimC :=
  sat_rd hcall rfl (fun args S out hfn hnd hv => by
    simp only [chimC] at hfn
    split at hfn
    · rename_i i e a n
      split at hfn
      · rename_i v hvec
        split at hfn
        · rename_i hb
          cases hfn
          simp only [Bool.and_eq_true] at hb hnd
          have he := Nat.eq_of_beq_eq_true hb.1
          have hs := (eqSh_eq hb.2).symm
          have n1 := Nat.le_of_ble_eq_true hnd.1
          have n2 := Nat.le_of_ble_eq_true hnd.2
          simp only [Nat.add_eq] at n2
          subst he
          have hand : (Nat.ble n.val 140737488355328 && Nat.ble (Nat.add a n.val) v.n.val) = true := by
            simp only [Bool.and_eq_true]; exact hnd
          rw [hand]
          exact ⟨[⟨i, 5, a, n⟩], [], [v], .sbool (chimV v a n.val), rfl, rfl, by simp [rowsAt, hvec], onRows_sym1 (h i a n.val v hs n2 n1), rfl, rfl, fun ρ u hu => hu⟩
        · cases hfn
      · cases hfn
    · cases hfn)
end
end Go.Ab
namespace Go.Ab
open Go Go.RowKit
set_option linter.unusedVariables false
/-- Two flues alike, bit for bit. -/
noncomputable def elKey : ElQ := fun f g f' g' => cond (nbF (f 0) == nbF (f' 0)) (cond (nbF (f 1) == nbF (f' 1)) (cond (nbF (f 2) == nbF (f' 2)) (cond (nbF (f 3) == nbF (f' 3)) (cond (g 4 == g' 4) true false) false) false) false) false
theorem elKey_spec (f : Nat → Nat) (g : Nat → Int) (f' : Nat → Nat) (g' : Nat → Int) : cond (!(nbF (f 0) == nbF (f' 0))) true (cond (!(nbF (f 1) == nbF (f' 1))) true (cond (!(nbF (f 2) == nbF (f' 2))) true (cond (!(nbF (f 3) == nbF (f' 3))) true (g 4 != g' 4)))) = !elKey f g f' g' := by
  unfold elKey
  cases (nbF (f 0) == nbF (f' 0)) <;> cases (nbF (f 1) == nbF (f' 1)) <;> cases (nbF (f 2) == nbF (f' 2)) <;> cases (nbF (f 3) == nbF (f' 3)) <;> first | rfl | skip
  show (!(g 4 == g' 4)) = !(cond (g 4 == g' 4) true false)
  cases (g 4 == g' 4) <;> rfl

/-- The contract of a comparison by a function that is handed over. -/
noncomputable def eqFC (h : FuncId) (sh : List CK) (el : ElQ) : Ctr := ⟨fun args S => match args with
  | [.vec i e a n, .vec i' e' a' n', .fn (.func q) [] []] => match S.vec i, S.vec i' with
    | some v, some v' => match Nat.beq q h && (Nat.beq e (lenL sh) && (Nat.beq e' (lenL sh) && (eqSh sh v.sh && eqSh sh v'.sh))) with
      | true => some ⟨.sbool (eqRows el v v' a a' n.val n'.val), [], [], [], Nat.ble n.val 140737488355328 && (Nat.ble (Nat.add a n.val) v.n.val && Nat.ble (Nat.add a' n'.val) v'.n.val), none⟩
      | false => none
    | _, _ => none
  | _ => none, none⟩

section
variable {P : Program}
theorem onRows_sym3 {f : FuncId} {i e a i' e' a' : Nat} {n n' : Num} {y : AVal} {vcs : List Vc} {out : Out} (h : OnRows P f [⟨i, e, a, .sym n.val⟩, ⟨i', e', a', .sym n'.val⟩] [y] vcs out) : OnRows P f [⟨i, e, a, n⟩, ⟨i', e', a', n'⟩] [y] vcs out := by
  intro M w0 ρ w vs hM hv
  refine h M w0 ρ w vs hM ?_
  have hv : VL ρ [.vec 0 e a n, .vec 1 e' a' n', y] vs := hv
  show VL ρ [.vec 0 e a (.sym n.val), .vec 1 e' a' (.sym n'.val), y] vs
  unfold VL at hv ⊢
  obtain ⟨x, vs', rfl, h1, h2⟩ := hv
  unfold VL at h2 ⊢
  obtain ⟨z, vs', rfl, h2, h3⟩ := h2
  refine ⟨x, _, rfl, ?_, z, vs', rfl, ?_, h3⟩
  · unfold V at h1 ⊢
    obtain ⟨_, k2, base, c, k3, k4⟩ := h1
    exact ⟨trivial, k2, base, c, k3, k4⟩
  · unfold V at h2 ⊢
    obtain ⟨_, k2, base, c, k3, k4⟩ := h2
    exact ⟨trivial, k2, base, c, k3, k4⟩

theorem sat_eqF {f h : FuncId} {sh : List CK} {el : ElQ} (hcall : ∀ (args : Array Value) (w : World), (callFunc f args).run P w = .ok (.enter f args) w)
    (hh : ∀ (i i' a a' n n' : Nat) (v v' : Vc), v.sh = sh → v'.sh = sh → a + n ≤ v.n.val → a' + n' ≤ v'.n.val → n ≤ 140737488355328 → OnRows P f [⟨i, lenL sh, a, .sym n⟩, ⟨i', lenL sh, a', .sym n'⟩] [.fn (.func h) [] []] [v, v'] ⟨.sbool (eqRows el v v' a a' n n'), [], [], [], true, none⟩) : Sat P f (eqFC h sh el) :=
  sat_rd hcall rfl (fun args S out hfn hnd hv => by
    simp only [eqFC] at hfn
    split at hfn
    · rename_i i e a n i' e' a' n' q
      split at hfn
      · rename_i v v' hvec hvec'
        split at hfn
        · rename_i hb
          cases hfn
          simp only [Bool.and_eq_true] at hb hnd
          obtain ⟨b0, b1, b2, b3, b4⟩ := hb
          have hq := Nat.eq_of_beq_eq_true b0
          have he := Nat.eq_of_beq_eq_true b1
          have he' := Nat.eq_of_beq_eq_true b2
          have hs := (eqSh_eq b3).symm
          have hs' := (eqSh_eq b4).symm
          obtain ⟨h1, h2, h3⟩ := hnd
          have n1 := Nat.le_of_ble_eq_true h1
          have n2 := Nat.le_of_ble_eq_true h2
          have n3 := Nat.le_of_ble_eq_true h3
          simp only [Nat.add_eq] at n1 n2 n3
          subst he
          subst he'
          subst hq
          have hand : (Nat.ble n.val 140737488355328 && (Nat.ble (Nat.add a n.val) v.n.val && Nat.ble (Nat.add a' n'.val) v'.n.val)) = true := by
            simp only [Bool.and_eq_true]
            exact ⟨h1, h2, h3⟩
          rw [hand]
          exact ⟨[⟨i, lenL sh, a, n⟩, ⟨i', lenL sh, a', n'⟩], [.fn (.func q) [] []], [v, v'], .sbool (eqRows el v v' a a' n.val n'.val), rfl, rfl, by simp [rowsAt, hvec, hvec'], onRows_sym3 (hh i i' a a' n.val n'.val v v' hs hs' n2 n3 n1), rfl, rfl, fun ρ u hu => hu⟩
        · cases hfn
      · cases hfn
    · cases hfn)
end
end Go.Ab

namespace Go.Ab
open Go Go.RowKit
set_option linter.unusedVariables false
/-! ### A slice that is an argument -/
def CellIs : CK → Value → Prop
  | .f32, v => ∃ b, v = .float .f32 b ∧ wfW .f32 b
  | .int k, v => ∃ n, v = .int k n
  | .bool, v => ∃ b, v = .bool b

section
variable {H : Type} {enc : TypeId × Value → H} {P : Program} {w : World} {base : Nat} {spare : Nat → Bool} {held : Bool}

theorem cell_is {t : TypeId} {c : CK} {n : Nat} {v : Value} {y : DataW H × List MemPlace} (hc : ckT P t = some c) (h : DataW.trod enc P w base spare held n t [v] = some y) : CellIs c v := by
  unfold ckT at hc
  split at hc
  · rename_i hu
    cases hc
    cases n with
    | zero => simp [DataW.trod] at h
    | succ n =>
      unfold DataW.trod at h
      rw [hu] at h
      cases v <;> simp at h
      obtain ⟨⟨rfl, hw⟩, _⟩ := h
      exact ⟨_, rfl, lit32 hw⟩
  · rename_i k hu
    cases hc
    obtain ⟨m, hm, _⟩ := DataW.trod_int hu h
    simp only [List.cons.injEq, and_true] at hm
    exact ⟨m, hm⟩
  · rename_i hu
    cases hc
    obtain ⟨m, hm, _⟩ := DataW.trod_bool hu h
    simp only [List.cons.injEq, and_true] at hm
    exact ⟨m, hm⟩
  · cases hc

/-- The cells of an element. -/
def ElemIs (P : Program) (e : TypeId) (sh : List CK) : Prop := ∀ {H : Type} {enc : TypeId × Value → H} {w : World} {base : Nat} {spare : Nat → Bool} {held : Bool} (n : Nat) (cs : List Value) (y : DataW H × List MemPlace), cs.length = P.cellsOf e → DataW.trod enc P w base spare held n e cs = some y → ∀ o c, nthC o sh = some c → ∃ v, cs[o]? = some v ∧ CellIs c v

theorem elem_one {e : TypeId} {c : CK} (hc : ckT P e = some c) (h1 : P.cellsOf e = 1) : ElemIs P e [c] := by
  intro H enc w base spare held n cs y hl h o d hd
  match cs, (hl.trans h1) with
  | [v], _ =>
    cases o with
    | zero =>
      simp only [nthC, Option.some.injEq] at hd
      subst hd
      exact ⟨v, rfl, cell_is hc h⟩
    | succ o => simp [nthC] at hd

/-- A struct of fields of one cell. -/
theorem elem_struct {e : TypeId} {fs : Array Field} {sh : List CK} (hs : P.underlying e = some (.struct fs)) (hone : Deep.oneCellFields P fs = true) (hC : P.cellsOf e = fs.size) (hk : ckTs P (fs.toList.map (·.type)) = some sh) : ElemIs P e sh := by
  intro H enc w base spare held n cs y hl h o c hc
  obtain ⟨xs, m, _, _, hlen, _, hf⟩ := DataW.trod_struct hs h
  have key : ∀ (l : List TypeId) (sh : List CK), ckTs P l = some sh → ∀ o c, nthC o sh = some c → ∃ t, l[o]? = some t ∧ ckT P t = some c := by
    intro l
    induction l with
    | nil => intro sh h o c hc; simp only [ckTs, Option.some.injEq] at h; subst h; cases o <;> cases hc
    | cons t l ih =>
      intro sh h o c hc
      unfold ckTs at h
      split at h
      · rename_i d r h1 h2
        cases h
        cases o with
        | zero => simp only [nthC, Option.some.injEq] at hc; subst hc; exact ⟨t, rfl, h1⟩
        | succ o =>
          obtain ⟨u, h3, h4⟩ := ih r h2 o c (by simpa [nthC] using hc)
          exact ⟨u, by simpa using h3, h4⟩
      · cases h
  obtain ⟨t, ht, hct⟩ := key _ _ hk o c hc
  rw [List.getElem?_map] at ht
  cases hfo : fs.toList[o]? with
  | none => rw [hfo] at ht; cases ht
  | some f =>
    rw [hfo] at ht
    simp only [Option.map_some, Option.some.injEq] at ht
    subst ht
    have hfo' : fs[o]? = some f := by simpa using hfo
    obtain ⟨ho, hc1⟩ := Deep.hone_of hone o f hfo'
    have hlt : o < fs.size := (Array.getElem?_eq_some_iff.1 hfo').1
    have g := hf o f hfo'
    rw [ho, hc1, Deep.take1_drop cs o undef (by omega)] at g
    have hxs : ∃ x, xs[o]? = some x := by
      cases hx : xs[o]? with
      | some x => exact ⟨x, rfl⟩
      | none =>
        rename_i hxl
        have : o < xs.length := by omega
        rw [List.getElem?_eq_getElem this] at hx; cases hx
    obtain ⟨x, hx⟩ := hxs
    rw [hx] at g
    refine ⟨cs.getD o undef, ?_, cell_is hct g⟩
    simp [List.getD, List.getElem?_eq_getElem (show o < cs.length by omega)]

theorem lenL_nthC : ∀ {sh : List CK} {o : Nat} {c : CK}, nthC o sh = some c → o < lenL sh := fun h => nthC_lt h

/-- A slice of rows, opened. -/
theorem open_rows {r : Reach} {b0 : Nat} {t e : TypeId} {sh : List CK} {v : Value} {d : DataW H} {ps : List MemPlace} {W : World} (ht : P.underlying t = some (.slice e)) (he : ElemIs P e sh) (hsz : P.cellsOf e = lenL sh) (hpos : 1 ≤ lenL sh)
    (hval : Value.okWide P W r b0 t v) (h : DataW.Trod enc P W 0 (fun _ => true) true t v d ps) :
    ∃ (n : Nat) (fd : Nat → Nat → Nat) (gd : Nat → Nat → Int) (bd : Nat → Nat → Bool) (ρ : Rho), n ≤ 9223372036854775807 ∧ Mem NoM W ρ (viewS [⟨sh, .sym n, fd, gd, bd, false⟩]) W ∧ V ρ (.vec 0 (lenL sh) 0 (.sym n)) v := by
  obtain ⟨fuel, h⟩ := h
  have hone : v.cells.toList = [v] := by
    unfold Value.okWide Cell.okWide at hval
    rw [ht] at hval
    cases v <;> first | rfl | (simp [Cell.ok, ht] at hval)
  rw [hone] at h
  have nomem : ∀ (k : Nat → Bool) (hk : ∀ i, k i = true → i = 0), Mem NoM W ⟨fun _ => none, fun _ => 0, k⟩ (viewS [⟨sh, .sym 0, fun _ _ => 0, fun _ _ => 0, fun _ _ => false, false⟩]) W := by
    intro k hk
    refine ⟨⟨fun i o x hx => (view_cell hx).elim, fun i vc r b k o c _ hr => by (cases hr), fun i o x r b hx => (view_cell hx).elim, fun i vc r b q _ _ hr => by (cases hr), fun i vc r b _ _ hr => by (cases hr), fun i j r b b' _ hw => (view_wr hw).elim, fun i p hp => by (cases hp), fun i hi => by (have := hk i hi; subst this; exact Nat.zero_lt_one), fun i o x hx => by (simp [viewS, hlookL] at hx), fun i x hx => by (simp [viewS, vlookL] at hx), fun i r b hr => by (cases hr)⟩, Fr.refl _ _, ⟨fun i o x r b hx => (view_cell hx).elim, fun i vc r b q _ _ hr => by (cases hr)⟩⟩
  rcases Deep.open_slice ht h with ⟨hcs, _⟩ | ⟨a, len, cap, m, n, D, Pl, hcs, _, hl, hm, hmm, _, hx⟩
  · simp only [List.cons.injEq, and_true] at hcs
    subst hcs
    refine ⟨0, _, _, _, ⟨fun _ => none, fun _ => 0, fun i => i == 0⟩, Nat.zero_le _, nomem _ (fun i hi => by simpa using hi), ?_⟩
    unfold V
    exact ⟨trivial, rfl, none, 0, rfl, Or.inl ⟨rfl, rfl⟩⟩
  · simp only [List.cons.injEq, and_true] at hcs
    subst hcs
    simp only [if_true] at hmm
    subst hmm
    rcases Nat.eq_zero_or_pos m with h0 | hpos'
    · subst h0
      have hl0 : len = 0 := by omega
      subst hl0
      refine ⟨0, _, _, _, ⟨fun _ => none, fun _ => 0, fun i => i == 0⟩, Nat.zero_le _, nomem _ (fun i hi => by simpa using hi), ?_⟩
      unfold V
      exact ⟨trivial, rfl, some a, 0, rfl, Or.inl ⟨rfl, rfl⟩⟩
    · have each : ∀ k, k < m → ∀ o c, nthC o sh = some c → ∃ v, W.cell? (a.add (k * lenL sh + o)) = some v ∧ CellIs c v := by
        intro k hk o c hc
        obtain ⟨cs', h1, h2⟩ := hx k hk
        obtain ⟨_, hlen, hcell⟩ := World.cells?_some h1
        obtain ⟨v, hv, hi⟩ := he n cs' _ hlen h2 o c hc
        have ho := nthC_lt hc
        refine ⟨v, ?_, hi⟩
        have := hcell o (by omega)
        rw [Deep.add_add, hsz] at this
        rw [this]; exact hv
      have hspot : a.spot = none := by
        have hc0 : ∃ c, nthC 0 sh = some c := nthC_some (by omega)
        obtain ⟨c, hc⟩ := hc0
        obtain ⟨v, hv, _⟩ := each 0 hpos' 0 c hc
        have := World.cell?_spot hv
        simpa [Addr.add] using this
      obtain ⟨blk, off, spot⟩ := a
      have hspot : spot = none := hspot
      subst hspot
      have eadd : ∀ q, (⟨blk, off, none⟩ : Addr).add q = ⟨blk, off + q, none⟩ := fun q => by unfold Addr.add; simp
      refine ⟨len, fun k o => wV ((W.cell? ⟨blk, off + (k * lenL sh + o), none⟩).getD undef), fun k o => gV ((W.cell? ⟨blk, off + (k * lenL sh + o), none⟩).getD undef), fun k o => bV ((W.cell? ⟨blk, off + (k * lenL sh + o), none⟩).getD undef),
        ⟨fun i => if i = 0 then some (blk, off) else none, fun i => m, fun i => i == 0⟩, ?_, ?_, ?_⟩
      · have : maxLen = 9223372036854775807 := by decide
        omega
      · refine ⟨⟨fun i o x hx => (view_cell hx).elim, fun i vc r b k o c hvc hr hk hc => ?_, fun i o x r b hx => (view_cell hx).elim, fun i vc r b q hvc hw => ?_, fun i vc r b hvc hw => ?_, fun i j r b b' _ hw => (view_wr hw).elim, fun i p hp => ?_, fun i hi => ?_, fun i o x hx => by (simp [viewS, hlookL] at hx), fun i x hx => by (simp [viewS, vlookL] at hx), fun i r b hr => ?_⟩, Fr.refl _ _, ⟨fun i o x r b hx => (view_cell hx).elim, fun i vc r b q hvc hw => ?_⟩⟩
        · simp only at hr
          split at hr
          · rename_i hi; subst hi
            cases hr
            obtain ⟨u, hu, rfl⟩ := view_vec hvc
            simp only [List.getElem?_cons_zero, Option.some.injEq] at hu
            subst hu
            have hk : k < len := hk
            obtain ⟨v, hv, hi⟩ := each k (by omega) o c hc
            rw [eadd] at hv
            refine ⟨v, hv, ?_⟩
            cases c with
            | f32 =>
              obtain ⟨b, rfl, hb⟩ := hi
              simp only [Vc.mkA, hv, Option.getD_some]
              unfold V
              exact ⟨b, rfl, sameW.refl _ _, hb, hb⟩
            | int k =>
              obtain ⟨z, rfl⟩ := hi
              simp only [Vc.mkA, hv, Option.getD_some]
              unfold V; rfl
            | bool =>
              obtain ⟨z, rfl⟩ := hi
              simp only [Vc.mkA, hv, Option.getD_some]
              unfold V; rfl
          · cases hr
        · obtain ⟨u, hu, rfl⟩ := view_vec hvc; cases hw
        · obtain ⟨u, hu, rfl⟩ := view_vec hvc; cases hw
        · simp only at hp
          split at hp
          · rename_i hi; subst hi; exact Nat.zero_lt_one
          · cases hp
        · have : i = 0 := by simpa using hi
          subst this; exact Nat.zero_lt_one
        · simp only at hr
          split at hr
          · cases hr
            obtain ⟨c, hc⟩ := nthC_some (l := sh) (p := 0) (by omega)
            obtain ⟨v, hv, _⟩ := each 0 hpos' 0 c hc
            have := World.block_lt_of_cell? _ _ hv
            simpa [Addr.add] using this
          · cases hr
        · obtain ⟨u, hu, rfl⟩ := view_vec hvc; cases hw
      · unfold V
        exact ⟨trivial, rfl, some ⟨blk, off, none⟩, m, rfl, Or.inr ⟨blk, off, by simp, by simp, by simp, by show 0 + len ≤ m; omega⟩⟩
end
end Go.Ab

namespace Go.Ab
open Go Go.RowKit
set_option linter.unusedVariables false
def rho2 (a b : Rho) : Rho := ⟨fun i => match i with | 0 => a 0 | 1 => b 0 | _ => none, fun i => match i with | 0 => a.cap 0 | 1 => b.cap 0 | _ => 0, fun i => match i with | 0 => a.kn 0 | 1 => b.kn 0 | _ => false⟩

/-- Two slices that are arguments. -/
theorem views2 {W : World} {ρ1 ρ2 : Rho} {v1 v2 : Vc} {e1 a1 e2 a2 : Nat} {n1 n2 : Num} {u1 u2 : Value} (h1 : Mem NoM W ρ1 (viewS [v1]) W) (h2 : Mem NoM W ρ2 (viewS [v2]) W) (k1 : V ρ1 (.vec 0 e1 a1 n1) u1) (k2 : V ρ2 (.vec 0 e2 a2 n2) u2) :
    ∃ ρ, Mem NoM W ρ (viewS [v1, v2]) W ∧ V ρ (.vec 0 e1 a1 n1) u1 ∧ V ρ (.vec 1 e2 a2 n2) u2 := by
  refine ⟨rho2 ρ1 ρ2, ⟨⟨fun i o x hx => (view_cell hx).elim, fun i vc r b k o c hvc hr hk hc => ?_, fun i o x r b hx => (view_cell hx).elim, fun i vc r b q hvc hw => ?_, fun i vc r b hvc hw => ?_, fun i j r b b' _ hw => (view_wr hw).elim, fun i p hp => ?_, fun i hi => ?_, fun i o x hx => by (simp [viewS, hlookL] at hx), fun i x hx => by (simp [viewS, vlookL] at hx), fun i r b hr => ?_⟩, Fr.refl _ _, ⟨fun i o x r b hx => (view_cell hx).elim, fun i vc r b q hvc hw => ?_⟩⟩, ?_, ?_⟩
  · obtain ⟨u, hu, rfl⟩ := view_vec hvc
    match i, hr with
    | 0, hr =>
      simp only [List.getElem?_cons_zero, Option.some.injEq] at hu
      subst hu
      obtain ⟨x, g1, g2⟩ := h1.hp.vcell 0 (roV1 v1) r b k o c rfl hr hk hc
      exact ⟨x, g1, V_flat _ _ (by cases c <;> rfl) g2⟩
    | 1, hr =>
      simp only [List.getElem?_cons_succ, List.getElem?_cons_zero, Option.some.injEq] at hu
      subst hu
      obtain ⟨x, g1, g2⟩ := h2.hp.vcell 0 (roV1 v2) r b k o c rfl hr hk hc
      exact ⟨x, g1, V_flat _ _ (by cases c <;> rfl) g2⟩
    | i + 2, hr => cases hr
  · obtain ⟨u, hu, rfl⟩ := view_vec hvc; cases hw
  · obtain ⟨u, hu, rfl⟩ := view_vec hvc; cases hw
  · match i, hp with
    | 0, _ => show 0 < 2; decide
    | 1, _ => show 1 < 2; decide
    | i + 2, hp => cases hp
  · match i, hi with
    | 0, _ => show 0 < 2; decide
    | 1, _ => show 1 < 2; decide
    | i + 2, hi => cases hi
  · match i, hr with
    | 0, hr => exact h1.hp.lt 0 r b hr
    | 1, hr => exact h2.hp.lt 0 r b hr
    | i + 2, hr => cases hr
  · obtain ⟨u, hu, rfl⟩ := view_vec hvc; cases hw
  · unfold V at k1 ⊢; exact k1
  · unfold V at k2 ⊢; exact k2
end Go.Ab
