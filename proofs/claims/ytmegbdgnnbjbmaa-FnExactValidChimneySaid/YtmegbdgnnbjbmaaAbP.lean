import Derived.Test.YtmegbdgnnbjbmaaAbO
namespace Go.Ab
open Go Go.RowKit
set_option linter.unusedVariables false
/-! ### Pieces of code, run -/
section
variable {P : Program} {N : Nat}

/-- From a state the code ends so. -/
def Run (P : Program) (N : Nat) (c : Code) (S : St) (O : Ex × St) : Prop :=
  ∀ (n0 : Nat), n0 ≤ S.hp.length → ∀ (M : Addr → Prop) (w0 : World) (ρ : Rho) (a : Act) (w : World) (Q : Exit → Act → World → Prop), Rel N M w0 ρ S a w →
    (∀ ρ' a' w' e, ExtS n0 ρ ρ' → ExR ρ' O.1 e → Rel N M w0 ρ' O.2 a' w' → Q e a' w') → c.wp P Q a w

/-- The one state says what the other says. -/
def Wk (N : Nat) (S S' : St) : Prop := ∀ (M : Addr → Prop) (w0 : World) (ρ : Rho) (a : Act) (w : World), Rel N M w0 ρ S a w → Rel N M w0 ρ S' a w

theorem Run.ev {Γ : List (Nat × Ctr)} (hΓ : Good P Γ) (hmo : P.follows .mixedOrders = true) {fuel : Nat} {c : Code} {S : St} {t : Tr} (h : Ab.ev P Γ N fuel c S Dl.nil = some t) (hn : t.need = true) : Run P N c S (t.out S) :=
  fun n0 hn0 M w0 ρ a w Q hR hQ => (ev_sound (n0 := n0) hΓ hmo fuel c S Dl.nil t h hn hn0 ρ a w Q hR.nil hQ).1

theorem Run.weak {c : Code} {S S' : St} {O O' : Ex × St} (h : Run P N c S' O) (h1 : Wk N S S') (hl : S.hp.length ≤ S'.hp.length) (h2 : O'.1 = O.1) (h3 : Wk N O.2 O'.2) : Run P N c S O' :=
  fun n0 hn0 M w0 ρ a w Q hR hQ => h n0 (Nat.le_trans hn0 hl) M w0 ρ a w Q (h1 M w0 ρ a w hR) (fun ρ' a' w' e hx he hr => hQ ρ' a' w' e hx (by rw [h2]; exact he) (h3 M w0 ρ' a' w' hr))

theorem Wk.refl (S : St) : Wk N S S := fun _ _ _ _ _ h => h
theorem Wk.trans {S T U : St} (h : Wk N S T) (k : Wk N T U) : Wk N S U := fun M w0 ρ a w r => k M w0 ρ a w (h M w0 ρ a w r)

theorem exr_normal {ρ : Rho} {x : Ex} (hx : x ≠ .normal) : ¬ ExR ρ x .normal := fun h => by
  cases x with
  | normal => exact hx rfl
  | exit id => cases h
  | ret => cases h
  | panic v => obtain ⟨u, _, hu⟩ := h; cases hu

theorem Run.seq {x y : Code} {S S1 : St} {O : Ex × St} (h1 : Run P N x S (.normal, S1)) (hl : S.hp.length ≤ S1.hp.length) (h2 : Run P N y S1 O) : Run P N (.seq x y) S O :=
  fun n0 hn0 M w0 ρ a w Q hR hQ => by
    apply wp_seq
    refine h1 n0 hn0 M w0 ρ a w _ hR ?_
    intro ρ' a' w' e hext hx hr'
    have hx : e = .normal := hx
    subst hx
    show y.wp P Q a' w'
    exact h2 n0 (Nat.le_trans hn0 hl) M w0 ρ' a' w' Q hr' (fun ρ'' a'' w'' e' hext' hx' hr'' => hQ ρ'' a'' w'' e' (hext.trans hext') hx' hr'')

theorem Run.seq_out {x y : Code} {S : St} {O : Ex × St} (h1 : Run P N x S O) (hO : O.1 ≠ .normal) : Run P N (.seq x y) S O :=
  fun n0 hn0 M w0 ρ a w Q hR hQ => by
    apply wp_seq
    refine h1 n0 hn0 M w0 ρ a w _ hR ?_
    intro ρ' a' w' e hext hx hr'
    have := hQ ρ' a' w' e hext hx hr'
    cases e with
    | normal => exact (exr_normal hO hx).elim
    | _ => exact this

theorem Run.block {id : Nat} {c : Code} {S S1 : St} (h : Run P N c S (.exit id, S1)) : Run P N (.block id c) S (.normal, S1) :=
  fun n0 hn0 M w0 ρ a w Q hR hQ => by
    apply wp_block
    refine h n0 hn0 M w0 ρ a w _ hR ?_
    intro ρ' a' w' e hext hx hr'
    have hx : e = .exit id := hx
    subst hx
    simp only [Exit.inBlock, if_true]
    exact hQ ρ' a' w' .normal hext rfl hr'

theorem Run.block_out {id : Nat} {c : Code} {S : St} {O : Ex × St} (h : Run P N c S O) (hO : O.1 ≠ .exit id) : Run P N (.block id c) S O :=
  fun n0 hn0 M w0 ρ a w Q hR hQ => by
    apply wp_block
    refine h n0 hn0 M w0 ρ a w _ hR ?_
    intro ρ' a' w' e hext hx hr'
    have := hQ ρ' a' w' e hext hx hr'
    cases e with
    | exit j =>
      simp only [Exit.inBlock]
      rw [if_neg (fun e => hO (by
        subst e
        cases he : O.1 with
        | normal => rw [he] at hx; cases hx
        | exit i => rw [he] at hx; cases hx; rfl
        | ret => rw [he] at hx; cases hx
        | panic v => rw [he] at hx; obtain ⟨u, _, hu⟩ := hx; cases hu))]
      exact this
    | _ => exact this

/-- A loop, by what is so ahead of each round. -/
theorem Run.loop {x : Code} {O : Ex × St} (T : Nat) (I : Nat → St) (hl : ∀ j, (I j).hp.length = (I 0).hp.length) (hstep : ∀ j, j < T → Run P N x (I j) (.normal, I (j + 1))) (hend : Run P N x (I T) O) (hO : O.1 ≠ .normal) : Run P N (.loop x) (I 0) O :=
  fun n0 hn0 M w0 ρ a w Q hR hQ => by
    have key : ∀ (k j : Nat), j + k = T → ∀ ρ' a w, ExtS n0 ρ ρ' → Rel N M w0 ρ' (I j) a w → Code.rounds P x Q (k + 1) a w := by
      intro k
      induction k with
      | zero =>
        intro j hj ρ' a w hx hr
        have : j = T := by omega
        subst this
        rw [rounds_succ]
        refine hend n0 (by rw [hl]; exact hn0) M w0 ρ' a w _ hr ?_
        intro ρ'' a' w' e hext hxe hr'
        have := hQ ρ'' a' w' e (hx.trans hext) hxe hr'
        cases e with
        | normal => exact (exr_normal hO hxe).elim
        | _ => exact this
      | succ k ih =>
        intro j hj ρ' a w hx hr
        rw [rounds_succ]
        refine hstep j (by omega) n0 (by rw [hl]; exact hn0) M w0 ρ' a w _ hr ?_
        intro ρ'' a' w' e hext hxe hr'
        have hxe : e = .normal := hxe
        subst hxe
        exact ih (j + 1) (by omega) ρ'' a' w' (hx.trans hext) hr'
    exact wp_loop_rounds (T + 1) (key T 0 (by omega) ρ a w (ExtS.refl _ _) hR)

/-- A function, by its body. -/
theorem Run.calls {f : FuncId} {fn : Func} {c : Code} (hf : P.funcs[f]? = some fn) (hb : fn.body = some c) {args : List AVal} {S T : St} {e : Ex} {fr : FR} {out : Out} {ahv : List ((Nat × Nat) × AVal)} {avv : List (Nat × Vc)}
    (hr : Run P fn.ntmps c (S.start fn.ntmps args) (e, T)) (hfin : leafT P fn.results.toList S.hp.length T e Dl.nil ahv avv = some fr) (ho : outOf fr = some out) (hnd : out.nd = true) (hacc : Acc S T ahv avv) (hn : args.length ≤ fn.ntmps)
    {M : Addr → Prop} {w0 : World} {ρ : Rho} {w : World} {vs : List Value} (hM : Mem M w0 ρ S w) (hv : VL ρ args vs) : Calls P f ⟨vs⟩ w (Res M w0 ρ S out) := by
  have hnf : fr.nd = true := by
    unfold outOf at ho
    split at ho
    · cases ho; exact hnd
    · split at ho
      · cases ho; exact hnd
      · cases ho
  obtain ⟨_, hs⟩ := leafT_sound (P := P) (N := fn.ntmps) (fn := fn) hM hfin hnf hacc
  refine calls_of_wp hf hb ?_
  have hR := start_rel (n := fn.ntmps) hM hv hn
  have hR' : Rel fn.ntmps M w0 ρ (S.start fn.ntmps args) { tmps := (⟨vs⟩ : Array Value) ++ Array.replicate (fn.ntmps - (⟨vs⟩ : Array Value).size) undef, defers := [] } w := by
    refine hR.alk ⟨fun t => by rw [get_ext]; rfl, fun i o => by simp [St.ext, Dl.nil, St.cell, St.blk, hlookL, hlook1], fun i => by simp [St.ext, Dl.nil, St.blk], fun i => by simp [St.ext, Dl.nil, St.vec, St.blk, vlookL, vlook1], by simp [St.ext, Dl.nil],
      fun i o x hx => ⟨x, by simpa [St.ext, Dl.nil, hlookL, hlook1] using hx⟩, fun i x hx => ⟨x, by simpa [St.ext, Dl.nil, vlookL, vlook1] using hx⟩, by simp [St.ext, Dl.nil]⟩
  refine hr S.hp.length (Nat.le_refl _) M w0 ρ _ w _ hR' ?_
  intro ρ' a' w' ex hext hx hr'
  exact res_of_fin ho (hs ρ' a' w' ex hext hr'.nil hx)
end
end Go.Ab
