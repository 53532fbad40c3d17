import Derived.Test.YtmegbdgnnbjbmaaAbJ
import Derived.OpenShut
import Derived.ShutString
import Derived.ChangeOld
import Derived.Lib.SmallJoins
namespace Go.Ab
open Go Go.RowKit
set_option linter.unusedVariables false
section
variable {P : Program}

def noRho : Rho := ⟨fun _ => none, fun _ => 0, fun _ => false⟩
/-- No memory. -/
def St0 : St := ⟨[], [], [], [], [], []⟩

theorem mem_nil (w : World) : Mem NoM w noRho St0 w := by
  have hc : ∀ i o x, ¬ St0.cell i o = some x := fun i o x h => by
    unfold St.cell at h
    have e : (St0.blk i).cells.length = 0 := by unfold St.blk St0; cases i <;> rfl
    rw [e] at h
    simp [Nat.ble] at h
  have hr : ∀ {i : Nat} {p : Nat × Nat}, noRho i = some p → False := fun h => by simp [noRho] at h
  refine ⟨⟨fun i o x h => (hc i o x h).elim, fun i vc r b k o c h hr' => (hr hr').elim, fun i o x r b h => (hc i o x h).elim, fun i vc r b q h hw hr' => (hr hr').elim, fun i vc r b h hw hr' => (hr hr').elim, fun i j r b b' _ _ hr' => (hr hr').elim, fun i p hr' => (hr hr').elim, fun i h => by simp [noRho] at h, fun i o x h => by simp [St0, hlookL] at h, fun i x h => by simp [St0, vlookL] at h, fun i r b hr' => (hr hr').elim⟩, Fr.refl _ _, ⟨fun i o x r b h => (hc i o x h).elim, fun i vc r b q h hw hr' => (hr hr').elim⟩⟩

/-- Contracts, one by one. -/
def Good (P : Program) (Γ : List (Nat × Ctr)) : Prop := ∀ f c, lookC f Γ = some c → Sat P f c

theorem good_nil (P : Program) : Good P [] := fun f c h => by simp [lookC] at h
theorem good_cons {Γ : List (Nat × Ctr)} {f : Nat} {c : Ctr} (h : Sat P f c) (hΓ : Good P Γ) : Good P ((f, c) :: Γ) := fun g d hg => by
  unfold lookC at hg
  split at hg
  · rename_i hb
    have := Nat.eq_of_beq_eq_true hb
    subst this; cases hg; exact h
  · exact hΓ g d hg

/-- What a law answers, where it needs nothing more. -/
def lawB : Option Out → Option Bool
  | some o => match o.v with
    | .sbool b => some (match o.pn with | none => cond o.nd b false | some (p, _) => cond o.nd (cond p false b) false)
    | .bool b => some (match o.pn with | none => cond o.nd b false | some (p, _) => cond o.nd (cond p false b) false)
    | _ => none
  | none => none

theorem law_any {Γ : List (Nat × Ctr)} (hΓ : Good P Γ) (hm : P.follows .mixedOrders = true) {f : FuncId} {fn : Func} (hf : P.funcs[f]? = some fn)
    (hcall : ∀ (args : Array Value) (w : World), (callFunc f args).run P w = .ok (.enter f args) w) {fuel : Nat} {args : List AVal} {S : St} {B : Bool} (he : lawB (evBody P Γ fuel fn args S) = some B) (hb : B = true)
    {ρ : Rho} {vs : List Value} {w : World} (hM : Mem NoM w ρ S w) (hv : VL ρ args vs) : Calls P f ⟨vs⟩ w fun e w' => e = .returned (.bool true) ∧ Below w.heap.size w w' := by
  subst hb
  have hs : SatC P f (inl P Γ fuel fn) := inl_sat hΓ hm hf hcall fuel
  cases ho : evBody P Γ fuel fn args S with
  | none => rw [ho] at he; cases he
  | some out =>
    rw [ho] at he
    have key : out.nd = true ∧ (∀ v, out.pn ≠ some (true, v)) ∧ (out.v = .sbool true ∨ out.v = .bool true) := by
      simp only [lawB] at he
      split at he
      · rename_i b hv'
        simp only [Option.some.injEq] at he
        split at he
        · rename_i hp
          obtain ⟨h1, h2⟩ := cond_and he
          subst h2
          exact ⟨h1, fun v h => by rw [hp] at h; (cases h), Or.inl hv'⟩
        · rename_i p z hp
          obtain ⟨h1, h2⟩ := cond_and he
          cases p with
          | true => cases h2
          | false =>
            have h2 : b = true := h2
            subst h2
            exact ⟨h1, fun v h => by rw [hp] at h; simp at h, Or.inl hv'⟩
      · rename_i b hv'
        simp only [Option.some.injEq] at he
        split at he
        · rename_i hp
          obtain ⟨h1, h2⟩ := cond_and he
          subst h2
          exact ⟨h1, fun v h => by rw [hp] at h; (cases h), Or.inr hv'⟩
        · rename_i p z hp
          obtain ⟨h1, h2⟩ := cond_and he
          cases p with
          | true => cases h2
          | false =>
            have h2 : b = true := h2
            subst h2
            exact ⟨h1, fun v h => by rw [hp] at h; simp at h, Or.inr hv'⟩
      · cases he
    obtain ⟨h1, h2, h3⟩ := key
    refine (hs.sat args S out ho h1 NoM w ρ w vs hM hv).mono ?_
    intro e w' hr
    cases e with
    | outgrown => exact hr.elim
    | panicked ch =>
      obtain ⟨v, u, hp, _⟩ := hr
      exact (h2 v hp).elim
    | returned u =>
      obtain ⟨_, ρ', _, hu, hm'⟩ := hr
      refine ⟨?_, Fr.below hm'.fr⟩
      rcases h3 with h3 | h3
      · rw [h3] at hu; unfold V at hu; rw [hu]
      · rw [h3] at hu; unfold V at hu; rw [hu]

/-- The same without memory. -/
theorem law_of {Γ : List (Nat × Ctr)} (hΓ : Good P Γ) (hm : P.follows .mixedOrders = true) {f : FuncId} {fn : Func} (hf : P.funcs[f]? = some fn)
    (hcall : ∀ (args : Array Value) (w : World), (callFunc f args).run P w = .ok (.enter f args) w) {fuel : Nat} {args : List AVal} {B : Bool} (he : lawB (evBody P Γ fuel fn args St0) = some B) (hb : B = true)
    {vs : List Value} (hv : VL noRho args vs) (w : World) : Calls P f ⟨vs⟩ w fun e w' => e = .returned (.bool true) ∧ Below w.heap.size w w' :=
  law_any hΓ hm hf hcall he hb (mem_nil w) hv

theorem VL_flat' {ρ ρ' : Rho} : ∀ (xs : List AVal) (vs : List Value), AVal.flat.flatL xs = true → VL ρ xs vs → VL ρ' xs vs
  | [], vs, _, h => by unfold VL at *; exact h
  | x :: xs, vs, hf, h => by
    unfold AVal.flat.flatL at hf
    split at hf
    · rename_i hx
      unfold VL at h ⊢
      obtain ⟨v, vs', h1, h2, h3⟩ := h
      exact ⟨v, vs', h1, V_flat x v hx h2, VL_flat' xs vs' hf h3⟩
    · cases hf

/-- A contract over numbers: what the function answers where there is no memory. -/
theorem sat_flat {Γ : List (Nat × Ctr)} (hΓ : Good P Γ) (hm : P.follows .mixedOrders = true) {f : FuncId} {fn : Func} {c : Ctr} (hf : P.funcs[f]? = some fn)
    (hcall : ∀ (args : Array Value) (w : World), (callFunc f args).run P w = .ok (.enter f args) w)
    (h : ∀ args S out, c.fn args S = some out → out.nd = true → (∃ ρ vs, VL ρ args vs) → AVal.flat.flatL args = true ∧ ∃ fuel v0, evBody P Γ fuel fn args St0 = some ⟨v0, [], [], [], true, none⟩ ∧ v0.flat = true ∧ out = ⟨out.v, [], [], [], true, none⟩ ∧ ∀ ρ u, V ρ v0 u → V ρ out.v u) (hx : c.x = none) : Sat P f c := by
  unfold Sat
  rw [hx]
  refine ⟨hcall, fun args S out hfn hnd M w0 ρ w vs hM hv => ?_⟩
  obtain ⟨hfl, fuel, v0, he, hf0, hout, hsay⟩ := h args S out hfn hnd ⟨ρ, vs, hv⟩
  have hs : SatC P f (inl P Γ fuel fn) := inl_sat hΓ hm hf hcall fuel
  refine (hs.sat args St0 _ he rfl NoM w noRho w vs (mem_nil w) (VL_flat' _ _ hfl hv)).mono ?_
  intro e w' hr
  cases e with
  | outgrown => exact hr.elim
  | panicked ch =>
    obtain ⟨v, u, hp, _⟩ := hr
    cases hp
  | returned u =>
    obtain ⟨_, ρ', _, hu, hm'⟩ := hr
    rw [hout]
    exact ⟨fun b v h => (by cases h), ρ, ExtS.refl _ _, hsay ρ u (V_flat _ _ hf0 hu), (hM.quiet hm'.fr).put_nil⟩

/-- A function without a body. -/
def extC (k : Xk) : Ctr := ⟨fun _ _ => none, some k⟩

theorem sat_ext {f : FuncId} {fn : Func} (k : Xk) (hf : P.funcs[f]? = some fn) (hname : (fn.name == "runtime.NumGoroutine") = false) (hb : fn.body.isNone = true) (hn : Extern.findNext fn = none) (he : Extern.find fn = some (extFn k)) : Sat P f (extC k) := by
  show ∀ (args : Array Value) (w : World), (callFunc f args).run P w = ((extFn k args).run P w).andThen fun v w' => .ok (.value v) w'
  intro args w
  exact run_callFunc_extern hf hname hb hn he args w

theorem V_wf {ρ : Rho} {k : FloatKind} {b : Nat} {u : Value} (h : V ρ (.flt k b) u) : wfW k b := by
  unfold V at h
  obtain ⟨_, _, _, h, _⟩ := h
  exact h
end
end Go.Ab
