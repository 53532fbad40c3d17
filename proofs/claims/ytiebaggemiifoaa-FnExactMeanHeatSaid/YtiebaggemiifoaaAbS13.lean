import Derived.Test.YtiebaggemiifoaaAbS12
import Derived.OpenShut
import Derived.ShutString
import Derived.ChangeOld
import Derived.Lib.SmallJoins
namespace Go.Ab
open Go Go.RowKit

/-! ### 11. Laws -/
section
variable {P : Program}

def noRho : Rho := fun _ => none

theorem pre_nil (w : World) : Pre noRho w [] := ⟨fun j cs h => by simp at h, fun j p h => by simp [noRho] at h, fun j r b h => by simp [noRho] at h⟩

/-- Contracts, one by one. -/
def Good (P : Program) (Γ : List (Nat × Ctr)) : Prop := ∀ f c, lookC f Γ = some c → Sat P f c

theorem good_nil (P : Program) : Good P [] := fun f c h => by simp [lookC] at h
theorem good_cons {Γ : List (Nat × Ctr)} {f : Nat} {c : Ctr} (h : Sat P f c) (hΓ : Good P Γ) : Good P ((f, c) :: Γ) := fun g d hg => by
  unfold lookC at hg
  split at hg
  · rename_i hb
    have := Nat.eq_of_beq_eq_true hb
    subst this; cases hg; exact h
  · exact hΓ g d hg

/-- What a law answers. -/
theorem law_of_evFn {Γ : List (Nat × Ctr)} (hΓ : Good P Γ) (hm : P.follows .mixedOrders = true) {f : FuncId} {fn : Func} (hf : P.funcs[f]? = some fn)
    (hcall : ∀ (args : Array Value) (w : World), (callFunc f args).run P w = .ok (.enter f args) w) {fuel : Nat} {args : List AVal} {b : Bool} (he : evFn P Γ fuel fn args [] = some (.sbool b)) (hb : b = true)
    {vs : List Value} (hv : VL noRho args vs) (w : World) : Calls P f ⟨vs⟩ w fun e w' => e = .returned (.bool true) ∧ Below w.heap.size w w' := by
  have hs : SatC P f ⟨[], fun a bl => match evFn P Γ fuel fn a bl with | some v => some (v, none) | none => none, none⟩ := by
    have : Sat P f ⟨[], fun a bl => match evFn P Γ fuel fn a bl with | some v => some (v, none) | none => none, none⟩ :=
      sat_of_evFn hΓ (drawSound hm) hf hcall (fun a bl v res h => by
        dsimp only at h
        cases he' : evFn P Γ fuel fn a bl with
        | none => rw [he'] at h; simp at h
        | some x =>
          rw [he'] at h
          simp only [Option.some.injEq, Prod.mk.injEq] at h
          obtain ⟨rfl, rfl⟩ := h
          exact ⟨rfl, fuel, he'⟩) rfl
    exact this
  refine (hs.sat args [] (.sbool b) none (by simp only [he]) noRho w vs hv (pre_nil w) (fun h => by cases h)).mono ?_
  rintro e w' ⟨u, rfl, hu, hp⟩
  unfold V at hu
  subst hu; subst hb
  exact ⟨rfl, Fr.below hp⟩

/-- The same where the answer is decided. -/
theorem law_of_evFn' {Γ : List (Nat × Ctr)} (hΓ : Good P Γ) (hm : P.follows .mixedOrders = true) {f : FuncId} {fn : Func} (hf : P.funcs[f]? = some fn)
    (hcall : ∀ (args : Array Value) (w : World), (callFunc f args).run P w = .ok (.enter f args) w) {fuel : Nat} {args : List AVal} (he : evFn P Γ fuel fn args [] = some (.bool true))
    {vs : List Value} (hv : VL noRho args vs) (w : World) : Calls P f ⟨vs⟩ w fun e w' => e = .returned (.bool true) ∧ Below w.heap.size w w' := by
  have hs : SatC P f ⟨[], fun a bl => match evFn P Γ fuel fn a bl with | some v => some (v, none) | none => none, none⟩ := by
    have : Sat P f ⟨[], fun a bl => match evFn P Γ fuel fn a bl with | some v => some (v, none) | none => none, none⟩ :=
      sat_of_evFn hΓ (drawSound hm) hf hcall (fun a bl v res h => by
        dsimp only at h
        cases he' : evFn P Γ fuel fn a bl with
        | none => rw [he'] at h; simp at h
        | some x =>
          rw [he'] at h
          simp only [Option.some.injEq, Prod.mk.injEq] at h
          obtain ⟨rfl, rfl⟩ := h
          exact ⟨rfl, fuel, he'⟩) rfl
    exact this
  refine (hs.sat args [] (.bool true) none (by simp only [he]) noRho w vs hv (pre_nil w) (fun h => by cases h)).mono ?_
  rintro e w' ⟨u, rfl, hu, hp⟩
  unfold V at hu
  subst hu
  exact ⟨rfl, Fr.below hp⟩

/-- A contract may say less. -/
theorem Sat.weaken {f : FuncId} {c d : Ctr} (h : SatC P f c) (hx : d.x = none) (hd : ∀ args bl v res, d.fn args bl = some (v, res) → ∃ v0, c.fn args bl = some (v0, res) ∧ ∀ ρ u, V ρ v0 u → V ρ v u) : Sat P f d := by
  unfold Sat
  rw [hx]
  refine ⟨h.call, fun args bl v res hfn ρ w vs hv hp hw => ?_⟩
  obtain ⟨v0, h1, h2⟩ := hd args bl v res hfn
  refine (h.sat args bl v0 res h1 ρ w vs hv hp hw).mono ?_
  rintro e w' ⟨u, he, hu, hpost⟩
  exact ⟨u, he, h2 ρ u hu, hpost⟩

/-- As 'sat_of_evFn', up to what the answer says. -/
theorem sat_of_evFn_weak {Γ : List (Nat × Ctr)} (hΓ : Good P Γ) (hm : P.follows .mixedOrders = true) {f : FuncId} {fn : Func} {c : Ctr} (hf : P.funcs[f]? = some fn)
    (hcall : ∀ (args : Array Value) (w : World), (callFunc f args).run P w = .ok (.enter f args) w)
    (h : ∀ args bl v res, c.fn args bl = some (v, res) → (∃ ρ vs, VL ρ args vs) → (∃ ρ w, CRow ρ w bl) → res = none ∧ ∃ fuel v0, evFn P Γ fuel fn args bl = some v0 ∧ ∀ ρ u, V ρ v0 u → V ρ v u) (hx : c.x = none) : Sat P f c := by
  unfold Sat
  rw [hx]
  refine ⟨hcall, fun args bl v res hfn ρ w vs hv hp hw => ?_⟩
  obtain ⟨rfl, fuel, v0, he, hsay⟩ := h args bl v res hfn ⟨ρ, vs, hv⟩ ⟨ρ, w, hp.row⟩
  have hs : SatC P f ⟨[], fun a bl => match evFn P Γ fuel fn a bl with | some v => some (v, none) | none => none, none⟩ := by
    have : Sat P f ⟨[], fun a bl => match evFn P Γ fuel fn a bl with | some v => some (v, none) | none => none, none⟩ :=
      sat_of_evFn hΓ (drawSound hm) hf hcall (fun a bl v res h => by
        dsimp only at h
        cases he' : evFn P Γ fuel fn a bl with
        | none => rw [he'] at h; simp at h
        | some x =>
          rw [he'] at h
          simp only [Option.some.injEq, Prod.mk.injEq] at h
          obtain ⟨rfl, rfl⟩ := h
          exact ⟨rfl, fuel, he'⟩) rfl
    exact this
  refine (hs.sat args bl v0 none (by simp only [he]) ρ w vs hv hp (fun h => by cases h)).mono ?_
  rintro e w' ⟨u, hu1, hu2, hpost⟩
  exact ⟨u, hu1, hsay ρ u hu2, hpost⟩

/-- A function walked into where it is called. -/
noncomputable def inl (P : Program) (Γ : List (Nat × Ctr)) (fuel : Nat) (fn : Func) (views : List Nat) : Ctr :=
  ⟨views, fun a bl => match evFn P Γ fuel fn a bl with | some v => some (v, none) | none => none, none⟩

theorem sat_inl {Γ : List (Nat × Ctr)} (hΓ : Good P Γ) (hm : P.follows .mixedOrders = true) {f : FuncId} {fn : Func} (hf : P.funcs[f]? = some fn)
    (hcall : ∀ (args : Array Value) (w : World), (callFunc f args).run P w = .ok (.enter f args) w) (fuel : Nat) (views : List Nat) : Sat P f (inl P Γ fuel fn views) :=
  sat_of_evFn hΓ (drawSound hm) hf hcall (fun a bl v res h => by
    simp only [inl] at h
    cases he' : evFn P Γ fuel fn a bl with
    | none => rw [he'] at h; simp at h
    | some x =>
      rw [he'] at h
      simp only [Option.some.injEq, Prod.mk.injEq] at h
      obtain ⟨rfl, rfl⟩ := h
      exact ⟨rfl, fuel, he'⟩) rfl

noncomputable def inlW (P : Program) (Γ : List (Nat × Ctr)) (fuel : Nat) (fn : Func) (views : List Nat) : Ctr :=
  ⟨views, fun a bl => match evFnW P Γ fuel fn a bl with | some (v, l) => some (v, some l) | none => none, none⟩

theorem sat_inlW {Γ : List (Nat × Ctr)} (hΓ : Good P Γ) (hm : P.follows .mixedOrders = true) {f : FuncId} {fn : Func} (hf : P.funcs[f]? = some fn)
    (hcall : ∀ (args : Array Value) (w : World), (callFunc f args).run P w = .ok (.enter f args) w) (fuel : Nat) (views : List Nat) : Sat P f (inlW P Γ fuel fn views) :=
  sat_of_evFnW hΓ (drawSound hm) hf hcall (fun a bl v res h => by
    simp only [inlW] at h
    cases he' : evFnW P Γ fuel fn a bl with
    | none => rw [he'] at h; simp at h
    | some x =>
      obtain ⟨x, l⟩ := x
      rw [he'] at h
      simp only [Option.some.injEq, Prod.mk.injEq] at h
      obtain ⟨rfl, rfl⟩ := h
      exact ⟨l, rfl, fuel, he'⟩) rfl

/-- A function without a body. -/
def extC (k : Xk) : Ctr := ⟨[], fun _ _ => none, some k⟩

theorem sat_ext {f : FuncId} {fn : Func} (k : Xk) (hf : P.funcs[f]? = some fn) (hname : (fn.name == "runtime.NumGoroutine") = false) (hb : fn.body.isNone = true) (hn : Extern.findNext fn = none) (he : Extern.find fn = some (extFn k)) : Sat P f (extC k) := by
  show ∀ (args : Array Value) (w : World), (callFunc f args).run P w = ((extFn k args).run P w).andThen fun v w' => .ok (.value v) w'
  intro args w
  exact run_callFunc_extern hf hname hb hn he args w

theorem V_wf {ρ : Rho} {k : FloatKind} {b : Nat} {u : Value} (h : V ρ (.flt k b) u) : wfW k b := by
  unfold V at h
  obtain ⟨_, _, _, h, _⟩ := h
  exact h

/-! lists of floats -/
def decF : List AVal → Option (List Nat)
  | [] => some []
  | .flt .f32 a :: r => match decF r with | some l => some (a :: l) | none => none
  | _ :: _ => none

def encF : List Nat → List AVal
  | [] => []
  | a :: r => .flt .f32 a :: encF r

theorem decF_spec : ∀ (l : List AVal) (ns : List Nat), decF l = some ns → l = encF ns
  | [], ns, h => by simp [decF] at h; subst h; rfl
  | x :: r, ns, h => by
    unfold decF at h
    split at h
    · rename_i heq; simp at heq
    · rename_i a r' heq
      simp only [List.cons.injEq] at heq
      obtain ⟨rfl, rfl⟩ := heq
      split at h
      · rename_i l hl; cases h
        rw [decF_spec r l hl]; rfl
      · cases h
    · cases h

/-- So many floats. -/
def decN (n : Nat) (l : List AVal) : Option (List Nat) := match decF l with
  | some ns => match Nat.beq ns.length n with | true => some ns | false => none
  | none => none

theorem decN_spec {n : Nat} {l : List AVal} {ns : List Nat} (h : decN n l = some ns) : l = encF ns ∧ ns.length = n := by
  unfold decN at h
  split at h
  · rename_i ns' hd
    split at h
    · rename_i hb; cases h
      exact ⟨decF_spec l _ hd, Nat.eq_of_beq_eq_true hb⟩
    · cases h
  · cases h

theorem len4 {l : List Nat} (h : l.length = 4) : ∃ a b c d, l = [a, b, c, d] := by
  match l, h with
  | [a, b, c, d], _ => exact ⟨a, b, c, d, rfl⟩
theorem len6 {l : List Nat} (h : l.length = 6) : ∃ a b c d e f, l = [a, b, c, d, e, f] := by
  match l, h with
  | [a, b, c, d, e, f], _ => exact ⟨a, b, c, d, e, f, rfl⟩
theorem len7 {l : List Nat} (h : l.length = 7) : ∃ a b c d e f g, l = [a, b, c, d, e, f, g] := by
  match l, h with
  | [a, b, c, d, e, f, g], _ => exact ⟨a, b, c, d, e, f, g, rfl⟩
theorem len18 {l : List Nat} (h : l.length = 18) : ∃ a0 a1 a2 a3 a4 a5 b0 b1 b2 b3 b4 b5 c0 c1 c2 c3 c4 c5, l = [a0, a1, a2, a3, a4, a5, b0, b1, b2, b3, b4, b5, c0, c1, c2, c3, c4, c5] := by
  match l, h with
  | [a0, a1, a2, a3, a4, a5, b0, b1, b2, b3, b4, b5, c0, c1, c2, c3, c4, c5], _ => exact ⟨a0, a1, a2, a3, a4, a5, b0, b1, b2, b3, b4, b5, c0, c1, c2, c3, c4, c5, rfl⟩

theorem VL_wf {ρ : Rho} : ∀ (ns : List Nat) (vs : List Value), VL ρ (encF ns) vs → ∀ n ∈ ns, wfW .f32 n
  | [], _, _, n, hn => by simp at hn
  | a :: r, _, h, n, hn => by
    unfold encF VL at h
    obtain ⟨v, vs', rfl, h1, h2⟩ := h
    rcases List.mem_cons.1 hn with rfl | hn
    · exact V_wf h1
    · exact VL_wf r vs' h2 n hn

/-! arguments -/
theorem enc_of_floats {ρ : Rho} : ∀ (vs : List Value), (∀ v ∈ vs, ∃ b, v = .float .f32 b ∧ wfW .f32 b) → ∃ ns, ns.length = vs.length ∧ VL ρ (encF ns) vs
  | [], _ => ⟨[], rfl, by simp [encF, VL]⟩
  | v :: vs, h => by
    obtain ⟨b, rfl, hb⟩ := h v (by simp)
    obtain ⟨ns, h1, h2⟩ := enc_of_floats vs (fun v hv => h v (by simp [hv]))
    refine ⟨b :: ns, by simp [h1], ?_⟩
    unfold encF VL
    exact ⟨_, vs, rfl, by unfold V; exact ⟨b, rfl, sameW.refl _ _, hb, hb⟩, h2⟩

/-- A struct or an array of floats, opened. -/
theorem open_floats {W : World} {r : Reach} {base n : Nat} {t f : TypeId} {v : Value} (hagg : (match P.underlying t with | some (.struct _) | some (.array _ _) => true | _ => false) = true)
    (hct : P.cellTypes P.depth t = some (List.replicate n f)) (hn : P.cellsOf t = n) (hf : P.underlying f = some (.float .f32)) (h : Value.okWide P W r base t v) :
    ∃ ns vs, ns.length = n ∧ v = .agg ⟨vs⟩ ∧ VL noRho (encF ns) vs := by
  unfold Value.okWide at h
  have h' : ∃ cs, v = .agg cs ∧ cs.size = P.cellsOf t ∧ Row.okWide P W r base t cs := by
    cases hu : P.underlying t with
    | none => rw [hu] at hagg; cases hagg
    | some d => rw [hu] at hagg h; cases d <;> first | exact h | cases hagg
  obtain ⟨cs, rfl, hsz, ts, hts, _, hcells⟩ := h'
  rw [hct] at hts; cases hts
  obtain ⟨vs⟩ := cs
  have hlen : vs.length = n := by simpa [hn] using hsz
  obtain ⟨ns, h1, h2⟩ := enc_of_floats (ρ := noRho) vs (fun v hv => by
    obtain ⟨i, hi, he⟩ := List.mem_iff_getElem.1 hv
    obtain ⟨u, hu, hok⟩ := hcells i v (by simp [hi, he])
    have hu' : u = f := by
      rw [List.length_replicate] at hu
      have := List.mem_of_getElem? hu
      exact (List.mem_replicate.1 this).2
    subst hu'
    unfold Cell.okWide at hok
    rw [hf] at hok
    cases v <;> simp [Cell.ok, hf] at hok
    obtain ⟨rfl, hb⟩ := hok
    exact ⟨_, rfl, hb⟩)
  exact ⟨ns, vs, by omega, rfl, h2⟩

theorem agg_V {ρ : Rho} {xs : List AVal} {vs : List Value} (h : VL ρ xs vs) : V ρ (.agg xs) (.agg ⟨vs⟩) := by
  unfold V; exact ⟨vs, rfl, h⟩
theorem flt_V {ρ : Rho} (k : FloatKind) {b : Nat} (hb : wfW k b) : V ρ (.flt k b) (.float k b) := by
  unfold V; exact ⟨b, rfl, sameW.refl _ _, hb, hb⟩
theorem sint_V {ρ : Rho} (k : IntKind) (n : Int) : V ρ (.sint k n) (.int k n) := by unfold V; rfl
theorem VL_nil {ρ : Rho} : VL ρ [] [] := by simp [VL]
theorem VL_cons {ρ : Rho} {x : AVal} {v : Value} {xs : List AVal} {vs : List Value} (h : V ρ x v) (hs : VL ρ xs vs) : VL ρ (x :: xs) (v :: vs) := by
  unfold VL; exact ⟨v, vs, rfl, h, hs⟩

/-- A condition that is met. -/
theorem cbool_say {ρ : Rho} {c b : Bool} {u : Value} (hc : c = true) (h : V ρ (.cbool c b) u) : V ρ (.sbool b) u := by
  unfold V at h ⊢
  obtain ⟨b', rfl, hb⟩ := h
  rw [hb hc]
theorem cint_say {ρ : Rho} {c : Bool} {k : IntKind} {n : Int} {u : Value} (hc : c = true) (h : V ρ (.cint c k n) u) : V ρ (.sint k n) u := by
  unfold V at h ⊢
  obtain ⟨b', rfl, hb⟩ := h
  rw [hb hc]
end
end Go.Ab
