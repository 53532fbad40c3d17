import Derived.Test.YtiebaggemiifoaaFl
namespace Go.Ab
open Go Go.RowKit
section
variable {P : Program}

def ctr1 (g : Nat → AVal) : Ctr := ⟨[], fun args bl => match args, bl with | [.flt .f32 a], [] => some (g a, none) | _, _ => none, none⟩
def ctr2 (g : Nat → Nat → AVal) : Ctr := ⟨[], fun args bl => match args, bl with | [.flt .f32 a, .flt .f32 b], [] => some (g a b, none) | _, _ => none, none⟩
def ctrD2 (g : Nat → Nat → AVal) : Ctr := ⟨[], fun args bl => match args, bl with | [.flt .f64 a, .flt .f64 b], [] => some (g a b, none) | _, _ => none, none⟩

theorem sat1 {Γ : List (Nat × Ctr)} (hΓ : Good P Γ) (hm : P.follows .mixedOrders = true) {f : FuncId} {fn : Func} (hf : P.funcs[f]? = some fn)
    (hcall : ∀ (args : Array Value) (w : World), (callFunc f args).run P w = .ok (.enter f args) w) {g : Nat → AVal} (fuel : Nat) (g0 : Nat → AVal)
    (he : ∀ a, evFn P Γ fuel fn [.flt .f32 a] [] = some (g0 a)) (h : ∀ a, wfW .f32 a → ∀ ρ u, V ρ (g0 a) u → V ρ (g a) u) : Sat P f (ctr1 g) :=
  sat_of_evFn_weak hΓ hm hf hcall (fun args bl v res hfn hv hcr => by
    obtain ⟨ρ, vs, hv⟩ := hv
    simp only [ctr1] at hfn
    split at hfn
    · rename_i a
      simp only [Option.some.injEq, Prod.mk.injEq] at hfn
      obtain ⟨rfl, rfl⟩ := hfn
      refine ⟨rfl, fuel, g0 a, he a, h a ?_⟩
      unfold VL at hv
      obtain ⟨_, _, _, h1, _⟩ := hv
      exact V_wf h1
    · cases hfn) rfl

theorem sat2 {Γ : List (Nat × Ctr)} (hΓ : Good P Γ) (hm : P.follows .mixedOrders = true) {f : FuncId} {fn : Func} (hf : P.funcs[f]? = some fn)
    (hcall : ∀ (args : Array Value) (w : World), (callFunc f args).run P w = .ok (.enter f args) w) {g : Nat → Nat → AVal} (fuel : Nat) (g0 : Nat → Nat → AVal)
    (he : ∀ a b, evFn P Γ fuel fn [.flt .f32 a, .flt .f32 b] [] = some (g0 a b)) (h : ∀ a b, wfW .f32 a → wfW .f32 b → ∀ ρ u, V ρ (g0 a b) u → V ρ (g a b) u) : Sat P f (ctr2 g) :=
  sat_of_evFn_weak hΓ hm hf hcall (fun args bl v res hfn hv hcr => by
    obtain ⟨ρ, vs, hv⟩ := hv
    simp only [ctr2] at hfn
    split at hfn
    · rename_i a b
      simp only [Option.some.injEq, Prod.mk.injEq] at hfn
      obtain ⟨rfl, rfl⟩ := hfn
      unfold VL at hv
      obtain ⟨_, _, _, h1, hv⟩ := hv
      unfold VL at hv
      obtain ⟨_, _, _, h2, hv⟩ := hv
      exact ⟨rfl, fuel, g0 a b, he a b, h a b (V_wf h1) (V_wf h2)⟩
    · cases hfn) rfl

theorem satD2 {Γ : List (Nat × Ctr)} (hΓ : Good P Γ) (hm : P.follows .mixedOrders = true) {f : FuncId} {fn : Func} (hf : P.funcs[f]? = some fn)
    (hcall : ∀ (args : Array Value) (w : World), (callFunc f args).run P w = .ok (.enter f args) w) {g : Nat → Nat → AVal} (fuel : Nat) (g0 : Nat → Nat → AVal)
    (he : ∀ a b, evFn P Γ fuel fn [.flt .f64 a, .flt .f64 b] [] = some (g0 a b)) (h : ∀ a b, wfW .f64 a → wfW .f64 b → ∀ ρ u, V ρ (g0 a b) u → V ρ (g a b) u) : Sat P f (ctrD2 g) :=
  sat_of_evFn_weak hΓ hm hf hcall (fun args bl v res hfn hv hcr => by
    obtain ⟨ρ, vs, hv⟩ := hv
    simp only [ctrD2] at hfn
    split at hfn
    · rename_i a b
      simp only [Option.some.injEq, Prod.mk.injEq] at hfn
      obtain ⟨rfl, rfl⟩ := hfn
      unfold VL at hv
      obtain ⟨_, _, _, h1, hv⟩ := hv
      unfold VL at hv
      obtain ⟨_, _, _, h2, hv⟩ := hv
      exact ⟨rfl, fuel, g0 a b, he a b, h a b (V_wf h1) (V_wf h2)⟩
    · cases hfn) rfl

/-- A number is the same as itself. -/
theorem same_self (k : FloatKind) (a z o : Nat) : (cond (cond (!feqB k a a) true (!feqB k a a)) (cond (!feqB k a a) (!feqB k a a) false) (cond (cond (feqB k a z) (feqB k a z) false) (fltB k z (fop .quo k o a) == fltB k z (fop .quo k o a)) (feqB k a a))) = true := by
  cases feqB k a a <;> cases feqB k a z <;> simp

/-- The law's way of naming 'the same number' of two words of double. -/
noncomputable def same64 (a b : Nat) : Bool := cond (cond (!feqB .f64 a a) true (!feqB .f64 b b)) (cond (!feqB .f64 a a) (!feqB .f64 b b) false) (cond (cond (feqB .f64 a 0) (feqB .f64 b 0) false) (fltB .f64 0 (fop .quo .f64 4607182418800017408 a) == fltB .f64 0 (fop .quo .f64 4607182418800017408 b)) (feqB .f64 a b))
theorem same64_self (a : Nat) : same64 a a = true := same_self .f64 a _ _
end
end Go.Ab
