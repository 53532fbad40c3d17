import Derived.Test.YtmegbdgnnbjbmaaFl
namespace Go.Ab
open Go Go.RowKit
set_option linter.unusedVariables false
section
variable {P : Program}

def ctr1 (g : Nat → AVal) : Ctr := ⟨fun args _ => match args with | [.flt .f32 a] => some ⟨g a, [], [], [], true, none⟩ | _ => none, none⟩
def ctr2 (g : Nat → Nat → AVal) : Ctr := ⟨fun args _ => match args with | [.flt .f32 a, .flt .f32 b] => some ⟨g a b, [], [], [], true, none⟩ | _ => none, none⟩
def ctrD2 (g : Nat → Nat → AVal) : Ctr := ⟨fun args _ => match args with | [.flt .f64 a, .flt .f64 b] => some ⟨g a b, [], [], [], true, none⟩ | _ => none, none⟩
def ctr3 (g : Nat → Nat → Nat → AVal) : Ctr := ⟨fun args _ => match args with | [.flt .f32 a, .flt .f32 b, .flt .f32 c] => some ⟨g a b c, [], [], [], true, none⟩ | _ => none, none⟩

theorem sat1 {Γ : List (Nat × Ctr)} (hΓ : Good P Γ) (hm : P.follows .mixedOrders = true) {f : FuncId} {fn : Func} (hf : P.funcs[f]? = some fn)
    (hcall : ∀ (args : Array Value) (w : World), (callFunc f args).run P w = .ok (.enter f args) w) {g : Nat → AVal} (fuel : Nat) (g0 : Nat → AVal)
    (he : ∀ a, evBody P Γ fuel fn [.flt .f32 a] St0 = some ⟨g0 a, [], [], [], true, none⟩) (h : ∀ a, wfW .f32 a → ∀ ρ u, V ρ (g0 a) u → V ρ (g a) u) (hfl : ∀ a, (g0 a).flat = true := by intros; rfl) : Sat P f (ctr1 g) :=
  sat_flat hΓ hm hf hcall (fun args S out hfn hn hv => by
    obtain ⟨ρ, vs, hv⟩ := hv
    simp only [ctr1] at hfn
    split at hfn
    · rename_i a
      cases hfn
      unfold VL at hv
      obtain ⟨_, _, _, h1, hv⟩ := hv
      exact ⟨rfl, fuel, g0 a, he a, hfl a, rfl, h a (V_wf h1)⟩
    · cases hfn) rfl

theorem sat2 {Γ : List (Nat × Ctr)} (hΓ : Good P Γ) (hm : P.follows .mixedOrders = true) {f : FuncId} {fn : Func} (hf : P.funcs[f]? = some fn)
    (hcall : ∀ (args : Array Value) (w : World), (callFunc f args).run P w = .ok (.enter f args) w) {g : Nat → Nat → AVal} (fuel : Nat) (g0 : Nat → Nat → AVal)
    (he : ∀ a b, evBody P Γ fuel fn [.flt .f32 a, .flt .f32 b] St0 = some ⟨g0 a b, [], [], [], true, none⟩) (h : ∀ a b, wfW .f32 a → wfW .f32 b → ∀ ρ u, V ρ (g0 a b) u → V ρ (g a b) u) (hfl : ∀ a b, (g0 a b).flat = true := by intros; rfl) : Sat P f (ctr2 g) :=
  sat_flat hΓ hm hf hcall (fun args S out hfn hn hv => by
    obtain ⟨ρ, vs, hv⟩ := hv
    simp only [ctr2] at hfn
    split at hfn
    · rename_i a b
      cases hfn
      unfold VL at hv
      obtain ⟨_, _, _, h1, hv⟩ := hv
      unfold VL at hv
      obtain ⟨_, _, _, h2, hv⟩ := hv
      exact ⟨rfl, fuel, g0 a b, he a b, hfl a b, rfl, h a b (V_wf h1) (V_wf h2)⟩
    · cases hfn) rfl

theorem satD2 {Γ : List (Nat × Ctr)} (hΓ : Good P Γ) (hm : P.follows .mixedOrders = true) {f : FuncId} {fn : Func} (hf : P.funcs[f]? = some fn)
    (hcall : ∀ (args : Array Value) (w : World), (callFunc f args).run P w = .ok (.enter f args) w) {g : Nat → Nat → AVal} (fuel : Nat) (g0 : Nat → Nat → AVal)
    (he : ∀ a b, evBody P Γ fuel fn [.flt .f64 a, .flt .f64 b] St0 = some ⟨g0 a b, [], [], [], true, none⟩) (h : ∀ a b, wfW .f64 a → wfW .f64 b → ∀ ρ u, V ρ (g0 a b) u → V ρ (g a b) u) (hfl : ∀ a b, (g0 a b).flat = true := by intros; rfl) : Sat P f (ctrD2 g) :=
  sat_flat hΓ hm hf hcall (fun args S out hfn hn hv => by
    obtain ⟨ρ, vs, hv⟩ := hv
    simp only [ctrD2] at hfn
    split at hfn
    · rename_i a b
      cases hfn
      unfold VL at hv
      obtain ⟨_, _, _, h1, hv⟩ := hv
      unfold VL at hv
      obtain ⟨_, _, _, h2, hv⟩ := hv
      exact ⟨rfl, fuel, g0 a b, he a b, hfl a b, rfl, h a b (V_wf h1) (V_wf h2)⟩
    · cases hfn) rfl

theorem sat3 {Γ : List (Nat × Ctr)} (hΓ : Good P Γ) (hm : P.follows .mixedOrders = true) {f : FuncId} {fn : Func} (hf : P.funcs[f]? = some fn)
    (hcall : ∀ (args : Array Value) (w : World), (callFunc f args).run P w = .ok (.enter f args) w) {g : Nat → Nat → Nat → AVal} (fuel : Nat) (g0 : Nat → Nat → Nat → AVal)
    (he : ∀ a b c, evBody P Γ fuel fn [.flt .f32 a, .flt .f32 b, .flt .f32 c] St0 = some ⟨g0 a b c, [], [], [], true, none⟩) (h : ∀ a b c, wfW .f32 a → wfW .f32 b → wfW .f32 c → ∀ ρ u, V ρ (g0 a b c) u → V ρ (g a b c) u) (hfl : ∀ a b c, (g0 a b c).flat = true := by intros; rfl) : Sat P f (ctr3 g) :=
  sat_flat hΓ hm hf hcall (fun args S out hfn hn hv => by
    obtain ⟨ρ, vs, hv⟩ := hv
    simp only [ctr3] at hfn
    split at hfn
    · rename_i a b c
      cases hfn
      unfold VL at hv
      obtain ⟨_, _, _, h1, hv⟩ := hv
      unfold VL at hv
      obtain ⟨_, _, _, h2, hv⟩ := hv
      unfold VL at hv
      obtain ⟨_, _, _, h3, hv⟩ := hv
      exact ⟨rfl, fuel, g0 a b c, he a b c, hfl a b c, rfl, h a b c (V_wf h1) (V_wf h2) (V_wf h3)⟩
    · cases hfn) rfl

/-- A number is the same as itself. -/
theorem same_self (k : FloatKind) (a z o : Nat) : (cond (cond (!feqB k a a) true (!feqB k a a)) (cond (!feqB k a a) (!feqB k a a) false) (cond (cond (feqB k a z) (feqB k a z) false) (fltB k z (fop .quo k o a) == fltB k z (fop .quo k o a)) (feqB k a a))) = true := by
  cases feqB k a a <;> cases feqB k a z <;> simp

/-- The law's way of naming 'the same number' of two words of double. -/
noncomputable def same64 (a b : Nat) : Bool := cond (cond (!feqB .f64 a a) true (!feqB .f64 b b)) (cond (!feqB .f64 a a) (!feqB .f64 b b) false) (cond (cond (feqB .f64 a 0) (feqB .f64 b 0) false) (fltB .f64 0 (fop .quo .f64 4607182418800017408 a) == fltB .f64 0 (fop .quo .f64 4607182418800017408 b)) (feqB .f64 a b))
theorem same64_self (a : Nat) : same64 a a = true := same_self .f64 a _ _
end
end Go.Ab
