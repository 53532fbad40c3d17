import Derived.Test.YtmegbdgnnbjbmaaAbF2
namespace Go.Ab
open Go
noncomputable def btwF (h : Nat) : Bool := cond (fleB .f32 3262119936 h) (fleB .f32 h 1153138688) false
noncomputable def okL (w h f : Nat) (x : Bool) : Bool := cond (cond (!kilF w) true (cond (!kilF f) true (!btwF h))) false x
noncomputable def okS (w h f : Nat) (x : Bool) : Bool := cond (cond (!amtF w) true (cond (fltB .f32 1092616192 w) true (cond (!amtF f) true (cond (fltB .f32 1092616192 f) true (cond (fleB .f32 3262119936 h) (!fleB .f32 h 1153138688) (!false)))))) false x
theorem okS_eq (w h f : Nat) (x : Bool) : okS w h f x = okL w h f x := by
  have e : cond (fleB .f32 3262119936 h) (!fleB .f32 h 1153138688) (!false) = !btwF h := by unfold btwF; cases fleB .f32 3262119936 h <;> rfl
  unfold okS okL; rw [e, kil_spec w, kil_spec f]
noncomputable def validI : List Nat → Bool
  | [a0, a1, a2, a3, a4, a5, b0, b1, b2, b3, b4, b5, c0, c1, c2, c3, c4, c5] => okL a0 b0 c0 (okL a1 b1 c1 (okL a2 b2 c2 (okL a3 b3 c3 (okL a4 b4 c4 (okL a5 b5 c5 true)))))
  | _ => false
noncomputable def validS : List Nat → Bool
  | [a0, a1, a2, a3, a4, a5, b0, b1, b2, b3, b4, b5, c0, c1, c2, c3, c4, c5] => okS a0 b0 c0 (okS a1 b1 c1 (okS a2 b2 c2 (okS a3 b3 c3 (okS a4 b4 c4 (okS a5 b5 c5 true)))))
  | _ => false
theorem validS_eq (ns : List Nat) : validS ns = validI ns := by
  unfold validS validI
  split
  · simp only [okS_eq]
  · rfl
/-- Whether a log is valid, its text shut. -/
theorem vOp_ex : ∃ f, f = validI := ⟨_, rfl⟩
noncomputable def vOp : List Nat → Bool := Classical.choose vOp_ex
theorem vOp_eq : vOp = validI := Classical.choose_spec vOp_ex

def ctrW (g : List Nat → AVal) : Ctr := ⟨fun args _ => match args with | [.agg l] => (match decN 18 l with | some ns => some ⟨g ns, [], [], [], true, none⟩ | none => none) | _ => none, none⟩
def ctrWp (g : List Nat → AVal) : Ctr := ⟨fun args S => match args with | [.ptr i o] => (match S.cellsAt i o 18 with | some l => (match decN 18 l with | some ns => some ⟨g ns, [], [], [], true, none⟩ | none => none) | none => none) | _ => none, none⟩
section
variable {P : Program}
theorem satW {Γ : List (Nat × Ctr)} (hΓ : Good P Γ) (hm : P.follows .mixedOrders = true) {f : FuncId} {fn : Func} (hf : P.funcs[f]? = some fn)
    (hcall : ∀ (args : Array Value) (w : World), (callFunc f args).run P w = .ok (.enter f args) w) {g : List Nat → AVal} (fuel : Nat) (g0 : List Nat → AVal)
    (he : ∀ ns, ns.length = 18 → evBody P Γ fuel fn [.agg (encF ns)] St0 = some ⟨g0 ns, [], [], [], true, none⟩) (h : ∀ ns, ns.length = 18 → ∀ ρ u, V ρ (g0 ns) u → V ρ (g ns) u) (hfl : ∀ ns, (g0 ns).flat = true := by intros; rfl) : Sat P f (ctrW g) :=
  sat_flat hΓ hm hf hcall (fun args S out hfn hn hv => by
    simp only [ctrW] at hfn
    split at hfn
    · split at hfn
      · rename_i ns hd
        cases hfn
        obtain ⟨rfl, hl⟩ := decN_spec hd
        exact ⟨by simp only [AVal.flat.flatL, AVal.flat, encF_flat], fuel, g0 ns, he ns hl, hfl ns, rfl, h ns hl⟩
      · cases hfn
    · cases hfn) rfl
theorem satWp {Γ : List (Nat × Ctr)} (hΓ : Good P Γ) (hm : P.follows .mixedOrders = true) {f : FuncId} {fn : Func} (hf : P.funcs[f]? = some fn)
    (hcall : ∀ (args : Array Value) (w : World), (callFunc f args).run P w = .ok (.enter f args) w) {g : List Nat → AVal} (fuel : Nat) (g0 : List Nat → AVal)
    (he : ∀ ns, ns.length = 18 → evBody P Γ fuel fn [.ptr 0 0] (St1 (encF ns)) = some ⟨g0 ns, [], [], [], true, none⟩) (h : ∀ ns, ns.length = 18 → ∀ ρ u, V ρ (g0 ns) u → V ρ (g ns) u) (hfl : ∀ ns, (g0 ns).flat = true := by intros; rfl) : Sat P f (ctrWp g) :=
  sat_view (n := 18) hΓ hm hf hcall (fun args S out hfn hn => by
    simp only [ctrWp] at hfn
    split at hfn
    · rename_i i o
      split at hfn
      · rename_i l hl
        split at hfn
        · rename_i ns hd
          cases hfn
          obtain ⟨rfl, hlen⟩ := decN_spec hd
          exact ⟨i, o, encF ns, rfl, hl, encF_flat ns, fuel, g0 ns, he ns hlen, hfl ns, rfl, h ns hlen⟩
        · cases hfn
      · cases hfn
    · cases hfn) rfl
end
end Go.Ab
