import Derived.Test.YtnkfeoodbhihcaaGe
namespace Go.Ab
open Go Go.RowKit
/-- A span and a code, as a law asks them. -/
noncomputable def spQ (R R' : Option AVal) : Bool := cond (!sO (wide (wAt R 0)) (wide (wAt R' 0))) false (cond (!sO (wide (wAt R 1)) (wide (wAt R' 1))) false true)
noncomputable def askSp (R R' : Option AVal) : Bool := cond (cond (!spQ R R') true (iT R 1 != iT R' 1)) false true
theorem askSp_self (R : Option AVal) : askSp R R = true := by unfold askSp spQ; rw [sO_self, sO_self]; simp
theorem askSp_of {R R' : Option AVal} (h : R = R') : askSp R R' = true := by subst h; exact askSp_self R
end Go.Ab

namespace Go.Ab
open Go Go.RowKit
set_option linter.unusedVariables false
section
variable {P : Program}
/-- A contract over numbers, what is asked included. -/
theorem sat_flatM {Γ : List (Nat × Ctr)} (hΓ : Good P Γ) (hm : P.follows .mixedOrders = true) {f : FuncId} {fn : Func} {c : Ctr} (hf : P.funcs[f]? = some fn)
    (hcall : ∀ (args : Array Value) (w : World), (callFunc f args).run P w = .ok (.enter f args) w)
    (h : ∀ args S out, c.fn args S = some out → out.nd = true → (∃ ρ vs, VL ρ args vs) → AVal.flat.flatL args = true ∧ ∃ fuel v0 nd, evBody P Γ fuel fn args St0 = some ⟨v0, [], [], [], nd, none⟩ ∧ nd = true ∧ v0.flat = true ∧ out = ⟨out.v, [], [], [], true, none⟩ ∧ ∀ ρ u, V ρ v0 u → V ρ out.v u) (hx : c.x = none) : Sat P f c := by
  unfold Sat
  rw [hx]
  refine ⟨hcall, fun args S out hfn hnd M w0 ρ w vs hM hv => ?_⟩
  obtain ⟨hfl, fuel, v0, nd, he, hn, hf0, hout, hsay⟩ := h args S out hfn hnd ⟨ρ, vs, hv⟩
  have hs : SatC P f (inl P Γ fuel fn) := inl_sat hΓ hm hf hcall fuel
  refine (hs.sat args St0 _ he hn NoM w noRho w vs (mem_nil w) (VL_flat' _ _ hfl hv)).mono ?_
  intro e w' hr
  cases e with
  | outgrown => exact hr.elim
  | panicked ch =>
    obtain ⟨v, u, hp, _⟩ := hr
    cases hp
  | returned u =>
    obtain ⟨_, ρ', _, hu, hm'⟩ := hr
    rw [hout]
    exact ⟨fun b v h => (by cases h), ρ, ExtS.refl _ _, hsay _ _ (V_flat _ _ hf0 hu), (hM.quiet hm'.fr).put_nil⟩

theorem sat1N {Γ : List (Nat × Ctr)} (hΓ : Good P Γ) (hm : P.follows .mixedOrders = true) {f : FuncId} {fn : Func} (hf : P.funcs[f]? = some fn)
    (hcall : ∀ (args : Array Value) (w : World), (callFunc f args).run P w = .ok (.enter f args) w) {g : Nat → AVal} (fuel : Nat) (g0 : Nat → AVal) (nd : Nat → Bool)
    (he : ∀ a, evBody P Γ fuel fn [.flt .f32 a] St0 = some ⟨g0 a, [], [], [], nd a, none⟩) (hn : ∀ a, wfW .f32 a → nd a = true) (h : ∀ a, wfW .f32 a → ∀ ρ u, V ρ (g0 a) u → V ρ (g a) u) (hfl : ∀ a, (g0 a).flat = true := by intros; rfl) : Sat P f (ctr1 g) :=
  sat_flatM hΓ hm hf hcall (fun args S out hfn hn' hv => by
    obtain ⟨ρ, vs, hv⟩ := hv
    simp only [ctr1] at hfn
    split at hfn
    · rename_i a
      cases hfn
      unfold VL at hv
      obtain ⟨_, _, _, h1, hv⟩ := hv
      exact ⟨rfl, fuel, g0 a, nd a, he a, hn a (V_wf h1), hfl a, rfl, h a (V_wf h1)⟩
    · cases hfn) rfl
end

/-- The next number: its word. -/
noncomputable def upI (a : Nat) : Nat := cond (cond (!feqB .f32 a a) true (fltB .f32 2139095039 a)) a (cond (feqB .f32 a 0) 1 (cond (fltB .f32 0 a) (IntKind.u32.wrap (Int.ofNat a + 1)).toNat (IntKind.u32.wrap (Int.ofNat a - 1)).toNat))
theorem upW_ex : ∃ f, f = upI := ⟨_, rfl⟩
noncomputable def upW : Nat → Nat := Classical.choose upW_ex
theorem upW_eq : upW = upI := Classical.choose_spec upW_ex

/-- A number with the sign of another one. -/
noncomputable def csI (f s : Nat) : Nat := (IntKind.u64.wrap (BitVec.ofInt 64 (IntKind.u64.wrap (BitVec.ofInt 64 (Int.ofNat f) &&& ~~~ BitVec.ofInt 64 9223372036854775808).toNat) ||| BitVec.ofInt 64 (IntKind.u64.wrap (BitVec.ofInt 64 (Int.ofNat s) &&& BitVec.ofInt 64 9223372036854775808).toNat)).toNat).toNat
theorem csW_ex : ∃ f, f = csI := ⟨_, rfl⟩
noncomputable def csW : Nat → Nat → Nat := Classical.choose csW_ex
theorem csW_eq : csW = csI := Classical.choose_spec csW_ex
noncomputable def csC : Ctr := ⟨fun args _ => match args with | [.flt .f64 f, .flt .f64 s] => some ⟨.flt .f64 (csW f s), [], [], [], !nanB .f64 f && !nanB .f64 s, none⟩ | _ => none, none⟩

theorem u64_lt (n : Int) : (IntKind.u64.wrap n).toNat < 18446744073709551616 := by
  unfold IntKind.wrap
  simp [IntKind.bits, IntKind.signed]
  omega
theorem u32_lt (n : Int) : (IntKind.u32.wrap n).toNat < 4294967296 := by
  unfold IntKind.wrap
  simp [IntKind.bits, IntKind.signed]
  omega
theorem ble_lt {x y : Nat} (h : x < y) : Nat.ble (x + 1) y = true := Nat.ble_eq_true_of_le h
theorem cs_nd {f s : Nat} (h : (!nanB .f64 f && !nanB .f64 s) = true) : cond (andN true (((!nanB .f64 f && true) && (!nanB .f64 s && true)) && Nat.ble (csI f s + 1) 18446744073709551616)) true false = true := by
  simp only [Bool.and_eq_true, Bool.not_eq_true'] at h
  have hb : Nat.ble (csI f s + 1) 18446744073709551616 = true := ble_lt (by unfold csI; exact u64_lt _)
  rw [h.1, h.2, hb]; rfl
section
variable {P : Program}
theorem sat_cs {Γ : List (Nat × Ctr)} (hΓ : Good P Γ) (hm : P.follows .mixedOrders = true) {f : FuncId} {fn : Func} (hf : P.funcs[f]? = some fn)
    (hcall : ∀ (args : Array Value) (w : World), (callFunc f args).run P w = .ok (.enter f args) w) (fuel : Nat) (nd : Nat → Nat → Bool)
    (he : ∀ a b, evBody P Γ fuel fn [.flt .f64 a, .flt .f64 b] St0 = some ⟨.flt .f64 (csI a b), [], [], [], nd a b, none⟩) (hn : ∀ a b, (!nanB .f64 a && !nanB .f64 b) = true → nd a b = true) : Sat P f csC :=
  sat_flatM hΓ hm hf hcall (fun args S out hfn hn' hv => by
    simp only [csC] at hfn
    split at hfn
    · rename_i a b
      cases hfn
      refine ⟨rfl, fuel, .flt .f64 (csI a b), nd a b, he a b, hn a b hn', rfl, ?_, fun ρ u h => ?_⟩
      · have hn' : (!nanB .f64 a && !nanB .f64 b) = true := hn'
        rw [hn']
      · show V ρ (.flt .f64 (csW a b)) u
        rw [csW_eq]; exact h
    · cases hfn) rfl
end
end Go.Ab

namespace Go.Ab
open Go
set_option linter.unusedVariables false
theorem nrw_inf : nrw 9218868437227405312 = 2139095040 := by rw [nrw_eq]; decide +kernel
theorem nrw_ninf : nrw 18442240474082181120 = 4286578688 := by rw [nrw_eq]; decide +kernel
theorem nrwOk_inf : nrwOk 9218868437227405312 = true := by rw [nrwOk_eq]; decide +kernel
theorem nrwOk_ninf : nrwOk 18442240474082181120 = true := by rw [nrwOk_eq]; decide +kernel
theorem nrwOk_nan : nrwOk 9221120237041090561 = true := by rw [nrwOk_eq]; decide +kernel
theorem nrw_nan : nrw 9221120237041090561 = 2143289344 := by rw [nrw_eq]; decide +kernel
theorem wide_inf : wide 2139095040 = 9218868437227405312 := by rw [wide_eq]; decide +kernel
theorem wide_one : wide 1 = 3936146074321813504 := by rw [wide_eq]; decide +kernel
theorem cs_one : csW 3936146074321813504 9218868437227405312 = 3936146074321813504 := by rw [csW_eq]; unfold csI; decide +kernel
theorem nrw_one : nrw 3936146074321813504 = 1 := by rw [nrw_eq]; decide +kernel
theorem nrwOk_one : nrwOk 3936146074321813504 = true := by rw [nrwOk_eq]; decide +kernel
theorem nan_wide (a : Nat) : nanB .f64 (wide a) = nanB .f32 a := by
  rw [nan32]
  rcases Nat.lt_trichotomy (a % 2147483648) 2139095040 with h | h | h
  · have hf : finF a = true := by unfold finF; exact decide_eq_true h
    have := wide_nan (a := a)
    rw [hf] at this
    cases hb : nanB .f64 (wide a) with
    | false => simp; omega
    | true => rw [hb] at this; cases this
  · have hr : FloatKind.f32.format.read a = .infinity (a / FloatKind.f32.format.signWeight % 2 == 1) := read_inf .f32 h
    have hd : decide (2139095040 < a % 2147483648) = false := decide_eq_false (by omega)
    rw [hd, wide_eq]
    unfold wideImpl floatToFloatBits FloatKind.decode
    rw [if_neg (by decide), hr]
    simp only [Option.getD_some]
    rw [nanB_eq]
    cases (a / FloatKind.f32.format.signWeight % 2 == 1) <;> decide +kernel
  · have hn : isNaNW .f32 a = true := by rw [nan_iff]; exact decide_eq_true h
    rw [decide_eq_true h, wide_eq]
    unfold wideImpl floatToFloatBits FloatKind.decode
    rw [if_neg (by decide)]
    unfold isNaNW at hn
    cases hr : FloatKind.f32.format.read a with
    | nan s p => simp only [Option.getD_none]; rw [nanB_eq]; decide +kernel
    | infinity s => rw [hr] at hn; cases hn
    | number s m e => rw [hr] at hn; cases hn
/-- What the program makes of the next number. -/
noncomputable def nuI (a : Nat) : Nat := cond (cond (!feqB .f64 (wide a) (wide a)) true (!feqB .f64 (wide (nrw 9218868437227405312)) (wide (nrw 9218868437227405312)))) (nrw 9221120237041090561) (cond (feqB .f32 a (nrw 9218868437227405312)) a (cond (feqB .f32 a 0) (nrw (csW (wide 1) (wide (nrw 9218868437227405312)))) (cond (decide (fltB .f32 a (nrw 9218868437227405312) = fltB .f32 0 a)) (IntKind.u32.wrap (Int.ofNat a + 1)).toNat (IntKind.u32.wrap (Int.ofNat a - 1)).toNat)))
noncomputable def nuN (a : Nat) : Bool := cond (andN (andN true (cond (andN true (nrwOk 9218868437227405312)) true false)) (cond (ndc (cond (!feqB .f64 (wide a) (wide a)) true (!feqB .f64 (wide (nrw 9218868437227405312)) (wide (nrw 9218868437227405312)))) (andN true (nrwOk 9221120237041090561)) (ndc (feqB .f32 a (nrw 9218868437227405312)) true (ndc (feqB .f32 a 0) (andN (andN true (!nanB .f64 (wide 1) && !nanB .f64 (wide (nrw 9218868437227405312)))) (nrwOk (csW (wide 1) (wide (nrw 9218868437227405312))))) (ndc (decide (fltB .f32 a (nrw 9218868437227405312) = fltB .f32 0 a)) (andN true ((!nanB .f32 a && true) && Nat.ble ((IntKind.u32.wrap (Int.ofNat a + 1)).toNat + 1) 4294967296)) (andN true ((!nanB .f32 a && true) && Nat.ble ((IntKind.u32.wrap (Int.ofNat a - 1)).toNat + 1) 4294967296)))))) true false)) true false
noncomputable def upN (a : Nat) : Bool := ndc (cond (!feqB .f32 a a) true (fltB .f32 2139095039 a)) true (ndc (feqB .f32 a 0) true (ndc (fltB .f32 0 a) (cond (andN true ((!nanB .f32 a && true) && Nat.ble ((IntKind.u32.wrap (Int.ofNat a + 1)).toNat + 1) 4294967296)) true false) (cond (andN true ((!nanB .f32 a && true) && Nat.ble ((IntKind.u32.wrap (Int.ofNat a - 1)).toNat + 1) 4294967296)) true false)))

theorem ble_u32 (n : Int) : Nat.ble ((IntKind.u32.wrap n).toNat + 1) 4294967296 = true := ble_lt (u32_lt n)
theorem upN_true (a : Nat) : upN a = true := by
  unfold upN
  rw [ble_u32, ble_u32, feq_self]
  cases h : nanB .f32 a with
  | true => rw [ndc_eq]; rfl
  | false => cases fltB .f32 2139095039 a <;> cases feqB .f32 a 0 <;> cases fltB .f32 0 a <;> rfl
theorem nuN_true (a : Nat) : nuN a = true := by
  unfold nuN
  rw [ble_u32, ble_u32, feq_self, feq_self, nan_wide, nan_wide, nrw_inf, nan_wide, wide_inf, wide_one, cs_one, nrwOk_one, nrwOk_inf, nrwOk_nan]
  have e1 : nanB .f32 1 = false := by rw [nan32]; decide
  have e2 : nanB .f32 2139095040 = false := by rw [nan32]; decide
  rw [e2]
  try rw [e1]
  cases h : nanB .f32 a with
  | true => rw [ndc_eq]; rfl
  | false => cases feqB .f32 a 2139095040 <;> cases feqB .f32 a 0 <;> cases (decide (fltB .f32 a 2139095040 = fltB .f32 0 a)) <;> rfl
theorem max_inf {a : Nat} (hw : wfW .f32 a) (hn : nanB .f32 a = false) : fltB .f32 2139095039 a = decide (a = 2139095040) ∧ feqB .f32 a 2139095040 = decide (a = 2139095040) ∧ fltB .f32 a 2139095040 = !decide (a = 2139095040) := by
  have hw : a < 4294967296 := hw
  have e1 : nanB .f32 2139095039 = false := by rw [nan32]; decide
  have e2 : nanB .f32 2139095040 = false := by rw [nan32]; decide
  rw [flt_key .f32 e1 hn, feq_key .f32 hn e2, flt_key .f32 hn e2]
  have k1 : key FloatKind.f32.format 2139095039 = 2139095039 := key32 (x := 2139095039) (by decide)
  have k2 : key FloatKind.f32.format 2139095040 = 2139095040 := key32 (x := 2139095040) (by decide)
  have k3 : key FloatKind.f32.format a = if a < 2147483648 then (a : Int) else 2147483648 - (a : Int) := key32 hw
  rw [k1, k2, k3]
  rw [nan32] at hn
  have hn := of_decide_eq_false hn
  by_cases h : a < 2147483648
  · rw [if_pos h]
    have hm : a % 2147483648 = a := Nat.mod_eq_of_lt h
    rw [hm] at hn
    by_cases he : a = 2139095040
    · subst he; decide
    · rw [decide_eq_false he]
      exact ⟨decide_eq_false (by omega), decide_eq_false (by omega), by rw [decide_eq_true (by omega)]; rfl⟩
  · rw [if_neg h]
    have he : ¬ a = 2139095040 := by omega
    rw [decide_eq_false he]
    exact ⟨decide_eq_false (by omega), decide_eq_false (by omega), by rw [decide_eq_true (by omega)]; rfl⟩
theorem nu_up {a : Nat} (hw : wfW .f32 a) {ρ : Rho} {u : Value} (h : V ρ (.flt .f32 (nuI a)) u) : V ρ (.flt .f32 (upW a)) u := by
  rw [upW_eq]
  unfold nuI at h
  unfold upI
  rw [feq_self, feq_self, nan_wide, nan_wide, nrw_inf, wide_inf, wide_one, cs_one, nrw_one, nrw_nan] at h
  rw [feq_self]
  have e2 : nanB .f32 2139095040 = false := by rw [nan32]; decide
  rw [e2] at h
  cases hn : nanB .f32 a with
  | true =>
    rw [hn] at h
    have h : V ρ (.flt .f32 2143289344) u := h
    show V ρ (.flt .f32 a) u
    unfold V at h ⊢
    obtain ⟨b, rfl, h1, h2, h3⟩ := h
    refine ⟨b, rfl, Or.inr ⟨by rw [← nanB_eq]; exact hn, ?_⟩, ?_, ?_⟩
    · rcases h1 with rfl | ⟨_, h1⟩
      · decide +kernel
      · exact h1
    · first | exact hw | exact h2
    · first | exact h3 | exact hw
  | false =>
    rw [hn] at h
    obtain ⟨g1, g2, g3⟩ := max_inf hw hn
    rw [g2, g3] at h
    rw [g1]
    by_cases he : a = 2139095040
    · rw [decide_eq_true he] at h ⊢; exact h
    · rw [decide_eq_false he] at h ⊢
      have h : V ρ (.flt .f32 (cond (feqB .f32 a 0) 1 (cond (decide (true = fltB .f32 0 a)) (IntKind.u32.wrap (Int.ofNat a + 1)).toNat (IntKind.u32.wrap (Int.ofNat a - 1)).toNat))) u := h
      show V ρ (.flt .f32 (cond (feqB .f32 a 0) 1 (cond (fltB .f32 0 a) (IntKind.u32.wrap (Int.ofNat a + 1)).toNat (IntKind.u32.wrap (Int.ofNat a - 1)).toNat))) u
      cases hb : fltB .f32 0 a with
      | true => rw [hb] at h; exact h
      | false => rw [hb] at h; exact h
end Go.Ab
