import Derived.Test.YtgamhlhnegblfaaGe
namespace Go.Ab
open Go Go.RowKit
/-- A span and a code, as a law asks them. -/
noncomputable def spQ (R R' : Option AVal) : Bool := cond (!sO (wide (wAt R 0)) (wide (wAt R' 0))) false (cond (!sO (wide (wAt R 1)) (wide (wAt R' 1))) false true)
noncomputable def askSp (R R' : Option AVal) : Bool := cond (cond (!spQ R R') true (iT R 1 != iT R' 1)) false true
theorem askSp_self (R : Option AVal) : askSp R R = true := by unfold askSp spQ; rw [sO_self, sO_self]; simp
theorem askSp_of {R R' : Option AVal} (h : R = R') : askSp R R' = true := by subst h; exact askSp_self R
end Go.Ab

namespace Go.Ab
open Go Go.RowKit
set_option linter.unusedVariables false
section
variable {P : Program}
/-- A contract over numbers, what is asked included. -/
theorem sat_flatM {Γ : List (Nat × Ctr)} (hΓ : Good P Γ) (hm : P.follows .mixedOrders = true) {f : FuncId} {fn : Func} {c : Ctr} (hf : P.funcs[f]? = some fn)
    (hcall : ∀ (args : Array Value) (w : World), (callFunc f args).run P w = .ok (.enter f args) w)
    (h : ∀ args S out, c.fn args S = some out → out.nd = true → (∃ ρ vs, VL ρ args vs) → AVal.flat.flatL args = true ∧ ∃ fuel v0 nd, evBody P Γ fuel fn args St0 = some ⟨v0, [], [], [], nd, none⟩ ∧ nd = true ∧ v0.flat = true ∧ out = ⟨out.v, [], [], [], true, none⟩ ∧ ∀ ρ u, V ρ v0 u → V ρ out.v u) (hx : c.x = none) : Sat P f c := by
  unfold Sat
  rw [hx]
  refine ⟨hcall, fun args S out hfn hnd M w0 ρ w vs hM hv => ?_⟩
  obtain ⟨hfl, fuel, v0, nd, he, hn, hf0, hout, hsay⟩ := h args S out hfn hnd ⟨ρ, vs, hv⟩
  have hs : SatC P f (inl P Γ fuel fn) := inl_sat hΓ hm hf hcall fuel
  refine (hs.sat args St0 _ he hn NoM w noRho w vs (mem_nil w) (VL_flat' _ _ hfl hv)).mono ?_
  intro e w' hr
  cases e with
  | outgrown => exact hr.elim
  | panicked ch =>
    obtain ⟨v, u, hp, _⟩ := hr
    cases hp
  | returned u =>
    obtain ⟨_, ρ', _, hu, hm'⟩ := hr
    rw [hout]
    exact ⟨fun b v h => (by cases h), ρ, ExtS.refl _ _, hsay _ _ (V_flat _ _ hf0 hu), (hM.quiet hm'.fr).put_nil⟩

theorem sat1N {Γ : List (Nat × Ctr)} (hΓ : Good P Γ) (hm : P.follows .mixedOrders = true) {f : FuncId} {fn : Func} (hf : P.funcs[f]? = some fn)
    (hcall : ∀ (args : Array Value) (w : World), (callFunc f args).run P w = .ok (.enter f args) w) {g : Nat → AVal} (fuel : Nat) (g0 : Nat → AVal) (nd : Nat → Bool)
    (he : ∀ a, evBody P Γ fuel fn [.flt .f32 a] St0 = some ⟨g0 a, [], [], [], nd a, none⟩) (hn : ∀ a, wfW .f32 a → nd a = true) (h : ∀ a, wfW .f32 a → ∀ ρ u, V ρ (g0 a) u → V ρ (g a) u) (hfl : ∀ a, (g0 a).flat = true := by intros; rfl) : Sat P f (ctr1 g) :=
  sat_flatM hΓ hm hf hcall (fun args S out hfn hn' hv => by
    obtain ⟨ρ, vs, hv⟩ := hv
    simp only [ctr1] at hfn
    split at hfn
    · rename_i a
      cases hfn
      unfold VL at hv
      obtain ⟨_, _, _, h1, hv⟩ := hv
      exact ⟨rfl, fuel, g0 a, nd a, he a, hn a (V_wf h1), hfl a, rfl, h a (V_wf h1)⟩
    · cases hfn) rfl
end

/-- The next number: its word. -/
noncomputable def upI (a : Nat) : Nat := cond (cond (!feqB .f32 a a) true (fltB .f32 2139095039 a)) a (cond (feqB .f32 a 0) 1 (cond (fltB .f32 0 a) (IntKind.u32.wrap (Int.ofNat a + 1)).toNat (IntKind.u32.wrap (Int.ofNat a - 1)).toNat))
theorem upW_ex : ∃ f, f = upI := ⟨_, rfl⟩
noncomputable def upW : Nat → Nat := Classical.choose upW_ex
theorem upW_eq : upW = upI := Classical.choose_spec upW_ex

/-- A number with the sign of another one. -/
noncomputable def csI (f s : Nat) : Nat := (IntKind.u64.wrap (BitVec.ofInt 64 (IntKind.u64.wrap (BitVec.ofInt 64 (Int.ofNat f) &&& ~~~ BitVec.ofInt 64 9223372036854775808).toNat) ||| BitVec.ofInt 64 (IntKind.u64.wrap (BitVec.ofInt 64 (Int.ofNat s) &&& BitVec.ofInt 64 9223372036854775808).toNat)).toNat).toNat
theorem csW_ex : ∃ f, f = csI := ⟨_, rfl⟩
noncomputable def csW : Nat → Nat → Nat := Classical.choose csW_ex
theorem csW_eq : csW = csI := Classical.choose_spec csW_ex
noncomputable def csC : Ctr := ⟨fun args _ => match args with | [.flt .f64 f, .flt .f64 s] => some ⟨.flt .f64 (csW f s), [], [], [], !nanB .f64 f && !nanB .f64 s, none⟩ | _ => none, none⟩

theorem u64_lt (n : Int) : (IntKind.u64.wrap n).toNat < 18446744073709551616 := by
  unfold IntKind.wrap
  simp [IntKind.bits, IntKind.signed]
  omega
theorem u32_lt (n : Int) : (IntKind.u32.wrap n).toNat < 4294967296 := by
  unfold IntKind.wrap
  simp [IntKind.bits, IntKind.signed]
  omega
theorem ble_lt {x y : Nat} (h : x < y) : Nat.ble (x + 1) y = true := Nat.ble_eq_true_of_le h
theorem cs_nd {f s : Nat} (h : (!nanB .f64 f && !nanB .f64 s) = true) : cond (andN true (((!nanB .f64 f && true) && (!nanB .f64 s && true)) && Nat.ble (csI f s + 1) 18446744073709551616)) true false = true := by
  simp only [Bool.and_eq_true, Bool.not_eq_true'] at h
  have hb : Nat.ble (csI f s + 1) 18446744073709551616 = true := ble_lt (by unfold csI; exact u64_lt _)
  rw [h.1, h.2, hb]; rfl
section
variable {P : Program}
theorem sat_cs {Γ : List (Nat × Ctr)} (hΓ : Good P Γ) (hm : P.follows .mixedOrders = true) {f : FuncId} {fn : Func} (hf : P.funcs[f]? = some fn)
    (hcall : ∀ (args : Array Value) (w : World), (callFunc f args).run P w = .ok (.enter f args) w) (fuel : Nat) (nd : Nat → Nat → Bool)
    (he : ∀ a b, evBody P Γ fuel fn [.flt .f64 a, .flt .f64 b] St0 = some ⟨.flt .f64 (csI a b), [], [], [], nd a b, none⟩) (hn : ∀ a b, (!nanB .f64 a && !nanB .f64 b) = true → nd a b = true) : Sat P f csC :=
  sat_flatM hΓ hm hf hcall (fun args S out hfn hn' hv => by
    simp only [csC] at hfn
    split at hfn
    · rename_i a b
      cases hfn
      refine ⟨rfl, fuel, .flt .f64 (csI a b), nd a b, he a b, hn a b hn', rfl, ?_, fun ρ u h => ?_⟩
      · have hn' : (!nanB .f64 a && !nanB .f64 b) = true := hn'
        rw [hn']
      · show V ρ (.flt .f64 (csW a b)) u
        rw [csW_eq]; exact h
    · cases hfn) rfl
end
end Go.Ab

namespace Go.Ab
open Go
set_option linter.unusedVariables false
theorem nrw_inf : nrw 9218868437227405312 = 2139095040 := by rw [nrw_eq]; decide +kernel
theorem nrw_ninf : nrw 18442240474082181120 = 4286578688 := by rw [nrw_eq]; decide +kernel
theorem nrwOk_inf : nrwOk 9218868437227405312 = true := by rw [nrwOk_eq]; decide +kernel
theorem nrwOk_ninf : nrwOk 18442240474082181120 = true := by rw [nrwOk_eq]; decide +kernel
theorem nrwOk_nan : nrwOk 9221120237041090561 = true := by rw [nrwOk_eq]; decide +kernel
theorem nrw_nan : nrw 9221120237041090561 = 2143289344 := by rw [nrw_eq]; decide +kernel
theorem wide_inf : wide 2139095040 = 9218868437227405312 := by rw [wide_eq]; decide +kernel
theorem wide_one : wide 1 = 3936146074321813504 := by rw [wide_eq]; decide +kernel
theorem cs_one : csW 3936146074321813504 9218868437227405312 = 3936146074321813504 := by rw [csW_eq]; unfold csI; decide +kernel
theorem nrw_one : nrw 3936146074321813504 = 1 := by rw [nrw_eq]; decide +kernel
theorem nrwOk_one : nrwOk 3936146074321813504 = true := by rw [nrwOk_eq]; decide +kernel
theorem nan_wide (a : Nat) : nanB .f64 (wide a) = nanB .f32 a := by
  rw [nan32]
  rcases Nat.lt_trichotomy (a % 2147483648) 2139095040 with h | h | h
  · have hf : finF a = true := by unfold finF; exact decide_eq_true h
    have := wide_nan (a := a)
    rw [hf] at this
    cases hb : nanB .f64 (wide a) with
    | false => simp; omega
    | true => rw [hb] at this; cases this
  · have hr : FloatKind.f32.format.read a = .infinity (a / FloatKind.f32.format.signWeight % 2 == 1) := read_inf .f32 h
    have hd : decide (2139095040 < a % 2147483648) = false := decide_eq_false (by omega)
    rw [hd, wide_eq]
    unfold wideImpl floatToFloatBits FloatKind.decode
    rw [if_neg (by decide), hr]
    simp only [Option.getD_some]
    rw [nanB_eq]
    cases (a / FloatKind.f32.format.signWeight % 2 == 1) <;> decide +kernel
  · have hn : isNaNW .f32 a = true := by rw [nan_iff]; exact decide_eq_true h
    rw [decide_eq_true h, wide_eq]
    unfold wideImpl floatToFloatBits FloatKind.decode
    rw [if_neg (by decide)]
    unfold isNaNW at hn
    cases hr : FloatKind.f32.format.read a with
    | nan s p => simp only [Option.getD_none]; rw [nanB_eq]; decide +kernel
    | infinity s => rw [hr] at hn; cases hn
    | number s m e => rw [hr] at hn; cases hn
/-- What the program makes of the next number. -/
noncomputable def nuI (a : Nat) : Nat := cond (cond (!feqB .f64 (wide a) (wide a)) true (!feqB .f64 (wide (nrw 9218868437227405312)) (wide (nrw 9218868437227405312)))) (nrw 9221120237041090561) (cond (feqB .f32 a (nrw 9218868437227405312)) a (cond (feqB .f32 a 0) (nrw (csW (wide 1) (wide (nrw 9218868437227405312)))) (cond (decide (fltB .f32 a (nrw 9218868437227405312) = fltB .f32 0 a)) (IntKind.u32.wrap (Int.ofNat a + 1)).toNat (IntKind.u32.wrap (Int.ofNat a - 1)).toNat)))
noncomputable def nuN (a : Nat) : Bool := cond (andN (andN true (cond (andN true (nrwOk 9218868437227405312)) true false)) (cond (ndc (cond (!feqB .f64 (wide a) (wide a)) true (!feqB .f64 (wide (nrw 9218868437227405312)) (wide (nrw 9218868437227405312)))) (andN true (nrwOk 9221120237041090561)) (ndc (feqB .f32 a (nrw 9218868437227405312)) true (ndc (feqB .f32 a 0) (andN (andN true (!nanB .f64 (wide 1) && !nanB .f64 (wide (nrw 9218868437227405312)))) (nrwOk (csW (wide 1) (wide (nrw 9218868437227405312))))) (ndc (decide (fltB .f32 a (nrw 9218868437227405312) = fltB .f32 0 a)) (andN true ((!nanB .f32 a && true) && Nat.ble ((IntKind.u32.wrap (Int.ofNat a + 1)).toNat + 1) 4294967296)) (andN true ((!nanB .f32 a && true) && Nat.ble ((IntKind.u32.wrap (Int.ofNat a - 1)).toNat + 1) 4294967296)))))) true false)) true false
noncomputable def upN (a : Nat) : Bool := ndc (cond (!feqB .f32 a a) true (fltB .f32 2139095039 a)) true (ndc (feqB .f32 a 0) true (ndc (fltB .f32 0 a) (cond (andN true ((!nanB .f32 a && true) && Nat.ble ((IntKind.u32.wrap (Int.ofNat a + 1)).toNat + 1) 4294967296)) true false) (cond (andN true ((!nanB .f32 a && true) && Nat.ble ((IntKind.u32.wrap (Int.ofNat a - 1)).toNat + 1) 4294967296)) true false)))

theorem ble_u32 (n : Int) : Nat.ble ((IntKind.u32.wrap n).toNat + 1) 4294967296 = true := ble_lt (u32_lt n)
theorem upN_true (a : Nat) : upN a = true := by
  unfold upN
  rw [ble_u32, ble_u32, feq_self]
  cases h : nanB .f32 a with
  | true => rw [ndc_eq]; rfl
  | false => cases fltB .f32 2139095039 a <;> cases feqB .f32 a 0 <;> cases fltB .f32 0 a <;> rfl
theorem nuN_true (a : Nat) : nuN a = true := by
  unfold nuN
  rw [ble_u32, ble_u32, feq_self, feq_self, nan_wide, nan_wide, nrw_inf, nan_wide, wide_inf, wide_one, cs_one, nrwOk_one, nrwOk_inf, nrwOk_nan]
  have e1 : nanB .f32 1 = false := by rw [nan32]; decide
  have e2 : nanB .f32 2139095040 = false := by rw [nan32]; decide
  rw [e2]
  try rw [e1]
  cases h : nanB .f32 a with
  | true => rw [ndc_eq]; rfl
  | false => cases feqB .f32 a 2139095040 <;> cases feqB .f32 a 0 <;> cases (decide (fltB .f32 a 2139095040 = fltB .f32 0 a)) <;> rfl
theorem max_inf {a : Nat} (hw : wfW .f32 a) (hn : nanB .f32 a = false) : fltB .f32 2139095039 a = decide (a = 2139095040) ∧ feqB .f32 a 2139095040 = decide (a = 2139095040) ∧ fltB .f32 a 2139095040 = !decide (a = 2139095040) := by
  have hw : a < 4294967296 := hw
  have e1 : nanB .f32 2139095039 = false := by rw [nan32]; decide
  have e2 : nanB .f32 2139095040 = false := by rw [nan32]; decide
  rw [flt_key .f32 e1 hn, feq_key .f32 hn e2, flt_key .f32 hn e2]
  have k1 : key FloatKind.f32.format 2139095039 = 2139095039 := key32 (x := 2139095039) (by decide)
  have k2 : key FloatKind.f32.format 2139095040 = 2139095040 := key32 (x := 2139095040) (by decide)
  have k3 : key FloatKind.f32.format a = if a < 2147483648 then (a : Int) else 2147483648 - (a : Int) := key32 hw
  rw [k1, k2, k3]
  rw [nan32] at hn
  have hn := of_decide_eq_false hn
  by_cases h : a < 2147483648
  · rw [if_pos h]
    have hm : a % 2147483648 = a := Nat.mod_eq_of_lt h
    rw [hm] at hn
    by_cases he : a = 2139095040
    · subst he; decide
    · rw [decide_eq_false he]
      exact ⟨decide_eq_false (by omega), decide_eq_false (by omega), by rw [decide_eq_true (by omega)]; rfl⟩
  · rw [if_neg h]
    have he : ¬ a = 2139095040 := by omega
    rw [decide_eq_false he]
    exact ⟨decide_eq_false (by omega), decide_eq_false (by omega), by rw [decide_eq_true (by omega)]; rfl⟩
theorem nu_up {a : Nat} (hw : wfW .f32 a) {ρ : Rho} {u : Value} (h : V ρ (.flt .f32 (nuI a)) u) : V ρ (.flt .f32 (upW a)) u := by
  rw [upW_eq]
  unfold nuI at h
  unfold upI
  rw [feq_self, feq_self, nan_wide, nan_wide, nrw_inf, wide_inf, wide_one, cs_one, nrw_one, nrw_nan] at h
  rw [feq_self]
  have e2 : nanB .f32 2139095040 = false := by rw [nan32]; decide
  rw [e2] at h
  cases hn : nanB .f32 a with
  | true =>
    rw [hn] at h
    have h : V ρ (.flt .f32 2143289344) u := h
    show V ρ (.flt .f32 a) u
    unfold V at h ⊢
    obtain ⟨b, rfl, h1, h2, h3⟩ := h
    refine ⟨b, rfl, Or.inr ⟨by rw [← nanB_eq]; exact hn, ?_⟩, ?_, ?_⟩
    · rcases h1 with rfl | ⟨_, h1⟩
      · decide +kernel
      · exact h1
    · first | exact hw | exact h2
    · first | exact h3 | exact hw
  | false =>
    rw [hn] at h
    obtain ⟨g1, g2, g3⟩ := max_inf hw hn
    rw [g2, g3] at h
    rw [g1]
    by_cases he : a = 2139095040
    · rw [decide_eq_true he] at h ⊢; exact h
    · rw [decide_eq_false he] at h ⊢
      have h : V ρ (.flt .f32 (cond (feqB .f32 a 0) 1 (cond (decide (true = fltB .f32 0 a)) (IntKind.u32.wrap (Int.ofNat a + 1)).toNat (IntKind.u32.wrap (Int.ofNat a - 1)).toNat))) u := h
      show V ρ (.flt .f32 (cond (feqB .f32 a 0) 1 (cond (fltB .f32 0 a) (IntKind.u32.wrap (Int.ofNat a + 1)).toNat (IntKind.u32.wrap (Int.ofNat a - 1)).toNat))) u
      cases hb : fltB .f32 0 a with
      | true => rw [hb] at h; exact h
      | false => rw [hb] at h; exact h
end Go.Ab

namespace Go.Ab
open Go
set_option linter.unusedVariables false
/-! ### Numbers of few digits are exact -/
theorem read_word32 (s : Bool) {R : Nat} (h : R < 2147483648) : Ieee.single.word s R % 2147483648 = R ∧ (Ieee.single.word s R / 2147483648 % 2 == 1) = s := by
  have hs : Ieee.single.signWeight = 2147483648 := rfl
  unfold Ieee.Format.word; rw [hs]; cases s <;> simp <;> omega
theorem read_word64 (s : Bool) {R : Nat} (h : R < 9223372036854775808) : Ieee.double.word s R % 9223372036854775808 = R ∧ (Ieee.double.word s R / 9223372036854775808 % 2 == 1) = s := by
  have hs : Ieee.double.signWeight = 9223372036854775808 := rfl
  unfold Ieee.Format.word; rw [hs]; cases s <;> simp <;> omega

theorem norm32 (s : Bool) {n P : Nat} (h1 : 8388608 ≤ n) (h2 : n < 16777216) (hP : P ≤ 253) : FloatKind.f32.format.read (Ieee.single.nearest s n (-149 + (P : Int))) = .number s n (-149 + (P : Int)) := by
  have hs : Ieee.single.signWeight = 2147483648 := rfl
  have hl : Ieee.single.leastPlace = -149 := rfl
  have hb : Ieee.single.binade = 8388608 := rfl
  have hf : Ieee.single.fractionBits = 23 := rfl
  have hlog : n.log2 = 23 := (Nat.log2_eq_iff (by omega)).2 ⟨by omega, by omega⟩
  have e0 : Ieee.single.nearest s n (-149 + (P : Int)) = Ieee.single.word s (P * 8388608 + n) := by
    unfold Ieee.Format.nearest
    rw [if_neg (by omega)]
    simp only [hl, hb, hf, isub, hlog]
    have e : max (-149 + (P : Int) + ((23 : Nat) : Int) - ((23 : Nat) : Int)) (-149) = -149 + (P : Int) := by omega
    rw [e]
    have a : (-149 + (P : Int) - (-149 + (P : Int))).toNat = 0 := by omega
    rw [a, cut_zero, Nat.shiftLeft_zero]
    have c : (-149 + (P : Int) - -149).toNat = P := by omega
    rw [c]
    congr 1
    exact Nat.min_eq_left (by omega)
  rw [e0]
  obtain ⟨r1, r2⟩ := read_word32 s (R := P * 8388608 + n) (by omega)
  show Ieee.single.read _ = _
  simp only [Ieee.Format.read, hs, hb, hl, isub, r1, r2]
  have d1 : (P * 8388608 + n) / 8388608 = P + 1 := by omega
  have d2 : (P * 8388608 + n) % 8388608 = n - 8388608 := by omega
  have d3 : 8388608 + (n - 8388608) = n := by omega
  rw [if_neg (by omega), if_pos (by omega), d1, d2, d3, Nat.add_sub_cancel]

theorem norm64 (s : Bool) {n P : Nat} (h1 : 4503599627370496 ≤ n) (h2 : n < 9007199254740992) (hP : P ≤ 2045) : FloatKind.f64.format.read (Ieee.double.nearest s n (-1074 + (P : Int))) = .number s n (-1074 + (P : Int)) := by
  have hs : Ieee.double.signWeight = 9223372036854775808 := rfl
  have hl : Ieee.double.leastPlace = -1074 := rfl
  have hb : Ieee.double.binade = 4503599627370496 := rfl
  have hf : Ieee.double.fractionBits = 52 := rfl
  have hi : Ieee.double.infRung = 9218868437227405312 := rfl
  have hlog : n.log2 = 52 := (Nat.log2_eq_iff (by omega)).2 ⟨by omega, by omega⟩
  have e0 : Ieee.double.nearest s n (-1074 + (P : Int)) = Ieee.double.word s (P * 4503599627370496 + n) := by
    unfold Ieee.Format.nearest
    rw [if_neg (by omega)]
    simp only [hl, hb, hf, hi, hlog]
    have e : max (-1074 + (P : Int) + ((52 : Nat) : Int) - ((52 : Nat) : Int)) (-1074) = -1074 + (P : Int) := by omega
    rw [e]
    have a : (-1074 + (P : Int) - (-1074 + (P : Int))).toNat = 0 := by omega
    rw [a, cut_zero, Nat.shiftLeft_zero]
    have c : (-1074 + (P : Int) - -1074).toNat = P := by omega
    rw [c]
    congr 1
    exact Nat.min_eq_left (by omega)
  rw [e0]
  obtain ⟨r1, r2⟩ := read_word64 s (R := P * 4503599627370496 + n) (by omega)
  show Ieee.double.read _ = _
  simp only [Ieee.Format.read, hs, hb, hl, hi, r1, r2]
  have d1 : (P * 4503599627370496 + n) / 4503599627370496 = P + 1 := by omega
  have d2 : (P * 4503599627370496 + n) % 4503599627370496 = n - 4503599627370496 := by omega
  have d3 : 4503599627370496 + (n - 4503599627370496) = n := by omega
  rw [if_neg (by omega), if_pos (by omega), d1, d2, d3, Nat.add_sub_cancel]

theorem exact32 (s : Bool) {m : Nat} {e : Int} (hm : m ≠ 0) (hl : m.log2 ≤ 23) (h0 : -126 ≤ e + (m.log2 : Int)) (h1 : e + (m.log2 : Int) ≤ 127) :
    FloatKind.f32.format.read (Ieee.single.nearest s m e) = .number s (m * 2 ^ (23 - m.log2)) (e - ((23 - m.log2 : Nat) : Int)) := by
  rw [← near_scale Ieee.single s m (23 - m.log2) e]
  have hlog : (m * 2 ^ (23 - m.log2)).log2 = 23 := by rw [log2_scale _ hm]; omega
  have hne : m * 2 ^ (23 - m.log2) ≠ 0 := Nat.mul_ne_zero hm (by have := Nat.two_pow_pos (23 - m.log2); omega)
  obtain ⟨g1, g2⟩ := (Nat.log2_eq_iff hne).1 hlog
  have e1 : e - ((23 - m.log2 : Nat) : Int) = -149 + (((e - ((23 - m.log2 : Nat) : Int) + 149).toNat : Nat) : Int) := by omega
  rw [e1]
  exact norm32 s g1 g2 (by omega)

theorem exact64 (s : Bool) {m : Nat} {e : Int} (hm : m ≠ 0) (hl : m.log2 ≤ 52) (h0 : -1022 ≤ e + (m.log2 : Int)) (h1 : e + (m.log2 : Int) ≤ 1023) :
    FloatKind.f64.format.read (Ieee.double.nearest s m e) = .number s (m * 2 ^ (52 - m.log2)) (e - ((52 - m.log2 : Nat) : Int)) := by
  rw [← near_scale Ieee.double s m (52 - m.log2) e]
  have hlog : (m * 2 ^ (52 - m.log2)).log2 = 52 := by rw [log2_scale _ hm]; omega
  have hne : m * 2 ^ (52 - m.log2) ≠ 0 := Nat.mul_ne_zero hm (by have := Nat.two_pow_pos (52 - m.log2); omega)
  obtain ⟨g1, g2⟩ := (Nat.log2_eq_iff hne).1 hlog
  have e1 : e - ((52 - m.log2 : Nat) : Int) = -1074 + (((e - ((52 - m.log2 : Nat) : Int) + 1074).toNat : Nat) : Int) := by omega
  rw [e1]
  exact norm64 s g1 g2 (by omega)

/-! ### What is made whole -/
theorem cut_int (s : Bool) {m : Nat} (k : Nat) (e : Int) (hm : m ≠ 0) : Ieee.Toward.even.cut s ((m * 2 ^ k) <<< (e - (k : Int)).toNat) (-(e - (k : Int))).toNat = Ieee.Toward.even.cut s (m <<< e.toNat) (-e).toNat := by
  rcases Int.lt_or_le e 0 with h | h
  · have a : (e - (k : Int)).toNat = 0 := by omega
    have b : (-(e - (k : Int))).toNat = k + (-e).toNat := by omega
    have c : e.toNat = 0 := by omega
    rw [a, b, c, Nat.shiftLeft_zero, Nat.shiftLeft_zero, cut_scale s k _ hm]
  · have c : (-e).toNat = 0 := by omega
    rw [c, cut_zero, Nat.shiftLeft_eq, Nat.shiftLeft_eq]
    rcases Int.lt_or_le (e - (k : Int)) 0 with g | g
    · have a : (e - (k : Int)).toNat = 0 := by omega
      rw [a, Nat.pow_zero, Nat.mul_one, cut_exact s hm (by omega)]
      congr 2; omega
    · have b : (-(e - (k : Int))).toNat = 0 := by omega
      rw [b, cut_zero, Nat.mul_assoc, ← Nat.pow_add]
      congr 2; omega

theorem cutz_int (s : Bool) {n k j : Nat} (hn : n ≠ 0) : Ieee.Toward.zero.cut s ((n * 2 ^ k) <<< ((j : Int) - (k : Int)).toNat) (-((j : Int) - (k : Int))).toNat = n * 2 ^ j := by
  unfold Ieee.Toward.cut
  simp only [Nat.one_shiftLeft, Bool.toNat_false, Nat.add_zero]
  rcases Nat.lt_or_ge j k with h | h
  · have a : ((j : Int) - (k : Int)).toNat = 0 := by omega
    have b : (-((j : Int) - (k : Int))).toNat = k - j := by omega
    rw [a, b, Nat.shiftLeft_zero]
    have c : min (k - j) ((n * 2 ^ k).log2 + 2) = k - j := by rw [log2_scale k hn]; omega
    rw [c]
    have d : n * 2 ^ k = 2 ^ (k - j) * (n * 2 ^ j) := by
      rw [Nat.mul_left_comm, ← Nat.pow_add]
      congr 2; omega
    rw [d, Nat.mul_div_cancel_left _ (Nat.two_pow_pos _)]
  · have b : (-((j : Int) - (k : Int))).toNat = 0 := by omega
    rw [b, Nat.zero_min, Nat.pow_zero, Nat.div_one, Nat.shiftLeft_eq, Nat.mul_assoc, ← Nat.pow_add]
    congr 2; omega

theorem log_24 {m : Nat} (h : m < 16777216) : m.log2 ≤ 23 := by
  by_cases h0 : m = 0
  · rw [h0, Nat.log2_zero]; omega
  · have := (Nat.log2_lt h0).2 (show m < 2 ^ 24 from h)
    omega

/-- A float32 made whole has few digits. -/
theorem whole {a : Nat} {s : Bool} {m : Nat} {e : Int} (hr : FloatKind.f32.format.read a = .number s m e) :
    intgW .even (wide a) = Ieee.double.word s 0 ∨ ∃ n j : Nat, n ≠ 0 ∧ n.log2 ≤ 23 ∧ j + n.log2 ≤ 127 ∧ intgW .even (wide a) = Ieee.double.nearest s n (j : Int) := by
  obtain ⟨hm, he1, he2⟩ := single_number hr
  rw [wide_num hr]
  by_cases h0 : m = 0
  · left
    subst h0
    have : Ieee.double.nearest s 0 e = Ieee.double.word s 0 := by unfold Ieee.Format.nearest; rw [if_pos rfl]
    rw [this, intgW_eq]
    cases s <;> decide +kernel
  have hlm := log_24 (show m < 16777216 from hm)
  have hrd := exact64 s h0 (by omega) (e := e) (by omega) (by omega)
  have hi : intgW .even (Ieee.double.nearest s m e) = Ieee.double.nearest s (Ieee.Toward.even.cut s (m <<< e.toNat) (-e).toNat) 0 := by
    rw [intgW_eq]; unfold intgImpl FloatKind.decode
    rw [hrd]
    simp only [Ieee.Datum.integral]
    rw [cut_int s _ e h0]
    rfl
  rw [hi]
  rcases Int.lt_or_le e 0 with h | h
  · have c : e.toNat = 0 := by omega
    rw [c, Nat.shiftLeft_zero]
    have hle := cut_le s m (-e).toNat
    have hd : m / 2 ^ min (-e).toNat (m.log2 + 2) ≤ m / 2 := by
      have : 2 ^ 1 ≤ 2 ^ min (-e).toNat (m.log2 + 2) := Nat.pow_le_pow_right (by decide) (by omega)
      exact Nat.div_le_div_left this (by decide)
    generalize Ieee.Toward.even.cut s m (-e).toNat = K at hle ⊢
    by_cases hK : K = 0
    · left; subst hK; unfold Ieee.Format.nearest; rw [if_pos rfl]
    · right
      refine ⟨K, 0, hK, log_24 (by omega), ?_, rfl⟩
      have := log_24 (m := K) (by omega)
      omega
  · have c : (-e).toNat = 0 := by omega
    rw [c, cut_zero, Nat.shiftLeft_eq]
    right
    refine ⟨m, e.toNat, h0, hlm, by omega, ?_⟩
    have := near_scale Ieee.double s m e.toNat (e.toNat : Int)
    rw [← this]
    congr 1
    omega

/-! ### Its size, in both widths -/
theorem signed_sc (s : Bool) (n k j : Nat) (h : k ≤ j + 60) : Ieee.signed s (n * 2 ^ k) (j + 60 - k) = Ieee.signed s (n * 2 ^ j) 0 * ((2 ^ 60 : Nat) : Int) := by
  have e : n * 2 ^ k * 2 ^ (j + 60 - k) = n * 2 ^ j * 2 ^ 60 := by
    rw [Nat.mul_assoc, ← Nat.pow_add, Nat.mul_assoc, ← Nat.pow_add]
    congr 2; omega
  have e2 : Ieee.signed s (n * 2 ^ j) 0 * ((2 ^ 60 : Nat) : Int) = Ieee.signed s (n * 2 ^ j) (0 + 60) := signed_mul s _ 0 60
  rw [e2]
  unfold Ieee.signed
  simp only [Nat.shiftLeft_eq, Nat.zero_add, e]

theorem ord_right {s t : Bool} {n k j N q : Nat} {C : Int} (h : k ≤ j + 60) (hC : Ieee.signed t N q = C * ((2 ^ 60 : Nat) : Int)) :
    (Ieee.Datum.number s (n * 2 ^ k) ((j : Int) - (k : Int))).order (.number t N (-60 + (q : Int))) = some (compare (Ieee.signed s (n * 2 ^ j) 0) C) := by
  have e : (j : Int) - (k : Int) = -60 + ((j + 60 - k : Nat) : Int) := by omega
  rw [e, order_numbers, signed_sc s n k j h, hC, compare_mul _ _ _ (Nat.two_pow_pos _)]
theorem ord_left {s t : Bool} {n k j N q : Nat} {C : Int} (h : k ≤ j + 60) (hC : Ieee.signed t N q = C * ((2 ^ 60 : Nat) : Int)) :
    (Ieee.Datum.number t N (-60 + (q : Int))).order (.number s (n * 2 ^ k) ((j : Int) - (k : Int))) = some (compare C (Ieee.signed s (n * 2 ^ j) 0)) := by
  have e : (j : Int) - (k : Int) = -60 + ((j + 60 - k : Nat) : Int) := by omega
  rw [e, order_numbers, signed_sc s n k j h, hC, compare_mul _ _ _ (Nat.two_pow_pos _)]

theorem lt_dec (a b : Int) : (some (compare a b) == some Ordering.lt) = decide (a < b) := by
  rcases Int.lt_trichotomy a b with h | h | h
  · rw [cmp_lt h, decide_eq_true h]; rfl
  · subst h; rw [cmp_eq rfl, decide_eq_false (by omega)]; rfl
  · rw [cmp_gt h, decide_eq_false (by omega)]; rfl

/-- A word that is a whole number, in both widths. -/
structure Wh (r : Nat) (V : Int) : Prop where
  nok : nrwOk r = true
  hi64 : fltB .f64 4674736138332667904 r = decide (32767 < V)
  hi32 : fltB .f32 1191181824 (nrw r) = decide (32767 < V)
  lo64 : fltB .f64 r 13898108450065350656 = decide (V < -32768)
  lo32 : fltB .f32 (nrw r) 3338665984 = decide (V < -32768)
  int64 : f2i .f64 r = V
  int32 : f2i .f32 (nrw r) = V
  ok64 : f2iOk .f64 .i16 r = (decide (-32768 ≤ V) && decide (V ≤ 32767))
  ok32 : f2iOk .f32 .i16 (nrw r) = (decide (-32768 ≤ V) && decide (V ≤ 32767))

theorem wh_zero (s : Bool) : Wh (Ieee.double.word s 0) 0 := by
  constructor
  · rw [nrwOk_eq]; cases s <;> decide +kernel
  · rw [fltB_eq]; cases s <;> decide +kernel
  · rw [fltB_eq, nrw_eq]; cases s <;> decide +kernel
  · rw [fltB_eq]; cases s <;> decide +kernel
  · rw [fltB_eq, nrw_eq]; cases s <;> decide +kernel
  · rw [f2i_eq]; cases s <;> decide +kernel
  · rw [f2i_eq, nrw_eq]; cases s <;> decide +kernel
  · rw [f2iOk_eq]; cases s <;> decide +kernel
  · rw [f2iOk_eq, nrw_eq]; cases s <;> decide +kernel

theorem wh_num (s : Bool) {n j : Nat} (hn : n ≠ 0) (hl : n.log2 ≤ 23) (hj : j + n.log2 ≤ 127) : Wh (Ieee.double.nearest s n (j : Int)) (Ieee.signed s (n * 2 ^ j) 0) := by
  have r64 := exact64 s hn (by omega) (e := (j : Int)) (by omega) (by omega)
  have r32 := exact32 s hn hl (e := (j : Int)) (by omega) (by omega)
  have hnr : nrw (Ieee.double.nearest s n (j : Int)) = Ieee.single.nearest s n (j : Int) := by
    rw [nrw_eq]; unfold nrwImpl FloatKind.decode
    rw [r64]
    show Ieee.single.nearest s _ _ = _
    exact near_scale Ieee.single s n _ _
  have c1 : FloatKind.f64.format.read 4674736138332667904 = .number false 9006924376834048 (-60 + ((22 : Nat) : Int)) := by decide +kernel
  have c2 : FloatKind.f32.format.read 1191181824 = .number false 16776704 (-60 + ((51 : Nat) : Int)) := by decide +kernel
  have c3 : FloatKind.f64.format.read 13898108450065350656 = .number true 4503599627370496 (-60 + ((23 : Nat) : Int)) := by decide +kernel
  have c4 : FloatKind.f32.format.read 3338665984 = .number true 8388608 (-60 + ((52 : Nat) : Int)) := by decide +kernel
  have k64 : 52 - n.log2 ≤ j + 60 := by omega
  have k32 : 23 - n.log2 ≤ j + 60 := by omega
  have i64 : (FloatKind.f64.format.read (Ieee.double.nearest s n (j : Int))).toInt .zero = some (Ieee.signed s (n * 2 ^ j) 0) := by
    rw [r64]; unfold Ieee.Datum.toInt Ieee.Datum.integral
    simp only [cutz_int s hn]
  have i32 : (FloatKind.f32.format.read (Ieee.single.nearest s n (j : Int))).toInt .zero = some (Ieee.signed s (n * 2 ^ j) 0) := by
    rw [r32]; unfold Ieee.Datum.toInt Ieee.Datum.integral
    simp only [cutz_int s hn]
  constructor
  · rw [nrwOk_eq]; unfold nrwOkImpl FloatKind.decode
    rw [r64]
    have : FloatKind.f32.encode (.number s (n * 2 ^ (52 - n.log2)) ((j : Int) - ((52 - n.log2 : Nat) : Int))) = Ieee.single.nearest s n (j : Int) := near_scale Ieee.single s n _ _
    simp only [this, r32]
    rfl
  · rw [fltB_eq]; unfold fltImpl Ieee.Format.order
    rw [c1, r64, ord_left k64 (C := 32767) (by decide)]
    exact lt_dec _ _
  · rw [fltB_eq, hnr]; unfold fltImpl Ieee.Format.order
    rw [c2, r32, ord_left k32 (C := 32767) (by decide)]
    exact lt_dec _ _
  · rw [fltB_eq]; unfold fltImpl Ieee.Format.order
    rw [c3, r64, ord_right k64 (C := -32768) (by decide)]
    exact lt_dec _ _
  · rw [fltB_eq, hnr]; unfold fltImpl Ieee.Format.order
    rw [c4, r32, ord_right k32 (C := -32768) (by decide)]
    exact lt_dec _ _
  · rw [f2i_eq]; unfold f2iImpl FloatKind.decode; rw [i64]
  · rw [f2i_eq, hnr]; unfold f2iImpl FloatKind.decode; rw [i32]
  · rw [f2iOk_eq]; unfold f2iOkImpl FloatKind.decode; rw [i64]; rfl
  · rw [f2iOk_eq, hnr]; unfold f2iOkImpl FloatKind.decode; rw [i32]; rfl

/-! ### How a thermometer shows a heat -/
theorem mul_comm32 (x y : Nat) : fop .mul .f32 x y = fop .mul .f32 y x := by
  rw [fop_eq]; unfold fopImpl floatBits Ieee.Format.mul
  have : (FloatKind.f32.format.read x).product (FloatKind.f32.format.read y) = (FloatKind.f32.format.read y).product (FloatKind.f32.format.read x) := by
    cases FloatKind.f32.format.read x <;> cases FloatKind.f32.format.read y <;> simp [Ieee.Datum.product, Bool.xor_comm, Nat.mul_comm, Int.add_comm]
  simp only [this]

theorem nan_ten (h : Nat) : nanB .f32 (fop .mul .f32 1092616192 h) = nanB .f32 h := by
  have hr : FloatKind.f32.format.read 1092616192 = .number false 10485760 (-20) := by decide +kernel
  have hs : nanB .f32 h = (FloatKind.f32.format.read h).isNaN := by rw [nanB_eq]; rfl
  rw [hs, fop_eq]; unfold fopImpl floatBits Ieee.Format.mul
  rw [hr]
  cases hh : FloatKind.f32.format.read h with
  | nan s f => simp only [Ieee.Datum.product, Option.map_none, Option.getD_none]; rw [nanB_eq]; exact nanW_isNaN .f32
  | infinity s =>
    have hp : (Ieee.Datum.number false 10485760 (-20)).product (.infinity s) = some (.infinity s) := by cases s <;> rfl
    simp only [hp, Option.map_some, Option.getD_some]
    cases s <;> (rw [nanB_eq]; decide +kernel)
  | number s m e => simp only [Ieee.Datum.product, Option.map_some, Option.getD_some, Ieee.Format.write]; rw [show FloatKind.f32.format.nearest _ _ _ = Ieee.single.nearest _ _ _ from rfl, near_num]; rfl

/-- What is shown of a number. -/
theorem shown {a : Nat} (hn : nanB .f32 a = false) :
    nrwOk (intgW .even (wide a)) = true ∧
    cond (fltB .f64 4674736138332667904 (intgW .even (wide a))) true (cond (fltB .f64 (intgW .even (wide a)) 13898108450065350656) true (f2iOk .f64 .i16 (intgW .even (wide a)))) = true ∧
    f2iOk .f32 .i16 (hO (nrw (intgW .even (wide a))) 3338665984 1191181824) = true ∧
    f2i .f32 (hO (nrw (intgW .even (wide a))) 3338665984 1191181824) = cond (fltB .f64 4674736138332667904 (intgW .even (wide a))) 32767 (cond (fltB .f64 (intgW .even (wide a)) 13898108450065350656) (Int.negSucc 32767) (f2i .f64 (intgW .even (wide a)))) := by
  have i1 : f2i .f32 3338665984 = Int.negSucc 32767 := by rw [f2i_eq]; decide +kernel
  have i2 : f2i .f32 1191181824 = 32767 := by rw [f2i_eq]; decide +kernel
  have o1 : f2iOk .f32 .i16 3338665984 = true := by rw [f2iOk_eq]; decide +kernel
  have o2 : f2iOk .f32 .i16 1191181824 = true := by rw [f2iOk_eq]; decide +kernel
  rw [hO_eq]; unfold heldI
  have wh : ∀ {r : Nat} {V : Int}, Wh r V → nrwOk r = true ∧ cond (fltB .f64 4674736138332667904 r) true (cond (fltB .f64 r 13898108450065350656) true (f2iOk .f64 .i16 r)) = true ∧
      f2iOk .f32 .i16 (cond (fltB .f32 (nrw r) 3338665984) 3338665984 (cond (fltB .f32 1191181824 (nrw r)) 1191181824 (nrw r))) = true ∧
      f2i .f32 (cond (fltB .f32 (nrw r) 3338665984) 3338665984 (cond (fltB .f32 1191181824 (nrw r)) 1191181824 (nrw r))) = cond (fltB .f64 4674736138332667904 r) 32767 (cond (fltB .f64 r 13898108450065350656) (Int.negSucc 32767) (f2i .f64 r)) := by
    intro r V w
    refine ⟨w.nok, ?_⟩
    rw [w.hi64, w.hi32, w.lo64, w.lo32, w.int64, w.ok64]
    by_cases h1 : V < -32768
    · rw [decide_eq_true h1, decide_eq_false (show ¬ (32767 : Int) < V by omega)]
      exact ⟨rfl, o1, i1⟩
    · rw [decide_eq_false h1]
      by_cases h2 : 32767 < V
      · rw [decide_eq_true h2]
        exact ⟨rfl, o2, i2⟩
      · rw [decide_eq_false h2, decide_eq_true (show -32768 ≤ V by omega), decide_eq_true (show V ≤ 32767 by omega)]
        refine ⟨rfl, ?_, w.int32⟩
        show f2iOk .f32 .i16 (nrw r) = true
        rw [w.ok32, decide_eq_true (show -32768 ≤ V by omega), decide_eq_true (show V ≤ 32767 by omega)]; rfl
  cases hr : FloatKind.f32.format.read a with
  | nan s f => rw [nanB_eq] at hn; simp [isNaNW, hr, Ieee.Datum.isNaN] at hn
  | number s m e =>
    rcases whole hr with h | ⟨n, j, h1, h2, h3, h⟩
    · rw [h]; exact wh (wh_zero s)
    · rw [h]; exact wh (wh_num s h1 h2 h3)
  | infinity s =>
    have e1 : wide a = FloatKind.f64.encode (.infinity s) := by
      rw [wide_eq]; unfold wideImpl floatToFloatBits FloatKind.decode
      rw [if_neg (by decide), hr]; rfl
    have e2 : intgW .even (wide a) = FloatKind.f64.encode (.infinity s) := by
      rw [e1, intgW_eq]; cases s <;> decide +kernel
    rw [e2, nrwOk_eq, fltB_eq, nrw_eq, f2i_eq, f2iOk_eq]
    cases s <;> decide +kernel
end Go.Ab
