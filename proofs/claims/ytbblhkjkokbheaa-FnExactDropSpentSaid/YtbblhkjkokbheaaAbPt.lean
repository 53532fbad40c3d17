import Derived.Test.YtbblhkjkokbheaaGf
namespace Go.Ab
open Go Go.RowKit
set_option linter.unusedVariables false
/-! ### TakeLog: the answers by names -/
def taR (p : Prm) (l : Int) : Bool := cond (decide (l < Int.ofNat 0)) true (decide (l ≥ Int.ofNat p.n))
noncomputable def taS (p : Prm) : Bool := stvB p.fd 0 p.n p.b p.d p.u p.s p.h
noncomputable def taN (p : Prm) (l : Int) : Nat := cond (taS p) (cond (taR p l) 0 (p.n - 1)) 0
noncomputable def taV (p : Prm) (l : Int) (x : Nat) : Nat := cond (taS p) (cond (taR p l) 0 x) 0
noncomputable def taI (p : Prm) (l : Int) (x : Int) : Int := cond (taS p) (cond (taR p l) 0 x) 0
noncomputable def taCd (p : Prm) (l : Int) : Int := cond (taS p) (cond (taR p l) 2 0) 1
theorem TN_ex : ∃ f, f = taN := ⟨_, rfl⟩
noncomputable def TN : Prm → Int → Nat := Classical.choose TN_ex
theorem TN_eq : TN = taN := Classical.choose_spec TN_ex
theorem TV_ex : ∃ f, f = taV := ⟨_, rfl⟩
noncomputable def TV : Prm → Int → Nat → Nat := Classical.choose TV_ex
theorem TV_eq : TV = taV := Classical.choose_spec TV_ex
theorem TI_ex : ∃ f, f = taI := ⟨_, rfl⟩
noncomputable def TI : Prm → Int → Int → Int := Classical.choose TI_ex
theorem TI_eq : TI = taI := Classical.choose_spec TI_ex
theorem TC_ex : ∃ f, f = taCd := ⟨_, rfl⟩
noncomputable def TC : Prm → Int → Int := Classical.choose TC_ex
theorem TC_eq : TC = taCd := Classical.choose_spec TC_ex
noncomputable def taW (p : Prm) (l : Int) (K : Nat) : AVal := .tuple [.agg [.vec K 18 0 (.sym (TN p l)), .flt .f32 (TV p l p.b), .flt .f32 (TV p l p.d), .sint .i8 (TI p l p.s), .sint .i64 (TI p l p.h), .flt .f32 (TV p l p.u)],
  .agg [.flt .f32 (TV p l (p.fd l.toNat 0)), .flt .f32 (TV p l (p.fd l.toNat 1)), .flt .f32 (TV p l (p.fd l.toNat 2)), .flt .f32 (TV p l (p.fd l.toNat 3)), .flt .f32 (TV p l (p.fd l.toNat 4)), .flt .f32 (TV p l (p.fd l.toNat 5)), .flt .f32 (TV p l (p.fd l.toNat 6)), .flt .f32 (TV p l (p.fd l.toNat 7)), .flt .f32 (TV p l (p.fd l.toNat 8)), .flt .f32 (TV p l (p.fd l.toNat 9)), .flt .f32 (TV p l (p.fd l.toNat 10)), .flt .f32 (TV p l (p.fd l.toNat 11)), .flt .f32 (TV p l (p.fd l.toNat 12)), .flt .f32 (TV p l (p.fd l.toNat 13)), .flt .f32 (TV p l (p.fd l.toNat 14)), .flt .f32 (TV p l (p.fd l.toNat 15)), .flt .f32 (TV p l (p.fd l.toNat 16)), .flt .f32 (TV p l (p.fd l.toNat 17))], .sint .i64 (TC p l)]
theorem taW_conv (p : Prm) (l : Int) : ∃ e m, ∀ ρ1 ρ2 k K, (∀ x, V ρ1 (.vec k e 0 m) x → V ρ2 (.vec K e 0 m) x) → ∀ u, V ρ1 (taW p l k) u → V ρ2 (taW p l K) u := by
  refine ⟨18, .sym (TN p l), fun ρ1 ρ2 k K h u hu => ?_⟩
  unfold taW at hu ⊢
  unfold V at hu ⊢
  obtain ⟨vs, rfl, hl⟩ := hu
  refine ⟨vs, rfl, ?_⟩
  unfold VL at hl ⊢
  obtain ⟨v, vs', rfl, h1, h2⟩ := hl
  refine ⟨v, vs', rfl, ?_, VL_flat' _ _ rfl h2⟩
  unfold V at h1 ⊢
  obtain ⟨us, rfl, h3⟩ := h1
  refine ⟨us, rfl, ?_⟩
  unfold VL at h3 ⊢
  obtain ⟨x, us', rfl, h4, h5⟩ := h3
  exact ⟨x, us', rfl, h x h4, VL_flat' _ _ rfl h5⟩
def decI : List AVal → Option Int
  | [x] => match intOf x with | some (.i64, l) => some l | _ => none
  | _ => none
theorem decI_spec {more : List AVal} {l : Int} (h : decI more = some l) : (∀ ρ vs, VL ρ more vs → VL ρ [.sint .i64 l] vs) := by
  unfold decI at h
  split at h
  · rename_i x
    split at h
    · rename_i hx
      cases h
      intro ρ vs hv
      unfold VL at hv ⊢
      obtain ⟨v, vs', rfl, h1, h2⟩ := hv
      exact ⟨v, vs', rfl, intOf_sV hx h1, h2⟩
    · cases h
  · cases h
theorem taR_false {p : Prm} {l : Int} (h : taR p l = false) : 0 ≤ l ∧ l < (p.n : Int) := by
  unfold taR at h
  cases h1 : decide (l < Int.ofNat 0) with
  | true => rw [h1] at h; cases h
  | false =>
    rw [h1] at h
    have h1 := of_decide_eq_false h1
    have h2 := of_decide_eq_false (show decide (l ≥ Int.ofNat p.n) = false from h)
    have h1 : ¬ l < 0 := h1
    have h2 : ¬ l ≥ (p.n : Int) := h2
    omega
theorem taR_spec {p : Prm} {l : Int} (hn : p.n ≤ 1048576) : (!(cond (decide (l ≥ Int.ofNat 0)) (decide (l ≤ IntKind.i64.wrap ((Int.ofNat p.n).sub (Int.ofNat 1)))) false)) = taR p l := by
  have hw : IntKind.i64.wrap ((Int.ofNat p.n).sub (Int.ofNat 1)) = (p.n : Int) - 1 := IntWalk.i64_in _ (by show _ ≤ (p.n : Int) - 1 ∧ (p.n : Int) - 1 ≤ _; omega)
  rw [hw]
  unfold taR
  by_cases h1 : l < 0
  · rw [decide_eq_true (show l < Int.ofNat 0 from h1), decide_eq_false (show ¬ l ≥ Int.ofNat 0 by show ¬ l ≥ 0; omega)]; rfl
  · rw [decide_eq_false (show ¬ l < Int.ofNat 0 from h1), decide_eq_true (show l ≥ Int.ofNat 0 by show l ≥ 0; omega)]
    show (!decide (l ≤ (p.n : Int) - 1)) = decide (l ≥ Int.ofNat p.n)
    by_cases h2 : l ≤ (p.n : Int) - 1
    · rw [decide_eq_true h2, decide_eq_false (show ¬ l ≥ Int.ofNat p.n by show ¬ l ≥ (p.n : Int); omega)]; rfl
    · rw [decide_eq_false h2, decide_eq_true (show l ≥ Int.ofNat p.n by show l ≥ (p.n : Int); omega)]; rfl
end Go.Ab
