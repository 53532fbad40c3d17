import Derived.Test.YtmegbdgnnbjbmaaAbI
namespace Go.Ab
open Go Go.RowKit
set_option linter.unusedVariables false
section
variable {P : Program} {N : Nat} {M : Addr → Prop} {w0 : World} {ρ : Rho} {S : St} {w : World}

theorem lenL_len {α : Type} : ∀ l : List α, lenL l = l.length
  | [] => rfl
  | _ :: l => by simp [lenL, lenL_len l]

/-- Where a body begins. -/
theorem start_rel {n : Nat} {args : List AVal} {vs : List Value} (hM : Mem M w0 ρ S w) (hv : VL ρ args vs) (hn : args.length ≤ n) :
    Rel n M w0 ρ ((S.start n args).ext Dl.nil) { tmps := ⟨vs⟩ ++ Array.replicate (n - (⟨vs⟩ : Array Value).size) undef, defers := [] } w := by
  have hl := VL_length _ _ hv
  have hsz : (⟨vs⟩ : Array Value).size = args.length := by simpa using hl
  apply Rel.nil
  refine ⟨fun t => ?_, ?_, rfl, hM.same (fun i o => rfl) (fun i => rfl) (fun i => rfl) rfl hM.hp.ink hM.hp.vink⟩
  · have hVL : VL ρ (args ++ undefs (n - args.length)) (vs ++ List.replicate (n - args.length) undef) := VL_append _ _ _ _ hv (undefs_VL ρ _)
    have hget : (S.start n args).get t = nth t (args ++ undefs (n - args.length)) := by
      show nth t (args ++ undefs (Nat.sub n (lenL args))) = _
      rw [lenL_len]; rfl
    rw [hget]
    have harr : ((⟨vs⟩ : Array Value) ++ Array.replicate (n - (⟨vs⟩ : Array Value).size) undef).getD t undef = (vs ++ List.replicate (n - args.length) undef)[t]?.getD undef := by
      rw [Array.getD_eq_getD_getElem?, hsz, ← Array.getElem?_toList]
      simp
    rw [harr]
    by_cases ht : t < (args ++ undefs (n - args.length)).length
    · obtain ⟨v, h1, h2⟩ := VL_nth _ _ hVL t ht
      rw [h1]; exact h2
    · rw [nth_out _ _ (by omega)]; unfold V; trivial
  · simp [hsz]; omega

theorem acc_start (n : Nat) (args : List AVal) : Acc S (S.start n args) [] [] := ⟨⟨[], by simp [St.start]⟩, fun i o => by simp [hlook1, St.start], fun i => by simp [vlook1, St.start]⟩

/-- What an end says of the answer. -/
theorem res_of_fin {fn : Func} {f : FR} {out : Out} (ho : outOf f = some out) {e : Ex} {ex : Exit} {a : Act} {w' : World} (h : FinP P fn S M w0 ρ f.pn f.rt e ex a w') : bodyPost P fn (Res M w0 ρ S out) ex a w' := by
  obtain ⟨hd, h⟩ := h
  have ret : ((ex = .normal ∨ ex = .ret) ∧ (∀ b v, f.pn = some (b, v) → b = false) ∧ ∃ x u ρm, f.rt = some x ∧ (results fn a.tmps).run P w' = .ok u w' ∧ ExtS S.hp.length ρ ρm ∧ V ρm x.v u ∧ RtOk S M w0 ρm x.hv x.vv x.vs w') → bodyPost P fn (Res M w0 ρ S out) ex a w' := by
    rintro ⟨h1, h2, x, u, ρm, h3, h4, h5, h6, h7⟩
    unfold outOf at ho
    rw [h3] at ho
    cases ho
    have post : a.defers = [] ∧ ∃ v, (results fn a.tmps).run P w' = .ok v w' ∧ Res M w0 ρ S ⟨x.v, x.hv, x.vv, blksOf x.vs, f.nd, f.pn⟩ (.returned v) w' := ⟨hd, u, h4, h2, ρm, h5, h6, h7.mem⟩
    rcases h1 with rfl | rfl
    · exact post
    · exact post
  cases e with
  | exit id => exact h.elim
  | normal => exact ret h
  | ret => exact ret h
  | panic v0 =>
    obtain ⟨v, u, rfl, h2, h3, h4⟩ := h
    refine ⟨hd, v, u, ?_, rfl, h3, h4⟩
    unfold outOf at ho
    cases hr : f.rt with
    | some x => rw [hr] at ho; cases ho; exact h2
    | none =>
      rw [hr] at ho
      simp only [h2] at ho
      cases ho
      rfl

/-- WHAT THE EVALUATOR SAYS OF A FUNCTION IS SO. -/
theorem inl_sat {Γ : List (Nat × Ctr)} (hΓ : ∀ f c, lookC f Γ = some c → Sat P f c) (hmo : P.follows .mixedOrders = true) {f : FuncId} {fn : Func} (hf : P.funcs[f]? = some fn)
    (hcall : ∀ (args : Array Value) (w : World), (callFunc f args).run P w = .ok (.enter f args) w) (fuel : Nat) : Sat P f (inl P Γ fuel fn) := by
  have key : SatC P f (inl P Γ fuel fn) → Sat P f (inl P Γ fuel fn) := fun h => h
  refine key ⟨hcall, fun args S out hfn hnd M w0 ρ w vs hM hv => ?_⟩
  have he : evBody P Γ fuel fn args S = some out := hfn
  unfold evBody at he
  split at he
  · rename_i body hbody
    split at he
    · rename_i hn
      have hn := Nat.le_of_ble_eq_true hn
      rw [lenL_len] at hn
      split at he
      · rename_i t ht
        split at he
        · rename_i fr hfr
          have hnf : fr.nd = true := by
            unfold outOf at he
            split at he
            · cases he; exact hnd
            · split at he
              · cases he; exact hnd
              · cases he
          obtain ⟨hneed, hfin⟩ := finT_sound (P := P) (N := fn.ntmps) (fn := fn) hM t _ [] [] fr hfr hnf (acc_start _ _)
          refine calls_of_wp hf hbody ?_
          refine (ev_sound (n0 := S.hp.length) hΓ hmo fuel body _ _ t ht hneed (Nat.le_refl _) ρ _ w _ (start_rel hM hv hn) ?_).1
          intro ρ' a' w' e hext hx hr'
          exact res_of_fin he (hfin ρ' a' w' e hext hr' hx)
        · cases he
      · cases he
    · cases he
  · cases he
end
end Go.Ab
