/- For every heat the law of DenseAt returns true. No conditions. -/
import Derived.Test.YtmegbdgnnbjbmaaBc
import Derived.Test.YtmegbdgnnbjbmaaRows
namespace Go.Proofs.Ytmegbdgnnbjbmaa.fnExactDenseAt
open Go Go.Ab Go.ChangeShapes Go.WideShapes Go.ChangeAt Go.RowKit Go.Proofs Go.Proofs.Ytmegbdgnnbjbmaa.ab
set_option linter.unusedVariables false
theorem own : ownKnob Try.prog.godebug = none := by kernel_rfl
theorem laidOut : laidOutB Try.prog = true := by kernel_rfl
set_option maxRecDepth 1000000 in
theorem walk (a0 : Nat) (w : World) (w0 : wfW .f32 a0) :
    Calls Try.prog 7 #[.float .f32 a0] w fun e w' => e = .returned (.bool true) ∧ Below w.heap.size w w' := by
  have hv : VL noRho [.flt .f32 a0] [.float .f32 a0] := (VL_cons (flt_V .f32 w0) VL_nil)
  have hR : oV (evBody Try.prog GG 100 Try.f37 [.flt .f32 a0] St0) = oV (evBody Try.prog GG 100 Try.f36 [.flt .f32 a0] St0) := by kernel_rfl
  have he : lawB (evBody Try.prog GG 300 Try.f7 [.flt .f32 a0] St0) = some (askT (oV (evBody Try.prog GG 100 Try.f37 [.flt .f32 a0] St0)) (oV (evBody Try.prog GG 100 Try.f36 [.flt .f32 a0] St0))) := by kernel_rfl
  exact law_of gg mixed Try.func7 Try.call7 he (askT_of hR) hv w
set_option maxRecDepth 100000 in
theorem lifted (os : Os) (started : os.Started) (H : Type) (enc : TypeId × Value → H) :
    ReturnsInHanded {} Try.checked os 7 .any (Rows.fnExactDenseAtSpec.pre6 enc Try.prog Try.f7 Rows.fnExactDenseAtRow.domain false) (Rows.fnExactDenseAtSpec.post enc Try.prog Try.f7 false true false false) := by
  refine returnsInHanded_of_change (C := Try.checked) own started (by kernel_rfl) Try.func7
    (ChangeSpec.witness6 (enc := enc) (C := Try.checked) false ⟨#[], #[.float .f32 0], []⟩ 8 (by kernel_rfl) (by kernel_rfl) (by kernel_rfl) (by kernel_rfl)) ?_
  intro W base args ds gs before hval0 hW hcnd _
  have hval : ∀ (j : Nat) t v, Try.f7.params[j]? = some t → args[j]? = some v → Value.okWide Try.prog W .any base t v := hval0
  have hW' := hW
  obtain ⟨p, q, hA0, hV, rfl, hfz, hnd⟩ := hW
  have hA : DataW.TrodAll enc Try.prog W 0 (fun _ => true) true Try.f7.params.toList args.toList ds p := hA0
  rw [Try.params7] at hA hval
  obtain ⟨v0, vs0, d0, ds0, p0, q0, hargs, rfl, rfl, h0, r0⟩ := trodAll_cons hA
  obtain ⟨rfl, rfl, rfl⟩ := trodAll_nil r0
  obtain rfl : args = #[v0] := by cases args; simp_all
  obtain ⟨rfl, rfl⟩ := trodVars_none hV
  obtain ⟨a0, rfl, rfl, rfl, w0⟩ := open_float Try.underlying26 (hval 0 26 v0 rfl rfl) h0
  clear hA0 hval0
  refine (walk a0 W (lit32 w0)).mono fun e W' ⟨he, bel⟩ => ?_
  subst he
  exact ⟨_, rfl, _, _, _, [], _, [], hW', trodAll_mk1 (shut_bool Try.underlying4 _), (trodAll_cons_mk (shut_float Try.underlying26 w0) trodAll_mk0), rfl, bel.frame _, fun h => by cases h⟩

theorem over : Rows.fnExactDenseAtRow.holds Try.pinned (OpenSpec.ofChange Rows.fnExactDenseAtSpec) :=
  OpenClaim.holds_of_wide 7 Try.f7 rfl rfl rfl rfl rfl rfl rfl ⟨rfl, rfl, rfl, rfl, rfl⟩ rfl rfl rfl rfl rfl (by kernel_rfl) Try.func7 (by kernel_rfl)
    (of_decide_eq_true (by kernel_rfl)) (by unfold Func.isWrapper; first | (rw [if_pos (by decide +kernel)]; kernel_rfl) | (rw [if_neg (by decide +kernel)]; exact ⟨rfl, rfl⟩))
    (fun os started H enc _ => lifted os started H enc)

theorem proved : Rows.FnExactDenseAtSaid := over
end Go.Proofs.Ytmegbdgnnbjbmaa.fnExactDenseAt

