/- For every number the law of ToTenths returns true. No conditions. -/
import Derived.Test.YtnkfeoodbhihcaaBp
import Derived.Test.YtnkfeoodbhihcaaRows
namespace Go.Proofs.Ytnkfeoodbhihcaa.fnExactToTenths
open Go Go.Ab Go.ChangeShapes Go.WideShapes Go.ChangeAt Go.RowKit Go.Proofs Go.Proofs.Ytnkfeoodbhihcaa.ab
set_option linter.unusedVariables false
theorem own : ownKnob Try.prog.godebug = none := by kernel_rfl
theorem laidOut : laidOutB Try.prog = true := by kernel_rfl
set_option maxRecDepth 1000000 in
theorem walk (a0 : Nat) (w : World) (w0 : wfW .f32 a0) :
    Calls Try.prog 3 #[.float .f32 a0] w fun e w' => e = .returned (.bool true) ∧ Below w.heap.size w w' := by
  have hv : VL noRho [.flt .f32 a0] [.float .f32 a0] := (VL_cons (flt_V .f32 w0) VL_nil)
  have he : lawB (evBody Try.prog GG 300 Try.f3 [.flt .f32 a0] St0) = some (cond (cond (andN (andN true (cond (andN true (ndc (!feqB .f32 (fop .mul .f32 1092616192 a0) (fop .mul .f32 1092616192 a0)) true (ndc (fltB .f64 4674736138332667904 (intgW .even (wide (fop .mul .f32 1092616192 a0)))) true (ndc (fltB .f64 (intgW .even (wide (fop .mul .f32 1092616192 a0))) 13898108450065350656) true (cond (andN true (f2iOk .f64 .i16 (intgW .even (wide (fop .mul .f32 1092616192 a0))))) true false))))) true false)) (ndc (!feqB .f32 a0 a0) true (cond (andN (andN true (nrwOk (intgW .even (wide (fop .mul .f32 a0 1092616192))))) (f2iOk .f32 .i16 (hO (nrw (intgW .even (wide (fop .mul .f32 a0 1092616192)))) 3338665984 1191181824))) true false))) true false) (cond ((cond (!feqB .f32 a0 a0) 0 (f2i .f32 (hO (nrw (intgW .even (wide (fop .mul .f32 a0 1092616192)))) 3338665984 1191181824))) != (cond (!feqB .f32 (fop .mul .f32 1092616192 a0) (fop .mul .f32 1092616192 a0)) 0 (cond (fltB .f64 4674736138332667904 (intgW .even (wide (fop .mul .f32 1092616192 a0)))) 32767 (cond (fltB .f64 (intgW .even (wide (fop .mul .f32 1092616192 a0))) 13898108450065350656) (Int.negSucc 32767) (f2i .f64 (intgW .even (wide (fop .mul .f32 1092616192 a0)))))))) false true) false) := by kernel_rfl
  refine law_of gg mixed Try.func3 Try.call3 he ?_ hv w
  clear he
  rw [mul_comm32 a0 1092616192]
  simp only [feq_self, nan_ten]
  cases hn : nanB .f32 a0 with
  | true => simp [ndc_eq, andN]
  | false =>
    obtain ⟨h1, h2, h3, h4⟩ := shown (a := (fop .mul .f32 1092616192 a0)) (by rw [nan_ten]; exact hn)
    rw [h4]
    generalize f2iOk .f32 .i16 (hO (nrw (intgW .even (wide (fop .mul .f32 1092616192 a0)))) 3338665984 1191181824) = B0 at h3 ⊢
    generalize nrwOk (intgW .even (wide (fop .mul .f32 1092616192 a0))) = B1 at h1 ⊢
    generalize fltB .f64 4674736138332667904 (intgW .even (wide (fop .mul .f32 1092616192 a0))) = B2 at h2 ⊢
    generalize fltB .f64 (intgW .even (wide (fop .mul .f32 1092616192 a0))) 13898108450065350656 = B3 at h2 ⊢
    generalize f2iOk .f64 .i16 (intgW .even (wide (fop .mul .f32 1092616192 a0))) = B4 at h2 ⊢
    subst h1 h3
    cases B2 <;> cases B3 <;> cases B4 <;> simp_all [ndc_eq, andN]

set_option maxRecDepth 100000 in
theorem lifted (os : Os) (started : os.Started) (H : Type) (enc : TypeId × Value → H) :
    ReturnsInHanded {} Try.checked os 3 .any (Rows.fnExactToTenthsSpec.pre6 enc Try.prog Try.f3 Rows.fnExactToTenthsRow.domain false) (Rows.fnExactToTenthsSpec.post enc Try.prog Try.f3 false true false false) := by
  refine returnsInHanded_of_change (C := Try.checked) own started (by kernel_rfl) Try.func3
    (ChangeSpec.witness6 (enc := enc) (C := Try.checked) false ⟨#[], #[.float .f32 0], []⟩ 8 (by kernel_rfl) (by kernel_rfl) (by kernel_rfl) (by kernel_rfl)) ?_
  intro W base args ds gs before hval0 hW hcnd _
  have hval : ∀ (j : Nat) t v, Try.f3.params[j]? = some t → args[j]? = some v → Value.okWide Try.prog W .any base t v := hval0
  have hW' := hW
  obtain ⟨p, q, hA0, hV, rfl, hfz, hnd⟩ := hW
  have hA : DataW.TrodAll enc Try.prog W 0 (fun _ => true) true Try.f3.params.toList args.toList ds p := hA0
  rw [Try.params3] at hA hval
  obtain ⟨v0, vs0, d0, ds0, p0, q0, hargs, rfl, rfl, h0, r0⟩ := trodAll_cons hA
  obtain ⟨rfl, rfl, rfl⟩ := trodAll_nil r0
  obtain rfl : args = #[v0] := by cases args; simp_all
  obtain ⟨rfl, rfl⟩ := trodVars_none hV
  obtain ⟨a0, rfl, rfl, rfl, w0⟩ := open_float Try.underlying22 (hval 0 22 v0 rfl rfl) h0
  clear hA0 hval0
  refine (walk a0 W (lit32 w0)).mono fun e W' ⟨he, bel⟩ => ?_
  subst he
  exact ⟨_, rfl, _, _, _, [], _, [], hW', trodAll_mk1 (shut_bool Try.underlying4 _), (trodAll_cons_mk (shut_float Try.underlying22 w0) trodAll_mk0), rfl, bel.frame _, fun h => by cases h⟩

theorem over : Rows.fnExactToTenthsRow.holds Try.pinned (OpenSpec.ofChange Rows.fnExactToTenthsSpec) :=
  OpenClaim.holds_of_wide 3 Try.f3 rfl rfl rfl rfl rfl rfl rfl ⟨rfl, rfl, rfl, rfl, rfl⟩ rfl rfl rfl rfl rfl (by kernel_rfl) Try.func3 (by kernel_rfl)
    (of_decide_eq_true (by kernel_rfl)) (by unfold Func.isWrapper; first | (rw [if_pos (by decide +kernel)]; kernel_rfl) | (rw [if_neg (by decide +kernel)]; exact ⟨rfl, rfl⟩))
    (fun os started H enc _ => lifted os started H enc)

theorem proved : Rows.FnExactToTenthsSaid := over
end Go.Proofs.Ytnkfeoodbhihcaa.fnExactToTenths
