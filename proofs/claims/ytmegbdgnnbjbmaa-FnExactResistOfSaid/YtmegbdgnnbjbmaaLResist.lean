/- For every flue the law of ResistOf returns true, and the argument reads behind the call as before. No conditions. -/
import Derived.Test.YtmegbdgnnbjbmaaBc
import Derived.Test.YtmegbdgnnbjbmaaGd
import Derived.Test.YtmegbdgnnbjbmaaRows
namespace Go.Proofs.Ytmegbdgnnbjbmaa.fnExactResistOf
open Go Go.Ab Go.ChangeShapes Go.WideShapes Go.ChangeAt Go.RowKit Go.Proofs Go.Proofs.Ytmegbdgnnbjbmaa.ab
set_option linter.unusedVariables false
theorem own : ownKnob Try.prog.godebug = none := by kernel_rfl
theorem laidOut : laidOutB Try.prog = true := by kernel_rfl
set_option maxRecDepth 1000000 in
theorem walk (a0x0 : Nat) (a0x1 : Nat) (a0x2 : Nat) (a0x3 : Nat) (a0x4 : Int) (vs0 : List Value) (w : World) (w0 : VL noRho [.flt .f32 a0x0, .flt .f32 a0x1, .flt .f32 a0x2, .flt .f32 a0x3, .sint .i64 a0x4] vs0) :
    Calls Try.prog 9 #[.agg ⟨vs0⟩] w fun e w' => e = .returned (.bool true) ∧ Below w.heap.size w w' := by
  have hv : VL noRho [.agg [.flt .f32 a0x0, .flt .f32 a0x1, .flt .f32 a0x2, .flt .f32 a0x3, .sint .i64 a0x4]] [.agg ⟨vs0⟩] := (VL_cons (agg_V w0) VL_nil)
  have hh : a0x0 < 4294967296 := VL_hd w0
  have hw : a0x1 < 4294967296 := by obtain ⟨_, w0'⟩ := VL_tl w0; exact VL_hd w0'
  have hI : oV (evBody Try.prog GG 100 Try.f43 [.agg [.flt .f32 a0x0, .flt .f32 a0x1, .flt .f32 a0x2, .flt .f32 a0x3, .sint .i64 a0x4]] St0) = outX (gt2 (flI a0x0 a0x1 a0x2 a0x3) (finF (reF a0x0 a0x1 a0x3)) (reF a0x0 a0x1 a0x3)) (cd2 (flI a0x0 a0x1 a0x2 a0x3) (finF (reF a0x0 a0x1 a0x3)) 4) := by kernel_rfl
  have hS : oV (evBody Try.prog GG 100 Try.f42 [.agg [.flt .f32 a0x0, .flt .f32 a0x1, .flt .f32 a0x2, .flt .f32 a0x3, .sint .i64 a0x4]] St0) = outX (cond (!flS a0x0 a0x1 a0x2 a0x3) 0 (cond (feqB .f32 a0x3 0) 0 (cond (!finF (reF a0x0 a0x1 a0x3)) 0 (reF a0x0 a0x1 a0x3)))) (cond (!flS a0x0 a0x1 a0x2 a0x3) (1 : Int) (cond (feqB .f32 a0x3 0) 4 (cond (!finF (reF a0x0 a0x1 a0x3)) 4 0))) := by kernel_rfl
  have hR : oV (evBody Try.prog GG 100 Try.f43 [.agg [.flt .f32 a0x0, .flt .f32 a0x1, .flt .f32 a0x2, .flt .f32 a0x3, .sint .i64 a0x4]] St0) = oV (evBody Try.prog GG 100 Try.f42 [.agg [.flt .f32 a0x0, .flt .f32 a0x1, .flt .f32 a0x2, .flt .f32 a0x3, .sint .i64 a0x4]] St0) := by rw [hI, hS, fl_eq hh hw, (re_gate hh hw).1, (re_gate hh hw).2]
  have he : lawB (evBody Try.prog GG 300 Try.f9 [.agg [.flt .f32 a0x0, .flt .f32 a0x1, .flt .f32 a0x2, .flt .f32 a0x3, .sint .i64 a0x4]] St0) = some (askT (oV (evBody Try.prog GG 100 Try.f43 [.agg [.flt .f32 a0x0, .flt .f32 a0x1, .flt .f32 a0x2, .flt .f32 a0x3, .sint .i64 a0x4]] St0)) (oV (evBody Try.prog GG 100 Try.f42 [.agg [.flt .f32 a0x0, .flt .f32 a0x1, .flt .f32 a0x2, .flt .f32 a0x3, .sint .i64 a0x4]] St0))) := by kernel_rfl
  exact law_of gg mixed Try.func9 Try.call9 he (askT_of hR) hv w
set_option maxRecDepth 100000 in
theorem lifted (os : Os) (started : os.Started) (H : Type) (enc : TypeId × Value → H) :
    ReturnsInHanded {} Try.checked os 9 .any (Rows.fnExactResistOfSpec.pre6 enc Try.prog Try.f9 Rows.fnExactResistOfRow.domain false) (Rows.fnExactResistOfSpec.post enc Try.prog Try.f9 false true false false) := by
  refine returnsInHanded_of_change (C := Try.checked) own started (by kernel_rfl) Try.func9
    (ChangeSpec.witness6 (enc := enc) (C := Try.checked) false ⟨#[], #[.agg #[.float .f32 0, .float .f32 0, .float .f32 0, .float .f32 0, .int .i64 0]], []⟩ 8 (by kernel_rfl) (by kernel_rfl) (by kernel_rfl) (by kernel_rfl)) ?_
  intro W base args ds gs before hval0 hW hcnd _
  have hval : ∀ (j : Nat) t v, Try.f9.params[j]? = some t → args[j]? = some v → Value.okWide Try.prog W .any base t v := hval0
  have hW' := hW
  obtain ⟨p, q, hA0, hV, rfl, hfz, hnd⟩ := hW
  have hA : DataW.TrodAll enc Try.prog W 0 (fun _ => true) true Try.f9.params.toList args.toList ds p := hA0
  rw [Try.params9] at hA hval
  obtain ⟨v0, vs0, d0, ds0, p0, q0, hargs, rfl, rfl, h0, r0⟩ := trodAll_cons hA
  obtain ⟨rfl, rfl, rfl⟩ := trodAll_nil r0
  obtain rfl : args = #[v0] := by cases args; simp_all
  obtain ⟨rfl, rfl⟩ := trodVars_none hV
  have k0 := h0
  have lt0 : ∀ x ∈ p0, x.block < W.heap.size := by obtain ⟨m, hm⟩ := k0; exact DataW.trod_lt m _ _ _ hm
  obtain ⟨fd0, gd0, bd0, us0, rfl, w0⟩ := open_cells (ts := [26, 26, 26, 26, 2]) (sh := [.f32, .f32, .f32, .f32, .int .i64]) (by kernel_rfl) (by kernel_rfl) (by kernel_rfl) (by kernel_rfl) (hval 0 57 v0 rfl rfl)
  clear hA0 hval0
  refine (walk (fd0 0) (fd0 1) (fd0 2) (fd0 3) (gd0 4) us0 W w0).mono fun e W' ⟨he, bel⟩ => ?_
  subst he
  exact ⟨_, rfl, _, _, _, [], _, [], hW', trodAll_mk1 (shut_bool Try.underlying4 _), (trodAll_cons_mk (Below.trod laidOut (by kernel_rfl) (of_decide_eq_true (by kernel_rfl)) k0 bel lt0) trodAll_mk0), rfl, bel.frame _, fun h => by cases h⟩

theorem over : Rows.fnExactResistOfRow.holds Try.pinned (OpenSpec.ofChange Rows.fnExactResistOfSpec) :=
  OpenClaim.holds_of_wide 9 Try.f9 rfl rfl rfl rfl rfl rfl rfl ⟨rfl, rfl, rfl, rfl, rfl⟩ rfl rfl rfl rfl rfl (by kernel_rfl) Try.func9 (by kernel_rfl)
    (of_decide_eq_true (by kernel_rfl)) (by unfold Func.isWrapper; first | (rw [if_pos (by decide +kernel)]; kernel_rfl) | (rw [if_neg (by decide +kernel)]; exact ⟨rfl, rfl⟩))
    (fun os started H enc _ => lifted os started H enc)

theorem proved : Rows.FnExactResistOfSaid := over
end Go.Proofs.Ytmegbdgnnbjbmaa.fnExactResistOf

