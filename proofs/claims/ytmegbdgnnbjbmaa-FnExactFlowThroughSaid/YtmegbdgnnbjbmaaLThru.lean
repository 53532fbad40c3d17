/- For every flue, every heat outside and every push the law of FlowThrough returns true, and the arguments read behind the call as before. No conditions. -/
import Derived.Test.YtmegbdgnnbjbmaaBg
import Derived.Test.YtmegbdgnnbjbmaaRows
namespace Go.Proofs.Ytmegbdgnnbjbmaa.fnExactFlowThrough
open Go Go.Ab Go.ChangeShapes Go.WideShapes Go.ChangeAt Go.RowKit Go.Proofs Go.Proofs.Ytmegbdgnnbjbmaa.ab
set_option linter.unusedVariables false
theorem own : ownKnob Try.prog.godebug = none := by kernel_rfl
theorem laidOut : laidOutB Try.prog = true := by kernel_rfl
set_option maxRecDepth 1000000 in
theorem walk (a0x0 : Nat) (a0x1 : Nat) (a0x2 : Nat) (a0x3 : Nat) (a0x4 : Int) (vs0 : List Value) (a1 : Nat) (a2 : Nat) (w : World) (w0 : VL noRho [.flt .f32 a0x0, .flt .f32 a0x1, .flt .f32 a0x2, .flt .f32 a0x3, .sint .i64 a0x4] vs0) (w1 : wfW .f32 a1) (w2 : wfW .f32 a2) :
    Calls Try.prog 10 #[.agg ⟨vs0⟩, .float .f32 a1, .float .f32 a2] w fun e w' => e = .returned (.bool true) ∧ Below w.heap.size w w' := by
  have hv : VL noRho [.agg [.flt .f32 a0x0, .flt .f32 a0x1, .flt .f32 a0x2, .flt .f32 a0x3, .sint .i64 a0x4], .flt .f32 a1, .flt .f32 a2] [.agg ⟨vs0⟩, .float .f32 a1, .float .f32 a2] := (VL_cons (agg_V w0) (VL_cons (flt_V .f32 w1) (VL_cons (flt_V .f32 w2) VL_nil)))
  have hh : a0x0 < 4294967296 := VL_hd w0
  have hw : a0x1 < 4294967296 := by obtain ⟨_, w0'⟩ := VL_tl w0; exact VL_hd w0'
  have ht : a0x2 < 4294967296 := by obtain ⟨_, w0'⟩ := VL_tl w0; obtain ⟨_, w0''⟩ := VL_tl w0'; exact VL_hd w0''
  have hI : oV (evBody Try.prog GG 100 Try.f45 [.agg [.flt .f32 a0x0, .flt .f32 a0x1, .flt .f32 a0x2, .flt .f32 a0x3, .sint .i64 a0x4], .flt .f32 a1, .flt .f32 a2] St0) = outX (cond (!flI a0x0 a0x1 a0x2 a0x3) 0 (cond (cond (!bw 3262119936 a1 1114636288) true (!bw 3296329728 a2 1148846080)) 0 (flF a0x0 a0x1 a0x2 a0x3 a1 a2))) (cond (!flI a0x0 a0x1 a0x2 a0x3) (1 : Int) (cond (cond (!bw 3262119936 a1 1114636288) true (!bw 3296329728 a2 1148846080)) 2 0)) := by kernel_rfl
  have hS : oV (evBody Try.prog GG 100 Try.f44 [.agg [.flt .f32 a0x0, .flt .f32 a0x1, .flt .f32 a0x2, .flt .f32 a0x3, .sint .i64 a0x4], .flt .f32 a1, .flt .f32 a2] St0) = outX (cond (!flS a0x0 a0x1 a0x2 a0x3) 0 (cond (cond (!bw 3262119936 a1 1114636288) true (!bw 3296329728 a2 1148846080)) 0 (cond (!finF (flF a0x0 a0x1 a0x2 a0x3 a1 a2)) 0 (flF a0x0 a0x1 a0x2 a0x3 a1 a2)))) (cond (!flS a0x0 a0x1 a0x2 a0x3) (1 : Int) (cond (cond (!bw 3262119936 a1 1114636288) true (!bw 3296329728 a2 1148846080)) 2 (cond (!finF (flF a0x0 a0x1 a0x2 a0x3 a1 a2)) 4 0))) := by kernel_rfl
  have hR : oV (evBody Try.prog GG 100 Try.f45 [.agg [.flt .f32 a0x0, .flt .f32 a0x1, .flt .f32 a0x2, .flt .f32 a0x3, .sint .i64 a0x4], .flt .f32 a1, .flt .f32 a2] St0) = oV (evBody Try.prog GG 100 Try.f44 [.agg [.flt .f32 a0x0, .flt .f32 a0x1, .flt .f32 a0x2, .flt .f32 a0x3, .sint .i64 a0x4], .flt .f32 a1, .flt .f32 a2] St0) := by rw [hI, hS, fl_eq hh hw]; exact through_eq hh hw ht w1 w2
  have he : lawB (evBody Try.prog GG 300 Try.f10 [.agg [.flt .f32 a0x0, .flt .f32 a0x1, .flt .f32 a0x2, .flt .f32 a0x3, .sint .i64 a0x4], .flt .f32 a1, .flt .f32 a2] St0) = some (askT (oV (evBody Try.prog GG 100 Try.f45 [.agg [.flt .f32 a0x0, .flt .f32 a0x1, .flt .f32 a0x2, .flt .f32 a0x3, .sint .i64 a0x4], .flt .f32 a1, .flt .f32 a2] St0)) (oV (evBody Try.prog GG 100 Try.f44 [.agg [.flt .f32 a0x0, .flt .f32 a0x1, .flt .f32 a0x2, .flt .f32 a0x3, .sint .i64 a0x4], .flt .f32 a1, .flt .f32 a2] St0))) := by kernel_rfl
  exact law_of gg mixed Try.func10 Try.call10 he (askT_of hR) hv w
set_option maxRecDepth 100000 in
theorem lifted (os : Os) (started : os.Started) (H : Type) (enc : TypeId × Value → H) :
    ReturnsInHanded {} Try.checked os 10 .any (Rows.fnExactFlowThroughSpec.pre6 enc Try.prog Try.f10 Rows.fnExactFlowThroughRow.domain false) (Rows.fnExactFlowThroughSpec.post enc Try.prog Try.f10 false true false false) := by
  refine returnsInHanded_of_change (C := Try.checked) own started (by kernel_rfl) Try.func10
    (ChangeSpec.witness6 (enc := enc) (C := Try.checked) false ⟨#[], #[.agg #[.float .f32 0, .float .f32 0, .float .f32 0, .float .f32 0, .int .i64 0], .float .f32 0, .float .f32 0], []⟩ 8 (by kernel_rfl) (by kernel_rfl) (by kernel_rfl) (by kernel_rfl)) ?_
  intro W base args ds gs before hval0 hW hcnd _
  have hval : ∀ (j : Nat) t v, Try.f10.params[j]? = some t → args[j]? = some v → Value.okWide Try.prog W .any base t v := hval0
  have hW' := hW
  obtain ⟨p, q, hA0, hV, rfl, hfz, hnd⟩ := hW
  have hA : DataW.TrodAll enc Try.prog W 0 (fun _ => true) true Try.f10.params.toList args.toList ds p := hA0
  rw [Try.params10] at hA hval
  obtain ⟨v0, vs0, d0, ds0, p0, q0, hargs, rfl, rfl, h0, r0⟩ := trodAll_cons hA
  obtain ⟨v1, vs1, d1, ds1, p1, q1, rfl, rfl, rfl, h1, r1⟩ := trodAll_cons r0
  obtain ⟨v2, vs2, d2, ds2, p2, q2, rfl, rfl, rfl, h2, r2⟩ := trodAll_cons r1
  obtain ⟨rfl, rfl, rfl⟩ := trodAll_nil r2
  obtain rfl : args = #[v0, v1, v2] := by cases args; simp_all
  obtain ⟨rfl, rfl⟩ := trodVars_none hV
  have k0 := h0
  have lt0 : ∀ x ∈ p0, x.block < W.heap.size := by obtain ⟨m, hm⟩ := k0; exact DataW.trod_lt m _ _ _ hm
  obtain ⟨fd0, gd0, bd0, us0, rfl, w0⟩ := open_cells (ts := [26, 26, 26, 26, 2]) (sh := [.f32, .f32, .f32, .f32, .int .i64]) (by kernel_rfl) (by kernel_rfl) (by kernel_rfl) (by kernel_rfl) (hval 0 57 v0 rfl rfl)
  obtain ⟨a1, rfl, rfl, rfl, w1⟩ := open_float Try.underlying26 (hval 1 26 v1 rfl rfl) h1
  obtain ⟨a2, rfl, rfl, rfl, w2⟩ := open_float Try.underlying26 (hval 2 26 v2 rfl rfl) h2
  clear hA0 hval0
  refine (walk (fd0 0) (fd0 1) (fd0 2) (fd0 3) (gd0 4) us0 a1 a2 W w0 (lit32 w1) (lit32 w2)).mono fun e W' ⟨he, bel⟩ => ?_
  subst he
  exact ⟨_, rfl, _, _, _, [], _, [], hW', trodAll_mk1 (shut_bool Try.underlying4 _), (trodAll_cons_mk (Below.trod laidOut (by kernel_rfl) (of_decide_eq_true (by kernel_rfl)) k0 bel lt0) (trodAll_cons_mk (shut_float Try.underlying26 w1) (trodAll_cons_mk (shut_float Try.underlying26 w2) trodAll_mk0))), rfl, bel.frame _, fun h => by cases h⟩

theorem over : Rows.fnExactFlowThroughRow.holds Try.pinned (OpenSpec.ofChange Rows.fnExactFlowThroughSpec) :=
  OpenClaim.holds_of_wide 10 Try.f10 rfl rfl rfl rfl rfl rfl rfl ⟨rfl, rfl, rfl, rfl, rfl⟩ rfl rfl rfl rfl rfl (by kernel_rfl) Try.func10 (by kernel_rfl)
    (of_decide_eq_true (by kernel_rfl)) (by unfold Func.isWrapper; first | (rw [if_pos (by decide +kernel)]; kernel_rfl) | (rw [if_neg (by decide +kernel)]; exact ⟨rfl, rfl⟩))
    (fun os started H enc _ => lifted os started H enc)

theorem proved : Rows.FnExactFlowThroughSaid := over
end Go.Proofs.Ytmegbdgnnbjbmaa.fnExactFlowThrough

