import Derived.Test.YtiebaggemiifoaaAa
import Derived.Test.YtiebaggemiifoaaRows
namespace Go.Proofs.Ytiebaggemiifoaa.fnExactFuelOf
open Go Go.Ab Go.ChangeShapes Go.WideShapes Go.ChangeAt Go.RowKit Go.Proofs Go.Proofs.Ytiebaggemiifoaa.ab
set_option linter.unusedVariables false
theorem own : ownKnob Try.prog.godebug = none := by kernel_rfl
theorem laidOut : laidOutB Try.prog = true := by kernel_rfl
set_option maxRecDepth 1000000 in
theorem walk (a0x0 a0x1 a0x2 a0x3 a0x4 a0x5 a0x6 a0x7 a0x8 a0x9 a0x10 a0x11 a0x12 a0x13 a0x14 a0x15 a0x16 a0x17 : Nat) (vs0 : List Value) (w : World) (w0 : VL noRho (encF [a0x0, a0x1, a0x2, a0x3, a0x4, a0x5, a0x6, a0x7, a0x8, a0x9, a0x10, a0x11, a0x12, a0x13, a0x14, a0x15, a0x16, a0x17]) vs0) :
    Calls Try.prog 12 #[.agg ⟨vs0⟩] w fun e w' => e = .returned (.bool true) ∧ Below w.heap.size w w' := by
  have hv : VL noRho [.agg [.flt .f32 a0x0, .flt .f32 a0x1, .flt .f32 a0x2, .flt .f32 a0x3, .flt .f32 a0x4, .flt .f32 a0x5, .flt .f32 a0x6, .flt .f32 a0x7, .flt .f32 a0x8, .flt .f32 a0x9, .flt .f32 a0x10, .flt .f32 a0x11, .flt .f32 a0x12, .flt .f32 a0x13, .flt .f32 a0x14, .flt .f32 a0x15, .flt .f32 a0x16, .flt .f32 a0x17]] [.agg ⟨vs0⟩] := (VL_cons (agg_V w0) VL_nil)
  have he : evFn Try.prog GG 100 Try.f12 [.agg [.flt .f32 a0x0, .flt .f32 a0x1, .flt .f32 a0x2, .flt .f32 a0x3, .flt .f32 a0x4, .flt .f32 a0x5, .flt .f32 a0x6, .flt .f32 a0x7, .flt .f32 a0x8, .flt .f32 a0x9, .flt .f32 a0x10, .flt .f32 a0x11, .flt .f32 a0x12, .flt .f32 a0x13, .flt .f32 a0x14, .flt .f32 a0x15, .flt .f32 a0x16, .flt .f32 a0x17]] [] = some (.sbool (askF (cond (!vOp [a0x0, a0x1, a0x2, a0x3, a0x4, a0x5, a0x6, a0x7, a0x8, a0x9, a0x10, a0x11, a0x12, a0x13, a0x14, a0x15, a0x16, a0x17]) 0 (fop .add .f32 (fop .add .f32 (fop .add .f32 (fop .add .f32 (fop .add .f32 a0x12 a0x13) a0x14) a0x15) a0x16) a0x17)) (cond (!vOp [a0x0, a0x1, a0x2, a0x3, a0x4, a0x5, a0x6, a0x7, a0x8, a0x9, a0x10, a0x11, a0x12, a0x13, a0x14, a0x15, a0x16, a0x17]) 0 (fop .add .f32 (fop .add .f32 (fop .add .f32 (fop .add .f32 (fop .add .f32 a0x12 a0x13) a0x14) a0x15) a0x16) a0x17)) (cond (!vOp [a0x0, a0x1, a0x2, a0x3, a0x4, a0x5, a0x6, a0x7, a0x8, a0x9, a0x10, a0x11, a0x12, a0x13, a0x14, a0x15, a0x16, a0x17]) 1 0) (cond (!vOp [a0x0, a0x1, a0x2, a0x3, a0x4, a0x5, a0x6, a0x7, a0x8, a0x9, a0x10, a0x11, a0x12, a0x13, a0x14, a0x15, a0x16, a0x17]) 1 0))) := by kernel_rfl
  exact law_of_evFn gg mixed Try.func12 Try.call12 he (askF_self _ _) hv w
set_option maxRecDepth 100000 in
theorem lifted (os : Os) (started : os.Started) (H : Type) (enc : TypeId × Value → H) :
    ReturnsInHanded {} Try.checked os 12 .any (Rows.fnExactFuelOfSpec.pre6 enc Try.prog Try.f12 Rows.fnExactFuelOfRow.domain false) (Rows.fnExactFuelOfSpec.post enc Try.prog Try.f12 false true false false) := by
  refine returnsInHanded_of_change (C := Try.checked) own started (by kernel_rfl) Try.func12
    (ChangeSpec.witness6 (enc := enc) (C := Try.checked) false ⟨#[], #[.agg (Array.replicate 18 (.float .f32 0))], []⟩ 8 (by kernel_rfl) (by kernel_rfl) (by kernel_rfl) (by kernel_rfl)) ?_
  intro W base args ds gs before hval0 hW hcnd _
  have hval : ∀ (j : Nat) t v, Try.f12.params[j]? = some t → args[j]? = some v → Value.okWide Try.prog W .any base t v := hval0
  have hW' := hW
  obtain ⟨p, q, hA0, hV, rfl, hfz, hnd⟩ := hW
  have hA : DataW.TrodAll enc Try.prog W 0 (fun _ => true) true Try.f12.params.toList args.toList ds p := hA0
  rw [Try.params12] at hA hval
  obtain ⟨v0, vs0, d0, ds0, p0, q0, hargs, rfl, rfl, h0, r0⟩ := trodAll_cons hA
  obtain ⟨rfl, rfl, rfl⟩ := trodAll_nil r0
  obtain rfl : args = #[v0] := by cases args; simp_all
  obtain ⟨rfl, rfl⟩ := trodVars_none hV
  have k0 := h0
  have lt0 : ∀ x ∈ p0, x.block < W.heap.size := by obtain ⟨m, hm⟩ := k0; exact DataW.trod_lt m _ _ _ hm
  obtain ⟨ns0, us0, hl0, rfl, w0⟩ := open_floats (n := 18) (f := 24) (by kernel_rfl) (by kernel_rfl) (by kernel_rfl) Try.underlying24 (hval 0 51 v0 rfl rfl)
  obtain ⟨a0x0, a0x1, a0x2, a0x3, a0x4, a0x5, a0x6, a0x7, a0x8, a0x9, a0x10, a0x11, a0x12, a0x13, a0x14, a0x15, a0x16, a0x17, rfl⟩ := len18 hl0
  clear hA0 hval0
  refine (walk a0x0 a0x1 a0x2 a0x3 a0x4 a0x5 a0x6 a0x7 a0x8 a0x9 a0x10 a0x11 a0x12 a0x13 a0x14 a0x15 a0x16 a0x17 us0 W w0).mono fun e W' ⟨he, bel⟩ => ?_
  subst he
  exact ⟨_, rfl, _, _, _, [], _, [], hW', trodAll_mk1 (shut_bool Try.underlying4 _), (trodAll_cons_mk (Below.trod laidOut (by kernel_rfl) (of_decide_eq_true (by kernel_rfl)) k0 bel lt0) trodAll_mk0), rfl, bel.frame _, fun h => by cases h⟩

theorem over : Rows.fnExactFuelOfRow.holds Try.pinned (OpenSpec.ofChange Rows.fnExactFuelOfSpec) :=
  OpenClaim.holds_of_wide 12 Try.f12 rfl rfl rfl rfl rfl rfl rfl ⟨rfl, rfl, rfl, rfl, rfl⟩ rfl rfl rfl rfl rfl (by kernel_rfl) Try.func12 (by kernel_rfl)
    (of_decide_eq_true (by kernel_rfl)) (by unfold Func.isWrapper; first | (rw [if_pos (by decide +kernel)]; kernel_rfl) | (rw [if_neg (by decide +kernel)]; exact ⟨rfl, rfl⟩))
    (fun os started H enc _ => lifted os started H enc)

theorem proved : Rows.FnExactFuelOfSaid := over
end Go.Proofs.Ytiebaggemiifoaa.fnExactFuelOf

