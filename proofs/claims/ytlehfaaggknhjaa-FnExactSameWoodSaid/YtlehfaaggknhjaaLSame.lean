/- For every two logs the law of SameWood returns true, and the arguments read behind the call as before. No conditions. -/
import Derived.Test.YtlehfaaggknhjaaBw
import Derived.Test.YtlehfaaggknhjaaRows
namespace Go.Proofs.Ytlehfaaggknhjaa.fnExactSameWood
open Go Go.Ab Go.ChangeShapes Go.WideShapes Go.ChangeAt Go.RowKit Go.Proofs Go.Proofs.Ytlehfaaggknhjaa.ab
set_option linter.unusedVariables false
theorem same18 (x0 x1 x2 x3 x4 x5 x6 x7 x8 x9 x10 x11 x12 x13 x14 x15 x16 x17 : Bool) : (cond (cond x0 (cond x1 (cond x2 (cond x3 (cond x4 (cond x5 (true) false) false) false) false) false) false) (cond (cond x6 (cond x7 (cond x8 (cond x9 (cond x10 (cond x11 (true) false) false) false) false) false) false) (cond x12 (cond x13 (cond x14 (cond x15 (cond x16 (cond x17 (true) false) false) false) false) false) false) false) false) = (cond (cond (!x0) false (cond (!x1) false (cond (!x2) false (cond (!x3) false (cond (!x4) false (cond (!x5) false (true))))))) (cond (cond (!x6) false (cond (!x7) false (cond (!x8) false (cond (!x9) false (cond (!x10) false (cond (!x11) false (true))))))) (cond (!x12) false (cond (!x13) false (cond (!x14) false (cond (!x15) false (cond (!x16) false (cond (!x17) false (true))))))) false) false) := by
  have h : ∀ s x : Bool, cond (!s) false x = cond s x false := by intro s x; cases s <;> rfl
  simp only [h]
theorem own : ownKnob Try.prog.godebug = none := by kernel_rfl
theorem laidOut : laidOutB Try.prog = true := by kernel_rfl
set_option maxRecDepth 1000000 in
theorem walk (a0x0 a0x1 a0x2 a0x3 a0x4 a0x5 a0x6 a0x7 a0x8 a0x9 a0x10 a0x11 a0x12 a0x13 a0x14 a0x15 a0x16 a0x17 : Nat) (vs0 : List Value) (a1x0 a1x1 a1x2 a1x3 a1x4 a1x5 a1x6 a1x7 a1x8 a1x9 a1x10 a1x11 a1x12 a1x13 a1x14 a1x15 a1x16 a1x17 : Nat) (vs1 : List Value) (w : World) (w0 : VL noRho (encF [a0x0, a0x1, a0x2, a0x3, a0x4, a0x5, a0x6, a0x7, a0x8, a0x9, a0x10, a0x11, a0x12, a0x13, a0x14, a0x15, a0x16, a0x17]) vs0) (w1 : VL noRho (encF [a1x0, a1x1, a1x2, a1x3, a1x4, a1x5, a1x6, a1x7, a1x8, a1x9, a1x10, a1x11, a1x12, a1x13, a1x14, a1x15, a1x16, a1x17]) vs1) :
    Calls Try.prog 9 #[.agg ⟨vs0⟩, .agg ⟨vs1⟩] w fun e w' => e = .returned (.bool true) ∧ Below w.heap.size w w' := by
  have hv : VL noRho [.agg [.flt .f32 a0x0, .flt .f32 a0x1, .flt .f32 a0x2, .flt .f32 a0x3, .flt .f32 a0x4, .flt .f32 a0x5, .flt .f32 a0x6, .flt .f32 a0x7, .flt .f32 a0x8, .flt .f32 a0x9, .flt .f32 a0x10, .flt .f32 a0x11, .flt .f32 a0x12, .flt .f32 a0x13, .flt .f32 a0x14, .flt .f32 a0x15, .flt .f32 a0x16, .flt .f32 a0x17], .agg [.flt .f32 a1x0, .flt .f32 a1x1, .flt .f32 a1x2, .flt .f32 a1x3, .flt .f32 a1x4, .flt .f32 a1x5, .flt .f32 a1x6, .flt .f32 a1x7, .flt .f32 a1x8, .flt .f32 a1x9, .flt .f32 a1x10, .flt .f32 a1x11, .flt .f32 a1x12, .flt .f32 a1x13, .flt .f32 a1x14, .flt .f32 a1x15, .flt .f32 a1x16, .flt .f32 a1x17]] [.agg ⟨vs0⟩, .agg ⟨vs1⟩] := (VL_cons (agg_V w0) (VL_cons (agg_V w1) VL_nil))
  have he : lawB (evBody Try.prog GG 300 Try.f9 [.agg [.flt .f32 a0x0, .flt .f32 a0x1, .flt .f32 a0x2, .flt .f32 a0x3, .flt .f32 a0x4, .flt .f32 a0x5, .flt .f32 a0x6, .flt .f32 a0x7, .flt .f32 a0x8, .flt .f32 a0x9, .flt .f32 a0x10, .flt .f32 a0x11, .flt .f32 a0x12, .flt .f32 a0x13, .flt .f32 a0x14, .flt .f32 a0x15, .flt .f32 a0x16, .flt .f32 a0x17], .agg [.flt .f32 a1x0, .flt .f32 a1x1, .flt .f32 a1x2, .flt .f32 a1x3, .flt .f32 a1x4, .flt .f32 a1x5, .flt .f32 a1x6, .flt .f32 a1x7, .flt .f32 a1x8, .flt .f32 a1x9, .flt .f32 a1x10, .flt .f32 a1x11, .flt .f32 a1x12, .flt .f32 a1x13, .flt .f32 a1x14, .flt .f32 a1x15, .flt .f32 a1x16, .flt .f32 a1x17]] St0) = some (cond ((cond (cond (nbF a0x0 == nbF a1x0) (cond (nbF a0x1 == nbF a1x1) (cond (nbF a0x2 == nbF a1x2) (cond (nbF a0x3 == nbF a1x3) (cond (nbF a0x4 == nbF a1x4) (cond (nbF a0x5 == nbF a1x5) (true) false) false) false) false) false) false) (cond (cond (nbF a0x6 == nbF a1x6) (cond (nbF a0x7 == nbF a1x7) (cond (nbF a0x8 == nbF a1x8) (cond (nbF a0x9 == nbF a1x9) (cond (nbF a0x10 == nbF a1x10) (cond (nbF a0x11 == nbF a1x11) (true) false) false) false) false) false) false) (cond (nbF a0x12 == nbF a1x12) (cond (nbF a0x13 == nbF a1x13) (cond (nbF a0x14 == nbF a1x14) (cond (nbF a0x15 == nbF a1x15) (cond (nbF a0x16 == nbF a1x16) (cond (nbF a0x17 == nbF a1x17) (true) false) false) false) false) false) false) false) false) != (cond (cond (!(nbF a0x0 == nbF a1x0)) false (cond (!(nbF a0x1 == nbF a1x1)) false (cond (!(nbF a0x2 == nbF a1x2)) false (cond (!(nbF a0x3 == nbF a1x3)) false (cond (!(nbF a0x4 == nbF a1x4)) false (cond (!(nbF a0x5 == nbF a1x5)) false (true))))))) (cond (cond (!(nbF a0x6 == nbF a1x6)) false (cond (!(nbF a0x7 == nbF a1x7)) false (cond (!(nbF a0x8 == nbF a1x8)) false (cond (!(nbF a0x9 == nbF a1x9)) false (cond (!(nbF a0x10 == nbF a1x10)) false (cond (!(nbF a0x11 == nbF a1x11)) false (true))))))) (cond (!(nbF a0x12 == nbF a1x12)) false (cond (!(nbF a0x13 == nbF a1x13)) false (cond (!(nbF a0x14 == nbF a1x14)) false (cond (!(nbF a0x15 == nbF a1x15)) false (cond (!(nbF a0x16 == nbF a1x16)) false (cond (!(nbF a0x17 == nbF a1x17)) false (true))))))) false) false)) false true) := by kernel_rfl
  exact law_of gg mixed Try.func9 Try.call9 he (neq_self2 (same18 _ _ _ _ _ _ _ _ _ _ _ _ _ _ _ _ _ _)) hv w
set_option maxRecDepth 100000 in
theorem lifted (os : Os) (started : os.Started) (H : Type) (enc : TypeId × Value → H) :
    ReturnsInHanded {} Try.checked os 9 .any (Rows.fnExactSameWoodSpec.pre6 enc Try.prog Try.f9 Rows.fnExactSameWoodRow.domain false) (Rows.fnExactSameWoodSpec.post enc Try.prog Try.f9 false true false false) := by
  refine returnsInHanded_of_change (C := Try.checked) own started (by kernel_rfl) Try.func9
    (ChangeSpec.witness6 (enc := enc) (C := Try.checked) false ⟨#[], #[.agg (Array.replicate 18 (.float .f32 0)), .agg (Array.replicate 18 (.float .f32 0))], []⟩ 8 (by kernel_rfl) (by kernel_rfl) (by kernel_rfl) (by kernel_rfl)) ?_
  intro W base args ds gs before hval0 hW hcnd _
  have hval : ∀ (j : Nat) t v, Try.f9.params[j]? = some t → args[j]? = some v → Value.okWide Try.prog W .any base t v := hval0
  have hW' := hW
  obtain ⟨p, q, hA0, hV, rfl, hfz, hnd⟩ := hW
  have hA : DataW.TrodAll enc Try.prog W 0 (fun _ => true) true Try.f9.params.toList args.toList ds p := hA0
  rw [Try.params9] at hA hval
  obtain ⟨v0, vs0, d0, ds0, p0, q0, hargs, rfl, rfl, h0, r0⟩ := trodAll_cons hA
  obtain ⟨v1, vs1, d1, ds1, p1, q1, rfl, rfl, rfl, h1, r1⟩ := trodAll_cons r0
  obtain ⟨rfl, rfl, rfl⟩ := trodAll_nil r1
  obtain rfl : args = #[v0, v1] := by cases args; simp_all
  obtain ⟨rfl, rfl⟩ := trodVars_none hV
  have k0 := h0
  have lt0 : ∀ x ∈ p0, x.block < W.heap.size := by obtain ⟨m, hm⟩ := k0; exact DataW.trod_lt m _ _ _ hm
  obtain ⟨ns0, us0, hl0, rfl, w0⟩ := open_floats (n := 18) (f := 24) (by kernel_rfl) (by kernel_rfl) (by kernel_rfl) Try.underlying24 (hval 0 51 v0 rfl rfl)
  obtain ⟨a0x0, a0x1, a0x2, a0x3, a0x4, a0x5, a0x6, a0x7, a0x8, a0x9, a0x10, a0x11, a0x12, a0x13, a0x14, a0x15, a0x16, a0x17, rfl⟩ := len18 hl0
  have k1 := h1
  have lt1 : ∀ x ∈ p1, x.block < W.heap.size := by obtain ⟨m, hm⟩ := k1; exact DataW.trod_lt m _ _ _ hm
  obtain ⟨ns1, us1, hl1, rfl, w1⟩ := open_floats (n := 18) (f := 24) (by kernel_rfl) (by kernel_rfl) (by kernel_rfl) Try.underlying24 (hval 1 51 v1 rfl rfl)
  obtain ⟨a1x0, a1x1, a1x2, a1x3, a1x4, a1x5, a1x6, a1x7, a1x8, a1x9, a1x10, a1x11, a1x12, a1x13, a1x14, a1x15, a1x16, a1x17, rfl⟩ := len18 hl1
  clear hA0 hval0
  refine (walk a0x0 a0x1 a0x2 a0x3 a0x4 a0x5 a0x6 a0x7 a0x8 a0x9 a0x10 a0x11 a0x12 a0x13 a0x14 a0x15 a0x16 a0x17 us0 a1x0 a1x1 a1x2 a1x3 a1x4 a1x5 a1x6 a1x7 a1x8 a1x9 a1x10 a1x11 a1x12 a1x13 a1x14 a1x15 a1x16 a1x17 us1 W w0 w1).mono fun e W' ⟨he, bel⟩ => ?_
  subst he
  exact ⟨_, rfl, _, _, _, [], _, [], hW', trodAll_mk1 (shut_bool Try.underlying4 _), (trodAll_cons_mk (Below.trod laidOut (by kernel_rfl) (of_decide_eq_true (by kernel_rfl)) k0 bel lt0) (trodAll_cons_mk (Below.trod laidOut (by kernel_rfl) (of_decide_eq_true (by kernel_rfl)) k1 bel lt1) trodAll_mk0)), rfl, bel.frame _, fun h => by cases h⟩

theorem over : Rows.fnExactSameWoodRow.holds Try.pinned (OpenSpec.ofChange Rows.fnExactSameWoodSpec) :=
  OpenClaim.holds_of_wide 9 Try.f9 rfl rfl rfl rfl rfl rfl rfl ⟨rfl, rfl, rfl, rfl, rfl⟩ rfl rfl rfl rfl rfl (by kernel_rfl) Try.func9 (by kernel_rfl)
    (of_decide_eq_true (by kernel_rfl)) (by unfold Func.isWrapper; first | (rw [if_pos (by decide +kernel)]; kernel_rfl) | (rw [if_neg (by decide +kernel)]; exact ⟨rfl, rfl⟩))
    (fun os started H enc _ => lifted os started H enc)

theorem proved : Rows.FnExactSameWoodSaid := over
end Go.Proofs.Ytlehfaaggknhjaa.fnExactSameWood

