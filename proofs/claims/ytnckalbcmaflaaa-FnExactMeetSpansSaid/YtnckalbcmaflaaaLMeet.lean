/- For every two spans the law of MeetSpans returns true. No conditions. -/
import Derived.Test.YtnckalbcmaflaaaBi
import Derived.Test.YtnckalbcmaflaaaRows
namespace Go.Proofs.Ytnckalbcmaflaaa.fnExactMeetSpans
open Go Go.Ab Go.ChangeShapes Go.WideShapes Go.ChangeAt Go.RowKit Go.Proofs Go.Proofs.Ytnckalbcmaflaaa.ab
set_option linter.unusedVariables false
theorem own : ownKnob Try.prog.godebug = none := by kernel_rfl
theorem laidOut : laidOutB Try.prog = true := by kernel_rfl
set_option maxRecDepth 1000000 in
theorem walk (a0x0 : Nat) (a0x1 : Nat) (vs0 : List Value) (a1x0 : Nat) (a1x1 : Nat) (vs1 : List Value) (w : World) (w0 : VL noRho [.flt .f32 a0x0, .flt .f32 a0x1] vs0) (w1 : VL noRho [.flt .f32 a1x0, .flt .f32 a1x1] vs1) :
    Calls Try.prog 10 #[.agg ⟨vs0⟩, .agg ⟨vs1⟩] w fun e w' => e = .returned (.bool true) ∧ Below w.heap.size w w' := by
  have hv : VL noRho [.agg [.flt .f32 a0x0, .flt .f32 a0x1], .agg [.flt .f32 a1x0, .flt .f32 a1x1]] [.agg ⟨vs0⟩, .agg ⟨vs1⟩] := (VL_cons (agg_V w0) (VL_cons (agg_V w1) VL_nil))
  have he : lawB (evBody Try.prog GG 300 Try.f10 [.agg [.flt .f32 a0x0, .flt .f32 a0x1], .agg [.flt .f32 a1x0, .flt .f32 a1x1]] St0) = some (cond (true) (bif bif !bif !sO (wide (bif bif decide ((bif bif !fleB FloatKind.f32 a0x0 a0x1 then true else !fleB FloatKind.f32 a1x0 a1x1 then Int.ofNat 1 else Int.ofNat 0) = Int.ofNat 0) then !fleB FloatKind.f32 (bif bif !fleB FloatKind.f32 a0x0 a0x1 then true else !fleB FloatKind.f32 a1x0 a1x1 then 0 else bif fltB FloatKind.f32 a0x0 a1x0 then a1x0 else a0x0) (bif bif !fleB FloatKind.f32 a0x0 a0x1 then true else !fleB FloatKind.f32 a1x0 a1x1 then 0 else bif fltB FloatKind.f32 a1x1 a0x1 then a1x1 else a0x1) else false then 0 else bif bif !fleB FloatKind.f32 a0x0 a0x1 then true else !fleB FloatKind.f32 a1x0 a1x1 then 0 else bif fltB FloatKind.f32 a0x0 a1x0 then a1x0 else a0x0)) (wide (bif (bif bif !fleB FloatKind.f32 a0x0 a0x1 then true else !fleB FloatKind.f32 a1x0 a1x1 then Int.ofNat 1 else Int.ofNat 0) != Int.ofNat 0 then 0 else bif !fleB FloatKind.f32 (bif fltB FloatKind.f32 a0x0 a1x0 then a1x0 else a0x0) (bif fltB FloatKind.f32 a1x1 a0x1 then a1x1 else a0x1) then 0 else bif fltB FloatKind.f32 a0x0 a1x0 then a1x0 else a0x0)) then false else bif !sO (wide (bif bif decide ((bif bif !fleB FloatKind.f32 a0x0 a0x1 then true else !fleB FloatKind.f32 a1x0 a1x1 then Int.ofNat 1 else Int.ofNat 0) = Int.ofNat 0) then !fleB FloatKind.f32 (bif bif !fleB FloatKind.f32 a0x0 a0x1 then true else !fleB FloatKind.f32 a1x0 a1x1 then 0 else bif fltB FloatKind.f32 a0x0 a1x0 then a1x0 else a0x0) (bif bif !fleB FloatKind.f32 a0x0 a0x1 then true else !fleB FloatKind.f32 a1x0 a1x1 then 0 else bif fltB FloatKind.f32 a1x1 a0x1 then a1x1 else a0x1) else false then 0 else bif bif !fleB FloatKind.f32 a0x0 a0x1 then true else !fleB FloatKind.f32 a1x0 a1x1 then 0 else bif fltB FloatKind.f32 a1x1 a0x1 then a1x1 else a0x1)) (wide (bif (bif bif !fleB FloatKind.f32 a0x0 a0x1 then true else !fleB FloatKind.f32 a1x0 a1x1 then Int.ofNat 1 else Int.ofNat 0) != Int.ofNat 0 then 0 else bif !fleB FloatKind.f32 (bif fltB FloatKind.f32 a0x0 a1x0 then a1x0 else a0x0) (bif fltB FloatKind.f32 a1x1 a0x1 then a1x1 else a0x1) then 0 else bif fltB FloatKind.f32 a1x1 a0x1 then a1x1 else a0x1)) then false else true then true else (bif bif decide ((bif bif !fleB FloatKind.f32 a0x0 a0x1 then true else !fleB FloatKind.f32 a1x0 a1x1 then Int.ofNat 1 else Int.ofNat 0) = Int.ofNat 0) then !fleB FloatKind.f32 (bif bif !fleB FloatKind.f32 a0x0 a0x1 then true else !fleB FloatKind.f32 a1x0 a1x1 then 0 else bif fltB FloatKind.f32 a0x0 a1x0 then a1x0 else a0x0) (bif bif !fleB FloatKind.f32 a0x0 a0x1 then true else !fleB FloatKind.f32 a1x0 a1x1 then 0 else bif fltB FloatKind.f32 a1x1 a0x1 then a1x1 else a0x1) else false then Int.ofNat 6 else bif bif !fleB FloatKind.f32 a0x0 a0x1 then true else !fleB FloatKind.f32 a1x0 a1x1 then Int.ofNat 1 else Int.ofNat 0) != bif (bif bif !fleB FloatKind.f32 a0x0 a0x1 then true else !fleB FloatKind.f32 a1x0 a1x1 then Int.ofNat 1 else Int.ofNat 0) != Int.ofNat 0 then bif bif !fleB FloatKind.f32 a0x0 a0x1 then true else !fleB FloatKind.f32 a1x0 a1x1 then Int.ofNat 1 else Int.ofNat 0 else bif !fleB FloatKind.f32 (bif fltB FloatKind.f32 a0x0 a1x0 then a1x0 else a0x0) (bif fltB FloatKind.f32 a1x1 a0x1 then a1x1 else a0x1) then Int.ofNat 6 else Int.ofNat 0 then false else true) false) := by kernel_rfl
  refine law_of gg mixed Try.func10 Try.call10 he ?_ hv w
  clear he
  generalize fleB .f32 a0x0 a0x1 = B0
  generalize fleB .f32 a1x0 a1x1 = B1
  generalize fltB .f32 a0x0 a1x0 = B2
  generalize fltB .f32 a1x1 a0x1 = B3
  cases B0 <;> cases B1 <;> cases B2 <;> cases B3 <;> simp [ndc_eq, andN, sO_self, nrwOk_inf, nrwOk_ninf]

set_option maxRecDepth 100000 in
theorem lifted (os : Os) (started : os.Started) (H : Type) (enc : TypeId × Value → H) :
    ReturnsInHanded {} Try.checked os 10 .any (Rows.fnExactMeetSpansSpec.pre6 enc Try.prog Try.f10 Rows.fnExactMeetSpansRow.domain false) (Rows.fnExactMeetSpansSpec.post enc Try.prog Try.f10 false true false false) := by
  refine returnsInHanded_of_change (C := Try.checked) own started (by kernel_rfl) Try.func10
    (ChangeSpec.witness6 (enc := enc) (C := Try.checked) false ⟨#[], #[.agg #[.float .f32 0, .float .f32 0], .agg #[.float .f32 0, .float .f32 0]], []⟩ 8 (by kernel_rfl) (by kernel_rfl) (by kernel_rfl) (by kernel_rfl)) ?_
  intro W base args ds gs before hval0 hW hcnd _
  have hval : ∀ (j : Nat) t v, Try.f10.params[j]? = some t → args[j]? = some v → Value.okWide Try.prog W .any base t v := hval0
  have hW' := hW
  obtain ⟨p, q, hA0, hV, rfl, hfz, hnd⟩ := hW
  have hA : DataW.TrodAll enc Try.prog W 0 (fun _ => true) true Try.f10.params.toList args.toList ds p := hA0
  rw [Try.params10] at hA hval
  obtain ⟨v0, vs0, d0, ds0, p0, q0, hargs, rfl, rfl, h0, r0⟩ := trodAll_cons hA
  obtain ⟨v1, vs1, d1, ds1, p1, q1, rfl, rfl, rfl, h1, r1⟩ := trodAll_cons r0
  obtain ⟨rfl, rfl, rfl⟩ := trodAll_nil r1
  obtain rfl : args = #[v0, v1] := by cases args; simp_all
  obtain ⟨rfl, rfl⟩ := trodVars_none hV
  have k0 := h0
  have lt0 : ∀ x ∈ p0, x.block < W.heap.size := by obtain ⟨m, hm⟩ := k0; exact DataW.trod_lt m _ _ _ hm
  obtain ⟨fd0, gd0, bd0, us0, rfl, w0⟩ := open_cells (ts := [22, 22]) (sh := [.f32, .f32]) (by kernel_rfl) (by kernel_rfl) (by kernel_rfl) (by kernel_rfl) (hval 0 28 v0 rfl rfl)
  have k1 := h1
  have lt1 : ∀ x ∈ p1, x.block < W.heap.size := by obtain ⟨m, hm⟩ := k1; exact DataW.trod_lt m _ _ _ hm
  obtain ⟨fd1, gd1, bd1, us1, rfl, w1⟩ := open_cells (ts := [22, 22]) (sh := [.f32, .f32]) (by kernel_rfl) (by kernel_rfl) (by kernel_rfl) (by kernel_rfl) (hval 1 28 v1 rfl rfl)
  clear hA0 hval0
  refine (walk (fd0 0) (fd0 1) us0 (fd1 0) (fd1 1) us1 W w0 w1).mono fun e W' ⟨he, bel⟩ => ?_
  subst he
  exact ⟨_, rfl, _, _, _, [], _, [], hW', trodAll_mk1 (shut_bool Try.underlying4 _), (trodAll_cons_mk (Below.trod laidOut (by kernel_rfl) (of_decide_eq_true (by kernel_rfl)) k0 bel lt0) (trodAll_cons_mk (Below.trod laidOut (by kernel_rfl) (of_decide_eq_true (by kernel_rfl)) k1 bel lt1) trodAll_mk0)), rfl, bel.frame _, fun h => by cases h⟩

theorem over : Rows.fnExactMeetSpansRow.holds Try.pinned (OpenSpec.ofChange Rows.fnExactMeetSpansSpec) :=
  OpenClaim.holds_of_wide 10 Try.f10 rfl rfl rfl rfl rfl rfl rfl ⟨rfl, rfl, rfl, rfl, rfl⟩ rfl rfl rfl rfl rfl (by kernel_rfl) Try.func10 (by kernel_rfl)
    (of_decide_eq_true (by kernel_rfl)) (by unfold Func.isWrapper; first | (rw [if_pos (by decide +kernel)]; kernel_rfl) | (rw [if_neg (by decide +kernel)]; exact ⟨rfl, rfl⟩))
    (fun os started H enc _ => lifted os started H enc)

theorem proved : Rows.FnExactMeetSpansSaid := over
end Go.Proofs.Ytnckalbcmaflaaa.fnExactMeetSpans

