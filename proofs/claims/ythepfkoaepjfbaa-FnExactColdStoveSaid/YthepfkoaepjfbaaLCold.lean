/- For every heat the law of ColdStove returns true. No conditions. -/
import Derived.Test.YthepfkoaepjfbaaBv2
import Derived.Test.YthepfkoaepjfbaaRows
namespace Go.Proofs.Ythepfkoaepjfbaa.fnExactColdStove
open Go Go.Ab Go.ChangeShapes Go.WideShapes Go.ChangeAt Go.RowKit Go.Proofs Go.Proofs.Ythepfkoaepjfbaa.ab
set_option linter.unusedVariables false
noncomputable def L0 (n : Nat) : Int := cond (decide (IntKind.i64.wrap (1048576 - Int.ofNat n) < 0)) (-1) (IntKind.i64.wrap (1048576 - Int.ofNat n))
noncomputable def T1 (n : Nat) : Bool := decide ((cond (decide (L0 n < 0)) (-1) (L0 n)) < 0)
theorem T1_le {n : Nat} (hn : n ≤ 9223372036854775807) (h : T1 n = false) : n ≤ 1048576 := by
  have h := of_decide_eq_false (show decide ((cond (decide (L0 n < 0)) (-1) (L0 n)) < 0) = false from h)
  have hw : IntKind.i64.wrap (1048576 - Int.ofNat n) = 1048576 - Int.ofNat n := IntWalk.i64_in _ (by show _ ≤ 1048576 - (n : Int) ∧ 1048576 - (n : Int) ≤ _; omega)
  by_cases k : (1048576 - (n : Int)) < 0
  · exfalso
    have e : L0 n = -1 := by
      unfold L0
      rw [hw, decide_eq_true (show (1048576 - Int.ofNat n : Int) < 0 from k)]; rfl
    rw [e] at h
    exact h (by decide)
  · omega
theorem andN_eq (a b : Bool) : andN a b = (a && b) := by cases a <;> cases b <;> rfl
theorem ble_eq (x y : Nat) : Nat.ble x y = decide (x ≤ y) := by
  by_cases h : x ≤ y
  · rw [decide_eq_true h]; exact Nat.ble_eq_true_of_le h
  · rw [decide_eq_false h]
    cases hb : Nat.ble x y with
    | false => rfl
    | true => exact absurd (Nat.le_of_ble_eq_true hb) h
theorem eq_same {v v' : Vc} {n n' : Nat} (hn : n = n') (h : ∀ k, v.fd k = v'.fd k ∧ v.gd k = v'.gd k) : eqRows elWood v v' 0 0 n n' = true := by
  subst hn
  exact eqRows_self elWood_self _ _ _ _ _ (fun j hj => ⟨(h _).1, (h _).2⟩)
theorem hld1 {v : Vc} {n : Nat} (hs : v.sh = wSh) (hn : n ≤ 1048576) : hldB wSh (mrkJ v 0 1 n) 0 n 1 = true :=
  hldB_mrk hs (by decide) (by decide) (fun j hj => by
    have e : lenL wSh = 18 := by decide
    rw [e]; omega)
theorem own : ownKnob Try.prog.godebug = none := by kernel_rfl
theorem laidOut : laidOutB Try.prog = true := by kernel_rfl
set_option maxRecDepth 1000000 in
theorem walk (a0 : Nat) (w : World) (w0 : wfW .f32 a0) :
    Calls Try.prog 5 #[.float .f32 a0] w fun e w' => e = .returned (.bool true) ∧ Below w.heap.size w w' := by
  have hv : VL noRho [.flt .f32 a0] [.float .f32 a0] := (VL_cons (flt_V .f32 w0) VL_nil)
  have he : lawB (evBody Try.prog GG 300 Try.f5 [.flt .f32 a0] (St0)) = some (cond (true) (bif bif !bif !sO (wide (bif bif bif bif !bif bif fleB FloatKind.f32 3262119936 a0 then fleB FloatKind.f32 a0 1153138688 else false then bif shO 1065353216 then fltB FloatKind.f32 0 1065353216 else false else false then true else false then true else false then true else false then 0 else a0)) (wide (bif !bif bif fleB FloatKind.f32 3262119936 a0 then bif !fleB FloatKind.f32 a0 1153138688 then true else bif !shO 1065353216 then true else fleB FloatKind.f32 1065353216 0 else true then false else true then 0 else a0)) then false else bif !sO (wide (bif bif bif bif !bif bif fleB FloatKind.f32 3262119936 a0 then fleB FloatKind.f32 a0 1153138688 else false then bif shO 1065353216 then fltB FloatKind.f32 0 1065353216 else false else false then true else false then true else false then true else false then 0 else 1065353216)) (wide (bif !bif bif fleB FloatKind.f32 3262119936 a0 then bif !fleB FloatKind.f32 a0 1153138688 then true else bif !shO 1065353216 then true else fleB FloatKind.f32 1065353216 0 else true then false else true then 0 else 1065353216)) then false else bif !sO (wide (bif bif bif bif !bif bif fleB FloatKind.f32 3262119936 a0 then fleB FloatKind.f32 a0 1153138688 else false then bif shO 1065353216 then fltB FloatKind.f32 0 1065353216 else false else false then true else false then true else false then true else false then 0 else 0)) (wide (bif !bif bif fleB FloatKind.f32 3262119936 a0 then bif !fleB FloatKind.f32 a0 1153138688 then true else bif !shO 1065353216 then true else fleB FloatKind.f32 1065353216 0 else true then false else true then 0 else 0)) then false else true then true else (bif bif bif bif !bif bif fleB FloatKind.f32 3262119936 a0 then fleB FloatKind.f32 a0 1153138688 else false then bif shO 1065353216 then fltB FloatKind.f32 0 1065353216 else false else false then true else false then true else false then true else false then Int.ofNat 1 else Int.ofNat 0) != bif !bif bif fleB FloatKind.f32 3262119936 a0 then bif !fleB FloatKind.f32 a0 1153138688 then true else bif !shO 1065353216 then true else fleB FloatKind.f32 1065353216 0 else true then false else true then Int.ofNat 1 else Int.ofNat 0 then false else bif decide ((Int.ofNat 1).add (Int.ofNat 0) < Int.ofNat 0) then false else bif (Int.ofNat 1).add (Int.ofNat 0) != (Int.ofNat 1).add (Int.ofNat 0) then false else bif bif !bif !sO (wide (bif bif bif bif !bif bif fleB FloatKind.f32 3262119936 a0 then fleB FloatKind.f32 a0 1153138688 else false then bif shO 1065353216 then fltB FloatKind.f32 0 1065353216 else false else false then true else false then true else false then true else false then 0 else a0)) (wide (bif !bif bif fleB FloatKind.f32 3262119936 a0 then bif !fleB FloatKind.f32 a0 1153138688 then true else bif !shO 1065353216 then true else fleB FloatKind.f32 1065353216 0 else true then false else true then 0 else a0)) then false else bif !sO (wide (bif bif bif bif !bif bif fleB FloatKind.f32 3262119936 a0 then fleB FloatKind.f32 a0 1153138688 else false then bif shO 1065353216 then fltB FloatKind.f32 0 1065353216 else false else false then true else false then true else false then true else false then 0 else 1065353216)) (wide (bif !bif bif fleB FloatKind.f32 3262119936 a0 then bif !fleB FloatKind.f32 a0 1153138688 then true else bif !shO 1065353216 then true else fleB FloatKind.f32 1065353216 0 else true then false else true then 0 else 1065353216)) then false else bif !sO (wide (bif bif bif bif !bif bif fleB FloatKind.f32 3262119936 a0 then fleB FloatKind.f32 a0 1153138688 else false then bif shO 1065353216 then fltB FloatKind.f32 0 1065353216 else false else false then true else false then true else false then true else false then 0 else 0)) (wide (bif !bif bif fleB FloatKind.f32 3262119936 a0 then bif !fleB FloatKind.f32 a0 1153138688 then true else bif !shO 1065353216 then true else fleB FloatKind.f32 1065353216 0 else true then false else true then 0 else 0)) then false else true then true else (bif bif bif bif !bif bif fleB FloatKind.f32 3262119936 a0 then fleB FloatKind.f32 a0 1153138688 else false then bif shO 1065353216 then fltB FloatKind.f32 0 1065353216 else false else false then true else false then true else false then true else false then Int.ofNat 1 else Int.ofNat 0) != bif !bif bif fleB FloatKind.f32 3262119936 a0 then bif !fleB FloatKind.f32 a0 1153138688 then true else bif !shO 1065353216 then true else fleB FloatKind.f32 1065353216 0 else true then false else true then Int.ofNat 1 else Int.ofNat 0 then false else bif decide ((Int.ofNat 1).add (Int.ofNat 0) < Int.ofNat 0) then false else bif (Int.ofNat 1).add (Int.ofNat 0) != (Int.ofNat 1).add (Int.ofNat 0) then false else true) false) := by kernel_rfl
  refine law_of gg mixed Try.func5 Try.call5 he ?_ hv w
  clear he
  have hf : fleB FloatKind.f32 1065353216 0 = !fltB FloatKind.f32 0 1065353216 := fle_one rfl
  rw [hf]
  generalize fleB FloatKind.f32 3262119936 a0 = B0
  generalize fleB FloatKind.f32 a0 1153138688 = B1
  generalize shO 1065353216 = B2
  generalize fltB FloatKind.f32 0 1065353216 = B3
  cases B0 <;> cases B1 <;> cases B2 <;> cases B3 <;> simp [sO_self]

set_option maxRecDepth 100000 in
theorem lifted (os : Os) (started : os.Started) (H : Type) (enc : TypeId × Value → H) :
    ReturnsInHanded {} Try.checked os 5 .any (Rows.fnExactColdStoveSpec.pre6 enc Try.prog Try.f5 Rows.fnExactColdStoveRow.domain false) (Rows.fnExactColdStoveSpec.post enc Try.prog Try.f5 false true false false) := by
  refine returnsInHanded_of_change (C := Try.checked) own started (by kernel_rfl) Try.func5
    (ChangeSpec.witness6 (enc := enc) (C := Try.checked) false ⟨#[], #[.float .f32 0], []⟩ 8 (by kernel_rfl) (by kernel_rfl) (by kernel_rfl) (by kernel_rfl)) ?_
  intro W base args ds gs before hval0 hW hcnd _
  have hval : ∀ (j : Nat) t v, Try.f5.params[j]? = some t → args[j]? = some v → Value.okWide Try.prog W .any base t v := hval0
  have hW' := hW
  obtain ⟨p, q, hA0, hV, rfl, hfz, hnd⟩ := hW
  have hA : DataW.TrodAll enc Try.prog W 0 (fun _ => true) true Try.f5.params.toList args.toList ds p := hA0
  rw [Try.params5] at hA hval
  obtain ⟨v0, vs0, d0, ds0, p0, q0, hargs, rfl, rfl, h0, r0⟩ := trodAll_cons hA
  obtain ⟨rfl, rfl, rfl⟩ := trodAll_nil r0
  obtain rfl : args = #[v0] := by cases args; simp_all
  obtain ⟨rfl, rfl⟩ := trodVars_none hV
  obtain ⟨a0, rfl, rfl, rfl, w0⟩ := open_float Try.underlying23 (hval 0 23 v0 rfl rfl) h0
  clear hA0 hval0
  refine (walk a0 W (lit32 w0)).mono fun e W' ⟨he, bel⟩ => ?_
  subst he
  exact ⟨_, rfl, _, _, _, [], _, [], hW', trodAll_mk1 (shut_bool Try.underlying4 _), (trodAll_cons_mk (shut_float Try.underlying23 w0) trodAll_mk0), rfl, bel.frame _, fun h => by cases h⟩

theorem over : Rows.fnExactColdStoveRow.holds Try.pinned (OpenSpec.ofChange Rows.fnExactColdStoveSpec) :=
  OpenClaim.holds_of_wide 5 Try.f5 rfl rfl rfl rfl rfl rfl rfl ⟨rfl, rfl, rfl, rfl, rfl⟩ rfl rfl rfl rfl rfl (by kernel_rfl) Try.func5 (by kernel_rfl)
    (of_decide_eq_true (by kernel_rfl)) (by unfold Func.isWrapper; first | (rw [if_pos (by decide +kernel)]; kernel_rfl) | (rw [if_neg (by decide +kernel)]; exact ⟨rfl, rfl⟩))
    (fun os started H enc _ => lifted os started H enc)

theorem proved : Rows.FnExactColdStoveSaid := over
end Go.Proofs.Ythepfkoaepjfbaa.fnExactColdStove

