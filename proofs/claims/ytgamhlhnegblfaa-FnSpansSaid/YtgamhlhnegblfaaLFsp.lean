/- For every two lists of bytes the law of spans returns true, and the arguments read behind the call as before. No conditions. -/
import Derived.Test.YtgamhlhnegblfaaBs5
import Derived.Test.YtgamhlhnegblfaaAbU8
import Derived.Test.YtgamhlhnegblfaaRows
namespace Go.Proofs.Ytgamhlhnegblfaa.fnSpans
open Go Go.Ab Go.ChangeShapes Go.WideShapes Go.ChangeAt Go.RowKit Go.Proofs Go.Proofs.Ytgamhlhnegblfaa.ab
set_option linter.unusedVariables false
set_option linter.unusedSimpArgs false
theorem own : ownKnob Try.prog.godebug = none := by kernel_rfl
theorem laidOut : laidOutB Try.prog = true := by kernel_rfl
noncomputable def xW (L H : Nat) (m : Int) : Nat := fop .add .f32 L (fop .mul .f32 (fop .quo .f32 (ofInt .f32 m) 1098907648) (fop .sub .f32 H L))
set_option maxRecDepth 1000000 in
theorem walk (n m : Nat) (fd fe : Nat → Nat → Nat) (gd ge : Nat → Nat → Int) (bd be : Nat → Nat → Bool) (hb : ∀ k, k < n → 0 ≤ gd k 0 ∧ gd k 0 ≤ 255) (hc : ∀ k, k < m → 0 ≤ ge k 0 ∧ ge k 0 ≤ 255) (ρ : Rho) (v0 v1 : Value) (w : World)
    (hM : Mem NoM w ρ (viewS [⟨[.int .u8], .sym n, fd, gd, bd, false⟩, ⟨[.int .u8], .sym m, fe, ge, be, false⟩]) w) (w0 : V ρ (.vec 0 1 0 (.sym n)) v0) (w1 : V ρ (.vec 1 1 0 (.sym m)) v1) :
    Calls Try.prog 14 #[v0, v1] w fun e w' => e = .returned (.bool true) ∧ Below w.heap.size w w' := by
  have hv : VL ρ [.vec 0 1 0 (.sym n), .vec 1 1 0 (.sym m)] [v0, v1] := (VL_cons w0 (VL_cons w1 VL_nil))
  have he : lawB (evBody Try.prog L4 300 Try.f14 [.vec 0 1 0 (.sym n), .vec 1 1 0 (.sym m)] (viewS [(⟨[.int .u8], .sym n, fd, gd, bd, false⟩ : Vc), ⟨[.int .u8], .sym m, fe, ge, be, false⟩])) =
      some (cond (ndc (cond (decide (Int.ofNat n > Int.ofNat 3000)) true (decide (Int.ofNat m > Int.ofNat 3000))) true (NF n m (any0 n fun k o => gd (Nat.add 0 k) o) (lo0 n fun k o => gd (Nat.add 0 k) o) (hi0 n fun k o => gd (Nat.add 0 k) o) (xW (lo0 n fun k o => gd (Nat.add 0 k) o) (hi0 n fun k o => gd (Nat.add 0 k) o) (at0 m fun k o => ge (Nat.add 0 k) o)) (lo0 m fun k o => ge (Nat.add 0 k) o) (hi0 m fun k o => ge (Nat.add 0 k) o) (xW (lo0 m fun k o => ge (Nat.add 0 k) o) (hi0 m fun k o => ge (Nat.add 0 k) o) (at0 n fun k o => gd (Nat.add 0 k) o))))
        (cond (cond (decide (Int.ofNat n > Int.ofNat 3000)) true (decide (Int.ofNat m > Int.ofNat 3000))) true (VF (any0 n fun k o => gd (Nat.add 0 k) o) (lo0 n fun k o => gd (Nat.add 0 k) o) (hi0 n fun k o => gd (Nat.add 0 k) o) (xW (lo0 n fun k o => gd (Nat.add 0 k) o) (hi0 n fun k o => gd (Nat.add 0 k) o) (at0 m fun k o => ge (Nat.add 0 k) o)) (lo0 m fun k o => ge (Nat.add 0 k) o) (hi0 m fun k o => ge (Nat.add 0 k) o) (xW (lo0 m fun k o => ge (Nat.add 0 k) o) (hi0 m fun k o => ge (Nat.add 0 k) o) (at0 n fun k o => gd (Nat.add 0 k) o)))) false) := by kernel_rfl
  refine law_any l4 mixed Try.func14 Try.call14 he ?_ hM hv
  clear he hv
  have z1 : ∀ k : Nat, Nat.add 0 k = k := fun k => Nat.zero_add k
  simp only [z1]
  obtain ⟨p1, q1, a1, a2, a3, a4, a5, a6⟩ := span_facts n gd hb
  obtain ⟨p2, q2, b1, b2, b3, b4, b5, b6⟩ := span_facts m ge hc
  have g1 := at_facts n gd hb
  have g2 := at_facts m ge hc
  have x1 := x_facts (L := lo0 n gd) (H := hi0 n gd) (l := (p1 - 32) * 32) (q := q1) (m := at0 m ge) ⟨by omega, by omega⟩ ⟨a3, a4⟩ g2 a5 a6
  have x2 := x_facts (L := lo0 m ge) (H := hi0 m ge) (l := (p2 - 32) * 32) (q := q2) (m := at0 n gd) ⟨by omega, by omega⟩ ⟨b3, b4⟩ g1 b5 b6
  have m1 : 0 ≤ at0 m ge * q1 ∧ at0 m ge * q1 ≤ q1 * 16 := ⟨Int.mul_nonneg g2.1 a3, by have := Int.mul_le_mul_of_nonneg_right g2.2 a3; omega⟩
  have m2 : 0 ≤ at0 n gd * q2 ∧ at0 n gd * q2 ≤ q2 * 16 := ⟨Int.mul_nonneg g1.1 b3, by have := Int.mul_le_mul_of_nonneg_right g1.2 b3; omega⟩
  obtain ⟨t1, t2⟩ := form_true (n := n) (m := m) (A := any0 n gd) (any0_wf n gd) a5 a6 x1 b5 b6 x2 (by omega) (by omega) (by omega) (by omega) (by omega) (by omega) (by omega) (by omega)
  have t1 : VF (any0 n gd) (lo0 n gd) (hi0 n gd) (xW (lo0 n gd) (hi0 n gd) (at0 m ge)) (lo0 m ge) (hi0 m ge) (xW (lo0 m ge) (hi0 m ge) (at0 n gd)) = true := t1
  have t2 : NF n m (any0 n gd) (lo0 n gd) (hi0 n gd) (xW (lo0 n gd) (hi0 n gd) (at0 m ge)) (lo0 m ge) (hi0 m ge) (xW (lo0 m ge) (hi0 m ge) (at0 n gd)) = true := t2
  rw [t1, t2, ndc_eq]
  cases (cond (decide (Int.ofNat n > Int.ofNat 3000)) true (decide (Int.ofNat m > Int.ofNat 3000))) <;> rfl

set_option maxRecDepth 100000 in
theorem lifted (os : Os) (started : os.Started) (H : Type) (enc : TypeId × Value → H) :
    ReturnsInHanded {} Try.checked os 14 .any (Rows.fnSpansSpec.pre6 enc Try.prog Try.f14 Rows.fnSpansRow.domain false) (Rows.fnSpansSpec.post enc Try.prog Try.f14 false true false false) := by
  refine returnsInHanded_of_change (C := Try.checked) own started (by kernel_rfl) Try.func14
    (ChangeSpec.witness6 (enc := enc) (C := Try.checked) false ⟨#[], #[.slice none 0 0, .slice none 0 0], []⟩ 8 (by kernel_rfl) (by kernel_rfl) (by kernel_rfl) (by kernel_rfl)) ?_
  intro W base args ds gs before hval0 hW hcnd _
  have hval : ∀ (j : Nat) t v, Try.f14.params[j]? = some t → args[j]? = some v → Value.okWide Try.prog W .any base t v := hval0
  have hW' := hW
  obtain ⟨p, q, hA0, hV, rfl, hfz, hnd⟩ := hW
  have hA : DataW.TrodAll enc Try.prog W 0 (fun _ => true) true Try.f14.params.toList args.toList ds p := hA0
  rw [Try.params14] at hA hval
  obtain ⟨v0, vs0, d0, ds0, p0, q0, hargs, rfl, rfl, h0, r0⟩ := trodAll_cons hA
  obtain ⟨v1, vs1, d1, ds1, p1, q1, rfl, rfl, rfl, h1, r1⟩ := trodAll_cons r0
  obtain ⟨rfl, rfl, rfl⟩ := trodAll_nil r1
  obtain rfl : args = #[v0, v1] := by cases args; simp_all
  obtain ⟨rfl, rfl⟩ := trodVars_none hV
  have k0 := h0
  have lt0 : ∀ x ∈ p0, x.block < W.heap.size := by obtain ⟨m, hm⟩ := k0; exact DataW.trod_lt m _ _ _ hm
  obtain ⟨n0, fd0, gd0, bd0, ρ0, hn0, hM0, w0, hb0⟩ := open_u8 Try.underlying41 Try.underlying5 (elem_one (by kernel_rfl) (by kernel_rfl)) (by kernel_rfl) (hval 0 41 v0 rfl rfl) h0
  have k1 := h1
  have lt1 : ∀ x ∈ p1, x.block < W.heap.size := by obtain ⟨m, hm⟩ := k1; exact DataW.trod_lt m _ _ _ hm
  obtain ⟨n1, fd1, gd1, bd1, ρ1, hn1, hM1, w1, hb1⟩ := open_u8 Try.underlying41 Try.underlying5 (elem_one (by kernel_rfl) (by kernel_rfl)) (by kernel_rfl) (hval 1 41 v1 rfl rfl) h1
  obtain ⟨ρ, hM, w0, w1⟩ := views2 hM0 hM1 w0 w1
  clear hA0 hval0
  refine (walk n0 n1 fd0 fd1 gd0 gd1 bd0 bd1 hb0 hb1 ρ v0 v1 W hM w0 w1).mono fun e W' ⟨he, bel⟩ => ?_
  subst he
  exact ⟨_, rfl, _, _, _, [], _, [], hW', trodAll_mk1 (shut_bool Try.underlying4 _), (trodAll_cons_mk (Below.trod laidOut (by kernel_rfl) (of_decide_eq_true (by kernel_rfl)) k0 bel lt0) (trodAll_cons_mk (Below.trod laidOut (by kernel_rfl) (of_decide_eq_true (by kernel_rfl)) k1 bel lt1) trodAll_mk0)), rfl, bel.frame _, fun h => by cases h⟩

theorem over : Rows.fnSpansRow.holds Try.pinned (OpenSpec.ofChange Rows.fnSpansSpec) :=
  OpenClaim.holds_of_wide 14 Try.f14 rfl rfl rfl rfl rfl rfl rfl ⟨rfl, rfl, rfl, rfl, rfl⟩ rfl rfl rfl rfl rfl (by kernel_rfl) Try.func14 (by kernel_rfl)
    (of_decide_eq_true (by kernel_rfl)) (by unfold Func.isWrapper; first | (rw [if_pos (by decide +kernel)]; kernel_rfl) | (rw [if_neg (by decide +kernel)]; exact ⟨rfl, rfl⟩))
    (fun os started H enc _ => lifted os started H enc)

theorem proved : Rows.FnSpansSaid := over
end Go.Proofs.Ytgamhlhnegblfaa.fnSpans
