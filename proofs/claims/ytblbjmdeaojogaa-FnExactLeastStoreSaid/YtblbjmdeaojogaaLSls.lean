/- For every season, of whatever many slots, the law of LeastStore returns true, and the argument reads behind the call as before. No conditions. -/
import Derived.Test.YtblbjmdeaojogaaSb10
import Derived.Test.YtblbjmdeaojogaaRows
namespace Go.Proofs.Ytblbjmdeaojogaa.fnExactLeastStore
open Go Go.Ab Go.ChangeShapes Go.WideShapes Go.ChangeAt Go.RowKit Go.Proofs Go.Proofs.Ytblbjmdeaojogaa.ab10 Go.Proofs.Ytblbjmdeaojogaa.sea
set_option linter.unusedVariables false
def SX (n0 m0 : Nat) (gn0 gm0 g0 : Nat → Int) : Sea := { n := n0, m := m0, gn := fun k => gn0 (Nat.add 0 (Nat.add 0 (Nat.add 0 k))), gm := fun k => gm0 (Nat.add 0 (Nat.add 0 (Nat.add 0 k))), g := seaG (g0 0) (g0 1) (g0 2) (g0 3) (g0 4) }
noncomputable def V0 (n0 m0 : Nat) (gn0 gm0 g0 : Nat → Int) : Int := lsVO (SX n0 m0 gn0 gm0 g0)
noncomputable def V1 (n0 m0 : Nat) (gn0 gm0 g0 : Nat → Int) : Int := lsCO (SX n0 m0 gn0 gm0 g0)
noncomputable def T0 (n0 m0 : Nat) : Bool := decide (szS 1048576 n0 m0 < 0)
theorem own : ownKnob Try.prog.godebug = none := by kernel_rfl
theorem laidOut : laidOutB Try.prog = true := by kernel_rfl
set_option maxRecDepth 1000000 in
theorem walk (n0 m0 : Nat) (gn0 gm0 g0 : Nat → Int) (s0 t0 : Value) (w : World) (hn0 : n0 ≤ 9223372036854775807) (hm0 : m0 ≤ 9223372036854775807) (ws0 : SlV gn0 w.heap.size w s0 n0) (wt0 : SlV gm0 w.heap.size w t0 m0) :
    Calls Try.prog 10 #[.agg #[s0, t0, .int .i64 (g0 0), .int .i64 (g0 1), .int .i64 (g0 2), .int .i64 (g0 3), .int .i64 (g0 4)]] w fun e w' => e = .returned (.bool true) ∧ Below w.heap.size w w' := by
  obtain ⟨ρ, hM, hx⟩ := mem_ints (W := w) [⟨s0, n0, gn0⟩, ⟨t0, m0, gm0⟩] (by
    intro x hx
    simp only [List.mem_cons, List.not_mem_nil, or_false] at hx
    rcases hx with rfl | rfl
    all_goals first | exact ws0 | exact wt0)
  have hv : VL ρ [.agg [.vec 0 1 0 (.sym n0), .vec 1 1 0 (.sym m0), .sint .i64 (g0 0), .sint .i64 (g0 1), .sint .i64 (g0 2), .sint .i64 (g0 3), .sint .i64 (g0 4)]] [.agg #[s0, t0, .int .i64 (g0 0), .int .i64 (g0 1), .int .i64 (g0 2), .int .i64 (g0 3), .int .i64 (g0 4)]] := (VL_cons (by unfold V; exact ⟨_, rfl, VL_cons (hx 0 _ rfl) (VL_cons (hx 1 _ rfl) (VL_cons (sint_V .i64 _) (VL_cons (sint_V .i64 _) (VL_cons (sint_V .i64 _) (VL_cons (sint_V .i64 _) (VL_cons (sint_V .i64 _) VL_nil))))))⟩) VL_nil)
  have he : lawB (evBody Try.prog GG 300 Try.f10 [.agg [.vec 0 1 0 (.sym n0), .vec 1 1 0 (.sym m0), .sint .i64 (g0 0), .sint .i64 (g0 1), .sint .i64 (g0 2), .sint .i64 (g0 3), .sint .i64 (g0 4)]] (viewS [(⟨[.int .i64], .sym n0, fun _ _ => 0, fun k _ => gn0 k, fun _ _ => false, false⟩ : Vc), (⟨[.int .i64], .sym m0, fun _ _ => 0, fun k _ => gm0 k, fun _ _ => false, false⟩ : Vc)])) = some (bif ndc (T0 n0 m0) true (bif bif andN (andN (andN (andN true (bif andN (andN true (((n0.add 0).mul 8).ble 140737488355328 && (n0.add 0).ble 140737488355328 && (Nat.add 0 n0).ble n0)) (((m0.add 0).mul 8).ble 140737488355328 && (m0.add 0).ble 140737488355328 && (Nat.add 0 m0).ble m0) then bif (Nat.add 0 n0).ble n0 then (Nat.add 0 m0).ble m0 else false else false)) ((Nat.add 0 n0).ble n0 && n0.ble 9223372036854775807 && ((Nat.add 0 m0).ble m0 && m0.ble 9223372036854775807))) (bif andN (andN true (((n0.add 0).mul 8).ble 140737488355328 && (n0.add 0).ble 140737488355328 && (Nat.add 0 n0).ble n0)) (((m0.add 0).mul 8).ble 140737488355328 && (m0.add 0).ble 140737488355328 && (Nat.add 0 m0).ble m0) then bif (Nat.add 0 n0).ble n0 then (Nat.add 0 m0).ble m0 else false else false)) ((Nat.add 0 n0).ble n0 && n0.ble 9223372036854775807 && ((Nat.add 0 m0).ble m0 && m0.ble 9223372036854775807)) then true else false then ndc (bif V0 n0 m0 gn0 gm0 g0 != V0 n0 m0 gn0 gm0 g0 then true else V1 n0 m0 gn0 gm0 g0 != V1 n0 m0 gn0 gm0 g0) true (bif andN (andN true (bif andN (andN true (((n0.add 0).mul 8).ble 140737488355328 && (n0.add 0).ble 140737488355328 && (Nat.add 0 n0).ble n0)) (((m0.add 0).mul 8).ble 140737488355328 && (m0.add 0).ble 140737488355328 && (Nat.add 0 m0).ble m0) then bif (Nat.add 0 n0).ble n0 then (Nat.add 0 m0).ble m0 else false else false)) (bif andN true (n0.ble 140737488355328 && ((Nat.add 0 n0).ble n0 && (Nat.add 0 n0).ble n0)) then ndc (!eqRows elInt { sh := [CK.int IntKind.i64], n := Num.sym n0, fd := fun k o => 0, gd := fun k o => gn0 (Nat.add 0 (Nat.add 0 k)), bd := fun k o => false, wr := true } { sh := [CK.int IntKind.i64], n := Num.sym n0, fd := fun k o => 0, gd := fun k o => gn0 (Nat.add 0 (Nat.add 0 k)), bd := fun k o => false, wr := true } 0 0 n0 n0) true (bif andN true (m0.ble 140737488355328 && ((Nat.add 0 m0).ble m0 && (Nat.add 0 m0).ble m0)) then true else false) else false) then true else false) else false) then bif T0 n0 m0 then true else bif bif V0 n0 m0 gn0 gm0 g0 != V0 n0 m0 gn0 gm0 g0 then true else V1 n0 m0 gn0 gm0 g0 != V1 n0 m0 gn0 gm0 g0 then false else bif !bif !eqRows elInt { sh := [CK.int IntKind.i64], n := Num.sym n0, fd := fun k o => 0, gd := fun k o => gn0 (Nat.add 0 (Nat.add 0 k)), bd := fun k o => false, wr := true } { sh := [CK.int IntKind.i64], n := Num.sym n0, fd := fun k o => 0, gd := fun k o => gn0 (Nat.add 0 (Nat.add 0 k)), bd := fun k o => false, wr := true } 0 0 n0 n0 then false else bif !eqRows elInt { sh := [CK.int IntKind.i64], n := Num.sym m0, fd := fun k o => 0, gd := fun k o => gm0 (Nat.add 0 (Nat.add 0 k)), bd := fun k o => false, wr := true } { sh := [CK.int IntKind.i64], n := Num.sym m0, fd := fun k o => 0, gd := fun k o => gm0 (Nat.add 0 (Nat.add 0 k)), bd := fun k o => false, wr := true } 0 0 m0 m0 then false else bif g0 0 != g0 0 then false else bif g0 1 != g0 1 then false else bif g0 2 != g0 2 then false else bif g0 3 != g0 3 then false else bif g0 4 != g0 4 then false else true then false else true else false) := by kernel_rfl
  refine law_any gg mixed Try.func10 Try.call10 he ?_ hM hv
  clear he hv
  have q0 : eqRows elInt { sh := [CK.int IntKind.i64], n := Num.sym n0, fd := fun k o => 0, gd := fun k o => gn0 (Nat.add 0 (Nat.add 0 k)), bd := fun k o => false, wr := true } { sh := [CK.int IntKind.i64], n := Num.sym n0, fd := fun k o => 0, gd := fun k o => gn0 (Nat.add 0 (Nat.add 0 k)), bd := fun k o => false, wr := true } 0 0 n0 n0 = true := eqRows_self elInt_self _ _ _ _ _ (fun j hj => ⟨rfl, rfl⟩)
  have q1 : eqRows elInt { sh := [CK.int IntKind.i64], n := Num.sym m0, fd := fun k o => 0, gd := fun k o => gm0 (Nat.add 0 (Nat.add 0 k)), bd := fun k o => false, wr := true } { sh := [CK.int IntKind.i64], n := Num.sym m0, fd := fun k o => 0, gd := fun k o => gm0 (Nat.add 0 (Nat.add 0 k)), bd := fun k o => false, wr := true } 0 0 m0 m0 = true := eqRows_self elInt_self _ _ _ _ _ (fun j hj => ⟨rfl, rfl⟩)
  simp only [bne_self_eq_false, q0, q1]
  cases hT0 : T0 n0 m0 with
  | true => simp only [ndc_eq]; rfl
  | false =>
    obtain ⟨e0, c0⟩ := szS_le (l := 1048576) (by omega) (by omega) hn0 hm0 (of_decide_eq_false (show decide (szS 1048576 n0 m0 < 0) = false from hT0))
    have xn01 : Nat.ble (Nat.mul (Nat.add n0 0) 8) 140737488355328 = true := Nat.ble_eq_true_of_le (by show (n0 + 0) * 8 ≤ _; omega)
    have xn02 : Nat.ble (Nat.add n0 0) 140737488355328 = true := Nat.ble_eq_true_of_le (by show n0 + 0 ≤ _; omega)
    have xn03 : Nat.ble (Nat.add 0 n0) n0 = true := Nat.ble_eq_true_of_le (by show 0 + n0 ≤ _; omega)
    have xn04 : Nat.ble n0 9223372036854775807 = true := Nat.ble_eq_true_of_le (by omega)
    have xn05 : Nat.ble n0 140737488355328 = true := Nat.ble_eq_true_of_le (by omega)
    have xm01 : Nat.ble (Nat.mul (Nat.add m0 0) 8) 140737488355328 = true := Nat.ble_eq_true_of_le (by show (m0 + 0) * 8 ≤ _; omega)
    have xm02 : Nat.ble (Nat.add m0 0) 140737488355328 = true := Nat.ble_eq_true_of_le (by show m0 + 0 ≤ _; omega)
    have xm03 : Nat.ble (Nat.add 0 m0) m0 = true := Nat.ble_eq_true_of_le (by show 0 + m0 ≤ _; omega)
    have xm04 : Nat.ble m0 9223372036854775807 = true := Nat.ble_eq_true_of_le (by omega)
    have xm05 : Nat.ble m0 140737488355328 = true := Nat.ble_eq_true_of_le (by omega)
    simp only [xn01, xn02, xn03, xn04, xn05, xm01, xm02, xm03, xm04, xm05]
    rfl

set_option maxRecDepth 100000 in
theorem lifted (os : Os) (started : os.Started) (H : Type) (enc : TypeId × Value → H) :
    ReturnsInHanded {} Try.checked os 10 .any (Rows.fnExactLeastStoreSpec.pre6 enc Try.prog Try.f10 Rows.fnExactLeastStoreRow.domain false) (Rows.fnExactLeastStoreSpec.post enc Try.prog Try.f10 false true false false) := by
  refine returnsInHanded_of_change (C := Try.checked) own started (by kernel_rfl) Try.func10
    (ChangeSpec.witness6 (enc := enc) (C := Try.checked) false ⟨#[], #[.agg #[.slice none 0 0, .slice none 0 0, .int .i64 0, .int .i64 0, .int .i64 0, .int .i64 0, .int .i64 0]], []⟩ 8 (by kernel_rfl) (by kernel_rfl) (by kernel_rfl) (by kernel_rfl)) ?_
  intro W base args ds gs before hval0 hW hcnd _
  have hval : ∀ (j : Nat) t v, Try.f10.params[j]? = some t → args[j]? = some v → Value.okWide Try.prog W .any base t v := hval0
  have hW' := hW
  obtain ⟨p, q, hA0, hV, rfl, hfz, hnd⟩ := hW
  have hA : DataW.TrodAll enc Try.prog W 0 (fun _ => true) true Try.f10.params.toList args.toList ds p := hA0
  rw [Try.params10] at hA hval
  obtain ⟨v0, vs0, d0, ds0, p0, q0, hargs, rfl, rfl, h0, r0⟩ := trodAll_cons hA
  obtain ⟨rfl, rfl, rfl⟩ := trodAll_nil r0
  obtain rfl : args = #[v0] := by cases args; simp_all
  obtain ⟨rfl, rfl⟩ := trodVars_none hV
  have k0 := h0
  have lt0 : ∀ x ∈ p0, x.block < W.heap.size := by obtain ⟨m, hm⟩ := k0; exact DataW.trod_lt m _ _ _ hm
  obtain ⟨n0, m0, gn0, gm0, s0, t0, g0, rfl, hn0, hm0, ws0, wt0, _⟩ := open_sea (t0 := 22) (ti := 2) Try.underlying24 (by kernel_rfl) (by kernel_rfl) (by kernel_rfl) (by kernel_rfl) Try.underlying22 (elem_one (by kernel_rfl) (by kernel_rfl)) (by kernel_rfl) Try.underlying2 (hval 0 24 v0 rfl rfl) h0
  clear hA0 hval0
  refine (walk n0 m0 gn0 gm0 g0 s0 t0 W hn0 hm0 ws0 wt0).mono fun e W' ⟨he, bel⟩ => ?_
  subst he
  exact ⟨_, rfl, _, _, _, [], _, [], hW', trodAll_mk1 (shut_bool Try.underlying4 _), (trodAll_cons_mk (Below.trod laidOut (by kernel_rfl) (of_decide_eq_true (by kernel_rfl)) k0 bel lt0) trodAll_mk0), rfl, bel.frame _, fun h => by cases h⟩

theorem over : Rows.fnExactLeastStoreRow.holds Try.pinned (OpenSpec.ofChange Rows.fnExactLeastStoreSpec) :=
  OpenClaim.holds_of_wide 10 Try.f10 rfl rfl rfl rfl rfl rfl rfl ⟨rfl, rfl, rfl, rfl, rfl⟩ rfl rfl rfl rfl rfl (by kernel_rfl) Try.func10 (by kernel_rfl)
    (of_decide_eq_true (by kernel_rfl)) (by unfold Func.isWrapper; first | (rw [if_pos (by decide +kernel)]; kernel_rfl) | (rw [if_neg (by decide +kernel)]; exact ⟨rfl, rfl⟩))
    (fun os started H enc _ => lifted os started H enc)

theorem proved : Rows.FnExactLeastStoreSaid := over
end Go.Proofs.Ytblbjmdeaojogaa.fnExactLeastStore

