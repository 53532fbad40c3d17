/- For every log the law of BurningLayers returns true, and the argument reads behind the call as before. No conditions. -/
import Derived.Test.YtendlfonbfnopaaBy
import Derived.Test.YtendlfonbfnopaaRows
namespace Go.Proofs.Ytendlfonbfnopaa.fnExactBurningLayers
open Go Go.Ab Go.ChangeShapes Go.WideShapes Go.ChangeAt Go.RowKit Go.Proofs Go.Proofs.Ytendlfonbfnopaa.ab
set_option linter.unusedVariables false
def oneI (k : Int) : Vc := Vc.ofCells [.int .i64] 1 [.int .i64 k]
def accN : Option (Num × Vc) → Num | none => .lit 0 | some p => p.1
def accV : Option (Num × Vc) → Vc | none => Vc.none [] | some p => shiftV p.2 0 p.1
def accS (k : Int) : Option (Num × Vc) → Option (Num × Vc)
  | none => some (.lit 1, Vc.join [.int .i64] (.lit 0) 0 none (.lit 1) 0 (oneI k))
  | some p => some (addNum p.1 (.lit 1), Vc.join [.int .i64] p.1 0 (some p.2) (.lit 1) 0 (oneI k))
def trI : List Bool → Int → Option (Num × Vc) → Vc
  | [], _, acc => accV acc
  | t :: r, k, acc => mergeVr t (trI r (k + 1) acc) (trI r (k + 1) (accS k acc))
def trN : List Bool → Int → Option (Num × Vc) → Num
  | [], _, acc => accN acc
  | t :: r, k, acc => mergeNum t (trN r (k + 1) acc) (trN r (k + 1) (accS k acc))
def tsI : List Bool → Int → Option (Num × Vc) → Vc
  | [], _, acc => accV acc
  | t :: r, k, acc => mergeVr t (tsI r (k + 1) (accS k acc)) (tsI r (k + 1) acc)
def tsN : List Bool → Int → Option (Num × Vc) → Num
  | [], _, acc => accN acc
  | t :: r, k, acc => mergeNum t (tsN r (k + 1) (accS k acc)) (tsN r (k + 1) acc)
def zI : Option (Num × Vc) := some (.lit 0, Vc.all [.int .i64] (.lit 0) [.int .i64 0])
def outI (v : Bool) (ts : List Bool) : Option Out := some ⟨.tuple [.vec 0 1 0 (mergeNum (!v) (.lit 0) (trN ts 0 none)), .sint .i64 (cond (!v) 1 0)], [], [], [⟨[], false, some (mergeVr (!v) (Vc.none []) (trI ts 0 none))⟩], true, none⟩
def outS' (v : Bool) (ts : List Bool) : Option Out := some ⟨.tuple [.vec 0 1 0 (mergeNum (!v) (.lit 0) (tsN ts 0 zI)), .sint .i64 (cond (!v) 1 0)], [], [], [⟨[], false, some (mergeVr (!v) (accV zI) (tsI ts 0 zI))⟩], true, none⟩
def rowO (o : Option Out) : Vc := match o with | some o => (match o.nw with | [b] => (match b.vc with | some v => v | none => Vc.none []) | _ => Vc.none []) | none => Vc.none []
def numO (o : Option Out) : Nat := match o with | some o => (match o.v with | .tuple (.vec _ _ _ n :: _) => n.val | _ => 0) | none => 0
def codO (o : Option Out) : Int := match o with | some o => (match o.v with | .tuple [_, .sint _ c] => c | _ => 0) | none => 0
noncomputable def askV (r r' : Vc) (n n' : Nat) (c c' : Int) : Bool := cond (cond (!eqRows elInt r r' 0 0 n n') true (c != c')) false (cond (((Int.ofNat 1) + (Int.ofNat (n * 1))) != ((Int.ofNat 1) + (Int.ofNat (n * 1)))) false (cond (cond (!eqRows elInt r r' 0 0 n n') true (c != c')) false (cond (((Int.ofNat 1) + (Int.ofNat (n * 1))) != ((Int.ofNat 1) + (Int.ofNat (n * 1)))) false true)))
noncomputable def askN (r r' : Vc) (n n' : Nat) (c c' : Int) : Bool :=
  cond (cond (andN true (Nat.ble n 140737488355328 && (Nat.ble (Nat.add 0 n) r.n.val && Nat.ble (Nat.add 0 n') r'.n.val))) true false) (ndc (cond (!eqRows elInt r r' 0 0 n n') true (c != c')) true (cond (andN (andN true ((true && (Nat.ble n 140737488355328 && true)) && Nat.ble (Nat.add 0 n) r.n.val)) (((true && (Nat.ble n 140737488355328 && true)) && Nat.ble (Nat.add 0 n) r.n.val) && hldB [.int .i64] (mrkJ r 0 (Int.ofNat 1) n) 0 n (Int.ofNat 1))) (ndc false true (ndc (((Int.ofNat 1) + (Int.ofNat (n * 1))) != ((Int.ofNat 1) + (Int.ofNat (n * 1)))) true (cond (cond (andN true (Nat.ble n 140737488355328 && (Nat.ble (Nat.add 0 n) r.n.val && Nat.ble (Nat.add 0 n') r'.n.val))) true false) (ndc (cond (!eqRows elInt r r' 0 0 n n') true (c != c')) true (cond (andN true (((true && (Nat.ble n 140737488355328 && true)) && Nat.ble (Nat.add 0 n) r.n.val) && hldB [.int .i64] (mrkJ r 0 (Int.ofNat 1) n) 0 n (Int.ofNat 1))) true false)) false))) false)) false
noncomputable def askBL (o o' : Option Out) : Bool := cond (askN (rowO o) (rowO o') (numO o) (numO o') (codO o) (codO o')) (askV (rowO o) (rowO o') (numO o) (numO o') (codO o) (codO o')) false
set_option maxHeartbeats 4000000 in
theorem ask_ok (t0 t1 t2 t3 t4 t5 : Bool) : askBL (outI true [t0, t1, t2, t3, t4, t5]) (outS' true [!t0, !t1, !t2, !t3, !t4, !t5]) = true := by
  cases t0 <;> cases t1 <;> cases t2 <;> cases t3 <;> cases t4 <;> cases t5 <;> kernel_rfl
theorem ask_bad (t0 t1 t2 t3 t4 t5 u0 u1 u2 u3 u4 u5 : Bool) : askBL (outI false [t0, t1, t2, t3, t4, t5]) (outS' false [u0, u1, u2, u3, u4, u5]) = true := by
  kernel_rfl
theorem own : ownKnob Try.prog.godebug = none := by kernel_rfl
theorem laidOut : laidOutB Try.prog = true := by kernel_rfl
set_option maxRecDepth 1000000 in
theorem walk (a0x0 : Nat) (a0x1 : Nat) (a0x2 : Nat) (a0x3 : Nat) (a0x4 : Nat) (a0x5 : Nat) (a0x6 : Nat) (a0x7 : Nat) (a0x8 : Nat) (a0x9 : Nat) (a0x10 : Nat) (a0x11 : Nat) (a0x12 : Nat) (a0x13 : Nat) (a0x14 : Nat) (a0x15 : Nat) (a0x16 : Nat) (a0x17 : Nat) (vs0 : List Value) (w : World) (w0 : VL noRho [.flt .f32 a0x0, .flt .f32 a0x1, .flt .f32 a0x2, .flt .f32 a0x3, .flt .f32 a0x4, .flt .f32 a0x5, .flt .f32 a0x6, .flt .f32 a0x7, .flt .f32 a0x8, .flt .f32 a0x9, .flt .f32 a0x10, .flt .f32 a0x11, .flt .f32 a0x12, .flt .f32 a0x13, .flt .f32 a0x14, .flt .f32 a0x15, .flt .f32 a0x16, .flt .f32 a0x17] vs0) :
    Calls Try.prog 4 #[.agg ⟨vs0⟩] w fun e w' => e = .returned (.bool true) ∧ Below w.heap.size w w' := by
  have hv : VL noRho [.agg [.flt .f32 a0x0, .flt .f32 a0x1, .flt .f32 a0x2, .flt .f32 a0x3, .flt .f32 a0x4, .flt .f32 a0x5, .flt .f32 a0x6, .flt .f32 a0x7, .flt .f32 a0x8, .flt .f32 a0x9, .flt .f32 a0x10, .flt .f32 a0x11, .flt .f32 a0x12, .flt .f32 a0x13, .flt .f32 a0x14, .flt .f32 a0x15, .flt .f32 a0x16, .flt .f32 a0x17]] [.agg ⟨vs0⟩] := (VL_cons (agg_V w0) VL_nil)
  have hI : evBody Try.prog GG 100 Try.f20 [.agg [.flt .f32 a0x0, .flt .f32 a0x1, .flt .f32 a0x2, .flt .f32 a0x3, .flt .f32 a0x4, .flt .f32 a0x5, .flt .f32 a0x6, .flt .f32 a0x7, .flt .f32 a0x8, .flt .f32 a0x9, .flt .f32 a0x10, .flt .f32 a0x11, .flt .f32 a0x12, .flt .f32 a0x13, .flt .f32 a0x14, .flt .f32 a0x15, .flt .f32 a0x16, .flt .f32 a0x17]] St0 = outI (vOp [a0x0, a0x1, a0x2, a0x3, a0x4, a0x5, a0x6, a0x7, a0x8, a0x9, a0x10, a0x11, a0x12, a0x13, a0x14, a0x15, a0x16, a0x17]) [(coolI a0x0 a0x6 a0x12), (coolI a0x1 a0x7 a0x13), (coolI a0x2 a0x8 a0x14), (coolI a0x3 a0x9 a0x15), (coolI a0x4 a0x10 a0x16), (coolI a0x5 a0x11 a0x17)] := by kernel_rfl
  have hS : evBody Try.prog GG 100 Try.f19 [.agg [.flt .f32 a0x0, .flt .f32 a0x1, .flt .f32 a0x2, .flt .f32 a0x3, .flt .f32 a0x4, .flt .f32 a0x5, .flt .f32 a0x6, .flt .f32 a0x7, .flt .f32 a0x8, .flt .f32 a0x9, .flt .f32 a0x10, .flt .f32 a0x11, .flt .f32 a0x12, .flt .f32 a0x13, .flt .f32 a0x14, .flt .f32 a0x15, .flt .f32 a0x16, .flt .f32 a0x17]] St0 = outS' (vOp [a0x0, a0x1, a0x2, a0x3, a0x4, a0x5, a0x6, a0x7, a0x8, a0x9, a0x10, a0x11, a0x12, a0x13, a0x14, a0x15, a0x16, a0x17]) [(layS a0x0 a0x6 a0x12), (layS a0x1 a0x7 a0x13), (layS a0x2 a0x8 a0x14), (layS a0x3 a0x9 a0x15), (layS a0x4 a0x10 a0x16), (layS a0x5 a0x11 a0x17)] := by kernel_rfl
  have hb : askBL (evBody Try.prog GG 100 Try.f20 [.agg [.flt .f32 a0x0, .flt .f32 a0x1, .flt .f32 a0x2, .flt .f32 a0x3, .flt .f32 a0x4, .flt .f32 a0x5, .flt .f32 a0x6, .flt .f32 a0x7, .flt .f32 a0x8, .flt .f32 a0x9, .flt .f32 a0x10, .flt .f32 a0x11, .flt .f32 a0x12, .flt .f32 a0x13, .flt .f32 a0x14, .flt .f32 a0x15, .flt .f32 a0x16, .flt .f32 a0x17]] St0) (evBody Try.prog GG 100 Try.f19 [.agg [.flt .f32 a0x0, .flt .f32 a0x1, .flt .f32 a0x2, .flt .f32 a0x3, .flt .f32 a0x4, .flt .f32 a0x5, .flt .f32 a0x6, .flt .f32 a0x7, .flt .f32 a0x8, .flt .f32 a0x9, .flt .f32 a0x10, .flt .f32 a0x11, .flt .f32 a0x12, .flt .f32 a0x13, .flt .f32 a0x14, .flt .f32 a0x15, .flt .f32 a0x16, .flt .f32 a0x17]] St0) = true := by
    rw [hI, hS]
    clear hI hS
    cases hv' : (vOp [a0x0, a0x1, a0x2, a0x3, a0x4, a0x5, a0x6, a0x7, a0x8, a0x9, a0x10, a0x11, a0x12, a0x13, a0x14, a0x15, a0x16, a0x17]) with
    | false => exact ask_bad ..
    | true =>
      rw [vOp_eq] at hv'
      simp only [validI] at hv'
      obtain ⟨q0, hv'⟩ := lay_cool hv'
      obtain ⟨q1, hv'⟩ := lay_cool hv'
      obtain ⟨q2, hv'⟩ := lay_cool hv'
      obtain ⟨q3, hv'⟩ := lay_cool hv'
      obtain ⟨q4, hv'⟩ := lay_cool hv'
      obtain ⟨q5, _⟩ := lay_cool hv'
      rw [q0, q1, q2, q3, q4, q5]
      exact ask_ok ..
  have he : lawB (evBody Try.prog GG 300 Try.f4 [.agg [.flt .f32 a0x0, .flt .f32 a0x1, .flt .f32 a0x2, .flt .f32 a0x3, .flt .f32 a0x4, .flt .f32 a0x5, .flt .f32 a0x6, .flt .f32 a0x7, .flt .f32 a0x8, .flt .f32 a0x9, .flt .f32 a0x10, .flt .f32 a0x11, .flt .f32 a0x12, .flt .f32 a0x13, .flt .f32 a0x14, .flt .f32 a0x15, .flt .f32 a0x16, .flt .f32 a0x17]] St0) = some (askBL (evBody Try.prog GG 100 Try.f20 [.agg [.flt .f32 a0x0, .flt .f32 a0x1, .flt .f32 a0x2, .flt .f32 a0x3, .flt .f32 a0x4, .flt .f32 a0x5, .flt .f32 a0x6, .flt .f32 a0x7, .flt .f32 a0x8, .flt .f32 a0x9, .flt .f32 a0x10, .flt .f32 a0x11, .flt .f32 a0x12, .flt .f32 a0x13, .flt .f32 a0x14, .flt .f32 a0x15, .flt .f32 a0x16, .flt .f32 a0x17]] St0) (evBody Try.prog GG 100 Try.f19 [.agg [.flt .f32 a0x0, .flt .f32 a0x1, .flt .f32 a0x2, .flt .f32 a0x3, .flt .f32 a0x4, .flt .f32 a0x5, .flt .f32 a0x6, .flt .f32 a0x7, .flt .f32 a0x8, .flt .f32 a0x9, .flt .f32 a0x10, .flt .f32 a0x11, .flt .f32 a0x12, .flt .f32 a0x13, .flt .f32 a0x14, .flt .f32 a0x15, .flt .f32 a0x16, .flt .f32 a0x17]] St0)) := by kernel_rfl
  exact law_of gg mixed Try.func4 Try.call4 he hb hv w
set_option maxRecDepth 100000 in
theorem lifted (os : Os) (started : os.Started) (H : Type) (enc : TypeId × Value → H) :
    ReturnsInHanded {} Try.checked os 4 .any (Rows.fnExactBurningLayersSpec.pre6 enc Try.prog Try.f4 Rows.fnExactBurningLayersRow.domain false) (Rows.fnExactBurningLayersSpec.post enc Try.prog Try.f4 false true false false) := by
  refine returnsInHanded_of_change (C := Try.checked) own started (by kernel_rfl) Try.func4
    (ChangeSpec.witness6 (enc := enc) (C := Try.checked) false ⟨#[], #[.agg #[.float .f32 0, .float .f32 0, .float .f32 0, .float .f32 0, .float .f32 0, .float .f32 0, .float .f32 0, .float .f32 0, .float .f32 0, .float .f32 0, .float .f32 0, .float .f32 0, .float .f32 0, .float .f32 0, .float .f32 0, .float .f32 0, .float .f32 0, .float .f32 0]], []⟩ 8 (by kernel_rfl) (by kernel_rfl) (by kernel_rfl) (by kernel_rfl)) ?_
  intro W base args ds gs before hval0 hW hcnd _
  have hval : ∀ (j : Nat) t v, Try.f4.params[j]? = some t → args[j]? = some v → Value.okWide Try.prog W .any base t v := hval0
  have hW' := hW
  obtain ⟨p, q, hA0, hV, rfl, hfz, hnd⟩ := hW
  have hA : DataW.TrodAll enc Try.prog W 0 (fun _ => true) true Try.f4.params.toList args.toList ds p := hA0
  rw [Try.params4] at hA hval
  obtain ⟨v0, vs0, d0, ds0, p0, q0, hargs, rfl, rfl, h0, r0⟩ := trodAll_cons hA
  obtain ⟨rfl, rfl, rfl⟩ := trodAll_nil r0
  obtain rfl : args = #[v0] := by cases args; simp_all
  obtain ⟨rfl, rfl⟩ := trodVars_none hV
  have k0 := h0
  have lt0 : ∀ x ∈ p0, x.block < W.heap.size := by obtain ⟨m, hm⟩ := k0; exact DataW.trod_lt m _ _ _ hm
  obtain ⟨fd0, gd0, bd0, us0, rfl, w0⟩ := open_cells (ts := [22, 22, 22, 22, 22, 22, 22, 22, 22, 22, 22, 22, 22, 22, 22, 22, 22, 22]) (sh := [.f32, .f32, .f32, .f32, .f32, .f32, .f32, .f32, .f32, .f32, .f32, .f32, .f32, .f32, .f32, .f32, .f32, .f32]) (by kernel_rfl) (by kernel_rfl) (by kernel_rfl) (by kernel_rfl) (hval 0 25 v0 rfl rfl)
  clear hA0 hval0
  refine (walk (fd0 0) (fd0 1) (fd0 2) (fd0 3) (fd0 4) (fd0 5) (fd0 6) (fd0 7) (fd0 8) (fd0 9) (fd0 10) (fd0 11) (fd0 12) (fd0 13) (fd0 14) (fd0 15) (fd0 16) (fd0 17) us0 W w0).mono fun e W' ⟨he, bel⟩ => ?_
  subst he
  exact ⟨_, rfl, _, _, _, [], _, [], hW', trodAll_mk1 (shut_bool Try.underlying4 _), (trodAll_cons_mk (Below.trod laidOut (by kernel_rfl) (of_decide_eq_true (by kernel_rfl)) k0 bel lt0) trodAll_mk0), rfl, bel.frame _, fun h => by cases h⟩

theorem over : Rows.fnExactBurningLayersRow.holds Try.pinned (OpenSpec.ofChange Rows.fnExactBurningLayersSpec) :=
  OpenClaim.holds_of_wide 4 Try.f4 rfl rfl rfl rfl rfl rfl rfl ⟨rfl, rfl, rfl, rfl, rfl⟩ rfl rfl rfl rfl rfl (by kernel_rfl) Try.func4 (by kernel_rfl)
    (of_decide_eq_true (by kernel_rfl)) (by unfold Func.isWrapper; first | (rw [if_pos (by decide +kernel)]; kernel_rfl) | (rw [if_neg (by decide +kernel)]; exact ⟨rfl, rfl⟩))
    (fun os started H enc _ => lifted os started H enc)

theorem proved : Rows.FnExactBurningLayersSaid := over
end Go.Proofs.Ytendlfonbfnopaa.fnExactBurningLayers
