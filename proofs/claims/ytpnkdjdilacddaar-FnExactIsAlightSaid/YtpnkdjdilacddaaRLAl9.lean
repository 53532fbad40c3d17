/- For every stove, with however many logs, the law of IsAlight returns true, and the argument reads behind the call as before. No conditions. -/
import Derived.Test.YtpnkdjdilacddaaRBv9
import Derived.Test.YtpnkdjdilacddaaRRows
namespace Go.Proofs.YtpnkdjdilacddaaR.fnExactIsAlight
open Go Go.Ab Go.ChangeShapes Go.WideShapes Go.ChangeAt Go.RowKit Go.Proofs Go.Proofs.YtpnkdjdilacddaaR.ab
set_option linter.unusedVariables false
noncomputable def L0 (n : Nat) : Int := cond (decide (IntKind.i64.wrap (1048576 - Int.ofNat n) < 0)) (-1) (IntKind.i64.wrap (1048576 - Int.ofNat n))
noncomputable def T1 (n : Nat) : Bool := decide ((cond (decide (L0 n < 0)) (-1) (L0 n)) < 0)
theorem T1_le {n : Nat} (hn : n ≤ 9223372036854775807) (h : T1 n = false) : n ≤ 1048576 := by
  have h := of_decide_eq_false (show decide ((cond (decide (L0 n < 0)) (-1) (L0 n)) < 0) = false from h)
  have hw : IntKind.i64.wrap (1048576 - Int.ofNat n) = 1048576 - Int.ofNat n := IntWalk.i64_in _ (by show _ ≤ 1048576 - (n : Int) ∧ 1048576 - (n : Int) ≤ _; omega)
  by_cases k : (1048576 - (n : Int)) < 0
  · exfalso
    have e : L0 n = -1 := by
      unfold L0
      rw [hw, decide_eq_true (show (1048576 - Int.ofNat n : Int) < 0 from k)]; rfl
    rw [e] at h
    exact h (by decide)
  · omega
theorem andN_eq (a b : Bool) : andN a b = (a && b) := by cases a <;> cases b <;> rfl
theorem ble_eq (x y : Nat) : Nat.ble x y = decide (x ≤ y) := by
  by_cases h : x ≤ y
  · rw [decide_eq_true h]; exact Nat.ble_eq_true_of_le h
  · rw [decide_eq_false h]
    cases hb : Nat.ble x y with
    | false => rfl
    | true => exact absurd (Nat.le_of_ble_eq_true hb) h
theorem eq_same {v v' : Vc} {n n' : Nat} (hn : n = n') (h : ∀ k, v.fd k = v'.fd k ∧ v.gd k = v'.gd k) : eqRows elWood v v' 0 0 n n' = true := by
  subst hn
  exact eqRows_self elWood_self _ _ _ _ _ (fun j hj => ⟨(h _).1, (h _).2⟩)
theorem stv_six {fd : Nat → Nat → Nat} {a n b d u : Nat} {s h : Int} (h1 : stvB fd a n b d u s h = true) : n ≤ 6 := by
  by_cases k : 7 ≤ n
  · unfold stvB at h1
    rw [Nat.ble_eq_true_of_le k] at h1
    cases h1
  · omega
theorem hld1 {v : Vc} {n : Nat} (hs : v.sh = wSh) (hn : n ≤ 1048576) : hldB wSh (mrkJ v 0 1 n) 0 n 1 = true :=
  hldB_mrk hs (by decide) (by decide) (fun j hj => by
    have e : lenL wSh = 18 := by decide
    rw [e]; omega)
theorem own : ownKnob Try.prog.godebug = none := by kernel_rfl
theorem laidOut : laidOutB Try.prog = true := by kernel_rfl
set_option maxRecDepth 1000000 in
theorem walk (n0 : Nat) (fd0 : Nat → Nat → Nat) (gd0 : Nat → Nat → Int) (bd0 : Nat → Nat → Bool) (ρ : Rho) (f0 : Nat → Nat) (g0 : Nat → Int) (v0 : Value) (w : World) (hn0 : n0 ≤ 9223372036854775807) (hM : Mem NoM w ρ (viewS [⟨[.f32, .f32, .f32, .f32, .f32, .f32, .f32, .f32, .f32, .f32, .f32, .f32, .f32, .f32, .f32, .f32, .f32, .f32], .sym n0, fd0, gd0, bd0, false⟩]) w) (w0 : V ρ (.agg [.vec 0 18 0 (.sym n0), .flt .f32 (f0 0), .flt .f32 (f0 1), .sint .i8 (g0 2), .sint .i64 (g0 3), .flt .f32 (f0 4)]) v0) (hs0 : IntKind.i64.wrap (g0 2) = g0 2) :
    Calls Try.prog 6 #[v0] w fun e w' => e = .returned (.bool true) ∧ Below w.heap.size w w' := by
  have hv : VL ρ [.agg [.vec 0 18 0 (.sym n0), .flt .f32 (f0 0), .flt .f32 (f0 1), .sint .i8 (g0 2), .sint .i64 (g0 3), .flt .f32 (f0 4)]] [v0] := (VL_cons w0 VL_nil)
  have he : lawB (evBody Try.prog GG 300 Try.f6 [.agg [.vec 0 18 0 (.sym n0), .flt .f32 (f0 0), .flt .f32 (f0 1), .sint .i8 (g0 2), .sint .i64 (g0 3), .flt .f32 (f0 4)]] (viewS [(⟨[.f32, .f32, .f32, .f32, .f32, .f32, .f32, .f32, .f32, .f32, .f32, .f32, .f32, .f32, .f32, .f32, .f32, .f32], .sym n0, fd0, gd0, bd0, false⟩ : Vc)])) = some (cond (ndc (T1 n0) true (bif bif andN (andN (andN (andN true (bif andN true (((n0.add 0).mul 72).ble 140737488355328 && (n0.add 0).ble 140737488355328 && (Nat.add 0 n0).ble n0) then (Nat.add 0 n0).ble n0 else false)) (true && (Nat.add 0 n0).ble n0 && decide (IntKind.i64.wrap (g0 2) = g0 2))) (bif andN true (((n0.add 0).mul 72).ble 140737488355328 && (n0.add 0).ble 140737488355328 && (Nat.add 0 n0).ble n0) then (Nat.add 0 n0).ble n0 else false)) (bif andN true (bif andN true (ndc (bif bif bif !stvB (fun k o => fd0 (Nat.add 0 (Nat.add 0 k)) o) 0 n0 (f0 0) (f0 1) (f0 4) (g0 2) (g0 3) then true else false then true else false then true else false) (bif bif ndc (bif bif !stvB (fun k o => fd0 (Nat.add 0 (Nat.add 0 k)) o) 0 n0 (f0 0) (f0 1) (f0 4) (g0 2) (g0 3) then true else false then true else false) (bif andN true ((Nat.add 0 n0).ble n0 && decide (IntKind.i64.wrap (g0 2) = g0 2)) then true else false) (bif andN (andN (andN true (bif andN true ((Nat.add 0 n0).ble n0 && decide (IntKind.i64.wrap (g0 2) = g0 2)) then true else false)) (((Nat.add 0 n0).mul 72).ble 140737488355328 && (Nat.add 0 n0).ble 140737488355328 && (Nat.add 0 n0).ble n0)) (n0.ble 6 && (Nat.add 0 n0).ble (Nat.add 0 n0) && decide (IntKind.i64.wrap (g0 2) = g0 2)) then true else false) then true else false then true else false) (bif bif andN true (ndc (bif bif !stvB (fun k o => fd0 (Nat.add 0 (Nat.add 0 k)) o) 0 n0 (f0 0) (f0 1) (f0 4) (g0 2) (g0 3) then true else false then true else false) (bif andN true ((Nat.add 0 n0).ble n0 && decide (IntKind.i64.wrap (g0 2) = g0 2)) then true else false) (bif andN (andN (andN true (bif andN true ((Nat.add 0 n0).ble n0 && decide (IntKind.i64.wrap (g0 2) = g0 2)) then true else false)) (((Nat.add 0 n0).mul 72).ble 140737488355328 && (Nat.add 0 n0).ble 140737488355328 && (Nat.add 0 n0).ble n0)) (n0.ble 6 && (Nat.add 0 n0).ble (Nat.add 0 n0) && decide (IntKind.i64.wrap (g0 2) = g0 2)) then true else false)) then true else false then true else false)) then true else false) then true else false) then true else false then ndc (bif (bif bif bif bif !stvB (fun k o => fd0 (Nat.add 0 (Nat.add 0 k)) o) 0 n0 (f0 0) (f0 1) (f0 4) (g0 2) (g0 3) then true else false then true else false then true else false then false else bif decide (g0 2 = Int.ofNat 1) then true else bif decide (g0 2 = Int.ofNat 2) then true else decide (firstB (fun j q => fd0 (Nat.add 0 (Nat.add 0 (Nat.add 0 (j.sub 0)))) q) 0 n0 0 ≥ Int.ofNat 0)) != bif !stvB (fun k o => fd0 (Nat.add 0 (Nat.add 0 k)) o) 0 n0 (f0 0) (f0 1) (f0 4) (g0 2) (g0 3) then false else bif decide (g0 2 = Int.ofNat 1) then true else bif decide (g0 2 = Int.ofNat 2) then true else anyS (fun k o => fd0 (Nat.add 0 (Nat.add 0 k)) o) 0 n0 0 then true else (bif bif bif bif !stvB (fun k o => fd0 (Nat.add 0 (Nat.add 0 k)) o) 0 n0 (f0 0) (f0 1) (f0 4) (g0 2) (g0 3) then true else false then true else false then true else false then Int.ofNat 1 else Int.ofNat 0) != bif !stvB (fun k o => fd0 (Nat.add 0 (Nat.add 0 k)) o) 0 n0 (f0 0) (f0 1) (f0 4) (g0 2) (g0 3) then Int.ofNat 1 else Int.ofNat 0) true (bif andN (andN true (bif andN true (((n0.add 0).mul 72).ble 140737488355328 && (n0.add 0).ble 140737488355328 && (Nat.add 0 n0).ble n0) then (Nat.add 0 n0).ble n0 else false)) (bif andN true (n0.ble 140737488355328 && ((Nat.add 0 n0).ble n0 && (Nat.add 0 n0).ble n0)) then true else false) then true else false) else false)) (bif T1 n0 then true else bif bif (bif bif bif bif !stvB (fun k o => fd0 (Nat.add 0 (Nat.add 0 k)) o) 0 n0 (f0 0) (f0 1) (f0 4) (g0 2) (g0 3) then true else false then true else false then true else false then false else bif decide (g0 2 = Int.ofNat 1) then true else bif decide (g0 2 = Int.ofNat 2) then true else decide (firstB (fun j q => fd0 (Nat.add 0 (Nat.add 0 (Nat.add 0 (j.sub 0)))) q) 0 n0 0 ≥ Int.ofNat 0)) != bif !stvB (fun k o => fd0 (Nat.add 0 (Nat.add 0 k)) o) 0 n0 (f0 0) (f0 1) (f0 4) (g0 2) (g0 3) then false else bif decide (g0 2 = Int.ofNat 1) then true else bif decide (g0 2 = Int.ofNat 2) then true else anyS (fun k o => fd0 (Nat.add 0 (Nat.add 0 k)) o) 0 n0 0 then true else (bif bif bif bif !stvB (fun k o => fd0 (Nat.add 0 (Nat.add 0 k)) o) 0 n0 (f0 0) (f0 1) (f0 4) (g0 2) (g0 3) then true else false then true else false then true else false then Int.ofNat 1 else Int.ofNat 0) != bif !stvB (fun k o => fd0 (Nat.add 0 (Nat.add 0 k)) o) 0 n0 (f0 0) (f0 1) (f0 4) (g0 2) (g0 3) then Int.ofNat 1 else Int.ofNat 0 then false else bif !bif !eqRows elWood { sh := wSh, n := Num.sym n0, fd := fun k o => fd0 (Nat.add 0 (Nat.add 0 k)) o, gd := fun k o => gd0 (Nat.add 0 (Nat.add 0 k)) o, bd := fun k o => bd0 (Nat.add 0 (Nat.add 0 k)) o, wr := true } { sh := wSh, n := Num.sym n0, fd := fun k o => fd0 (Nat.add 0 (Nat.add 0 k)) o, gd := fun k o => gd0 (Nat.add 0 (Nat.add 0 k)) o, bd := fun k o => bd0 (Nat.add 0 (Nat.add 0 k)) o, wr := true } 0 0 n0 n0 then false else bif !sO (wide (f0 0)) (wide (f0 0)) then false else bif !sO (wide (f0 1)) (wide (f0 1)) then false else bif g0 2 != g0 2 then false else bif g0 3 != g0 3 then false else bif !sO (wide (f0 4)) (wide (f0 4)) then false else true then false else true) false) := by kernel_rfl
  refine law_any gg mixed Try.func6 Try.call6 he ?_ hM hv
  clear he
  cases hT : T1 n0 with
  | true => simp only [ndc_eq]; rfl
  | false =>
    have hn := T1_le hn0 hT
    have key : stvB (fun k o => fd0 (Nat.add 0 (Nat.add 0 k)) o) 0 n0 (f0 0) (f0 1) (f0 4) (g0 2) (g0 3) = true → n0 ≤ 6 ∧ anyS (fun k o => fd0 (Nat.add 0 (Nat.add 0 k)) o) 0 n0 0 = decide (firstB (fun k o => fd0 (Nat.add 0 (Nat.add 0 k)) o) 0 n0 0 ≥ 0) := fun h => ⟨stv_six h, any_first n0 0 (stv_chain h)⟩
    have eF : (fun (j q : Nat) => fd0 (Nat.add 0 (Nat.add 0 (Nat.add 0 (j.sub 0)))) q) = (fun k o => fd0 (Nat.add 0 (Nat.add 0 k)) o) := by funext j q; simp
    try rw [eF]
    revert key
    generalize anyS (fun k o => fd0 (Nat.add 0 (Nat.add 0 k)) o) 0 n0 0 = BA
    generalize firstB (fun k o => fd0 (Nat.add 0 (Nat.add 0 k)) o) 0 n0 0 = BF
    generalize stvB (fun k o => fd0 (Nat.add 0 (Nat.add 0 k)) o) 0 n0 (f0 0) (f0 1) (f0 4) (g0 2) (g0 3) = B0
    intro key
    cases B0 with
    | false => simp [andN_eq, ndc_eq, ble_eq, eq_same, sO_self, hs0] <;> omega
    | true =>
      obtain ⟨k1, rfl⟩ := key rfl
      simp [andN_eq, ndc_eq, ble_eq, eq_same, sO_self, hs0] <;> omega

set_option maxRecDepth 100000 in
theorem lifted (os : Os) (started : os.Started) (H : Type) (enc : TypeId × Value → H) :
    ReturnsInHanded {} Try.checked os 6 .any (Rows.fnExactIsAlightSpec.pre6 enc Try.prog Try.f6 Rows.fnExactIsAlightRow.domain false) (Rows.fnExactIsAlightSpec.post enc Try.prog Try.f6 false true false false) := by
  refine returnsInHanded_of_change (C := Try.checked) own started (by kernel_rfl) Try.func6
    (ChangeSpec.witness6 (enc := enc) (C := Try.checked) false ⟨#[], #[.agg #[.slice none 0 0, .float .f32 0, .float .f32 0, .int .i8 0, .int .i64 0, .float .f32 0]], []⟩ 8 (by kernel_rfl) (by kernel_rfl) (by kernel_rfl) (by kernel_rfl)) ?_
  intro W base args ds gs before hval0 hW hcnd _
  have hval : ∀ (j : Nat) t v, Try.f6.params[j]? = some t → args[j]? = some v → Value.okWide Try.prog W .any base t v := hval0
  have hW' := hW
  obtain ⟨p, q, hA0, hV, rfl, hfz, hnd⟩ := hW
  have hA : DataW.TrodAll enc Try.prog W 0 (fun _ => true) true Try.f6.params.toList args.toList ds p := hA0
  rw [Try.params6] at hA hval
  obtain ⟨v0, vs0, d0, ds0, p0, q0, hargs, rfl, rfl, h0, r0⟩ := trodAll_cons hA
  obtain ⟨rfl, rfl, rfl⟩ := trodAll_nil r0
  obtain rfl : args = #[v0] := by cases args; simp_all
  obtain ⟨rfl, rfl⟩ := trodVars_none hV
  have k0 := h0
  have lt0 : ∀ x ∈ p0, x.block < W.heap.size := by obtain ⟨m, hm⟩ := k0; exact DataW.trod_lt m _ _ _ hm
  have elW : ElemIs Try.prog 36 [.f32, .f32, .f32, .f32, .f32, .f32, .f32, .f32, .f32, .f32, .f32, .f32, .f32, .f32, .f32, .f32, .f32, .f32] := elem_arrs (k := 3) (t := 34) (sh := repC 6 .f32) Try.underlying36 (by kernel_rfl) (by kernel_rfl) (by kernel_rfl) (elem_arr Try.underlying34 (by kernel_rfl) (by kernel_rfl) (by kernel_rfl))
  obtain ⟨n0, fd0, gd0, bd0, ρ, f0, g0, b0, hn0, hM, w0, hr0⟩ := open_st (t0 := 22) (e := 36) (ts := [23, 23, 24, 2, 23]) (cks := [.f32, .f32, .int .i8, .int .i64, .f32]) (sh := [.f32, .f32, .f32, .f32, .f32, .f32, .f32, .f32, .f32, .f32, .f32, .f32, .f32, .f32, .f32, .f32, .f32, .f32]) Try.underlying26 (by kernel_rfl) (by kernel_rfl) (by kernel_rfl) (by kernel_rfl) Try.underlying22 elW (by kernel_rfl) (by decide) (by kernel_rfl) (hval 0 26 v0 rfl rfl) h0
  have hs0 : IntKind.i64.wrap (g0 2) = g0 2 := by
    obtain ⟨h1, h2⟩ := hr0 2 24 .i8 rfl Try.underlying24
    have h1 : -128 ≤ g0 2 := h1
    have h2 : g0 2 ≤ 127 := h2
    exact IntWalk.i64_in _ (by omega)
  clear hA0 hval0
  refine (walk n0 fd0 gd0 bd0 ρ f0 g0 v0 W hn0 hM w0 hs0).mono fun e W' ⟨he, bel⟩ => ?_
  subst he
  exact ⟨_, rfl, _, _, _, [], _, [], hW', trodAll_mk1 (shut_bool Try.underlying4 _), (trodAll_cons_mk (Below.trod laidOut (by kernel_rfl) (of_decide_eq_true (by kernel_rfl)) k0 bel lt0) trodAll_mk0), rfl, bel.frame _, fun h => by cases h⟩

theorem over : Rows.fnExactIsAlightRow.holds Try.pinned (OpenSpec.ofChange Rows.fnExactIsAlightSpec) :=
  OpenClaim.holds_of_wide 6 Try.f6 rfl rfl rfl rfl rfl rfl rfl ⟨rfl, rfl, rfl, rfl, rfl⟩ rfl rfl rfl rfl rfl (by kernel_rfl) Try.func6 (by kernel_rfl)
    (of_decide_eq_true (by kernel_rfl)) (by unfold Func.isWrapper; first | (rw [if_pos (by decide +kernel)]; kernel_rfl) | (rw [if_neg (by decide +kernel)]; exact ⟨rfl, rfl⟩))
    (fun os started H enc _ => lifted os started H enc)

theorem proved : Rows.FnExactIsAlightSaid := over
end Go.Proofs.YtpnkdjdilacddaaR.fnExactIsAlight

