import Derived.Test.YtbkjjefjnkkgbaaSw5
import Derived.Deep.QuietTactic
import Derived.BigQuiet
namespace Go.Proofs.Ytbkjjefjnkkgbaa.sea
open Go Go.Ab Go.Proofs Go.RowKit Go.Shelf
attribute [local go_sem] Oper.semAt_some
set_option linter.unusedVariables false
/-- What slots cost. -/
def costS (s : Sea) (gp : Nat → Int) : Nat → Int
  | 0 => 0
  | k + 1 => costS s gp k + s.gm k * gp k
def coC (s : Sea) (p : Nat) (gp : Nat → Int) : Int := soC s p gp
def coV (s : Sea) (p : Nat) (gp : Nat → Int) : Int := cond (decide (soC s p gp = 0)) (costS s gp s.n) 0
theorem soC_zero {s : Sea} {p : Nat} {gp : Nat → Int} (h : soC s p gp = 0) : okSea s = true ∧ planOk s p gp = true ∧ s.all (chP gp) = true := by
  unfold soC at h
  cases o : okSea s with
  | false => rw [o] at h; simp at h
  | true =>
    cases hp : planOk s p gp with
    | false => rw [o, hp] at h; simp at h
    | true =>
      cases ha : s.all (chP gp) with
      | false => rw [o, hp, ha] at h; simp at h
      | true => exact ⟨rfl, rfl, rfl⟩
section
variable {s : Sea} {w : World} {gp : Nat → Int}
theorem cost_bd (o : s.Ok) (hfit : s.Fits (chP gp)) : ∀ {k : Nat}, k ≤ s.n → 0 ≤ costS s gp k ∧ costS s gp k ≤ 20000 * k
  | 0, _ => ⟨Int.le_refl _, Int.le_refl _⟩
  | k + 1, h => by
    obtain ⟨h1, h2⟩ := cost_bd o hfit (k := k) (by omega)
    have hm := o.gm k (by omega)
    have hst := o.store
    have hg : 0 ≤ gp k ∧ gp k ≤ s.g 0 := hfit k 0 (by omega) (Int.le_refl _) hst.1
    have ho := o.most
    have q1 : 0 ≤ s.gm k * gp k := Int.mul_nonneg hm.1 hg.1
    have q2 : s.gm k * gp k ≤ 1000 * 20 := Int.le_trans (Int.mul_le_mul_of_nonneg_right hm.2 hg.1) (by omega)
    show 0 ≤ costS s gp k + s.gm k * gp k ∧ costS s gp k + s.gm k * gp k ≤ 20000 * ((k + 1 : Nat) : Int)
    omega
theorem one_cost (o : s.Ok) (hfit : s.Fits (chP gp)) {k : Nat} (h : k < s.n) : 0 ≤ s.gm k * gp k ∧ s.gm k * gp k ≤ 20000 := by
  have hm := o.gm k h
  have hst := o.store
  have hg : 0 ≤ gp k ∧ gp k ≤ s.g 0 := hfit k 0 h (Int.le_refl _) hst.1
  have ho := o.most
  exact ⟨Int.mul_nonneg hm.1 hg.1, Int.le_trans (Int.mul_le_mul_of_nonneg_right hm.2 hg.1) (by omega)⟩
set_option maxHeartbeats 1000000 in
theorem co_bad {v pv : Value} {p : Nat} {c0 : Int} (hc0 : soC s p gp = c0) (hne : c0 = 1 ∨ c0 = 2 ∨ c0 = 4) (hS : SeaV s w v) (hp : SlV gp w.heap.size w pv p) (hle : p ≤ 9223372036854775807) :
    Calls Try.prog 29 #[v, pv] w fun e w' => e = .returned (.tuple #[.int .i64 0, .int .i64 c0]) ∧ Below w.heap.size w w' := by
  have hS' := hS
  obtain ⟨s1, s2, rfl, _⟩ := hS'
  have hB : Below w.heap.size w (w.alloc (.cells #[s1, s2, .int .i64 (s.g 0), .int .i64 (s.g 1), .int .i64 (s.g 2), .int .i64 (s.g 3), .int .i64 (s.g 4)] 27)) := (Below.refl _ w).alloc (Nat.le_refl _) _
  have hS1 := hS.below hB
  have hp1 := hp.at hB
  rcases hne with rfl | rfl | rfl
  all_goals
    go_enter Try.func29, Try.ntmps29
    go_wp2_with (go_at_call 23; refine (so22 hS1 hp1 hle).mono ?_; rintro e w1 ⟨sv, rfl, hr, hb⟩; rw [hc0])
    go_ret2
    exact ⟨rfl, hB.trans (hb.mono (by simp))⟩
set_option maxRecDepth 100000 in
set_option maxHeartbeats 2000000 in
theorem co_go {v pv : Value} {p : Nat} (hc0 : soC s p gp = 0) (hS : SeaV s w v) (hp : SlV gp w.heap.size w pv p) (hle : p ≤ 9223372036854775807) :
    Calls Try.prog 29 #[v, pv] w fun e w' => e = .returned (.tuple #[.int .i64 (costS s gp s.n), .int .i64 0]) ∧ Below w.heap.size w w' := by
  obtain ⟨h1, h2, h3⟩ := soC_zero hc0
  have ok := okSea_ok h1
  have hfit := fitsP p h2
  have n1 := ok.n1
  have n2 := ok.n2
  have hpn : p = s.n := of_decide_eq_true (cond_both h2).1
  have HM : Hid (s.m = s.n) := ok.m
  subst hpn
  have hS' := hS
  obtain ⟨s1, s2, rfl, hv1, hv2, hl1, hl2⟩ := hS'
  rcases hv2 with ⟨a', e, e0⟩ | ⟨bm, om, cm, e, hcm, hEm⟩
  · exact absurd e0 (by have := HM.out; omega)
  subst e
  have hp' := hp
  rcases hp' with ⟨a', e, e0⟩ | ⟨bp, op, cp, e, hcp, hEp⟩
  · exact absurd e0 (by omega)
  subst e
  have hB : Below w.heap.size w (w.alloc (.cells #[s1, .slice (some ⟨bm, om, none⟩) s.m cm, .int .i64 (s.g 0), .int .i64 (s.g 1), .int .i64 (s.g 2), .int .i64 (s.g 3), .int .i64 (s.g 4)] 27)) := (Below.refl _ w).alloc (Nat.le_refl _) _
  have hS1 := hS.below hB
  have hp1 := hp.at hB
  have hq1 := alloc_cells (s := s) (s1 := s1) (s2 := .slice (some ⟨bm, om, none⟩) s.m cm) w 1 _ rfl
  go_enter Try.func29, Try.ntmps29
  go_wp2_with (go_at_call 23; refine (so22 hS1 hp1 hle).mono ?_; rintro e w1 ⟨sv, rfl, hr, hb⟩; rw [hc0])
  have hB1 := hB.trans (hb.mono (by simp))
  have hq := (hb.cell (p := ⟨w.heap.size, 1, none⟩) (by simp)).trans hq1
  clear hr hq1 hc0 hS1 hp1
  go_loop [8, 22] (fun cv kv => ∃ (k : Nat), k ≤ s.n ∧ kv = .int .i64 (k : Int) ∧ cv = .int .i64 (costS s gp k))
    (fun _ kv => s.n - (RowKit.intOf kv).toNat)
  case atStart => exact ⟨0, Nat.zero_le _, rfl, rfl⟩
  case round =>
    obtain ⟨k, hk, rfl, rfl⟩ := hrel
    by_cases hlt : k < s.n
    · have q1 := (hB1.cell (p := ⟨bp, op + k, none⟩) hEp.1).trans (hEp.2 k hlt)
      have q2 := (hB1.cell (p := ⟨bm, om + k, none⟩) hEm.1).trans (hEm.2 k (by have := HM.out; omega))
      have hbd := cost_bd ok hfit (k := k) (by omega)
      have hone := one_cost ok hfit hlt
      have hkm : k < s.m := by have := HM.out; omega
      go_wp2
      go_round
      case rel => exact ⟨k + 1, by omega, by go_num, rfl⟩
      case measure => simp [RowKit.intOf]; omega
    · obtain rfl : k = s.n := by omega
      go_wp2
      go_ret2
      exact ⟨rfl, hB1⟩
theorem co28 {v pv : Value} {p : Nat} (hS : SeaV s w v) (hp : SlV gp w.heap.size w pv p) (hle : p ≤ 9223372036854775807) :
    Calls Try.prog 29 #[v, pv] w fun e w' => e = .returned (.tuple #[.int .i64 (coV s p gp), .int .i64 (soC s p gp)]) ∧ Below w.heap.size w w' := by
  unfold coV
  have hc : soC s p gp = 0 ∨ soC s p gp = 1 ∨ soC s p gp = 2 ∨ soC s p gp = 4 := by
    unfold soC
    cases okSea s <;> cases planOk s p gp <;> cases s.all (chP gp) <;> simp
  rcases hc with h | h
  · rw [h]; exact co_go h hS hp hle
  · have hne : ¬ soC s p gp = 0 := by rcases h with h | h | h <;> rw [h] <;> decide
    rw [decide_eq_false hne]
    exact co_bad rfl h hS hp hle
set_option maxHeartbeats 1000000 in
theorem c50_bad (b : Nat) (hP : SeaP s w b 0) {pv : Value} {p : Nat} {c0 : Int} (hc0 : soC s p gp = c0) (hne : c0 = 1 ∨ c0 = 2 ∨ c0 = 4) (hp : SlV gp w.heap.size w pv p) (hle : p ≤ 9223372036854775807) :
    Calls Try.prog 56 #[.pointer (some ⟨b, 0, none⟩), pv] w fun e w' => e = .returned (.tuple #[.int .i64 0, .int .i64 c0]) ∧ Below w.heap.size w w' := by
  rcases hne with rfl | rfl | rfl
  all_goals
    go_enter Try.func56, Try.ntmps56
    go_wp2_with (go_at_call 52; refine (s46 _ hP hp hle).mono ?_; rintro e w1 ⟨sv, rfl, hr, hb⟩; rw [hc0])
    go_ret2
    exact ⟨rfl, hb⟩
set_option maxRecDepth 100000 in
set_option maxHeartbeats 2000000 in
theorem c50_go (b : Nat) (hP : SeaP s w b 0) {pv : Value} {p : Nat} (hc0 : soC s p gp = 0) (hp : SlV gp w.heap.size w pv p) (hle : p ≤ 9223372036854775807) :
    Calls Try.prog 56 #[.pointer (some ⟨b, 0, none⟩), pv] w fun e w' => e = .returned (.tuple #[.int .i64 (costS s gp s.n), .int .i64 0]) ∧ Below w.heap.size w w' := by
  obtain ⟨h1, h2, h3⟩ := soC_zero hc0
  have ok := okSea_ok h1
  have hfit := fitsP p h2
  have n1 := ok.n1
  have n2 := ok.n2
  have hpn : p = s.n := of_decide_eq_true (cond_both h2).1
  have HM : Hid (s.m = s.n) := ok.m
  subst hpn
  have hbl := hP.1
  obtain ⟨s1, s2, hv1, hv2, hcs⟩ := hP.cells
  have q1 := hcs 1 _ rfl
  simp only [Nat.zero_add] at q1
  rcases hv2 with ⟨a', e, e0⟩ | ⟨bm, om, cm, e, hcm, hEm⟩
  · exact absurd e0 (by have := HM.out; omega)
  subst e
  have hp' := hp
  rcases hp' with ⟨a', e, e0⟩ | ⟨bp, op, cp, e, hcp, hEp⟩
  · exact absurd e0 (by omega)
  subst e
  go_enter Try.func56, Try.ntmps56
  go_wp2_with (go_at_call 52; refine (s46 _ hP hp hle).mono ?_; rintro e w1 ⟨sv, rfl, hr, hb⟩; rw [hc0])
  clear hr hc0
  go_loopw [8, 9] (fun cv kv wr => ∃ (k : Nat), k ≤ s.n ∧ kv = .int .i64 (k : Int) ∧ cv = .int .i64 (costS s gp k) ∧ Below w.heap.size w wr)
    (fun _ kv _ => s.n - (RowKit.intOf kv).toNat)
  case atStart => exact ⟨0, Nat.zero_le _, rfl, rfl, hb⟩
  case round =>
    obtain ⟨k, hk, rfl, rfl, hBw⟩ := hrel
    by_cases hlt : k < s.n
    · have qp := (hBw.cell (p := ⟨bp, op + k, none⟩) hEp.1).trans (hEp.2 k hlt)
      have qm := (hBw.cell (p := ⟨bm, om + k, none⟩) hEm.1).trans (hEm.2 k (by have := HM.out; omega))
      have qs := (hBw.cell (p := ⟨b, 1, none⟩) hbl).trans q1
      have hbd := cost_bd ok hfit (k := k) (by omega)
      have hone := one_cost ok hfit hlt
      have hkm : k < s.m := by have := HM.out; omega
      have e1 : IntKind.i64.wrap (s.gm k * gp k) = s.gm k * gp k := IntWalk.i64_in _ (by omega)
      have e2 : IntKind.i64.wrap (costS s gp k + s.gm k * gp k) = costS s gp k + s.gm k * gp k := IntWalk.i64_in _ (by omega)
      have hbz : b < wr.heap.size := Nat.lt_of_lt_of_le hbl hBw.size
      clear hcs q1
      go_wp2
      go_region
      clear e1 e2
      go_wp2
      go_roundw
      case rel => exact ⟨k + 1, by omega, by go_num, rfl, hBw.drew⟩
      case measure => simp [RowKit.intOf]; omega
    · obtain rfl : k = s.n := by omega
      go_wp2
      go_ret2
      exact ⟨rfl, hBw⟩
theorem c50 (b : Nat) (hP : SeaP s w b 0) {pv : Value} {p : Nat} (hp : SlV gp w.heap.size w pv p) (hle : p ≤ 9223372036854775807) :
    Calls Try.prog 56 #[.pointer (some ⟨b, 0, none⟩), pv] w fun e w' => e = .returned (.tuple #[.int .i64 (coV s p gp), .int .i64 (soC s p gp)]) ∧ Below w.heap.size w w' := by
  unfold coV
  have hc : soC s p gp = 0 ∨ soC s p gp = 1 ∨ soC s p gp = 2 ∨ soC s p gp = 4 := by
    unfold soC
    cases okSea s <;> cases planOk s p gp <;> cases s.all (chP gp) <;> simp
  rcases hc with h | h
  · rw [h]; exact c50_go b hP h hp hle
  · have hne : ¬ soC s p gp = 0 := by rcases h with h | h | h <;> rw [h] <;> decide
    rw [decide_eq_false hne]
    exact c50_bad b hP rfl h hp hle
theorem co27 {v pv : Value} {p : Nat} (hS : SeaV s w v) (hp : SlV gp w.heap.size w pv p) (hle : p ≤ 9223372036854775807) :
    Calls Try.prog 28 #[v, pv] w fun e w' => e = .returned (.tuple #[.int .i64 (coV s p gp), .int .i64 (soC s p gp)]) ∧ Below w.heap.size w w' := by
  have hS' := hS
  obtain ⟨s1, s2, rfl, _⟩ := hS'
  have hB : Below w.heap.size w (w.alloc (.cells #[s1, s2, .int .i64 (s.g 0), .int .i64 (s.g 1), .int .i64 (s.g 2), .int .i64 (s.g 3), .int .i64 (s.g 4)] 27)) := (Below.refl _ w).alloc (Nat.le_refl _) _
  have hP := SeaP.box 27 hS
  have hp1 := hp.at hB
  go_enter Try.func28, Try.ntmps28
  go_wp2_with (go_at_call 56; refine (c50 _ hP hp1 hle).mono ?_; rintro e w' ⟨rfl, hb⟩)
  go_ret2
  exact ⟨rfl, hB.trans (hb.mono (by simp))⟩
end
section
open Go.Ab
theorem coVO_ex : ∃ f, f = coV := ⟨_, rfl⟩
noncomputable def coVO : Sea → Nat → (Nat → Int) → Int := Classical.choose coVO_ex
theorem coVO_eq : coVO = coV := Classical.choose_spec coVO_ex
/-- CostOf. -/
noncomputable def coK : Ctr := ⟨fun args S => match args with
  | [.agg cs, x] => match seaOf S cs, intsOf S x with
    | some (s, b), some (p, gp, b') => some ⟨.tuple [.sint .i64 (coVO s p gp), .sint .i64 (soCO s p gp)], [], [], [], b && b', none⟩
    | _, _ => none
  | _ => none, none⟩
theorem sat_co {f : FuncId} (hcall : ∀ (args : Array Value) (w : World), (callFunc f args).run Try.prog w = .ok (.enter f args) w)
    (h : ∀ {s : Sea} {w : World} {gp : Nat → Int} {v pv : Value} {p : Nat}, SeaV s w v → SlV gp w.heap.size w pv p → p ≤ 9223372036854775807 → Calls Try.prog f #[v, pv] w fun e w' => e = .returned (.tuple #[.int .i64 (coV s p gp), .int .i64 (soC s p gp)]) ∧ Below w.heap.size w w') : Sat Try.prog f coK := sat_by hcall rfl (fun args S out hfn hnd => by
  simp only [coK] at hfn
  split at hfn
  · rename_i cs x
    split at hfn
    · rename_i s b p gp b' hs hx
      cases hfn
      rw [Bool.and_eq_true] at hnd
      refine ⟨rfl, fun ρ w vs hM hv => ?_⟩
      unfold VL at hv
      obtain ⟨v, r, rfl, k0, hv⟩ := hv
      unfold VL at hv
      obtain ⟨v1, r1, rfl, k1, hv⟩ := hv
      unfold VL at hv
      subst hv
      unfold V at k0
      obtain ⟨us, rfl, k0⟩ := k0
      obtain ⟨hS, hn⟩ := intsOf_V hM hx hnd.2 k1
      refine (h (seaOf_V hM hs hnd.1 k0) hS hn).mono ?_
      rintro e w' ⟨rfl, hb⟩
      refine ⟨_, rfl, ?_, hb⟩
      rw [coVO_eq, soCO_eq]
      unfold V
      exact ⟨_, rfl, VL_cons (sint_V .i64 _) (VL_cons (sint_V .i64 _) VL_nil)⟩
    · cases hfn
  · cases hfn)
theorem sat27 : Sat Try.prog 28 coK := sat_co Try.call28 co27
theorem sat28 : Sat Try.prog 29 coK := sat_co Try.call29 co28
end
end Go.Proofs.Ytbkjjefjnkkgbaa.sea
