import Derived.Test.YtmegbdgnnbjbmaaAbB
namespace Go.Ab
open Go Go.RowKit
set_option linter.unusedVariables false

section
variable {P : Program} {ρ : Rho} {o : Oper} {a : Act} {S : St} {M : Addr → Prop} {w0 w : World}


theorem one_arg {x : AVal} {vs : List Value} (hv : VL ρ [x] vs) : ∃ v, vs = [v] ∧ V ρ x v := by
  unfold VL at hv
  obtain ⟨v, vs', rfl, h1, h2⟩ := hv
  unfold VL at h2; subst h2
  exact ⟨v, rfl, h1⟩
theorem two_args {x y : AVal} {vs : List Value} (hv : VL ρ [x, y] vs) : ∃ v u, vs = [v, u] ∧ V ρ x v ∧ V ρ y u := by
  unfold VL at hv
  obtain ⟨v, vs', rfl, h1, h2⟩ := hv
  obtain ⟨u, rfl, h3⟩ := one_arg h2
  exact ⟨v, u, rfl, h1, h3⟩

theorem lenA_V {n : Num} (h : n.ok) : V ρ (lenA n) (.int .i64 (n.val : Int)) := by
  cases n with
  | lit n => unfold lenA V; rfl
  | ge lo n => unfold lenA V; exact ⟨rfl, h⟩
  | sym n => unfold lenA V; rfl

theorem evBuiltin_sound {b : Builtin} {ts : Array TypeId} {ty : TypeId} {cs : Array Bool} {args : List AVal} {vs : List Value} {out : Out} (he : evBuiltin P S b ts.toList args = some out) (hM : Mem M w0 ρ S w) (hv : VL ρ args vs)
    (hrun : (execOp a.eval o).run P w = (builtin b ts ty cs ⟨vs⟩).run P w) : OpOk P o a S w M w0 ρ out := by
  unfold evBuiltin at he
  split at he
  · -- len of a slice of an array
    obtain ⟨v, rfl, hv1⟩ := one_arg hv
    unfold V at hv1
    obtain ⟨r, b, _, rfl⟩ := hv1
    split at he
    · rename_i t tr hts
      split at he
      · rename_i e hk; cases he
        have hu := kd_slice hk
        have h0 : ts[0]? = some t := by rw [← Array.getElem?_toList, hts]; rfl
        exact OpOk.pure0 (u := .int .i64 _) w hM (by rw [hrun]; simp only [builtin, Builtin.len_]; simp [h0, run_underlying hu, goInt]; rfl) (by unfold V; rfl)
      · cases he
    · cases he
  · -- of a row
    obtain ⟨v, rfl, hv1⟩ := one_arg hv
    unfold V at hv1
    obtain ⟨hok, _, base, c, rfl, _⟩ := hv1
    split at he
    · rename_i t tr hts
      split at he
      · rename_i e hk; cases he
        have hu := kd_slice hk
        have h0 : ts[0]? = some t := by rw [← Array.getElem?_toList, hts]; rfl
        refine OpOk.pure0 (u := .int .i64 _) w hM (by rw [hrun]; simp only [builtin, Builtin.len_]; simp [h0, run_underlying hu, goInt]) (lenA_V hok)
      · cases he
    · cases he
  · -- of nil
    rename_i v0
    obtain ⟨v, rfl, hv1⟩ := one_arg hv
    unfold V at hv1
    subst hv1
    split at he
    · rename_i t tr n _ hts
      split at he
      · rename_i e hk; cases he
        have hu := kd_slice hk
        have h0 : ts[0]? = some t := by rw [← Array.getElem?_toList, hts]; rfl
        exact OpOk.pure0 (u := .int .i64 _) w hM (by rw [hrun]; simp only [builtin, Builtin.len_]; simp [h0, run_underlying hu, goInt]; rfl) (by unfold V; rfl)
      · cases he
    · cases he
  · -- of an array
    obtain ⟨v, rfl, hv1⟩ := one_arg hv
    unfold V at hv1
    obtain ⟨us, rfl, _⟩ := hv1
    split at he
    · rename_i t tr hts
      split at he
      · rename_i n e hk; cases he
        have hu := kd_arr hk
        have h0 : ts[0]? = some t := by rw [← Array.getElem?_toList, hts]; rfl
        exact OpOk.pure0 (u := .int .i64 _) w hM (by rw [hrun]; simp only [builtin, Builtin.len_]; simp [h0, run_underlying hu, goInt]; rfl) (by unfold V; rfl)
      · cases he
    · cases he
  · -- append
    obtain ⟨v, u, rfl, hv1, hv2⟩ := two_args hv
    refine evAppend_sound (ts := ts) (ty := ty) he hM hv1 hv2 ?_
    rw [hrun]
    simp [builtin]
  · split at he
    · rename_i z hz; cases he
      obtain ⟨r, w', h1, h2, h3⟩ := minmax_sound w hz hv ts ty (P := P)
      simp only [Bool.false_eq_true, if_false] at h1
      exact OpOk.pure w hM h3 (by rw [hrun]; simp [builtin, h1]) h2
    · cases he
  · split at he
    · rename_i z hz; cases he
      obtain ⟨r, w', h1, h2, h3⟩ := minmax_sound w hz hv ts ty (P := P)
      simp only [if_true] at h1
      exact OpOk.pure w hM h3 (by rw [hrun]; simp [builtin, h1]) h2
    · cases he
  · cases he

theorem idxV_spec {i : AVal} {n : Num} {m : Nat} {c : Bool} {u : Value} (h : idxV i n = some (m, c)) (hc : c = true) (hu : V ρ i u) : ∃ k, u = .int k (m : Int) ∧ m < n.val := by
  unfold idxV at h
  split at h
  · rename_i k z
    split at h
    · rename_i m' hm
      simp only [Option.some.injEq, Prod.mk.injEq] at h
      obtain ⟨rfl, rfl⟩ := h
      have := Nat.le_of_ble_eq_true hc
      unfold V at hu
      subst hu
      cases z with
      | ofNat z => simp [natOf] at hm; subst hm; exact ⟨k, rfl, this⟩
      | negSucc z => simp [natOf] at hm
    · cases h
  · rename_i k z
    simp only [Option.some.injEq, Prod.mk.injEq] at h
    obtain ⟨rfl, rfl⟩ := h
    simp only [Bool.and_eq_true] at hc
    have h1 := of_decide_eq_true hc.1
    have h2 := Nat.le_of_ble_eq_true hc.2
    unfold V at hu
    subst hu
    exact ⟨k, by congr 1; omega, h2⟩
  · rename_i k lo z
    simp only [Option.some.injEq, Prod.mk.injEq] at h
    obtain ⟨rfl, rfl⟩ := h
    have := Nat.le_of_ble_eq_true hc
    unfold V at hu
    exact ⟨k, hu.1, this⟩
  · cases h

theorem bndV_spec {x : Option Operand} {d n : Num} {c : Bool} (h : bndV S x d = some (n, c)) (hc : c = true) (hd : d.ok) (hx : ∀ y, x = some y → V ρ (opd S y) (a.eval y)) :
    n.ok ∧ ((x = none ∧ n = d) ∨ ∃ y k, x = some y ∧ a.eval y = .int k (n.val : Int)) := by
  unfold bndV at h
  split at h
  · simp only [Option.some.injEq, Prod.mk.injEq] at h
    obtain ⟨rfl, rfl⟩ := h
    exact ⟨hd, Or.inl ⟨rfl, rfl⟩⟩
  · rename_i y
    have hy := hx y rfl
    split at h
    · rename_i k z hz
      rw [hz] at hy
      unfold V at hy
      split at h
      · rename_i m hm
        simp only [Option.some.injEq, Prod.mk.injEq] at h
        obtain ⟨rfl, rfl⟩ := h
        refine ⟨trivial, Or.inr ⟨y, k, rfl, ?_⟩⟩
        rw [hy]
        cases z with
        | ofNat z => simp [natOf] at hm; subst hm; rfl
        | negSucc z => simp [natOf] at hm
      · cases h
    · rename_i k z hz
      rw [hz] at hy
      unfold V at hy
      simp only [Option.some.injEq, Prod.mk.injEq] at h
      obtain ⟨rfl, rfl⟩ := h
      have h1 := of_decide_eq_true hc
      refine ⟨trivial, Or.inr ⟨y, k, rfl, ?_⟩⟩
      rw [hy]; congr 1; show z = ((z.toNat : Nat) : Int); omega
    · rename_i k lo z hz
      rw [hz] at hy
      unfold V at hy
      simp only [Option.some.injEq, Prod.mk.injEq] at h
      obtain ⟨rfl, rfl⟩ := h
      exact ⟨hy.2, Or.inr ⟨y, k, rfl, hy.1⟩⟩
    · cases h

theorem subNum_val (n m : Num) : (subNum n m).val = n.val - m.val := by cases n <;> cases m <;> rfl
theorem subNum_ok {n m : Num} (hn : n.ok) : (subNum n m).ok := by
  cases n <;> cases m <;> simp only [subNum, Num.ok, Nat.sub_eq] at hn ⊢ <;> omega

theorem OpOk.lazy {out : Out} (h : out.nd = true → OpOk P o a S w M w0 ρ out) : OpOk P o a S w M w0 ρ out := fun hnd => h hnd hnd

theorem run_loadAtV {vc : Vc} {t i k off : Nat} {d : Kd} {n r b : Nat} (h : Hp ρ S w) (hk : kd P t = some d) (hn : tsize P t = some n) (hvc : S.vec i = some vc) (hr : ρ i = some (r, b)) (hkn : k < vc.n.val) :
    (∀ cs, d.isAgg = true → vc.cellsAt k off n = some cs → ∃ vs, (Instr.loadAt t (.pointer (some ⟨r, b + (k * lenL vc.sh + off), none⟩))).run P w = .ok (.agg ⟨vs⟩) w ∧ VL ρ cs vs) ∧
    (∀ x, d.isAgg = false → vc.cellsAt k off 1 = some [x] → ∃ v, (Instr.loadAt t (.pointer (some ⟨r, b + (k * lenL vc.sh + off), none⟩))).run P w = .ok v w ∧ V ρ x v) := by
  refine ⟨fun cs ha hc => ?_, fun x ha hc => ?_⟩
  · obtain ⟨vs, hl, hv, hcell⟩ := h.vcellsAt hvc hr hkn n off cs hc
    refine ⟨vs, ?_, hv⟩
    have := run_loadCellsFrom (P := P) (w := w) r (b + (k * lenL vc.sh + off)) n 0 #[] vs hl (fun j v hj => by rw [Nat.add_zero]; exact hcell j v hj)
    simp only [Instr.loadAt, Instr.sureAddr, Sem.run_bind, Sem.run_pure, Result.andThen_ok, loadVar, run_isAgg w hk, ha, if_true, run_sizeOf w hn, loadCells, this]
    simp
  · obtain ⟨vs, hl, hv, hcell⟩ := h.vcellsAt hvc hr hkn 1 off [x] hc
    obtain ⟨v, rfl, h3⟩ := one_arg hv
    have h2 := hcell 0 v rfl
    rw [Nat.add_zero] at h2
    refine ⟨v, ?_, h3⟩
    simp only [Instr.loadAt, Instr.sureAddr, Sem.run_bind, Sem.run_pure, Result.andThen_ok, loadVar, run_isAgg w hk, ha, Bool.false_eq_true, if_false, run_load, h2]

/-- ONE OPERATION, of those that the evaluator knows. -/
theorem evOp_sound {Γ : List (Nat × Ctr)} (hΓ : ∀ f c, lookC f Γ = some c → Sat P f c) {out : Out} (he : evOp P Γ S o.op = some out) (hM : Mem M w0 ρ S w)
    (hops : ∀ x ∈ o.op.operands.toList, V ρ (opd S x) (a.eval x)) : OpOk P o a S w M w0 ρ out := by
  generalize hop : o.op = op at he hops
  cases op <;> simp only [evOp] at he <;> try (cases he; done)
  case move x =>
    cases he
    exact OpOk.pure0 w hM (by unfold execOp; rw [hop]; rfl) (hops x (by simp [Op.operands]))
  case assign x =>
    cases he
    exact OpOk.pure0 w hM (by unfold execOp; rw [hop]; rfl) (hops x (by simp [Op.operands]))
  case pick c x y =>
    have hc := hops c (by simp [Op.operands])
    have hx := hops x (by simp [Op.operands])
    have hy := hops y (by simp [Op.operands])
    split at he
    · rename_i h; rw [h] at hc; unfold V at hc; cases he
      exact OpOk.pure0 w hM (by unfold execOp; rw [hop]; simp [hc, asBool]) hx
    · rename_i h; rw [h] at hc; unfold V at hc; cases he
      exact OpOk.pure0 w hM (by unfold execOp; rw [hop]; simp [hc, asBool]) hy
    · rename_i b h; rw [h] at hc; unfold V at hc; cases he
      refine OpOk.pure0 (u := if b then a.eval x else a.eval y) w hM (by unfold execOp; rw [hop]; simp [hc, asBool]) (mergeV_sound b _ _ _ ?_)
      cases b
      · simpa using hy
      · simpa using hx
    · cases he
  case alloc t =>
    split at he
    · rename_i z hz; cases he
      intro _ next Q hn _
      unfold Oper.wp
      have hrun : (execOp a.eval o).run P w = .ok (.value (.pointer (some ⟨w.heap.size, 0, none⟩))) (w.alloc (.cells z.cells t)) := by
        unfold execOp; rw [hop]
        simp [Instr.alloc, run_zeroValue w hz, newVar, newRow]
      rw [hrun, Oper.upon_value]
      obtain ⟨hext, hmem⟩ := hM.alloc t (xs := absC z.cells.toList) (vs := z.cells) (VL_absC ρ _)
      refine hn _ _ _ (upd_extS hM.hp.dom _ _) (fun b v h => by cases h) ?_ hmem
      unfold V
      exact ⟨_, 0, upd_new .., rfl⟩
    · cases he
  case box t x =>
    split at he
    · rename_i cs hcs; cases he
      intro _ next Q hn _
      unfold Oper.wp
      have hrun : (execOp a.eval o).run P w = .ok (.value (.pointer (some ⟨w.heap.size, 0, none⟩))) (w.alloc (.cells (a.eval x).cells t)) := by
        unfold execOp; rw [hop]
        simp [Instr.box, newVar, newRow]
      rw [hrun, Oper.upon_value]
      obtain ⟨hext, hmem⟩ := hM.alloc t (xs := cs) (vs := (a.eval x).cells) (cellsO_sound hcs (hops x (by simp [Op.operands])))
      refine hn _ _ _ (upd_extS hM.hp.dom _ _) (fun b v h => by cases h) ?_ hmem
      unfold V
      exact ⟨_, 0, upd_new .., rfl⟩
    · cases he
  case build t parts =>
    have hparts : ∀ p ∈ parts.toList, V ρ (opd S p.2) (a.eval p.2) := fun p hp => hops p.2 (by
      simp only [Op.operands]
      exact List.mem_map_of_mem hp)
    have hmap : (parts.map fun (p : Nat × Operand) => (p.1, a.eval p.2)).toList = parts.toList.map fun p => (p.1, a.eval p.2) := by simp
    split at he
    · rename_i z fs hz hk
      split at he
      · rename_i pl hpl
        split at he
        · rename_i cs hcs; cases he
          obtain ⟨res, h1, h2⟩ := fillG_sound (ρ := ρ) (a := a) parts.toList _ z.cells cs hparts (VL_absC ρ _) hcs
          refine OpOk.pure0 (u := .agg res) w hM ?_ (by unfold V; exact ⟨res.toList, rfl, h2⟩)
          unfold execOp; rw [hop]
          obtain ⟨i, hi, hiz⟩ := tzero_info hz
          have hb : P.built t (parts.map fun (p : Nat × Operand) => (p.1, a.eval p.2)).toList = some res := by
            unfold Program.built
            rw [hi, kd_struct hk, hmap]
            simp only [hiz, plcs_mapM fs pl hpl]
            rw [← h1]
            congr 1
            funext j
            simp [nthP_get]
          have := run_build w t (parts.map fun (p : Nat × Operand) => (p.1, a.eval p.2)) res hb
          simp [this]
        · cases he
      · cases he
    · rename_i z n e hz hk
      split at he
      · rename_i sz hsz
        split at he
        · rename_i cs hcs; cases he
          obtain ⟨res, h1, h2⟩ := fillG_sound (ρ := ρ) (a := a) parts.toList _ z.cells cs hparts (VL_absC ρ _) hcs
          refine OpOk.pure0 (u := .agg res) w hM ?_ (by unfold V; exact ⟨res.toList, rfl, h2⟩)
          unfold execOp; rw [hop]
          obtain ⟨i, hi, hiz⟩ := tzero_info hz
          obtain ⟨ie, hie, hies⟩ := tsize_info hsz
          have hb : P.built t (parts.map fun (p : Nat × Operand) => (p.1, a.eval p.2)).toList = some res := by
            unfold Program.built
            rw [hi, kd_arr hk, hmap]
            simp only [hiz, hie, hies]
            exact h1
          have := run_build w t (parts.map fun (p : Nat × Operand) => (p.1, a.eval p.2)) res hb
          simp [this]
        · cases he
      · cases he
    · cases he
  case load t x =>
    have hx := hops x (by simp [Op.operands])
    split at he
    · rename_i i off hp
      rw [hp] at hx; unfold V at hx
      obtain ⟨r, b, hr, hxe⟩ := hx
      split at he
      · rename_i k n hk hn
        obtain ⟨l1, l2⟩ := run_loadAt (P := P) w (o := off) hM.hp hk hn hr
        split at he
        · rename_i ha
          split at he
          · rename_i cs hcs; cases he
            obtain ⟨vs, h1, h2⟩ := l1 cs ha hcs
            exact OpOk.pure0 (u := .agg ⟨vs⟩) w hM (by unfold execOp; rw [hop]; simp [hxe, h1]) (by unfold V; exact ⟨vs, rfl, h2⟩)
          · cases he
        · rename_i ha
          split at he
          · rename_i v hv; cases he
            obtain ⟨u, h1, h2⟩ := l2 v ha hv
            exact OpOk.pure0 (u := u) w hM (by unfold execOp; rw [hop]; simp [hxe, h1]) h2
          · cases he
      · cases he
    · -- out of a row
      rename_i i el k off hp
      rw [hp] at hx; unfold V at hx
      obtain ⟨r, b, hr, hxe⟩ := hx
      split at he
      · rename_i d n v hk hn hvc
        split at he
        · rename_i hel
          have hel := Nat.eq_of_beq_eq_true hel
          subst hel
          split at he
          · rename_i ha
            split at he
            · rename_i cs hcs; cases he
              refine OpOk.lazy fun hc => ?_
              obtain ⟨vs, h1, h2⟩ := (run_loadAtV (P := P) hM.hp hk hn hvc hr (Nat.le_of_ble_eq_true hc)).1 cs ha hcs
              exact OpOk.need (u := .agg ⟨vs⟩) w hM (fun _ => by unfold execOp; rw [hop]; simp [hxe, h1]) (fun _ => by unfold V; exact ⟨vs, rfl, h2⟩)
            · cases he
          · rename_i ha
            split at he
            · rename_i x' hx'; cases he
              refine OpOk.lazy fun hc => ?_
              obtain ⟨u, h1, h2⟩ := (run_loadAtV (P := P) hM.hp hk hn hvc hr (Nat.le_of_ble_eq_true hc)).2 x' ha hx'
              exact OpOk.need (u := u) w hM (fun _ => by unfold execOp; rw [hop]; simp [hxe, h1]) (fun _ => h2)
            · cases he
        · cases he
      · cases he
    · cases he
  case store t x y =>
    have hx := hops x (by simp [Op.operands])
    have hy := hops y (by simp [Op.operands])
    split at he
    · rename_i i off hp
      rw [hp] at hx; unfold V at hx
      obtain ⟨r, b, hr, hxe⟩ := hx
      split at he
      · rename_i n cs hn hcs
        split at he
        · rename_i hb
          simp only [Bool.and_eq_true] at hb
          obtain ⟨⟨⟨hb1, hb2⟩, hb3⟩, hb4⟩ := hb
          have hb1 := Nat.eq_of_beq_eq_true hb1
          have hb3 := Nat.le_of_ble_eq_true hb3
          cases he
          have hvl := cellsO_sound hcs hy
          obtain ⟨w', hrun, hmem⟩ := hM.store (P := P) (o := off) hr hb2 (by omega) hvl hb4
          have hlen : (a.eval y).cells.size = n := by rw [← Array.length_toList, VL_length _ _ hvl]; exact hb1
          have hex : (execOp a.eval o).run P w = .ok .skip w' := by
            unfold execOp; rw [hop]
            simp [hxe, Instr.storeAt, Instr.sureAddr, storeVar, run_sizeOf w hn, hlen, hrun]
          intro _ next Q hnext _
          unfold Oper.wp
          rw [hex, Oper.upon_skip]
          exact hnext undef w' ρ (ExtS.refl _ _) (fun b v h => by cases h) (by unfold V; rfl) hmem
        · cases he
      · cases he
    · -- into a row
      rename_i i el k off hp
      rw [hp] at hx; unfold V at hx
      obtain ⟨r, b, hr, hxe⟩ := hx
      split at he
      · rename_i n cs vc hn hcs hvc
        split at he
        · rename_i hb
          simp only [Bool.and_eq_true] at hb
          obtain ⟨hb1, hb2, hb3, hb4⟩ := hb
          have hb2 := Nat.eq_of_beq_eq_true hb2
          have hb3 := Nat.eq_of_beq_eq_true hb3
          subst hb3
          cases he
          intro hnd next Q hnext _
          have hkn := Nat.le_of_ble_eq_true hnd
          have hvl := cellsO_sound hcs hy
          obtain ⟨w', hrun, hmem⟩ := hM.vstore (P := P) (o := off) hvc hb1 hr hkn hb4 hvl
          have hlen : (a.eval y).cells.size = n := by rw [← Array.length_toList, VL_length _ _ hvl]; exact hb2
          have hex : (execOp a.eval o).run P w = .ok .skip w' := by
            unfold execOp; rw [hop]
            simp [hxe, Instr.storeAt, Instr.sureAddr, storeVar, run_sizeOf w hn, hlen, hrun]
          unfold Oper.wp
          rw [hex, Oper.upon_skip]
          exact hnext undef w' ρ (ExtS.refl _ _) (fun b v h => by cases h) (by unfold V; rfl) hmem
        · cases he
      · cases he
    · cases he
  case nilCheck x =>
    have hx := hops x (by simp [Op.operands])
    split at he
    · rename_i i off hp
      rw [hp] at hx
      cases he
      have hx0 := hx
      unfold V at hx
      obtain ⟨r, b, hr, hxe⟩ := hx
      exact OpOk.pure0 (u := a.eval x) w hM (by unfold execOp; rw [hop]; simp [hxe]) hx0
    · rename_i i el k off hp
      rw [hp] at hx
      cases he
      have hx0 := hx
      unfold V at hx
      obtain ⟨r, b, hr, hxe⟩ := hx
      exact OpOk.pure0 (u := a.eval x) w hM (by unfold execOp; rw [hop]; simp [hxe]) hx0
    · rename_i g xs ys hp
      rw [hp] at hx
      cases he
      have hx0 := hx
      unfold V at hx
      obtain ⟨us, vs, hxe, _, _⟩ := hx
      exact OpOk.pure0 (u := a.eval x) w hM (by unfold execOp; rw [hop]; simp [hxe]) hx0
    · cases he
  case binOp op t x y t' =>
    split at he
    · rename_i z hz; cases he
      obtain ⟨r, w', h1, h2, h3, h4⟩ := evBin_sound (P := P) w hz (hops x (by simp [Op.operands])) (hops y (by simp [Op.operands]))
      exact OpOk.pure (u := r) w hM h3 (by unfold execOp; rw [hop]; simp [h4, h1]) h2
    · cases he
  case unOp op t x =>
    split at he
    · rename_i z hz; cases he
      obtain ⟨r, h1, h2⟩ := evUn_sound (P := P) w hz (hops x (by simp [Op.operands]))
      exact OpOk.pure0 (u := r) w hM (by unfold execOp; rw [hop]; simp [h1]) h2
    · cases he
  case convert src dst x =>
    split at he
    · rename_i z hz; cases he
      obtain ⟨r, w', h1, h2, h3⟩ := evConv_sound (P := P) w hz (hops x (by simp [Op.operands]))
      exact OpOk.pure (u := r) w hM h3 (by unfold execOp; rw [hop]; simp [h1]) h2
    · cases he
  case fieldAddr t x f =>
    have hx := hops x (by simp [Op.operands])
    split at he
    · rename_i i off fs hp hk
      rw [hp] at hx; unfold V at hx
      obtain ⟨r, b, hr, hxe⟩ := hx
      split at he
      · rename_i fd hfd
        split at he
        · cases he
        · rename_i n hn0 hn; cases he
          refine OpOk.pure0 (u := .pointer (some ⟨r, b + off + fd.offset, none⟩)) w hM ?_ (by unfold V; exact ⟨r, b, hr, by simp [Nat.add_assoc]⟩)
          unfold execOp; rw [hop]
          have := run_fieldAt (P := P) w (r := r) (b := b + off) (kd_struct hk) hfd hn hn0
          simp [hxe, this]
        · cases he
      · cases he
    · rename_i i el k off fs hp hk
      rw [hp] at hx; unfold V at hx
      obtain ⟨r, b, hr, hxe⟩ := hx
      split at he
      · rename_i fd hfd
        split at he
        · cases he
        · rename_i n hn0 hn; cases he
          refine OpOk.pure0 (u := .pointer (some ⟨r, b + (k * el + off) + fd.offset, none⟩)) w hM ?_ (by unfold V; exact ⟨r, b, hr, by simp [Nat.add_assoc]⟩)
          unfold execOp; rw [hop]
          have := run_fieldAt (P := P) w (r := r) (b := b + (k * el + off)) (kd_struct hk) hfd hn hn0
          simp [hxe, this]
        · cases he
      · cases he
    · cases he
  case field t x f =>
    have hx := hops x (by simp [Op.operands])
    split at he
    · rename_i cs fs hp hk
      rw [hp] at hx; unfold V at hx
      obtain ⟨vs, hxe, hvl⟩ := hx
      split at he
      · rename_i fd hfd
        split at he
        · rename_i z hz; cases he
          obtain ⟨r, h1, h2⟩ := run_field (P := P) w (kd_struct hk) hfd hz hvl
          exact OpOk.pure0 (u := r) w hM (by unfold execOp; rw [hop]; simp [hxe, h1]) h2
        · cases he
      · cases he
    · cases he
  case indexAddr t x ix =>
    have hx := hops x (by simp [Op.operands])
    have hi := hops ix (by simp [Op.operands])
    split at he
    · rename_i i off n e hp hk
      rw [hp] at hx; unfold V at hx
      obtain ⟨r, b, hr, hxe⟩ := hx
      split at he
      · rename_i m sz hm hsz; cases he
        obtain ⟨k, hie, hlt⟩ := idxOf_spec hm hi
        have := run_indexAt_arr (P := P) w (k := k) (r := r) (b := b + off) (kd_arr hk) hlt hsz
        exact OpOk.pure0 (u := .pointer (some ⟨r, b + off + m * sz, none⟩)) w hM (by unfold execOp; rw [hop]; simp [hxe, hie, this]) (by unfold V; exact ⟨r, b, hr, by simp [Nat.add_assoc]⟩)
      · cases he
    · rename_i i el k off n e hp hk
      rw [hp] at hx; unfold V at hx
      obtain ⟨r, b, hr, hxe⟩ := hx
      split at he
      · rename_i m sz hm hsz; cases he
        obtain ⟨kk, hie, hlt⟩ := idxOf_spec hm hi
        have := run_indexAt_arr (P := P) w (k := kk) (r := r) (b := b + (k * el + off)) (kd_arr hk) hlt hsz
        exact OpOk.pure0 (u := .pointer (some ⟨r, b + (k * el + off) + m * sz, none⟩)) w hM (by unfold execOp; rw [hop]; simp [hxe, hie, this]) (by unfold V; exact ⟨r, b, hr, by simp [Nat.add_assoc]⟩)
      · cases he
    · rename_i i el av n e hp hk
      rw [hp] at hx; unfold V at hx
      obtain ⟨hok, hkn, base, c, hxe, hc⟩ := hx
      split at he
      · rename_i m cnd sz hm hsz
        split at he
        · rename_i hb; cases he
          have hb := Nat.eq_of_beq_eq_true hb
          subst hb
          refine OpOk.lazy fun hnd => ?_
          obtain ⟨kk, hie, hlt⟩ := idxV_spec hm hnd hi
          rcases hc with ⟨_, h0⟩ | ⟨r, b, hr, rfl, rfl, hcap⟩
          · omega
          · have := run_indexAt_slice (P := P) w (k := kk) (r := r) (b := b + av * sz) (c := ρ.cap i - av) (kd_slice hk) hlt hsz
            refine OpOk.need (u := .pointer (some ⟨r, b + av * sz + m * sz, none⟩)) w hM (fun _ => by unfold execOp; rw [hop]; simp [hxe, hie, this]) (fun _ => ?_)
            unfold V
            refine ⟨r, b, hr, ?_⟩
            simp only [Nat.add_eq, Nat.add_mul, Nat.add_assoc, Nat.add_zero]
        · cases he
      · cases he
    · rename_i i off l c e hp hk
      rw [hp] at hx; unfold V at hx
      obtain ⟨r, b, hr, hxe⟩ := hx
      split at he
      · rename_i m sz hm hsz; cases he
        obtain ⟨k, hie, hlt⟩ := idxOf_spec hm hi
        have := run_indexAt_slice (P := P) w (k := k) (r := r) (b := b + off) (c := c) (kd_slice hk) hlt hsz
        exact OpOk.pure0 (u := .pointer (some ⟨r, b + off + m * sz, none⟩)) w hM (by unfold execOp; rw [hop]; simp [hxe, hie, this]) (by unfold V; exact ⟨r, b, hr, by simp [Nat.add_assoc]⟩)
      · cases he
    · cases he
  case index t x ix =>
    have hx := hops x (by simp [Op.operands])
    have hi := hops ix (by simp [Op.operands])
    split at he
    · rename_i cs n e hp hk
      rw [hp] at hx; unfold V at hx
      obtain ⟨vs, hxe, hvl⟩ := hx
      split at he
      · rename_i m sz hm hsz
        split at he
        · rename_i z hz; cases he
          obtain ⟨k, hie, hlt⟩ := idxOf_spec hm hi
          obtain ⟨r, h1, h2⟩ := run_index_arr (P := P) w (k := k) (kd_arr hk) hlt hsz hz hvl
          exact OpOk.pure0 (u := r) w hM (by unfold execOp; rw [hop]; simp [hxe, hie, h1]) h2
        · cases he
      · cases he
    · cases he
  case extract t ix =>
    have hx := hops t (by simp [Op.operands])
    split at he
    · rename_i vs hp
      rw [hp] at hx; unfold V at hx
      obtain ⟨us, hxe, hvl⟩ := hx
      split at he
      · rename_i hb; cases he
        have hb := Nat.le_of_ble_eq_true hb
        obtain ⟨v, h1, h2⟩ := VL_nth _ _ hvl ix (by omega)
        have h1' : (⟨us⟩ : Array Value)[ix]? = some v := by simpa using h1
        exact OpOk.pure0 (u := v) w hM (by unfold execOp; rw [hop]; simp [hxe, Instr.extract, h1']) h2
      · cases he
    · cases he
  case slice t x lo hi mx =>
    have hx := hops x (by simp [Op.operands])
    split at he
    · rename_i i off n e hp hk
      rw [hp] at hx; unfold V at hx
      obtain ⟨r, b, hr, hxe⟩ := hx
      split at he
      · rename_i l h sz hl hh hsz
        split at he
        · rename_i hb
          simp only [Bool.and_eq_true] at hb
          have hb1 := Nat.le_of_ble_eq_true hb.1
          have hb2 := Nat.le_of_ble_eq_true hb.2
          cases he
          have hlo : ∀ code, h ≤ n → ((match lo.map a.eval with | some v => Instr.sliceBound v h code | none => pure 0 : Sem Nat)).run P w = .ok l w := by
            intro code hhn
            cases lo with
            | none => simp at hl; subst hl; rfl
            | some x' =>
              obtain ⟨k, hie, hlt⟩ := idxOf_spec hl (hops x' (by simp [Op.operands]))
              simp only [Option.map_some, Instr.sliceBound, hie, asIntOf, Sem.run_bind, Sem.run_pure, Result.andThen_ok]
              rw [if_pos (by omega)]; simp
          have hhi : h ≤ n ∧ ∀ code, ((match hi.map a.eval with | some v => Instr.sliceBound v n code | none => pure n : Sem Nat)).run P w = .ok h w := by
            cases hi with
            | none => simp at hh; subst hh; exact ⟨Nat.le_refl _, fun _ => rfl⟩
            | some x' =>
              obtain ⟨k, hie, hlt⟩ := idxOf_spec hh (hops x' (by simp [Op.operands]))
              refine ⟨by omega, fun code => ?_⟩
              simp only [Option.map_some, Instr.sliceBound, hie, asIntOf, Sem.run_bind, Sem.run_pure, Result.andThen_ok]
              rw [if_pos (by omega)]; simp
          refine OpOk.pure0 (u := .slice (some ⟨r, b + off + l * sz, none⟩) (h - l) (n - l)) w hM ?_ (by unfold V; exact ⟨r, b, hr, by simp [Nat.add_assoc]⟩)
          have hbounds : (Instr.sliceBounds false n n (lo.map a.eval) (hi.map a.eval) none).run P w = .ok (l, h, n) w := by
            unfold Instr.sliceBounds
            have h1 := hhi.2 .sliceAlen
            have h2 := hlo .sliceB hhi.1
            cases hi <;> cases lo <;> simp_all
          unfold execOp; rw [hop]
          simp only [Instr.sliceAt, Sem.run_bind, run_underlying (kd_arr hk), Result.andThen_ok, hxe, Instr.sureAddr, Sem.run_pure, Option.map_none, hbounds, run_sizeOf w hsz]
          rw [if_neg (by omega), Addr_add]
        · cases he
      · cases he
    · -- of a row
      rename_i i el av n e hp hk
      rw [hp] at hx; unfold V at hx
      obtain ⟨hok, hkn, base, c, hxe, hc⟩ := hx
      split at he
      · rename_i l cl h ch sz hl hh hsz
        split at he
        · rename_i hb
          have hb := Nat.eq_of_beq_eq_true hb
          subst hb
          cases he
          refine OpOk.lazy fun hnd => ?_
          have hnd : (cl && (ch && (Nat.ble l.val h.val && Nat.ble h.val n.val))) = true := hnd
          simp only [Bool.and_eq_true] at hnd
          obtain ⟨hcl, hch, h1, h2⟩ := hnd
          have h1 := Nat.le_of_ble_eq_true h1
          have h2 := Nat.le_of_ble_eq_true h2
          obtain ⟨hlok, hl2⟩ := bndV_spec (ρ := ρ) (a := a) hl hcl trivial (fun y hy => hops y (by subst hy; simp [Op.operands]))
          obtain ⟨hhok, hh2⟩ := bndV_spec (ρ := ρ) (a := a) hh hch hok (fun y hy => hops y (by subst hy; simp [Op.operands]))
          have hnc : n.val ≤ c := by
            rcases hc with ⟨h3, h4⟩ | ⟨r, b, hr, rfl, rfl, hcap⟩ <;> omega
          have hlo : ∀ code, ((match lo.map a.eval with | some v => Instr.sliceBound v h.val code | none => pure 0 : Sem Nat)).run P w = .ok l.val w := by
            intro code
            rcases hl2 with ⟨rfl, hl3⟩ | ⟨y, k, rfl, hy⟩
            · rw [hl3]; rfl
            · simp only [Option.map_some, Instr.sliceBound, hy, asIntOf, Sem.run_bind, Sem.run_pure, Result.andThen_ok]
              rw [if_pos (by omega)]; simp
          have hhi : ∀ code, ((match hi.map a.eval with | some v => Instr.sliceBound v c code | none => pure n.val : Sem Nat)).run P w = .ok h.val w := by
            intro code
            rcases hh2 with ⟨rfl, hh3⟩ | ⟨y, k, rfl, hy⟩
            · rw [hh3]; rfl
            · simp only [Option.map_some, Instr.sliceBound, hy, asIntOf, Sem.run_bind, Sem.run_pure, Result.andThen_ok]
              rw [if_pos (by omega)]; simp
          have hbounds : (Instr.sliceBounds true n.val c (lo.map a.eval) (hi.map a.eval) none).run P w = .ok (l.val, h.val, c) w := by
            have h3 := hhi .sliceAcap
            have h4 := hlo .sliceB
            clear hhi hlo hl2 hh2 hops hM hc hnd hΓ
            unfold Instr.sliceBounds
            cases hi <;> cases lo <;> simp only [Option.map_none, Option.map_some, if_true, Sem.run_bind, Sem.run_pure, Result.andThen_ok, Option.isSome_none, Bool.false_eq_true, if_false] at h3 h4 ⊢ <;> (try simp only [Result.ok.injEq, and_true] at h3) <;> (try simp only [Result.ok.injEq, and_true] at h4) <;> simp [h3, h4]
          refine OpOk.need (u := .slice (if c = l.val then base else base.map (·.add (l.val * sz))) (h.val - l.val) (c - l.val)) w hM (fun _ => ?_) (fun _ => ?_)
          · unfold execOp; rw [hop]
            simp only [Instr.sliceAt, Instr.slice, Sem.run_bind, run_underlying (kd_slice hk), Result.andThen_ok, hxe, hbounds, run_sizeOf w hsz, Option.map_none, Sem.run_pure]
          · unfold V
            refine ⟨subNum_ok hhok, hkn, _, _, by rw [subNum_val], ?_⟩
            rw [subNum_val]
            rcases hc with ⟨h3, h4⟩ | ⟨r, b, hr, rfl, rfl, hcap⟩
            · left; omega
            · by_cases hcl' : ρ.cap i - av = l.val
              · left; omega
              · right
                refine ⟨r, b, hr, ?_, by simp only [Nat.add_eq]; omega, by simp only [Nat.add_eq]; omega⟩
                rw [if_neg hcl']
                simp only [Option.map_some, Addr_add, Option.some.injEq, Addr.mk.injEq, true_and, and_true, Nat.add_eq, Nat.add_mul]
                omega
        · cases he
      · cases he
    · cases he
  case makeInterface t x =>
    have hx := hops x (by simp [Op.operands])
    split at he
    · cases he
    · rename_i d hne hk
      obtain ⟨ds, hd⟩ := kd_underlying hk
      have hni : ∀ ms, ds ≠ .interface ms := fun ms e => by
        subst e
        unfold kd at hk
        rw [hd] at hk
        simp only [Option.some.injEq] at hk
        exact hne hk.symm
      have hrun : (execOp a.eval o).run P w = .ok (.value (.iface t (a.eval x))) w := by
        unfold execOp; rw [hop]
        simp only [Instr.makeInterface, Sem.run_bind, run_underlying hd, Result.andThen_ok]
        cases ds <;> first | rfl | exact absurd rfl (hni _)
      split at he
      · cases he
      · cases he
      · cases he
        exact OpOk.pure0 (u := .iface t (a.eval x)) w hM hrun (by unfold V; exact ⟨_, rfl, hx⟩)
    · cases he
  case makeFunc f xs ys =>
    split at he
    · rename_i g; cases he
      have h1 := argsOf_VL (ρ := ρ) (a := a) (S := S) xs.toList (fun x hx => hops x (by simp only [Op.operands]; simp [hx]))
      have h2 := argsOf_VL (ρ := ρ) (a := a) (S := S) ys.toList (fun x hx => hops x (by simp only [Op.operands]; simp [hx]))
      refine OpOk.pure0 (u := .func (.func g) ⟨xs.toList.map a.eval⟩ ⟨ys.toList.map a.eval⟩) w hM ?_ (by unfold V; exact ⟨_, _, rfl, h1, h2⟩)
      unfold execOp; rw [hop]
      simp only [Instr.makeFunc, Sem.run_bind, Sem.run_pure, Result.andThen_ok]
      congr 3 <;> (apply Array.ext'; simp)
    · cases he
  case makeSlice t len cap =>
    have hlen := hops len (by simp [Op.operands])
    split at he
    · rename_i e n c hk hn
      split at he
      · rename_i sh z by_ helem hby
        split at he
        · rename_i hs; cases he
          exact evMake_sound hop (kd_slice hk) hn helem hby hs hM hlen
        · cases he
      · cases he
    · cases he
  case panic x =>
    have hx := hops x (by simp [Op.operands])
    split at he
    · rename_i t v hp
      rw [hp] at hx
      cases he
      have hx0 := hx
      unfold V at hx
      obtain ⟨u, hxe, _⟩ := hx
      intro _ next Q _ hq
      unfold Oper.wp
      have hrun : (execOp a.eval o).run P w = .halt (.panic (a.eval x)) w := by
        unfold execOp; rw [hop]
        simp [hxe, Instr.panic]
      rw [hrun, Oper.upon_panic]
      exact hq _ _ w rfl hx0 hM
    · cases he
  case call c =>
    split at he
    · rename_i b hb
      have hargs := argsOf_VL (ρ := ρ) (a := a) c.args.toList (fun x hx => hops x (by simp only [Op.operands, Call.operands, hb]; simpa using hx))
      have harr : (⟨c.args.toList.map a.eval⟩ : Array Value) = c.args.map a.eval := by
        apply Array.ext'; simp
      refine evBuiltin_sound (ts := c.argTypes) (ty := o.type) (cs := c.args.map fun | .const _ => true | _ => false) he hM hargs ?_
      rw [harr]
      unfold execOp; rw [hop]; simp only [resolve, hb, Sem.run_bind, Sem.run_pure, Result.andThen_ok, invoke]; try rfl
    · rename_i f hf
      have hfv := hops f (by simp only [Op.operands, Call.operands, hf]; simp)
      split at he
      · rename_i g xs ys hp
        rw [hp] at hfv; unfold V at hfv
        obtain ⟨us, vs, hfe, h1, h2⟩ := hfv
        have hargs := argsOf_VL (ρ := ρ) (a := a) c.args.toList (fun x hx => hops x (by simp only [Op.operands, Call.operands, hf]; simpa using Or.inr hx))
        exact evCall_sound hΓ he hM (VL_append _ _ _ _ (VL_append _ _ _ _ h1 hargs) h2) (run_call_val hop hf hfe)
      · cases he
    · cases he
end
end Go.Ab
