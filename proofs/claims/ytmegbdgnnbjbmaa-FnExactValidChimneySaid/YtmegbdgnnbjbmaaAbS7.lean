import Derived.Test.YtmegbdgnnbjbmaaAbS6
import Derived.Deep.AppendSrc
import Derived.Deep.Upon
import Derived.Laws.MakeOwn
namespace Go.Ab
open Go Go.RowKit
set_option linter.unusedVariables false

section
variable {P : Program} {ρ : Rho} {o : Oper} {a : Act} {S : St} {M : Addr → Prop} {w0 w : World}

theorem argsOf_VL : ∀ (xs : List Operand), (∀ x ∈ xs, V ρ (opd S x) (a.eval x)) → VL ρ (argsOf S xs) (xs.map a.eval)
  | [], _ => by simp [argsOf, VL]
  | x :: xs, h => by
    simp only [argsOf, List.map_cons]
    unfold VL
    exact ⟨_, _, rfl, h x (by simp), argsOf_VL xs (fun y hy => h y (by simp [hy]))⟩

theorem nth_get : ∀ (l : List AVal) (i : Nat) (_h : i < l.length), l[i]? = some (nth i l)
  | [], _, h => by simp at h
  | x :: l, 0, _ => rfl
  | x :: l, i + 1, h => by simpa [nth] using nth_get l i (by simpa using h)

theorem evExt_sound {k : Xk} {args : List AVal} {z : AVal} {vs : List Value} (w : World) (h : evExt k args = some z) (hv : VL ρ args vs) : ∃ u, (extFn k ⟨vs⟩).run P w = .ok u w ∧ V ρ z u := by
  unfold evExt at h
  split at h
  all_goals first | (cases h; done) | skip
  case' h_3 | h_4 =>
    split at h
    case h_2 => cases h
    rename_i hlt
    have hlt := Nat.le_of_ble_eq_true hlt
  all_goals
    cases h
    unfold VL at hv
    obtain ⟨v, vs', rfl, hv1, hv⟩ := hv
    unfold VL at hv
    subst hv
    unfold V at hv1
  case h_1 b | h_2 b =>
    obtain ⟨b', rfl, hb, _, _⟩ := hv1
    refine ⟨_, rfl, ?_⟩
    unfold V
    refine ⟨_, rfl, fun hn => ?_⟩
    rcases hb with rfl | ⟨h1, _⟩
    · rfl
    · rw [nanB_eq, h1] at hn; cases hn
  all_goals
    subst hv1
    refine ⟨_, rfl, ?_⟩
    unfold V
    exact ⟨_, rfl, Or.inl rfl, hlt, hlt⟩

/-- A call, by its contract. -/
theorem evCall_sound {Γ : List (Nat × Ctr)} (hΓ : ∀ f c, lookC f Γ = some c → Sat P f c) {f : FuncId} {args : List AVal} {vs : List Value} {out : Out} (he : evCall Γ S f args = some out) (hM : Mem M w0 ρ S w)
    (hvs : VL ρ args vs) (hrun : (execOp a.eval o).run P w = (callFunc f ⟨vs⟩).run P w) : OpOk P o a S w M w0 ρ out := by
  unfold evCall at he
  split at he
  case h_2 => cases he
  rename_i ctr hctr
  have hsat0 := hΓ f ctr hctr
  split at he
  · rename_i k hk
    split at he
    · rename_i v hv; cases he
      unfold Sat at hsat0
      rw [hk] at hsat0
      simp only at hsat0
      obtain ⟨u, h1, h2⟩ := evExt_sound (P := P) w hv hvs
      refine OpOk.pure0 (u := u) w hM ?_ h2
      rw [hrun, hsat0, h1]; rfl
    · cases he
  · rename_i hx
    have hsat : SatC P f ctr := by
      unfold Sat at hsat0
      rw [hx] at hsat0
      exact hsat0
    intro hnd next Q hn hq
    unfold Oper.wp
    rw [hrun, hsat.call, Oper.upon_enter]
    refine (hsat.sat args S out he hnd M w0 ρ w vs hM hvs).mono ?_
    intro e w' hres
    cases e with
    | returned u =>
      obtain ⟨h1, ρ', h2, h3, h4⟩ := hres
      exact hn u w' ρ' h2 h1 h3 h4
    | panicked ch =>
      obtain ⟨v, u, h1, rfl, h2, h3⟩ := hres
      exact hq v u w' h1 h2 h3
    | outgrown => exact hres.elim

theorem run_call_val {c : Call} {f : Operand} {g : FuncId} {us cs : List Value} (hop : o.op = .call c) (hc : c.callee = .value f) (hf : a.eval f = .func (.func g) ⟨us⟩ ⟨cs⟩) :
    (execOp a.eval o).run P w = (callFunc g ⟨us ++ c.args.toList.map a.eval ++ cs⟩).run P w := by
  unfold execOp
  rw [hop]
  simp only [resolve, hc, hf, Deferred.ofValue, Sem.run_bind, Sem.run_pure, Result.andThen_ok, invoke]
  congr 2
  apply Array.ext'
  simp

/-! new rows -/
/-- A block of which nothing is said yet. -/
theorem Mem.ghost (h : Mem M w0 ρ S w) (vv : List (Nat × Vc)) (u : Vc) (hvv : ∀ i u, vlook1 i vv = some u → u = Vc.none [] ∧ i < S.hp.length) : Mem M w0 ρ (S.put [] vv [⟨[], false, some u⟩]) w := by
  have hlen : (S.put [] vv [⟨[], false, some u⟩]).hp.length = S.hp.length + 1 := by simp [St.put, St.ext]
  have hhv : ∀ i o, hlookL i o (S.put [] vv [⟨[], false, some u⟩]).hvs = hlookL i o S.hvs := fun i o => by simp [St.put, St.ext, hlookL, hlook1]
  have hvvs : ∀ i, vlookL i (S.put [] vv [⟨[], false, some u⟩]).vvs = match vlook1 i vv with | some u => some u | none => vlookL i S.vvs := fun i => by simp only [St.put, St.ext, vlookL]; cases vlook1 i vv <;> rfl
  have hcell : ∀ i o x, (S.put [] vv [⟨[], false, some u⟩]).cell i o = some x → i < S.hp.length ∧ S.cell i o = some x := fun i o x hx => by
    have hi := cell_lt hx
    have ho := cell_off hx
    rw [hlen] at hi
    rcases Nat.lt_or_ge i S.hp.length with hlt | hge
    · refine ⟨hlt, ?_⟩
      unfold St.cell at hx ⊢
      rw [put_blk_old _ _ _ _ hlt, hhv] at hx; exact hx
    · have : i = S.hp.length := by omega
      subst this
      rw [put_blk_new] at ho; simp at ho
  have hvec : ∀ i x, i < S.hp.length → (S.put [] vv [⟨[], false, some u⟩]).vec i = some x → x = Vc.none [] ∨ S.vec i = some x := fun i x hi hx => by
    unfold St.vec at hx ⊢
    rw [put_blk_old _ _ _ _ hi, hvvs] at hx
    split at hx
    · rename_i v hcs hvc
      cases hl : vlook1 i vv with
      | some y =>
        rw [hl] at hx
        simp only [Option.some.injEq] at hx
        subst hx
        exact Or.inl (hvv i _ hl).1
      | none =>
        rw [hl] at hx
        exact Or.inr hx
    · cases hx
  refine ⟨⟨?_, ?_, ?_, ?_, ?_, ?_, ?_, ?_, ?_, ?_, h.hp.lt⟩, h.fr, ⟨?_, ?_⟩⟩
  · intro i o x hx; exact h.hp.cell i o x (hcell i o x hx).2
  · intro i vc r b k o c hx hr hk hc
    rcases hvec i vc (h.hp.dom _ _ hr) hx with rfl | hx
    · simp [Vc.none, nthC] at hc
    · exact h.hp.vcell i vc r b k o c hx hr hk hc
  · intro i o x r b hx hw hr
    obtain ⟨h1, h2⟩ := hcell i o x hx
    rw [put_blk_old _ _ _ _ h1] at hw
    exact h.hp.frz i o x r b h2 hw hr
  · intro i vc r b q hx hw hr hq
    rcases hvec i vc (h.hp.dom _ _ hr) hx with rfl | hx
    · simp [Vc.none] at hw
    · exact h.hp.vfrz i vc r b q hx hw hr hq
  · intro i vc r b hx hw hr
    rcases hvec i vc (h.hp.dom _ _ hr) hx with rfl | hx
    · simp [Vc.none] at hw
    · exact h.hp.vcap i vc r b hx hw hr
  · intro i j r b b' hij hw hr hr' hlv
    have hi := h.hp.dom _ _ hr
    have hj := h.hp.dom _ _ hr'
    refine h.hp.dis i j r b b' hij ?_ hr hr' ?_
    · rcases wrB_iff.1 hw with ⟨o, x, hx, hw⟩ | ⟨v, hv, hw⟩
      · rw [put_blk_old _ _ _ _ hi] at hw
        exact wrB_iff.2 (Or.inl ⟨o, x, (hcell i o x hx).2, hw⟩)
      · rcases hvec i v hi hv with rfl | hx
        · simp [Vc.none] at hw
        · exact wrB_iff.2 (Or.inr ⟨v, hx, hw⟩)
    · rcases live_iff.1 hlv with ⟨x, hx⟩ | ⟨v, c, sh, hx, hs⟩
      · exact live_cell (hcell j 0 x hx).2
      · rcases hvec j v hj hx with rfl | hx
        · simp [Vc.none] at hs
        · exact live_iff.2 (Or.inr ⟨v, c, sh, hx, hs⟩)
  · intro i p hp; rw [hlen]; have := h.hp.dom i p hp; omega
  · intro i hk; rw [hlen]; have := h.hp.kdm i hk; omega
  · intro i o x hx; rw [hhv] at hx; rw [hlen]; have := h.hp.ink i o x hx; omega
  · intro i x hx
    rw [hvvs] at hx
    rw [hlen]
    cases hl : vlook1 i vv with
    | some y => have := (hvv i y hl).2; omega
    | none => rw [hl] at hx; have := h.hp.vink i x hx; omega
  · intro i o x r b hx hw hr
    obtain ⟨h1, h2⟩ := hcell i o x hx
    rw [put_blk_old _ _ _ _ h1] at hw
    exact h.own.cell i o x r b h2 hw hr
  · intro i vc r b q hx hw hr hq
    rcases hvec i vc (h.hp.dom _ _ hr) hx with rfl | hx
    · simp [Vc.none] at hw
    · exact h.own.vec i vc r b q hx hw hr hq

/-- A block that is known of, and lies nowhere. -/
def updK (ρ : Rho) (n : Nat) : Rho := ⟨ρ.p, ρ.cap, fun i => if i = n then true else ρ.kn i⟩
theorem updK_ext (ρ : Rho) (n : Nat) : Ext ρ (updK ρ n) := ⟨fun i p h => ⟨h, rfl⟩, fun i h => by simp only [updK]; split <;> first | rfl | exact h⟩
theorem updK_kn (ρ : Rho) (n : Nat) : (updK ρ n).kn n = true := by simp [updK]

theorem Mem.known (h : Mem M w0 ρ S w) {n : Nat} (hn : n < S.hp.length) : Mem M w0 (updK ρ n) S w := by
  have hx := updK_ext ρ n
  refine ⟨⟨fun i o x hx' => ?_, fun i vc r b k o c hv hr hk hc => ?_, h.hp.frz, h.hp.vfrz, h.hp.vcap, h.hp.dis, h.hp.dom, fun i hk => ?_, h.hp.ink, h.hp.vink, h.hp.lt⟩, h.fr, ⟨h.own.cell, h.own.vec⟩⟩
  · obtain ⟨r, b, v, k1, k2, k3⟩ := h.hp.cell i o x hx'
    exact ⟨r, b, v, k1, k2, V_ext hx _ _ k3⟩
  · obtain ⟨v, k1, k2⟩ := h.hp.vcell i vc r b k o c hv hr hk hc
    exact ⟨v, k1, V_ext hx _ _ k2⟩
  · simp only [updK] at hk
    split at hk
    · rename_i e; subst e; exact hn
    · exact h.hp.kdm i hk

theorem elemOf_spec {e : TypeId} {sh : List CK} {z0 : List AVal} (h : elemOf P e = some (sh, z0)) :
    ∃ i z, P.info? e = some i ∧ i.zero = some z ∧ i.size = lenL sh ∧ 1 ≤ lenL sh ∧ shOf z0 = some sh ∧ z0 = absC z.cells.toList := by
  unfold elemOf at h
  split at h
  · rename_i z n hz hn
    split at h
    · rename_i sh' hsh
      split at h
      · rename_i hb
        simp only [Option.some.injEq, Prod.mk.injEq] at h
        obtain ⟨rfl, rfl⟩ := h
        simp only [Bool.and_eq_true] at hb
        obtain ⟨i, hi, hiz⟩ := tzero_info hz
        obtain ⟨i', hi', his⟩ := tsize_info hn
        rw [hi] at hi'; cases hi'
        have h1 := Nat.eq_of_beq_eq_true hb.1
        have h2 := Nat.le_of_ble_eq_true hb.2
        exact ⟨i, z, hi, hiz, by omega, by omega, hsh, rfl⟩
      · cases h
    · cases h
  · cases h

theorem shOf_spec : ∀ (l : List AVal) (sh : List CK), shOf l = some sh → lenL sh = l.length ∧ ∀ p c, nthC p sh = some c → fits c (nth p l) = true
  | [], sh, h => by simp [shOf] at h; subst h; exact ⟨rfl, fun p c hc => by simp [nthC] at hc⟩
  | v :: r, sh, h => by
    unfold shOf at h
    split at h
    · rename_i c l hc hl
      cases h
      obtain ⟨h1, h2⟩ := shOf_spec r l hl
      refine ⟨by simp [lenL, h1], fun p d hd => ?_⟩
      cases p with
      | zero =>
        simp [nthC] at hd; subst hd
        show fits c v = true
        unfold ckOf at hc
        split at hc <;> cases hc <;> simp [fits]
      | succ p => exact h2 p d (by simpa [nthC] using hd)
    · cases h

theorem mod_seg (k e o : Nat) (ho : o < e) : (k * e + o) % e = o := by
  rw [Nat.mul_comm, Nat.mul_add_mod]; exact Nat.mod_eq_of_lt ho

theorem tbytes_spec {e : TypeId} {b : Nat} {i : TypeInfo} (h : tbytes P e = some b) (hi : P.info? e = some i) : i.bytes = b := by
  unfold tbytes at h
  rw [hi] at h
  simpa using h

theorem numOf_spec {x : AVal} {n : Num} {c : Bool} {v : Value} (h : numOf x = some (n, c)) (hc : c = true) (hv : V ρ x v) : v = .int .i64 (n.val : Int) ∧ n.ok := by
  unfold numOf at h
  split at h
  · rename_i z
    split at h
    · rename_i m hm
      simp only [Option.some.injEq, Prod.mk.injEq] at h
      obtain ⟨rfl, rfl⟩ := h
      unfold V at hv
      subst hv
      cases z with
      | ofNat z => simp [natOf] at hm; subst hm; exact ⟨rfl, trivial⟩
      | negSucc z => simp [natOf] at hm
    · cases h
  · simp only [Option.some.injEq, Prod.mk.injEq] at h
    obtain ⟨rfl, rfl⟩ := h
    unfold V at hv
    exact ⟨hv.1, hv.2⟩
  · rename_i z
    simp only [Option.some.injEq, Prod.mk.injEq] at h
    obtain ⟨rfl, rfl⟩ := h
    have := of_decide_eq_true hc
    unfold V at hv
    subst hv
    refine ⟨?_, trivial⟩
    simp only [Num.val]
    congr 1
    omega
  · cases h

/-- 'make' of a row. -/
theorem evMake_sound {t : TypeId} {len cap : Operand} {e : TypeId} {n : Num} {c : Bool} {sh : List CK} {z0 : List AVal} {by_ : Nat} (hop : o.op = .makeSlice t len cap) (ht : P.underlying t = some (.slice e))
    (hn : numOf (opd S len) = some (n, c)) (he : elemOf P e = some (sh, z0)) (hb : tbytes P e = some by_) (hs : sameOpd len cap = true) (hM : Mem M w0 ρ S w) (hlen : V ρ (opd S len) (a.eval len)) :
    OpOk P o a S w M w0 ρ ⟨.vec S.hp.length (lenL sh) 0 n, [], [], [⟨[], false, some (Vc.all sh n z0)⟩], c && needN n (.lit 0) by_, none⟩ := by
  intro hnd next Q hnx _
  simp only [Bool.and_eq_true] at hnd
  obtain ⟨hc, hnd⟩ := hnd
  obtain ⟨hv, hok⟩ := numOf_spec hn hc hlen
  have hcap : a.eval cap = a.eval len := by
    unfold sameOpd at hs
    split at hs
    · have := Nat.eq_of_beq_eq_true hs; subst this; rfl
    · simp only [Bool.and_eq_true] at hs
      have h1 := of_decide_eq_true hs.1
      have h2 := of_decide_eq_true hs.2
      subst h1; subst h2; rfl
    · cases hs
  obtain ⟨i, z, hi, hiz, his, h1, hsh, rfl⟩ := elemOf_spec he
  obtain ⟨hl0, hfit⟩ := shOf_spec _ _ hsh
  have hby := tbytes_spec hb hi
  unfold needN at hnd
  have ez : (Num.lit 0).val = 0 := rfl
  rw [ez] at hnd
  simp only [Bool.and_eq_true] at hnd
  have hn1 := Nat.le_of_ble_eq_true hnd.1
  have hn2 := Nat.le_of_ble_eq_true hnd.2
  simp only [Nat.add_eq, Nat.add_zero, Nat.mul_eq] at hn1 hn2
  have hn3 : (n.val : Int) * (by_ : Int) ≤ 140737488355328 := by
    have := Int.ofNat_le.2 hn1
    simpa using this
  have hzs : z.cells.size = lenL sh := by rw [hl0]; simp [absC]
  have hexec : (execOp a.eval o).run P w = .ok (.value (.slice (some ⟨w.heap.size, 0, none⟩) n.val n.val)) (w.alloc (.cells ((Array.range (n.val * lenL sh)).map (z.cells[· % lenL sh]!)) e)) := by
    have hm := run_make w t e i z ht hi hiz .i64 .i64 (n.val : Int) (n.val : Int) (by omega) (Int.le_refl _) (by rw [hby, Int.mul_comm]; omega) (by omega)
    unfold execOp; rw [hop]
    simp only [hcap, hv]
    have e1 : madeCells z.cells ((n.val : Int).toNat * i.size) = (Array.range (n.val * lenL sh)).map (z.cells[· % lenL sh]!) := by
      unfold madeCells
      rw [his, ← hzs]; rfl
    rw [e1] at hm
    simp [hm]
  unfold Oper.wp
  rw [hexec, Oper.upon_value]
  have hget : ∀ q p, q < n.val → p < lenL sh → ((Array.range (n.val * lenL sh)).map (z.cells[· % lenL sh]!))[q * lenL sh + p]? = z.cells[p]? := by
    intro q p hq hp
    have hlt := mul_lt_seg hq hp
    have hpz : p < z.cells.size := by omega
    simp only [Array.getElem?_map, Array.getElem?_range, hlt, if_true, Option.map_some, mod_seg q _ p hp]
    rw [getElem!_pos z.cells p hpz, Array.getElem?_eq_getElem hpz]
  have hk := Fr.alloc w (.cells ((Array.range (n.val * lenL sh)).map (z.cells[· % lenL sh]!)) e)
  have hcell : ∀ (r b : Nat) v, w.cell? ⟨r, b, none⟩ = some v → (w.alloc (.cells ((Array.range (n.val * lenL sh)).map (z.cells[· % lenL sh]!)) e)).cell? ⟨r, b, none⟩ = some v := fun r b v hv => by
    rw [World.cell?_alloc_lt _ _ _ (World.block_lt_of_cell? _ _ hv)]; exact hv
  refine hnx _ _ (upd ρ S.hp.length (w.heap.size, 0) n.val) (upd_extS hM.hp.dom _ _) (fun b v h => by cases h) ?_ ?_
  · unfold V
    exact ⟨hok, upd_kn .., _, _, rfl, Or.inr ⟨w.heap.size, 0, upd_new .., by simp, by rw [upd_cap]; simp, by rw [upd_cap]; simp⟩⟩
  · refine hM.newB hk (fun a ha => ha.elim) _ w.heap.size 0 n.val [] (by simp) (fun i u hu => by simp [vlook1] at hu) (fun i o x r' b' v _ _ hv => hcell _ _ _ hv) (fun i u r' b' q v _ _ _ _ hv => hcell _ _ _ hv)
      (fun o x ho => by simp at ho) (fun o ho => by simp at ho) ?_ ?_ ?_ (fun q _ => Or.inr hM.fr.size) (fun i r' b' hr _ => ?_) (fun i r' b' hr _ => ?_)
    · intro u q p ck hu hq hp
      simp only [Option.some.injEq] at hu
      subst hu
      have hp' := nthC_lt hp
      have hVL := VL_absC (upd ρ S.hp.length (w.heap.size, 0) n.val) z.cells.toList
      obtain ⟨v, hv1, hv2⟩ := VL_nth _ _ hVL p (by rw [← hl0]; exact hp')
      refine ⟨v, ?_, ?_⟩
      · rw [Nat.zero_add, World.cell?_alloc_new]
        show ((Array.range (n.val * lenL sh)).map (z.cells[· % lenL sh]!))[q * lenL sh + p]? = some v
        rw [hget q p hq hp', ← Array.getElem?_toList]; exact hv1
      · have := fits_V (hfit p ck hp) hv2
        have e2 : (Vc.all sh n (absC z.cells.toList)).mkA q p ck = mkW ck (nth p (absC z.cells.toList)) := by cases ck <;> rfl
        rw [e2]; exact this
    · intro u q hu _ hq
      simp only [Option.some.injEq] at hu
      subst hu
      have hq : q < n.val * lenL sh := hq
      refine ⟨?_, by rw [Nat.zero_add]; exact World.frozen?_alloc_new _ _ _ _⟩
      rw [Nat.zero_add, World.cell?_alloc_new]
      exact ⟨_, Array.getElem?_eq_getElem (by simpa using hq)⟩
    · intro u hu _
      simp only [Option.some.injEq] at hu
      subst hu; exact Nat.le_refl _
    · have := hM.hp.lt i r' b' hr; omega
    · have := hM.hp.lt i r' b' hr; omega
end
end Go.Ab
