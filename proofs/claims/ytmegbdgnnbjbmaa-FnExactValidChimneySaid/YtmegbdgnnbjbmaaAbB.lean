import Derived.Test.YtmegbdgnnbjbmaaAbA
namespace Go.Ab
open Go Go.RowKit
set_option linter.unusedVariables false

section
variable {P : Program} {ρ : Rho} {o : Oper} {a : Act} {S : St} {M : Addr → Prop} {w0 w : World}

theorem size_zc (z : Array Value) (n : Nat) : (Builtin.zeroCells z n).size = n * z.size := by simp [Builtin.zeroCells]

/-- A row that has grown into a new block. -/
theorem Mem.grown (hM : Mem M w0 ρ S w) {e : TypeId} {sh : List CK} {z : Array Value} (hz : z.size = lenL sh) (vv : List (Nat × Vc)) (hvv : ∀ i u, vlook1 i vv = some u → u = Vc.none [] ∧ i < S.hp.length) (J : Vc) (hJs : J.sh = sh) (cap : Nat)
    (hcap : J.n.val ≤ cap) (cs : List Value) (hl : cs.length = J.n.val * lenL sh)
    (hC : ∀ q p c, q < J.n.val → nthC p sh = some c → ∃ x, cs[q * lenL sh + p]? = some x ∧ V ρ (J.mkA q p c) x) :
    Ext ρ (upd ρ S.hp.length (w.heap.size, 0) cap) ∧
    Mem M w0 (upd ρ S.hp.length (w.heap.size, 0) cap) (S.put [] vv [⟨[], false, some J⟩]) (w.drew.alloc (.cells (cs.toArray ++ Builtin.zeroCells z (cap - J.n.val)) e)) := by
  subst hJs
  have hext := upd_ext hM.hp.dom (w.heap.size, 0) cap
  refine ⟨hext, ?_⟩
  have hk : Fr NoM w (w.drew.alloc (.cells (cs.toArray ++ Builtin.zeroCells z (cap - J.n.val)) e)) := (Fr.drew w).trans (Fr.alloc w.drew _) (fun _ h => h.elim)
  have hsz : w.drew.heap.size = w.heap.size := rfl
  have hcell : ∀ (r b : Nat) v, w.cell? ⟨r, b, none⟩ = some v → (w.drew.alloc (.cells (cs.toArray ++ Builtin.zeroCells z (cap - J.n.val)) e)).cell? ⟨r, b, none⟩ = some v := fun r b v hv => by
    rw [hk.cell _ (World.block_lt_of_cell? _ _ hv) (fun h => h)]; exact hv
  have hnew : ∀ j, (w.drew.alloc (.cells (cs.toArray ++ Builtin.zeroCells z (cap - J.n.val)) e)).cell? ⟨w.heap.size, j, none⟩ = (cs.toArray ++ Builtin.zeroCells z (cap - J.n.val))[j]? := fun j => World.cell?_alloc_new (w := w.drew) _ _ _
  have hsize : (cs.toArray ++ Builtin.zeroCells z (cap - J.n.val)).size = cap * lenL J.sh := by
    rw [Array.size_append, size_zc, List.size_toArray, hl, hz, ← Nat.add_mul]; congr 1; omega
  refine hM.newB hk (fun a ha => ha.elim) _ w.heap.size 0 cap vv (by simp) hvv (fun i o x r' b' v _ _ hv => hcell _ _ _ hv) (fun i u r' b' q v _ _ _ _ hv => hcell _ _ _ hv)
    (fun o x ho => by simp at ho) (fun o ho => by simp at ho) ?_ ?_ ?_ (fun q _ => Or.inr hM.fr.size) (fun i r' b' hr _ => ?_) (fun i r' b' hr _ => ?_)
  · intro u q p ck hu hq hp
    simp only [Option.some.injEq] at hu
    subst hu
    obtain ⟨x, h1, h2⟩ := hC q p ck hq hp
    refine ⟨x, ?_, V_ext hext _ _ h2⟩
    rw [Nat.zero_add, hnew, Array.getElem?_append]
    have hlt := (List.getElem?_eq_some_iff.1 h1).1
    rw [if_pos (by simpa using hlt)]
    simpa using h1
  · intro u q hu _ hq
    simp only [Option.some.injEq] at hu
    subst hu
    refine ⟨?_, by rw [Nat.zero_add]; exact World.frozen?_alloc_new (w := w.drew) _ _ _⟩
    rw [Nat.zero_add, hnew]
    exact ⟨_, Array.getElem?_eq_getElem (by rw [hsize]; exact hq)⟩
  · intro u hu _
    simp only [Option.some.injEq] at hu
    subst hu; exact hcap
  · have := hM.hp.lt i r' b' hr; omega
  · have := hM.hp.lt i r' b' hr; omega

theorem Src.drew {size : Nat} {tx : TypeId} {x : Value} {n : Nat} {news : List Value} (h : Src P size tx x n news w) : True := trivial

/-- 'append'. -/
theorem evAppend_sound {ts : Array TypeId} {ty : TypeId} {x y : AVal} {vx vy : Value} {out : Out} (he : evAppend P S ts.toList x y = some out) (hM : Mem M w0 ρ S w) (hx : V ρ x vx) (hy : V ρ y vy)
    (hrun : (execOp a.eval o).run P w = ((Builtin.append_ ts ty #[vx, vy]).run P w).andThen fun v w' => .ok (.value v) w') : OpOk P o a S w M w0 ρ out := by
  unfold evAppend at he
  split at he
  case h_2 => cases he
  rename_i t tx hts
  have hts' : ts = #[t, tx] := by apply Array.ext'; rw [hts]
  subst hts'
  split at he
  case h_2 => cases he
  rename_i e e' hkt hkx
  have ht := kd_slice hkt
  have htx := kd_slice hkx
  split at he
  case h_2 => cases he
  rename_i sh z0 by_ helem hby0
  obtain ⟨i, z, hi, hiz, his, h1, hsh, rfl⟩ := elemOf_spec helem
  obtain ⟨hl0, hfit⟩ := shOf_spec _ _ hsh
  have hby := tbytes_spec hby0 hi
  have hzs : z.cells.size = lenL sh := by rw [hl0]; simp [absC]
  split at he
  case h_2 => cases he
  rename_i m fb u hsrc
  -- a row that is nothing yet
  have fresh : ∀ (base : Option Addr) (olds : List Value) (n : Num) (c : Nat) (J : Vc) (vv : List (Nat × Vc)), (∀ i u, vlook1 i vv = some u → u = Vc.none [] ∧ i < S.hp.length) → J.sh = sh → J.n = addNum n m → n.ok →
      vx = .slice base n.val c → n.val ≤ c ∨ (n.val = 0 ∧ c = 0) → c < n.val + m.val → needN n m by_ = true → fb + m.val ≤ u.n.val →
      (∀ w' : World, (∀ (r b : Nat) v, w.cell? ⟨r, b, none⟩ = some v → w'.cell? ⟨r, b, none⟩ = some v) → (Builtin.firstCells i.size n.val (.slice base n.val c)).run P w' = .ok olds.toArray w') → olds.length = n.val * lenL sh →
      (∀ news : List Value, (∀ q p c, q < m.val → nthC p sh = some c → ∃ x, news[q * lenL sh + p]? = some x ∧ V ρ (u.mkA (fb + q) p c) x) →
        ∀ q p c, q < n.val + m.val → nthC p sh = some c → ∃ x, (olds ++ news)[q * lenL sh + p]? = some x ∧ V ρ (J.mkA q p c) x) →
      ∀ (next : Act → World → Prop) (Q : Exit → Act → World → Prop), (∀ u' w' ρ', ExtS S.hp.length ρ ρ' → V ρ' (.vec S.hp.length (lenL sh) 0 (addNum n m)) u' → Mem M w0 ρ' (S.put [] vv [⟨[], false, some J⟩]) w' → next (a.put o.dst u') w') → o.wp P a w next Q := by
    intro base olds n c J vv hvv hJs hJn hnok hvx hnc hlt hneed hfb hold hlold hall next Q hnext
    obtain ⟨hmok, news, hs, hnews⟩ := srcOf_sound (P := P) (tx := tx) (e' := e') hsrc hM.hp hy hfb h1 htx
    rw [← his] at hs
    unfold needN at hneed
    simp only [Bool.and_eq_true, Nat.mul_eq, Nat.add_eq] at hneed
    have hb1 := Nat.le_of_ble_eq_true hneed.1
    have hb2 := Nat.le_of_ble_eq_true hneed.2
    have hr := run_append_grow_src (P := P) w t tx ty e i z ht hi hiz base n.val c olds (hold w.drew (fun r b v hv => by rw [(Fr.drew w).cell _ (World.block_lt_of_cell? _ _ hv) (fun h => h)]; exact hv)) vy m.val news hs hlt (by omega)
      (growslice_fits hlt (by rw [hby]; exact hb1))
    have hge := grownCap_ge w (n.val + m.val) c e
    have hJv : J.n.val = n.val + m.val := by rw [hJn, addNum_val]
    obtain ⟨hext, hmem⟩ := hM.grown (e := e) (z := z.cells) hzs vv hvv J hJs (grownCap w (n.val + m.val) c e) (by rw [hJv]; exact hge) (olds ++ news) (by
        rw [List.length_append, hlold, hJv, Nat.add_mul, hs.newsLen, his]) (fun q p ck hq hp => hall news hnews q p ck (by rw [← hJv]; exact hq) hp)
    unfold Oper.wp
    rw [hrun, hvx, hr]
    simp only [Result.andThen_ok, Oper.upon_value]
    refine hnext _ _ _ (upd_extS hM.hp.dom _ _) ?_ (by rw [hJv] at hmem; exact hmem)
    unfold V
    refine ⟨addNum_ok hnok hmok, upd_kn .., _, _, by rw [addNum_val], Or.inr ⟨w.heap.size, 0, upd_new .., by simp, by rw [upd_cap]; simp, ?_⟩⟩
    rw [upd_cap, addNum_val]; omega
  -- nothing is appended to nothing
  have empty : ∀ (base : Option Addr) (n : Num) (J : Vc) (vv : List (Nat × Vc)), (∀ i u, vlook1 i vv = some u → u = Vc.none [] ∧ i < S.hp.length) → n.ok → vx = .slice base 0 0 → n.val = 0 → m.val = 0 → fb + m.val ≤ u.n.val →
      ∀ (next : Act → World → Prop) (Q : Exit → Act → World → Prop), (∀ u' w' ρ', ExtS S.hp.length ρ ρ' → V ρ' (.vec S.hp.length (lenL sh) 0 (addNum n m)) u' → Mem M w0 ρ' (S.put [] vv [⟨[], false, some J⟩]) w' → next (a.put o.dst u') w') → o.wp P a w next Q := by
    intro base n J vv hvv hnok hvx hn0 hm0 hfb next Q hnext
    obtain ⟨hmok, news, hs, hnews⟩ := srcOf_sound (P := P) (tx := tx) (e' := e') hsrc hM.hp hy hfb h1 htx
    rw [← his, hm0] at hs
    have hnl : news = [] := List.eq_nil_of_length_eq_zero (by rw [hs.newsLen]; simp)
    subst hnl
    have hr := run_append_nothing (P := P) w t tx ty e i ht hi base 0 0 (Nat.le_refl _) vy hs
    unfold Oper.wp
    rw [hrun, hvx, hr]
    simp only [Result.andThen_ok, Oper.upon_value]
    refine hnext _ _ (updK ρ S.hp.length) ⟨updK_ext _ _, fun _ _ => rfl, fun i hi => by simp only [updK]; rw [if_neg (by omega)]⟩ ?_ ((hM.ghost vv J hvv).known (by simp [St.put, St.ext]))
    unfold V
    exact ⟨addNum_ok hnok hmok, updK_kn .., base, 0, by rw [addNum_val, hn0, hm0], Or.inl ⟨rfl, by rw [addNum_val, hn0, hm0]⟩⟩
  split at he
  · -- nil
    rename_i v0
    split at he
    · simp only [Option.some.injEq] at he
      subst he
      unfold V at hx
      subst hx
      intro hnd next Q hnext _
      simp only [Bool.and_eq_true] at hnd
      obtain ⟨hneed, hfb⟩ := hnd
      have hfb := Nat.le_of_ble_eq_true hfb
      simp only [Nat.add_eq] at hfb
      have hnext' : ∀ u' w' ρ', ExtS S.hp.length ρ ρ' → V ρ' (.vec S.hp.length (lenL sh) 0 (addNum (.lit 0) m)) u' → Mem M w0 ρ' (S.put [] [] [⟨[], false, some (Vc.join sh (.lit 0) 0 none m fb u)⟩]) w' → next (a.put o.dst u') w' := fun u' w' ρ' h1 h2 h3 =>
        hnext u' w' ρ' h1 (fun b v h => by cases h) (by
          have e1 : ∀ n : Num, (addNum (.lit 0) n).val = n.val := fun n => by rw [addNum_val]; exact Nat.zero_add _
          unfold V at h2 ⊢
          obtain ⟨k1, kk, base, c, k2, k3⟩ := h2
          rw [e1] at k2 k3
          refine ⟨?_, kk, base, c, k2, k3⟩
          cases m <;> simp only [addNum, Num.ok, Nat.add_eq] at k1 ⊢ <;> first | trivial | omega) h3
      by_cases hm0 : m.val = 0
      · exact empty none (.lit 0) _ [] (fun i u h => by simp [vlook1] at h) trivial rfl rfl hm0 hfb next Q hnext'
      · refine fresh none [] (.lit 0) 0 _ [] (fun i u h => by simp [vlook1] at h) rfl rfl trivial rfl (Or.inl (Nat.le_refl _)) (by have : (Num.lit 0).val = 0 := rfl; omega) hneed hfb (fun w' _ => by simp [Builtin.firstCells]) (by show 0 = 0 * _; simp) ?_ next Q hnext'
        intro news hnews q p ck hq hp
        have hq : q < m.val := by have : (Num.lit 0).val = 0 := rfl; omega
        obtain ⟨x, k1, k2⟩ := hnews q p ck hq hp
        exact ⟨x, by simpa using k1, by rw [join_mkA_none]; exact k2⟩
    · cases he
  · -- a row of the call's own
    rename_i ix e2 fa n
    split at he
    · rename_i v0 hv0
      split at he
      · rename_i hb
        simp only [Option.some.injEq] at he
        subst he
        simp only [Bool.and_eq_true] at hb
        obtain ⟨⟨hwr, heq⟩, hsh'⟩ := hb
        have heq := Nat.eq_of_beq_eq_true heq
        have hshe := eqSh_eq hsh'
        subst heq
        subst hshe
        unfold V at hx
        obtain ⟨hnok, _, base, c, hvx, hc⟩ := hx
        intro hnd next Q hnext _
        simp only [Bool.and_eq_true] at hnd
        obtain ⟨hneed, hfb, hna⟩ := hnd
        have hfb := Nat.le_of_ble_eq_true hfb
        have hna := Nat.le_of_ble_eq_true hna
        simp only [Nat.add_eq] at hfb hna
        have hix := vec_lt hv0
        have hvv : ∀ i' u', vlook1 i' [(ix, Vc.none [])] = some u' → u' = Vc.none [] ∧ i' < S.hp.length := fun i' u' h => by
          simp only [vlook1] at h
          split at h
          · rename_i hb; cases h
            have := Nat.eq_of_beq_eq_true hb
            subst this; exact ⟨rfl, hix⟩
          · cases h
        have hnext' : ∀ u' w' ρ', ExtS S.hp.length ρ ρ' → V ρ' (.vec S.hp.length (lenL v0.sh) 0 (addNum n m)) u' → Mem M w0 ρ' (S.put [] [(ix, Vc.none [])] [⟨[], false, some (Vc.join v0.sh n fa (some v0) m fb u)⟩]) w' → next (a.put o.dst u') w' :=
          fun u' w' ρ' h1 h2 h3 => hnext u' w' ρ' h1 (fun b v h => by cases h) h2 h3
        rcases hc with ⟨rfl, hn0⟩ | ⟨r, b, hr, hbase, hcv, hcap⟩
        · by_cases hm0 : m.val = 0
          · exact empty base n _ _ hvv hnok (by rw [hvx, hn0]) hn0 hm0 hfb next Q hnext'
          · refine fresh base [] n 0 (Vc.join v0.sh n fa (some v0) m fb u) _ hvv rfl rfl hnok hvx (Or.inr ⟨hn0, rfl⟩) (by omega) hneed hfb (fun w' _ => by rw [hn0]; cases base <;> simp [Builtin.firstCells, loadCells_zero]) (by rw [hn0]; simp) ?_ next Q hnext'
            intro news hnews q p ck hq hp
            rw [join_mkA_some, if_neg (by omega), hn0]
            obtain ⟨x, k1, k2⟩ := hnews q p ck (by omega) hp
            exact ⟨x, by simpa using k1, k2⟩
        · -- the elements that are there
          have hwB : S.wrB ix = true := wrB_iff.2 (Or.inr ⟨v0, hv0, hwr⟩)
          obtain ⟨olds, hol, hocell, hoC⟩ := row_list w r (b + fa * lenL v0.sh) (lenL v0.sh) n.val (fun q p x => ∀ ck, nthC p v0.sh = some ck → V ρ (v0.mkA (fa + q) p ck) x) h1 (fun q p hq hp => by
            obtain ⟨ck, hck⟩ := nthC_some hp
            obtain ⟨x, k2, k3⟩ := hM.hp.vcell ix v0 r b (fa + q) p ck hv0 hr (by omega) hck
            refine ⟨x, ?_, fun c' hc' => by rw [hck] at hc'; cases hc'; exact k3⟩
            rw [← k2]; congr 1
            simp only [Addr.mk.injEq, true_and, and_true]
            rw [Nat.add_mul]; omega)
          subst hbase
          by_cases hroom : n.val + m.val ≤ c
          · -- there is room
            obtain ⟨hmok, news, hs, hnews⟩ := srcOf_sound (P := P) (tx := tx) (e' := e') hsrc hM.hp hy hfb h1 htx
            have hnl := hs.newsLen
            have hoffs : ∀ j, j < news.length → fa * lenL v0.sh + (n.val * lenL v0.sh + j) < ρ.cap ix * lenL v0.sh := fun j hj => by
              have h2 : (fa + n.val + m.val) * lenL v0.sh ≤ ρ.cap ix * lenL v0.sh := Nat.mul_le_mul_right _ (by omega)
              rw [Nat.add_mul, Nat.add_mul] at h2
              omega
            obtain ⟨w', hst, e1, e2', e3, e4, e5, e6, e7, e8⟩ := run_storeCells (P := P) r (b + fa * lenL v0.sh + n.val * lenL v0.sh) news 0 w hs.one
              (fun j hj => by
                obtain ⟨⟨v, k1⟩, _⟩ := hM.hp.vfrz ix v0 r b _ hv0 hwr hr (hoffs j hj)
                exact ⟨v, by rw [← k1]; congr 1; simp only [Addr.mk.injEq, true_and, and_true]; omega⟩)
              (fun j hj => by
                obtain ⟨_, k1⟩ := hM.hp.vfrz ix v0 r b _ hv0 hwr hr (hoffs j hj)
                rw [← k1]; congr 1; simp only [Addr.mk.injEq, true_and, and_true]; omega)
            simp only [Nat.add_zero] at e7 e8
            have happ : (Builtin.append_ #[t, tx] ty #[.slice (some ⟨r, b + fa * lenL v0.sh, none⟩) n.val c, vy]).run P w = .ok (.slice (some ⟨r, b + fa * lenL v0.sh, none⟩) (n.val + m.val) c) w' := by
              rcases hs.kind with ⟨e'', hk⟩ | hk <;> simp [Builtin.append_, run_underlying ht, run_underlying hk, sizeOf, typeInfo, hi, hs.len, hroom, hs.cells, Addr_add, his, hst]
            have hother : ∀ (i' r' b' q : Nat), i' ≠ ix → ρ i' = some (r', b') → S.live i' = true → w'.cell? ⟨r', b' + q, none⟩ = w.cell? ⟨r', b' + q, none⟩ := fun i' r' b' q hne hr' hlv =>
              e8 _ (fun j hj e => by
                simp only [Addr.mk.injEq, and_true] at e
                exact hM.hp.dis ix i' r b b' (Ne.symm hne) hwB hr (by rw [hr', e.1]) hlv)
            have hfr : Fr (fun a => ∃ j, j < news.length ∧ a = ⟨r, b + fa * lenL v0.sh + n.val * lenL v0.sh + j, none⟩) w w' := by
              refine ⟨e1, e2', e3, by omega, fun k hk hn => ?_, fun a ha hn => e8 a (fun j hj e => hn ⟨j, hj, e⟩), fun a _ => e5 a⟩
              by_cases hkr : k = r
              · subst hkr
                cases news with
                | nil =>
                  simp [storeCells] at hst
                  rw [← hst]
                | cons v vs => exact absurd ⟨0, by simp, rfl⟩ (hn _)
              · exact e6 k hkr
            have hve : (S.put [] [(ix, Vc.none [])] [⟨[], false, some (Vc.join v0.sh n fa (some v0) m fb u)⟩]).vec ix = some (Vc.none []) := by
              obtain ⟨u0, hu0⟩ := vec_blk hv0
              unfold St.vec
              rw [put_blk_old S [] [(ix, Vc.none [])] ⟨[], false, some (Vc.join v0.sh n fa (some v0) m fb u)⟩ hix, vec_cells hv0, hu0]
              simp [St.put, St.ext, vlookL, vlook1]
            have hvo : ∀ i', i' < S.hp.length → i' ≠ ix → (S.put [] [(ix, Vc.none [])] [⟨[], false, some (Vc.join v0.sh n fa (some v0) m fb u)⟩]).vec i' = S.vec i' := fun i' hi' hne => by
              unfold St.vec
              rw [put_blk_old S [] [(ix, Vc.none [])] ⟨[], false, some (Vc.join v0.sh n fa (some v0) m fb u)⟩ hi']
              have hb : Nat.beq i' ix = false := by
                cases hb : Nat.beq i' ix with
                | false => rfl
                | true => exact absurd (Nat.eq_of_beq_eq_true hb) hne
              simp only [St.put, St.ext, vlookL, vlook1, hb]
            have hco : ∀ i' o', i' < S.hp.length → (S.put [] [(ix, Vc.none [])] [⟨[], false, some (Vc.join v0.sh n fa (some v0) m fb u)⟩]).cell i' o' = S.cell i' o' := fun i' o' hi' => by
              unfold St.cell
              rw [put_blk_old S [] [(ix, Vc.none [])] ⟨[], false, some (Vc.join v0.sh n fa (some v0) m fb u)⟩ hi']
              simp [St.put, St.ext, hlookL, hlook1]
            have hixc : ∀ o' x', S.cell ix o' ≠ some x' := fun o' x' hx' => by
              obtain ⟨c', cs', h'⟩ := cell_cons hx'
              rw [vec_cells hv0] at h'; cases h'
            have hdl : ∀ i' b', ρ i' = some (r, b') → (S.put [] [(ix, Vc.none [])] [⟨[], false, some (Vc.join v0.sh n fa (some v0) m fb u)⟩]).live i' = true → False := by
              intro i' b' hr' hlv
              have hi' := hM.hp.dom _ _ hr'
              rcases live_iff.1 hlv with ⟨x, hx⟩ | ⟨v, ck, sh', hx, hs'⟩
              · rw [hco i' 0 hi'] at hx
                by_cases hii : i' = ix
                · subst hii; exact hixc 0 x hx
                · exact hM.hp.dis ix i' r b b' (Ne.symm hii) hwB hr hr' (live_cell hx)
              · by_cases hii : i' = ix
                · subst hii
                  rw [hve] at hx; cases hx
                  simp [Vc.none] at hs'
                · rw [hvo i' hi' hii] at hx
                  exact hM.hp.dis ix i' r b b' (Ne.symm hii) hwB hr hr' (live_iff.2 (Or.inr ⟨v, ck, sh', hx, hs'⟩))
            have hdw : ∀ i' b', ρ i' = some (r, b') → (S.put [] [(ix, Vc.none [])] [⟨[], false, some (Vc.join v0.sh n fa (some v0) m fb u)⟩]).wrB i' = true → False := by
              intro i' b' hr' hw'
              have hi' := hM.hp.dom _ _ hr'
              have hlix : S.live ix = true := by
                refine live_iff.2 (Or.inr ?_)
                cases hs' : v0.sh with
                | nil => rw [hs'] at h1; simp [lenL] at h1
                | cons ck sh' => exact ⟨v0, ck, sh', hv0, hs'⟩
              rcases wrB_iff.1 hw' with ⟨o', x, hx, hw'⟩ | ⟨v, hx, hw'⟩
              · rw [hco i' o' hi'] at hx
                rw [put_blk_old S [] [(ix, Vc.none [])] ⟨[], false, some (Vc.join v0.sh n fa (some v0) m fb u)⟩ hi'] at hw'
                have hii : i' ≠ ix := fun e => by subst e; exact hixc o' x hx
                exact hM.hp.dis i' ix r b' b hii (wrB_iff.2 (Or.inl ⟨o', x, hx, hw'⟩)) hr' hr hlix
              · by_cases hii : i' = ix
                · subst hii
                  rw [hve] at hx; cases hx
                  simp [Vc.none] at hw'
                · rw [hvo i' hi' hii] at hx
                  exact hM.hp.dis i' ix r b' b hii (wrB_iff.2 (Or.inr ⟨v, hx, hw'⟩)) hr' hr hlix
            have hext := upd_ext hM.hp.dom (r, b + fa * lenL v0.sh) c
            have hJv : (Vc.join v0.sh n fa (some v0) m fb u).n.val = n.val + m.val := addNum_val n m
            have hkeep : ∀ (i' r' b' q : Nat) v, i' ≠ ix → ρ i' = some (r', b') → S.live i' = true → w.cell? ⟨r', b' + q, none⟩ = some v → w'.cell? ⟨r', b' + q, none⟩ = some v := fun i' r' b' q v hne hr' hlv hv => by
              rw [hother i' r' b' q hne hr' hlv]; exact hv
            have hmem : Mem M w0 (upd ρ S.hp.length (r, b + fa * lenL v0.sh) c) (S.put [] [(ix, Vc.none [])] [⟨[], false, some (Vc.join v0.sh n fa (some v0) m fb u)⟩]) w' := by
              refine hM.newB hfr ?_ _ r (b + fa * lenL v0.sh) c [(ix, Vc.none [])] (Nat.lt_of_lt_of_le (hM.hp.lt ix r b hr) hfr.size) hvv ?_ ?_ (fun o x ho => by simp at ho) (fun o ho => by simp at ho) ?_ ?_ ?_ (fun q hq => ?_)
                (fun i' r' b' hr' hlv e => hdl i' b' (e ▸ hr') hlv) (fun i' r' b' hr' hw' e => hdw i' b' (e ▸ hr') hw')
              · rintro a ⟨j, hj, rfl⟩
                exact Or.inr ⟨ix, v0, r, b, fa * lenL v0.sh + (n.val * lenL v0.sh + j), hv0, hwr, hr, hoffs j hj, by simp only [Addr.mk.injEq, true_and, and_true]; omega⟩
              · intro i' o' x' r' b' v' hx' hr' hv'
                have hii : i' ≠ ix := fun e => by subst e; exact hixc o' x' hx'
                exact hkeep i' r' b' o' v' hii hr' (live_cell hx') hv'
              · intro i' u' r' b' q v' hx' hlv hl' hr' hv'
                have hii : i' ≠ ix := fun e => by
                  subst e
                  simp [vlook1] at hl'
                exact hkeep i' r' b' q v' hii hr' hlv hv'
              · intro u' q p ck hu' hq hp
                simp only [Option.some.injEq] at hu'
                subst hu'
                have hq : q < n.val + m.val := by rw [← hJv]; exact hq
                have hp' : p < lenL v0.sh := nthC_lt hp
                rw [join_mkA_some]
                show ∃ v, w'.cell? ⟨r, b + fa * lenL v0.sh + (q * lenL v0.sh + p), none⟩ = some v ∧ _
                by_cases hqn : q < n.val
                · rw [if_pos hqn]
                  obtain ⟨x, k1, k2⟩ := hoC q p hqn hp'
                  have k3 := hocell _ _ k1
                  refine ⟨x, ?_, V_ext hext _ _ (k2 ck hp)⟩
                  rw [e8 _ (fun j hj e => ?_)]
                  · exact k3
                  · simp only [Addr.mk.injEq, true_and, and_true] at e
                    have := mul_lt_seg hqn hp'
                    omega
                · rw [if_neg hqn]
                  obtain ⟨x, k1, k2⟩ := hnews (q - n.val) p ck (by omega) hp
                  refine ⟨x, ?_, V_ext hext _ _ k2⟩
                  have k3 := e7 _ _ k1
                  rw [← k3]; congr 1
                  simp only [Addr.mk.injEq, true_and, and_true]
                  have : q = n.val + (q - n.val) := by omega
                  have h5 : q * lenL v0.sh = n.val * lenL v0.sh + (q - n.val) * lenL v0.sh := by rw [← Nat.add_mul]; congr 1
                  omega
              · intro u' q hu' _ hq
                simp only [Option.some.injEq] at hu'
                subst hu'
                have hq : q < c * lenL v0.sh := hq
                have hq2 : fa * lenL v0.sh + q < ρ.cap ix * lenL v0.sh := by
                  have h2 : (fa + c) * lenL v0.sh ≤ ρ.cap ix * lenL v0.sh := Nat.mul_le_mul_right _ (by omega)
                  rw [Nat.add_mul] at h2; omega
                obtain ⟨⟨v, k1⟩, k2⟩ := hM.hp.vfrz ix v0 r b _ hv0 hwr hr hq2
                have ea : (⟨r, b + fa * lenL v0.sh + q, none⟩ : Addr) = ⟨r, b + (fa * lenL v0.sh + q), none⟩ := by simp only [Addr.mk.injEq, true_and, and_true]; omega
                rw [ea, e5]
                refine ⟨?_, k2⟩
                by_cases hj : ∃ j, j < news.length ∧ (⟨r, b + (fa * lenL v0.sh + q), none⟩ : Addr) = ⟨r, b + fa * lenL v0.sh + n.val * lenL v0.sh + j, none⟩
                · obtain ⟨j, hj, e⟩ := hj
                  rw [e]; exact ⟨_, e7 j news[j] (List.getElem?_eq_getElem hj)⟩
                · exact ⟨v, by rw [e8 _ (fun j h1 e => hj ⟨j, h1, e⟩)]; exact k1⟩
              · intro u' hu' _
                simp only [Option.some.injEq] at hu'
                subst hu'
                rw [hJv]; exact hroom
              · rcases hq with hq | ⟨u', hu', hq⟩
                · simp at hq
                · simp only [Option.some.injEq] at hu'
                  subst hu'
                  have hq : q < c * lenL v0.sh := hq
                  have hq2 : fa * lenL v0.sh + q < ρ.cap ix * lenL v0.sh := by
                    have h2 : (fa + c) * lenL v0.sh ≤ ρ.cap ix * lenL v0.sh := Nat.mul_le_mul_right _ (by omega)
                    rw [Nat.add_mul] at h2; omega
                  have := hM.own.vec ix v0 r b _ hv0 hwr hr hq2
                  have ea : (⟨r, b + fa * lenL v0.sh + q, none⟩ : Addr) = ⟨r, b + (fa * lenL v0.sh + q), none⟩ := by simp only [Addr.mk.injEq, true_and, and_true]; omega
                  rw [ea]; exact this
            unfold Oper.wp
            rw [hrun, hvx, happ]
            simp only [Result.andThen_ok, Oper.upon_value]
            refine hnext' _ _ _ (upd_extS hM.hp.dom _ _) ?_ hmem
            unfold V
            refine ⟨addNum_ok hnok hmok, upd_kn .., _, _, by rw [addNum_val], Or.inr ⟨r, b + fa * lenL v0.sh, upd_new .., by simp, by rw [upd_cap]; simp, by rw [upd_cap, addNum_val]; omega⟩⟩
          · refine fresh (some ⟨r, b + fa * lenL v0.sh, none⟩) olds n c (Vc.join v0.sh n fa (some v0) m fb u) _ hvv rfl rfl hnok hvx (Or.inl (by omega)) (by omega) hneed hfb (fun w' hw' => ?_) hol ?_ next Q hnext'
            · rw [his]
              exact run_firstCells_some w' _ _ _ _ _ olds hol (fun j v hj => by rw [Addr_add]; exact hw' _ _ _ (hocell j v hj))
            · intro news hnews q p ck hq hp
              rw [join_mkA_some]
              by_cases hqn : q < n.val
              · rw [if_pos hqn]
                obtain ⟨x, k1, k2⟩ := hoC q p hqn (nthC_lt hp)
                refine ⟨x, ?_, k2 ck hp⟩
                rw [List.getElem?_append_left (List.getElem?_eq_some_iff.1 k1).1]; exact k1
              · rw [if_neg hqn]
                obtain ⟨x, k1, k2⟩ := hnews (q - n.val) p ck (by omega) hp
                refine ⟨x, ?_, k2⟩
                rw [List.getElem?_append_right (by rw [hol]; have := Nat.mul_le_mul_right (lenL v0.sh) (Nat.le_of_not_lt hqn); omega), hol, ← k1]
                congr 1
                have h5 : q * lenL v0.sh = n.val * lenL v0.sh + (q - n.val) * lenL v0.sh := by rw [← Nat.add_mul]; congr 1; omega
                omega
      · cases he
    · cases he
  · cases he
end
end Go.Ab
