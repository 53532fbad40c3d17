import Derived.Test.YtmegbdgnnbjbmaaAbS7
namespace Go.Ab
open Go Go.RowKit
set_option linter.unusedVariables false

theorem eqCK_eq {c d : CK} (h : eqCK c d = true) : c = d := by
  unfold eqCK at h
  split at h
  · rfl
  · have := of_decide_eq_true h; subst this; rfl
  · rfl
  · cases h

theorem eqSh_eq : ∀ {l r : List CK}, eqSh l r = true → l = r
  | [], [], _ => rfl
  | [], _ :: _, h => by simp [eqSh] at h
  | _ :: _, [], h => by simp [eqSh] at h
  | c :: l, d :: r, h => by
    unfold eqSh at h
    split at h
    · rename_i hc
      rw [eqCK_eq hc, eqSh_eq (l := l) (r := r) h]
    · cases h

theorem nthC_some : ∀ {l : List CK} {p : Nat}, p < lenL l → ∃ c, nthC p l = some c
  | [], p, h => by simp [lenL] at h
  | c :: l, 0, _ => ⟨c, rfl⟩
  | c :: l, p + 1, h => by
    obtain ⟨d, hd⟩ := nthC_some (l := l) (p := p) (by simpa [lenL] using h)
    exact ⟨d, by simpa [nthC] using hd⟩

theorem nth_drop : ∀ (l : List AVal) (k p : Nat), nth p (l.drop k) = nth (k + p) l
  | [], k, p => by simp [nth]
  | x :: l, 0, p => by simp
  | x :: l, k + 1, p => by
    simp only [List.drop_succ_cons]
    rw [nth_drop l k p]
    have : k + 1 + p = (k + p) + 1 := by omega
    rw [this]; rfl
theorem nth_take : ∀ (l : List AVal) (k p : Nat), p < k → nth p (l.take k) = nth p l
  | [], k, p, _ => by simp
  | x :: l, 0, p, h => by omega
  | x :: l, k + 1, 0, _ => rfl
  | x :: l, k + 1, p + 1, h => nth_take l k p (by omega)

theorem fitsAll_spec (sh : List CK) : ∀ (n : Nat) (cs : List AVal), fitsAll sh n cs = true → cs.length = n * lenL sh → ∀ q p c, q < n → nthC p sh = some c → fits c (nth (q * lenL sh + p) cs) = true
  | 0, cs, _, _, q, p, c, hq, _ => by omega
  | n + 1, cs, h, hl, q, p, c, hq, hc => by
    unfold fitsAll at h
    simp only [Bool.and_eq_true] at h
    have hp := nthC_lt hc
    have hl2 : (n + 1) * lenL sh = n * lenL sh + lenL sh := by rw [Nat.add_mul]; simp
    cases q with
    | zero =>
      obtain ⟨c', h1, h2⟩ := fitsL_spec sh _ 0 h.1 p (by rw [List.length_take]; omega)
      rw [Nat.zero_add, hc] at h1; cases h1
      rw [nth_take _ _ _ hp] at h2
      simpa using h2
    | succ q =>
      have := fitsAll_spec sh n (cs.drop (lenL sh)) h.2 (by rw [List.length_drop]; omega) q p c (by omega) hc
      rw [nth_drop] at this
      have e : (q + 1) * lenL sh + p = lenL sh + (q * lenL sh + p) := by rw [Nat.add_mul]; omega
      rw [e]; exact this

theorem mkA_one {ρ : Rho} {v : Vc} {k o : Nat} {c : CK} {x : Value} (h : V ρ (v.mkA k o c) x) : x.oneCell' = true := V_oneA h (by cases c <;> rfl)

theorem addNum_val (n m : Num) : (addNum n m).val = n.val + m.val := by cases n <;> cases m <;> rfl
theorem addNum_ok {n m : Num} (hn : n.ok) (hm : m.ok) : (addNum n m).ok := by
  cases n <;> cases m <;> simp only [addNum, Num.ok, Nat.add_eq] at hn hm ⊢ <;> omega

theorem join_mkA_some (sh : List CK) (n : Num) (fa : Nat) (v : Vc) (m : Num) (fb : Nat) (u : Vc) (q p : Nat) (c : CK) :
    (Vc.join sh n fa (some v) m fb u).mkA q p c = if q < n.val then v.mkA (fa + q) p c else u.mkA (fb + (q - n.val)) p c := by
  by_cases h : q < n.val
  · have hb : Nat.ble (q + 1) n.val = true := Nat.ble_eq_true_of_le h
    rw [if_pos h]
    cases c <;> simp [Vc.mkA, Vc.join, hb]
  · have hb : Nat.ble (q + 1) n.val = false := by
      cases hh : Nat.ble (q + 1) n.val with
      | false => rfl
      | true => exact absurd (Nat.le_of_ble_eq_true hh) h
    rw [if_neg h]
    cases c <;> simp [Vc.mkA, Vc.join, hb]
theorem join_mkA_none (sh : List CK) (m : Num) (fb : Nat) (u : Vc) (q p : Nat) (c : CK) : (Vc.join sh (.lit 0) 0 none m fb u).mkA q p c = u.mkA (fb + q) p c := by
  cases c <;> simp [Vc.mkA, Vc.join, Num.val]

section
variable {P : Program} {ρ : Rho} {S : St} {M : Addr → Prop} {w0 w : World}

/-- The elements of a row, as a list. -/
theorem row_list (w : World) (r b e n : Nat) (C : Nat → Nat → Value → Prop) (he : 1 ≤ e) (h : ∀ q p, q < n → p < e → ∃ v, w.cell? ⟨r, b + (q * e + p), none⟩ = some v ∧ C q p v) :
    ∃ vs : List Value, vs.length = n * e ∧ (∀ j v, vs[j]? = some v → w.cell? ⟨r, b + j, none⟩ = some v) ∧ ∀ q p, q < n → p < e → ∃ v, vs[q * e + p]? = some v ∧ C q p v := by
  have hq : ∀ j, j < n * e → ∃ q p, q < n ∧ p < e ∧ j = q * e + p := fun j hj => by
    refine ⟨j / e, j % e, (Nat.div_lt_iff_lt_mul (by omega)).2 hj, Nat.mod_lt _ (by omega), ?_⟩
    rw [Nat.mul_comm]; exact (Nat.div_add_mod j e).symm
  refine ⟨(List.range (n * e)).map fun j => (w.cell? ⟨r, b + j, none⟩).getD undef, by simp, fun j v hj => ?_, fun q p hq' hp => ?_⟩
  · simp only [List.getElem?_map, Option.map_eq_some_iff] at hj
    obtain ⟨j', hj', rfl⟩ := hj
    have hlt := (List.getElem?_eq_some_iff.1 hj').1
    simp only [List.length_range] at hlt
    rw [List.getElem?_range hlt] at hj'
    cases hj'
    obtain ⟨q, p, h1, h2, rfl⟩ := hq j hlt
    obtain ⟨v, hv, _⟩ := h q p h1 h2
    rw [hv]; rfl
  · obtain ⟨v, hv, hC⟩ := h q p hq' hp
    refine ⟨v, ?_, hC⟩
    rw [List.getElem?_map, List.getElem?_range (mul_lt_seg hq' hp)]
    simp [hv]

theorem loadCells_zero (w : World) (a : Addr) : (loadCells a 0).run P w = .ok #[] w := by simp [loadCells, loadCellsFrom]

/-- What is appended. -/
theorem srcOf_sound {sh : List CK} {y : AVal} {m : Num} {fb : Nat} {u : Vc} {v : Value} {tx e' : TypeId} (h : srcOf S sh y = some (m, fb, u)) (hM : Hp ρ S w) (hv : V ρ y v) (hneed : fb + m.val ≤ u.n.val) (h1 : 1 ≤ lenL sh)
    (hk : P.underlying tx = some (.slice e')) : m.ok ∧ ∃ news, Src P (lenL sh) tx v m.val news w ∧ ∀ q p c, q < m.val → nthC p sh = some c → ∃ x, news[q * lenL sh + p]? = some x ∧ V ρ (u.mkA (fb + q) p c) x := by
  unfold srcOf at h
  split at h
  · -- nil
    rename_i v0
    split at h
    · simp only [Option.some.injEq, Prod.mk.injEq] at h
      obtain ⟨rfl, rfl, rfl⟩ := h
      unfold V at hv
      subst hv
      exact ⟨trivial, [], Src.ofNil w hk 0, fun q p c hq => by simp [Num.val] at hq⟩
    · cases h
  · -- a row
    rename_i i e a n
    split at h
    · rename_i v0 hv0
      split at h
      · rename_i hb
        simp only [Option.some.injEq, Prod.mk.injEq] at h
        obtain ⟨rfl, rfl, rfl⟩ := h
        simp only [Bool.and_eq_true] at hb
        have he := Nat.eq_of_beq_eq_true hb.1
        have hsh := eqSh_eq hb.2
        subst he; subst hsh
        unfold V at hv
        obtain ⟨hok, _, base, c, rfl, hc⟩ := hv
        rcases hc with ⟨rfl, hn0⟩ | ⟨r, b, hr, rfl, rfl, hcap⟩
        · refine ⟨hok, [], ?_, fun q p c hq => by omega⟩
          rw [hn0]
          refine ⟨.inl ⟨e', hk⟩, fun _ => rfl, ?_, ?_, by simp, fun _ h => by cases h⟩
          · cases base <;> simp [Builtin.firstCells, loadCells_zero]
          · cases base <;> simp [Builtin.firstCells, loadCells_zero]
        · obtain ⟨vs, hl, hcell, hC⟩ := row_list w r (b + a * lenL v0.sh) (lenL v0.sh) n.val (fun q p x => ∀ c, nthC p v0.sh = some c → V ρ (v0.mkA (a + q) p c) x) h1 (fun q p hq hp => by
            obtain ⟨c, hc⟩ := nthC_some hp
            obtain ⟨x, h2, h3⟩ := hM.vcell i v0 r b (a + q) p c hv0 hr (by omega) hc
            refine ⟨x, ?_, fun c' hc' => by rw [hc] at hc'; cases hc'; exact h3⟩
            rw [← h2]; congr 1
            simp only [Addr.mk.injEq, true_and, and_true]
            rw [Nat.add_mul]; omega)
          refine ⟨hok, vs, Src.ofSlice w hk _ n.val _ vs hl (fun j x hj => by rw [Addr_add]; exact hcell j x hj) (fun x hx => ?_), fun q p c hq hc => ?_⟩
          · obtain ⟨j, hj⟩ := List.mem_iff_getElem?.1 hx
            have hjl : j < n.val * lenL v0.sh := by rw [← hl]; exact (List.getElem?_eq_some_iff.1 hj).1
            have hp : j % lenL v0.sh < lenL v0.sh := Nat.mod_lt _ (by omega)
            have hq : j / lenL v0.sh < n.val := (Nat.div_lt_iff_lt_mul (by omega)).2 hjl
            obtain ⟨c, hc⟩ := nthC_some hp
            obtain ⟨x', h2, h3⟩ := hC (j / lenL v0.sh) (j % lenL v0.sh) hq hp
            have e : j / lenL v0.sh * lenL v0.sh + j % lenL v0.sh = j := by rw [Nat.mul_comm]; exact Nat.div_add_mod j _
            rw [e, hj] at h2; cases h2
            exact mkA_one (h3 c hc)
          · obtain ⟨x, h2, h3⟩ := hC q p hq (nthC_lt hc)
            exact ⟨x, h2, h3 c hc⟩
      · cases h
    · cases h
  · -- cells
    rename_i i o l cp
    split at h
    · rename_i cs hcs
      split at h
      · rename_i hf
        simp only [Option.some.injEq, Prod.mk.injEq] at h
        obtain ⟨rfl, rfl, rfl⟩ := h
        unfold V at hv
        obtain ⟨r, b, hr, rfl⟩ := hv
        obtain ⟨vs, hl, hvl, hcell⟩ := hM.cellsAt hr _ _ _ hcs
        have hlen := (cellsAt_len _ _ _ _ hcs).1
        have hfa := fitsAll_spec sh l cs hf hlen
        have key : ∀ q p c, q < l → nthC p sh = some c → ∃ x, vs[q * lenL sh + p]? = some x ∧ V ρ (mkW c (nth (q * lenL sh + p) cs)) x := fun q p c hq hc => by
          have hlt := mul_lt_seg hq (nthC_lt hc)
          obtain ⟨x, h2, h3⟩ := VL_nth _ _ hvl (q * lenL sh + p) (by rw [hlen]; exact hlt)
          exact ⟨x, h2, fits_V (hfa q p c hq hc) h3⟩
        refine ⟨trivial, vs, Src.ofSlice w hk _ l _ vs hl (fun j x hj => by rw [Addr_add]; exact hcell j x hj) (fun x hx => ?_), fun q p c hq hc => ?_⟩
        · obtain ⟨j, hj⟩ := List.mem_iff_getElem?.1 hx
          have hjl : j < l * lenL sh := by
            have := (List.getElem?_eq_some_iff.1 hj).1
            rw [hl] at this; exact this
          have hp : j % lenL sh < lenL sh := Nat.mod_lt _ (by omega)
          have hq : j / lenL sh < l := (Nat.div_lt_iff_lt_mul (by omega)).2 hjl
          obtain ⟨c, hc⟩ := nthC_some hp
          obtain ⟨x', h2, h3⟩ := key (j / lenL sh) (j % lenL sh) c hq hc
          have e : j / lenL sh * lenL sh + j % lenL sh = j := by rw [Nat.mul_comm]; exact Nat.div_add_mod j _
          rw [e, hj] at h2; cases h2
          exact V_oneA h3 (by cases c <;> rfl)
        · obtain ⟨x, h2, h3⟩ := key q p c hq hc
          refine ⟨x, h2, ?_⟩
          have e : (Vc.ofCells sh l cs).mkA (0 + q) p c = mkW c (nth (q * lenL sh + p) cs) := by cases c <;> simp [Vc.mkA, Vc.ofCells, mkW]
          rw [e]; exact h3
      · cases h
    · cases h
  · cases h
end
end Go.Ab
