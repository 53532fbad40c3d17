import Derived.Test.YtiebaggemiifoaaAbS2
namespace Go.Ab
open Go Go.RowKit

/-! ### 3. Memory -/
structure Hp (ρ : Rho) (S : St) (w : World) : Prop where
  cell : ∀ i o x, S.cell i o = some x → ∃ r b v, ρ i = some (r, b) ∧ w.cell? ⟨r, b + o, none⟩ = some v ∧ V ρ x v
  frz : ∀ i o x r b, S.cell i o = some x → (S.blk i).wr = true → ρ i = some (r, b) → w.frozen? ⟨r, b + o, none⟩ = false
  dis : ∀ i j r b b', i ≠ j → (S.blk i).wr = true → ρ i = some (r, b) → ρ j = some (r, b') → False
  dom : ∀ i p, ρ i = some p → i < S.hp.length
  ink : ∀ i o x, hlookL i o S.hvs = some x → i < S.hp.length
  lt : ∀ i r b, ρ i = some (r, b) → r < w.heap.size

structure Fr (M : Addr → Prop) (w0 w : World) : Prop where
  os : w.os = w0.os
  tape : w.tape = w0.tape
  output : w.output = w0.output
  size : w0.heap.size ≤ w.heap.size
  block : ∀ k, k < w0.heap.size → (∀ o, ¬ M ⟨k, o, none⟩) → w.heap[k]? = w0.heap[k]?
  cell : ∀ a, a.block < w0.heap.size → ¬ M a → w.cell? a = w0.cell? a
  frozen : ∀ a, a.block < w0.heap.size → w.frozen? a = w0.frozen? a

theorem Fr.refl (M : Addr → Prop) (w : World) : Fr M w w := ⟨rfl, rfl, rfl, Nat.le_refl _, fun _ _ _ => rfl, fun _ _ _ => rfl, fun _ _ => rfl⟩

theorem Fr.trans {M M' : Addr → Prop} {w0 w w' : World} (h : Fr M w0 w) (k : Fr M' w w') (hm : ∀ a, M' a → M a ∨ w0.heap.size ≤ a.block) : Fr M w0 w' := by
  have hs := h.size
  refine ⟨k.os.trans h.os, k.tape.trans h.tape, k.output.trans h.output, Nat.le_trans h.size k.size, fun b hb hn => ?_, fun a ha hn => ?_, fun a ha => ?_⟩
  · rw [k.block b (by omega) (fun o ho => (hm _ ho).elim (hn o) (fun h => by simp at h; omega)), h.block b hb hn]
  · rw [k.cell a (by omega) (fun ho => (hm _ ho).elim hn (fun h => by omega)), h.cell a ha hn]
  · rw [k.frozen a (by omega), h.frozen a ha]

theorem Fr.mono {M M' : Addr → Prop} {w0 w : World} (h : Fr M w0 w) (hm : ∀ a, M a → M' a) : Fr M' w0 w :=
  ⟨h.os, h.tape, h.output, h.size, fun k hk hn => h.block k hk (fun o ho => hn o (hm _ ho)), fun a ha hn => h.cell a ha (fun ho => hn (hm _ ho)), h.frozen⟩

def NoM : Addr → Prop := fun _ => False

theorem Fr.drew (w : World) : Fr NoM w w.drew := ⟨rfl, rfl, rfl, Nat.le_refl _, fun _ _ _ => rfl, fun _ _ _ => rfl, fun _ _ => rfl⟩
theorem Fr.drawn {w w' : World} (h : Drawn w w') : Fr NoM w w' := by
  rcases h with rfl | rfl
  · exact Fr.refl _ _
  · exact Fr.drew _

theorem Fr.alloc (w : World) (o : Obj) : Fr NoM w (w.alloc o) := by
  refine ⟨rfl, rfl, rfl, by simp, fun k hk _ => Below.heap_alloc _ _ _ hk, fun a ha _ => World.cell?_alloc_lt _ _ _ ha, fun a ha => World.frozen?_alloc_old _ _ _ (by omega)⟩

theorem Fr.of_below {w w' : World} (h : Below w.heap.size w w') : Fr NoM w w' :=
  ⟨h.os, h.tape, h.output, h.size, fun k hk _ => h.block k hk, fun _ ha _ => h.cell ha, fun _ ha => h.frozen ha⟩

theorem Fr.below {w w' : World} (h : Fr NoM w w') : Below w.heap.size w w' :=
  ⟨h.os, h.tape, h.output, h.size, fun k hk => h.block k hk (fun _ h => h)⟩

def Own (M : Addr → Prop) (w0 : World) (ρ : Rho) (S : St) : Prop :=
  ∀ i o x r b, S.cell i o = some x → (S.blk i).wr = true → ρ i = some (r, b) → M ⟨r, b + o, none⟩ ∨ w0.heap.size ≤ r

structure Mem (M : Addr → Prop) (w0 : World) (ρ : Rho) (S : St) (w : World) : Prop where
  hp : Hp ρ S w
  fr : Fr M w0 w
  own : Own M w0 ρ S

/-- The cells of a state that may be written. -/
def WrA (ρ : Rho) (S : St) : Addr → Prop := fun a => ∃ i o x r b, S.cell i o = some x ∧ (S.blk i).wr = true ∧ ρ i = some (r, b) ∧ a = ⟨r, b + o, none⟩

theorem Own.wrA {M : Addr → Prop} {w0 : World} {ρ : Rho} {S : St} (h : Own M w0 ρ S) : ∀ a, WrA ρ S a → M a ∨ w0.heap.size ≤ a.block := by
  rintro a ⟨i, o, x, r, b, h1, h2, h3, rfl⟩
  exact h i o x r b h1 h2 h3

theorem Mem.same {M : Addr → Prop} {w0 : World} {ρ : Rho} {S S' : St} {w : World} (h : Mem M w0 ρ S w) (hc : ∀ i o, S'.cell i o = S.cell i o) (hb : ∀ i, (S'.blk i).wr = (S.blk i).wr)
    (hl : S'.hp.length = S.hp.length) (hi : ∀ i o x, hlookL i o S'.hvs = some x → i < S'.hp.length) : Mem M w0 ρ S' w := by
  refine ⟨⟨fun i o x hx => h.hp.cell i o x (hc i o ▸ hx), fun i o x r b hx hw => h.hp.frz i o x r b (hc i o ▸ hx) (hb i ▸ hw), fun i j r b b' hij hw => h.hp.dis i j r b b' hij (hb i ▸ hw),
    fun i p hp => hl ▸ h.hp.dom i p hp, hi, h.hp.lt⟩, h.fr, fun i o x r b hx hw => h.own i o x r b (hc i o ▸ hx) (hb i ▸ hw)⟩

/-- The world moves on: only what may be written is written. -/
theorem Mem.step {M M' : Addr → Prop} {w0 : World} {ρ : Rho} {S S' : St} {w w' : World} (h : Mem M w0 ρ S w) (k : Fr M' w w') (hm : ∀ a, M' a → WrA ρ S a)
    (hcell : ∀ i o x, S'.cell i o = some x → ∃ r b v, ρ i = some (r, b) ∧ w'.cell? ⟨r, b + o, none⟩ = some v ∧ V ρ x v)
    (hsome : ∀ i o x, S'.cell i o = some x → ∃ y, S.cell i o = some y)
    (hb : ∀ i, (S'.blk i).wr = (S.blk i).wr) (hl : S'.hp.length = S.hp.length) (hi : ∀ i o x, hlookL i o S'.hvs = some x → i < S'.hp.length) : Mem M w0 ρ S' w' := by
  refine ⟨⟨hcell, fun i o x r b hx hw hr => ?_, fun i j r b b' hij hw => h.hp.dis i j r b b' hij (hb i ▸ hw), fun i p hp => hl ▸ h.hp.dom i p hp, hi, fun i r b hr => Nat.lt_of_lt_of_le (h.hp.lt i r b hr) k.size⟩,
    h.fr.trans k (fun a ha => h.own.wrA a (hm a ha)), fun i o x r b hx hw hr => ?_⟩
  · obtain ⟨y, hy⟩ := hsome i o x hx
    obtain ⟨r', b', v, hr', hv, _⟩ := h.hp.cell i o y hy
    rw [hr] at hr'; cases hr'
    rw [k.frozen _ (World.block_lt_of_cell? _ _ hv)]
    exact h.hp.frz i o y r b hy (hb i ▸ hw) hr
  · obtain ⟨y, hy⟩ := hsome i o x hx
    exact h.own i o y r b hy (hb i ▸ hw) hr

/-- Nothing at all is written. -/
theorem Mem.quiet {M : Addr → Prop} {w0 : World} {ρ : Rho} {S : St} {w w' : World} (h : Mem M w0 ρ S w) (k : Fr NoM w w') : Mem M w0 ρ S w' :=
  h.step k (fun _ ha => ha.elim) (fun i o x hx => by
    obtain ⟨r, b, v, h1, h2, h3⟩ := h.hp.cell i o x hx
    exact ⟨r, b, v, h1, by rw [k.cell _ (World.block_lt_of_cell? _ _ h2) (fun h => h)]; exact h2, h3⟩) (fun i o x hx => ⟨x, hx⟩) (fun _ => rfl) rfl h.hp.ink

/-! lookups -/
theorem look1_append (t : Nat) : ∀ (a b : List (Nat × AVal)), look1 t (a ++ b) = match look1 t a with | some v => some v | none => look1 t b
  | [], b => rfl
  | (k, v) :: r, b => by
    simp only [List.cons_append, look1]
    split
    · rfl
    · exact look1_append t r b

theorem hlook1_append (i o : Nat) : ∀ (a b : List ((Nat × Nat) × AVal)), hlook1 i o (a ++ b) = match hlook1 i o a with | some v => some v | none => hlook1 i o b
  | [], b => rfl
  | (k, v) :: r, b => by
    simp only [List.cons_append, hlook1]
    split
    · rfl
    · exact hlook1_append i o r b

theorem nthB_append_left : ∀ (a b : List Blk) (i : Nat), i < a.length → nthB i (a ++ b) = nthB i a
  | [], _, i, h => by simp at h
  | x :: a, b, 0, _ => rfl
  | x :: a, b, i + 1, h => nthB_append_left a b i (by simpa using h)
theorem nthB_append_right : ∀ (a b : List Blk) (i : Nat), nthB (a.length + i) (a ++ b) = nthB i b
  | [], b, i => by simp
  | x :: a, b, i => by
    have : (x :: a).length + i = (a.length + i) + 1 := by simp; omega
    rw [this]; exact nthB_append_right a b i
theorem nthB_out : ∀ (a : List Blk) (i : Nat), a.length ≤ i → nthB i a = ⟨[], false⟩
  | [], i, _ => by cases i <;> rfl
  | x :: a, 0, h => by simp at h
  | x :: a, i + 1, h => nthB_out a i (by simpa using h)

theorem cell_none_out {S : St} {i o : Nat} (h : S.hp.length ≤ i) : S.cell i o = none := by
  unfold St.cell St.blk
  rw [nthB_out _ _ h]
  rfl

theorem cell_lt {S : St} {i o : Nat} {x : AVal} (h : S.cell i o = some x) : i < S.hp.length := by
  rcases Nat.lt_or_ge i S.hp.length with k | k
  · exact k
  · rw [cell_none_out k] at h; cases h

theorem cell_off {S : St} {i o : Nat} {x : AVal} (h : S.cell i o = some x) : o < (S.blk i).cells.length := by
  unfold St.cell at h
  split at h
  · rename_i hb; exact Nat.le_of_ble_eq_true hb
  · cases h

theorem cell_some {S : St} {i o : Nat} (h : o < (S.blk i).cells.length) : ∃ x, S.cell i o = some x := by
  unfold St.cell
  rw [Nat.ble_eq_true_of_le h]
  simp only
  split
  · exact ⟨_, rfl⟩
  · exact ⟨_, rfl⟩

/-- The state with some cells written and some blocks made. -/
def St.put (S : St) (hv : List ((Nat × Nat) × AVal)) (nw : List Blk) : St := S.ext ⟨[], hv, nw⟩

theorem put_nil (S : St) : ∀ i o, (S.put [] []).cell i o = S.cell i o := by
  intro i o
  simp [St.put, St.ext, St.cell, St.blk, hlookL, hlook1]

theorem Mem.put_nil {M : Addr → Prop} {w0 : World} {ρ : Rho} {S : St} {w : World} (h : Mem M w0 ρ S w) : Mem M w0 ρ (S.put [] []) w :=
  h.same (Ab.put_nil S) (fun i => by simp [St.put, St.ext, St.blk]) (by simp [St.put, St.ext]) (fun i o x hx => by
    have := h.hp.ink i o x (by simpa [St.put, St.ext, hlookL, hlook1] using hx)
    simpa [St.put, St.ext] using this)

/-! reading -/
theorem Addr_add (r o n : Nat) : Addr.add ⟨r, o, none⟩ n = ⟨r, o + n, none⟩ := by
  unfold Addr.add
  split
  · rename_i h; subst h; rfl
  · rfl

theorem run_loadCellsFrom {P : Program} {w : World} (r o : Nat) : ∀ (n i : Nat) (acc : Array Value) (vs : List Value),
    (vs.length = n) → (∀ j v, vs[j]? = some v → w.cell? ⟨r, o + i + j, none⟩ = some v) → (loadCellsFrom ⟨r, o, none⟩ i n acc).run P w = .ok (acc ++ vs.toArray) w
  | 0, i, acc, vs, hl, _ => by
    have : vs = [] := List.length_eq_zero_iff.1 hl
    subst this
    simp [loadCellsFrom]
  | n + 1, i, acc, vs, hl, hc => by
    cases vs with
    | nil => simp at hl
    | cons v vs =>
      have h0 := hc 0 v rfl
      have ih := run_loadCellsFrom (P := P) (w := w) r o n (i + 1) (acc.push v) vs (by simpa using hl) (fun j u hj => by
        have := hc (j + 1) u (by simpa using hj)
        have e : o + (i + 1) + j = o + i + (j + 1) := by omega
        rw [e]; exact this)
      simp only [loadCellsFrom, Sem.run_bind, Addr_add, run_load]
      simp only [Nat.add_zero] at h0
      rw [h0]
      simp only [Result.andThen_ok, ih]
      simp

theorem Hp.cellsAt {ρ : Rho} {S : St} {w : World} (h : Hp ρ S w) {i r b : Nat} (hr : ρ i = some (r, b)) : ∀ (n o : Nat) (cs : List AVal), S.cellsAt i o n = some cs →
    ∃ vs : List Value, vs.length = n ∧ VL ρ cs vs ∧ ∀ j v, vs[j]? = some v → w.cell? ⟨r, b + o + j, none⟩ = some v
  | 0, o, cs, hc => by
    simp only [St.cellsAt] at hc
    cases hc
    exact ⟨[], rfl, by simp [VL], fun j v hj => by simp at hj⟩
  | n + 1, o, cs, hc => by
    simp only [St.cellsAt] at hc
    split at hc
    · rename_i x hx
      split at hc
      · rename_i cs' hcs
        cases hc
        obtain ⟨r', b', v, h1, h2, h3⟩ := h.cell i o x hx
        rw [hr] at h1; cases h1
        obtain ⟨vs, hl, hv, hcell⟩ := h.cellsAt hr n (o + 1) cs' hcs
        refine ⟨v :: vs, by simp [hl], ?_, fun j u hj => ?_⟩
        · unfold VL; exact ⟨v, vs, rfl, h3, hv⟩
        · cases j with
          | zero => simp at hj; subst hj; simpa using h2
          | succ j =>
            have := hcell j u (by simpa using hj)
            have e : b + o + (j + 1) = b + (o + 1) + j := by omega
            rw [e]; exact this
      · cases hc
    · cases hc

/-! writing -/
theorem run_storeCells {P : Program} (r o : Nat) : ∀ (vs : List Value) (i : Nat) (w : World), (∀ v ∈ vs, v.oneCell' = true) →
    (∀ j, j < vs.length → ∃ u, w.cell? ⟨r, o + i + j, none⟩ = some u) → (∀ j, j < vs.length → w.frozen? ⟨r, o + i + j, none⟩ = false) →
    ∃ w', (storeCells ⟨r, o, none⟩ vs i).run P w = .ok () w' ∧ w'.os = w.os ∧ w'.tape = w.tape ∧ w'.output = w.output ∧ w'.heap.size = w.heap.size ∧ (∀ a, w'.frozen? a = w.frozen? a) ∧
      (∀ k, k ≠ r → w'.heap[k]? = w.heap[k]?) ∧ (∀ j v, vs[j]? = some v → w'.cell? ⟨r, o + i + j, none⟩ = some v) ∧
      (∀ a, (∀ j, j < vs.length → a ≠ ⟨r, o + i + j, none⟩) → w'.cell? a = w.cell? a)
  | [], i, w, _, _, _ => ⟨w, by simp [storeCells], rfl, rfl, rfl, rfl, fun _ => rfl, fun _ _ => rfl, fun j v hj => by simp at hj, fun _ _ => rfl⟩
  | v :: vs, i, w, h1, hc, hf => by
    have hv := h1 v (by simp)
    obtain ⟨u, hu⟩ := hc 0 (by simp)
    have hfz := hf 0 (by simp)
    simp only [Nat.add_zero] at hu hfz
    obtain ⟨w', hr, e1, e2, e3, e4, e5, e6, e7, e8⟩ := run_storeCells (P := P) r o vs (i + 1) (w.setCell ⟨r, o + i, none⟩ v) (fun x hx => h1 x (by simp [hx]))
      (fun j hj => by
        obtain ⟨y, hy⟩ := hc (j + 1) (by simp; omega)
        refine ⟨y, ?_⟩
        rw [World.cell?_setCell_other _ _ _ _ (by intro e; simp at e)]
        have e : o + (i + 1) + j = o + i + (j + 1) := by omega
        rw [e]; exact hy)
      (fun j hj => by
        rw [World.frozen?_setCell]
        have := hf (j + 1) (by simp; omega)
        have e : o + (i + 1) + j = o + i + (j + 1) := by omega
        rw [e]; exact this)
    refine ⟨w', ?_, e1, e2, e3, by simpa using e4, fun a => (e5 a).trans (World.frozen?_setCell _ _ _ _), fun k hk => (e6 k hk).trans (Below.heap_setCell _ _ _ _ hk), ?_, ?_⟩
    · simp only [storeCells, Sem.run_bind, Addr_add]
      rw [run_store P w _ v .plain hv, hu]
      simp only [hfz, Bool.false_eq_true, if_false, Result.andThen_ok]
      exact hr
    · intro j x hj
      cases j with
      | zero =>
        simp at hj; subst hj
        rw [Nat.add_zero, e8 _ (fun j _ e => by simp at e)]
        exact World.cell?_setCell_same _ _ _ hu
      | succ j =>
        have := e7 j x (by simpa using hj)
        have e : o + i + (j + 1) = o + (i + 1) + j := by omega
        rw [e]; exact this
    · intro a ha
      rw [e8 a (fun j hj => by have := ha (j + 1) (by simp; omega); have e : o + i + (j + 1) = o + (i + 1) + j := by omega
                               rw [e] at this; exact this)]
      exact World.cell?_setCell_other _ _ _ _ (fun e => ha 0 (by simp) (by rw [Nat.add_zero]; exact e.symm))

theorem hlook1_storeL (i : Nat) : ∀ (vs : List AVal) (o i' o' : Nat), hlook1 i' o' (storeL i o vs) = if i' = i ∧ o ≤ o' ∧ o' < o + vs.length then some (nth (o' - o) vs) else none
  | [], o, i', o' => by
    simp only [storeL, hlook1, List.length_nil, Nat.add_zero]
    rw [if_neg (by omega)]
  | v :: vs, o, i', o' => by
    simp only [storeL, hlook1]
    split
    · rename_i h
      simp only [Bool.and_eq_true] at h
      have h1 := Nat.eq_of_beq_eq_true h.1
      have h2 := Nat.eq_of_beq_eq_true h.2
      subst h1; subst h2
      rw [if_pos (by simp)]
      simp [nth]
    · rename_i h
      have hne : ¬ (i' = i ∧ o' = o) := by
        rintro ⟨rfl, rfl⟩
        simp at h
      rw [hlook1_storeL i vs (o + 1) i' o']
      by_cases hc : i' = i ∧ o + 1 ≤ o' ∧ o' < o + 1 + vs.length
      · rw [if_pos hc, if_pos (by simp; omega)]
        have e : o' - o = (o' - (o + 1)) + 1 := by omega
        rw [e]; rfl
      · rw [if_neg hc, if_neg (by simp only [List.length_cons]; omega)]

theorem cell_put_store {S : St} {i o : Nat} {vs : List AVal} (i' o' : Nat) :
    (S.put (storeL i o vs) []).cell i' o' = match S.cell i' o' with
      | none => none
      | some y => if i' = i ∧ o ≤ o' ∧ o' < o + vs.length then some (nth (o' - o) vs) else some y := by
  unfold St.cell
  have eb : (S.put (storeL i o vs) []).blk i' = S.blk i' := by simp [St.put, St.ext, St.blk]
  rw [eb]
  cases hb : Nat.ble (o' + 1) (S.blk i').cells.length with
  | false => rfl
  | true =>
    simp only [St.put, St.ext, hlookL, hlook1_storeL]
    by_cases hc : i' = i ∧ o ≤ o' ∧ o' < o + vs.length
    · simp only [hc, and_self, if_true]
      cases hlookL i o' S.hvs <;> rfl
    · simp only [hc, if_false]
      cases hlookL i' o' S.hvs <;> rfl

theorem VL_mem {ρ : Rho} : ∀ (xs : List AVal) (vs : List Value), VL ρ xs vs → allOne xs = true → ∀ v ∈ vs, v.oneCell' = true
  | [], _, h, _, v, hv => by unfold VL at h; subst h; simp at hv
  | x :: xs, _, h, h1, v, hv => by
    unfold VL at h
    obtain ⟨u, us, rfl, h2, h3⟩ := h
    unfold allOne at h1
    split at h1
    · rename_i hx
      rcases List.mem_cons.1 hv with rfl | hv
      · exact V_oneA h2 hx
      · exact VL_mem xs us h3 h1 v hv
    · cases h1

theorem Mem.store {P : Program} {M : Addr → Prop} {w0 : World} {ρ : Rho} {S : St} {w : World} (h : Mem M w0 ρ S w) {i o r b : Nat} {xs : List AVal} {vs : List Value}
    (hr : ρ i = some (r, b)) (hw : (S.blk i).wr = true) (hlen : o + xs.length ≤ (S.blk i).cells.length) (hv : VL ρ xs vs) (h1 : allOne xs = true) :
    ∃ w', (storeCells ⟨r, b + o, none⟩ vs).run P w = .ok () w' ∧ Mem M w0 ρ (S.put (storeL i o xs) []) w' := by
  have hl := VL_length xs vs hv
  have hcells : ∀ j, j < vs.length → ∃ x, S.cell i (o + j) = some x := fun j hj => cell_some (by omega)
  obtain ⟨w', hrun, e1, e2, e3, e4, e5, e6, e7, e8⟩ := run_storeCells (P := P) r (b + o) vs 0 w (VL_mem xs vs hv h1)
    (fun j hj => by
      obtain ⟨x, hx⟩ := hcells j hj
      obtain ⟨r', b', v, k1, k2, _⟩ := h.hp.cell i (o + j) x hx
      rw [hr] at k1; cases k1
      exact ⟨v, by rw [Nat.add_zero, Nat.add_assoc]; exact k2⟩)
    (fun j hj => by
      obtain ⟨x, hx⟩ := hcells j hj
      have := h.hp.frz i (o + j) x r b hx hw hr
      rw [Nat.add_zero, Nat.add_assoc]; exact this)
  simp only [Nat.add_zero] at e7 e8
  refine ⟨w', hrun, h.step (M' := fun a => ∃ j, j < vs.length ∧ a = ⟨r, b + o + j, none⟩) ⟨e1, e2, e3, by omega, ?_, ?_, fun a _ => e5 a⟩ ?_ ?_ ?_ (fun k => by simp [St.put, St.ext, St.blk]) (by simp [St.put, St.ext]) ?_⟩
  · intro k hk hn
    by_cases hkr : k = r
    · -- the block of the store: it has no cell that is written only if there is none
      subst hkr
      cases vs with
      | nil =>
        simp [storeCells] at hrun
        rw [← hrun]
      | cons v vs => exact absurd ⟨0, by simp, rfl⟩ (hn (b + o))
    · exact e6 k hkr
  · intro a ha hn
    exact e8 a (fun j hj e => hn ⟨j, hj, e⟩)
  · rintro a ⟨j, hj, rfl⟩
    obtain ⟨x, hx⟩ := hcells j hj
    exact ⟨i, o + j, x, r, b, hx, hw, hr, by rw [Nat.add_assoc]⟩
  · intro i' o' x hx
    rw [cell_put_store] at hx
    cases hy : S.cell i' o' with
    | none => rw [hy] at hx; cases hx
    | some y =>
      rw [hy] at hx
      simp only at hx
      obtain ⟨r', b', v, k1, k2, k3⟩ := h.hp.cell i' o' y hy
      split at hx
      · rename_i hc
        obtain ⟨rfl, hc1, hc2⟩ := hc
        cases hx
        rw [hr] at k1; cases k1
        obtain ⟨u, hu, hvu⟩ := VL_nth xs vs hv (o' - o) (by omega)
        have := e7 (o' - o) u hu
        have e : b + o + (o' - o) = b + o' := by omega
        rw [e] at this
        exact ⟨r, b, u, hr, this, hvu⟩
      · rename_i hc
        cases hx
        refine ⟨r', b', v, k1, ?_, k3⟩
        rw [e8 _ (fun j hj e => ?_)]
        · exact k2
        · simp only [Addr.mk.injEq, and_true] at e
          obtain ⟨rfl, e⟩ := e
          by_cases hii : i' = i
          · subst hii
            rw [hr] at k1; cases k1
            exact hc ⟨rfl, by omega, by omega⟩
          · exact h.hp.dis i i' _ _ _ (Ne.symm hii) hw hr k1
  · intro i' o' x hx
    rw [cell_put_store] at hx
    cases hy : S.cell i' o' with
    | none => rw [hy] at hx; cases hx
    | some y => exact ⟨y, rfl⟩
  · intro i' o' x hx
    simp only [St.put, St.ext, hlookL, hlook1_storeL, List.append_nil] at hx ⊢
    by_cases hc : i' = i ∧ o ≤ o' ∧ o' < o + xs.length
    · obtain ⟨rfl, _, _⟩ := hc
      exact h.hp.dom _ _ hr
    · simp only [hc, if_false] at hx
      exact h.hp.ink i' o' x hx

/-- A new block. -/
def upd (ρ : Rho) (n : Nat) (p : Nat × Nat) : Rho := fun i => if i = n then some p else ρ i

theorem Mem.alloc {M : Addr → Prop} {w0 : World} {ρ : Rho} {S : St} {w : World} (h : Mem M w0 ρ S w) (t : TypeId) {xs : List AVal} {vs : Array Value} (hv : VL ρ xs vs.toList) :
    Ext ρ (upd ρ S.hp.length (w.heap.size, 0)) ∧ Mem M w0 (upd ρ S.hp.length (w.heap.size, 0)) (S.put [] [⟨xs, true⟩]) (w.alloc (.cells vs t)) := by
  have hext : Ext ρ (upd ρ S.hp.length (w.heap.size, 0)) := by
    intro i p hp
    have := h.hp.dom i p hp
    unfold upd
    rw [if_neg (by omega)]; exact hp
  refine ⟨hext, ?_⟩
  have hblk : ∀ i, i < S.hp.length → (S.put [] [⟨xs, true⟩]).blk i = S.blk i := fun i hi => nthB_append_left _ _ _ hi
  have hblkn : (S.put [] [⟨xs, true⟩]).blk S.hp.length = ⟨xs, true⟩ := by
    have := nthB_append_right S.hp [⟨xs, true⟩] 0
    simpa [St.put, St.ext, St.blk, nthB] using this
  have hlen : (S.put [] [⟨xs, true⟩]).hp.length = S.hp.length + 1 := by simp [St.put, St.ext]
  have hhv : ∀ i o, hlookL i o (S.put [] [⟨xs, true⟩]).hvs = hlookL i o S.hvs := fun i o => by simp [St.put, St.ext, hlookL, hlook1]
  have hcell : ∀ i o, i < S.hp.length → (S.put [] [⟨xs, true⟩]).cell i o = S.cell i o := fun i o hi => by
    unfold St.cell; rw [hblk i hi, hhv]
  have hcelln : ∀ o x, (S.put [] [⟨xs, true⟩]).cell S.hp.length o = some x → o < xs.length ∧ x = nth o xs := fun o x hx => by
    have hl := cell_off hx
    rw [hblkn] at hl
    refine ⟨hl, ?_⟩
    unfold St.cell at hx
    rw [hblkn, Nat.ble_eq_true_of_le hl, hhv] at hx
    cases hk : hlookL S.hp.length o S.hvs with
    | some y => exact absurd (h.hp.ink _ _ _ hk) (by omega)
    | none => rw [hk] at hx; simpa using hx.symm
  have hold : ∀ i, i ≠ S.hp.length → upd ρ S.hp.length (w.heap.size, 0) i = ρ i := fun i hi => by unfold upd; rw [if_neg hi]
  have hnew : upd ρ S.hp.length (w.heap.size, 0) S.hp.length = some (w.heap.size, 0) := by unfold upd; rw [if_pos rfl]
  have hrlt : ∀ i o x r b, S.cell i o = some x → ρ i = some (r, b) → r < w.heap.size := fun i o x r b hx hr => by
    obtain ⟨r', b', v, k1, k2, _⟩ := h.hp.cell i o x hx
    rw [hr] at k1; cases k1
    exact World.block_lt_of_cell? _ _ k2
  refine ⟨⟨?_, ?_, ?_, ?_, ?_, ?_⟩, h.fr.trans (Fr.alloc w _) (fun _ h => h.elim), ?_⟩
  · intro i o x hx
    have hi := cell_lt hx
    rw [hlen] at hi
    by_cases hin : i = S.hp.length
    · subst hin
      obtain ⟨ho, rfl⟩ := hcelln o x hx
      obtain ⟨v, hv1, hv2⟩ := VL_nth xs _ hv o ho
      refine ⟨w.heap.size, 0, v, hnew, ?_, V_ext hext _ _ hv2⟩
      rw [Nat.zero_add, World.cell?_alloc_new]
      rw [← Array.getElem?_toList]; exact hv1
    · rw [hcell i o (by omega)] at hx
      obtain ⟨r, b, v, k1, k2, k3⟩ := h.hp.cell i o x hx
      exact ⟨r, b, v, by rw [hold i hin]; exact k1, by rw [World.cell?_alloc_lt _ _ _ (World.block_lt_of_cell? _ _ k2)]; exact k2, V_ext hext _ _ k3⟩
  · intro i o x r b hx hw hr
    by_cases hin : i = S.hp.length
    · subst hin
      rw [hnew] at hr; cases hr
      exact World.frozen?_alloc_new _ _ _ _
    · have hi := cell_lt hx
      rw [hlen] at hi
      rw [hcell i o (by omega)] at hx
      rw [hold i hin] at hr
      rw [hblk i (by omega)] at hw
      rw [World.frozen?_alloc_old _ _ _ (by have := hrlt i o x r b hx hr; simp; omega)]
      exact h.hp.frz i o x r b hx hw hr
  · intro i j r b b' hij hw hr hr'
    by_cases hin : i = S.hp.length
    · subst hin
      rw [hnew] at hr; cases hr
      rw [hold j (Ne.symm hij)] at hr'
      exact absurd (h.hp.lt j _ _ hr') (Nat.lt_irrefl _)
    · rw [hold i hin] at hr
      have hi := h.hp.dom _ _ hr
      rw [hblk i hi] at hw
      by_cases hjn : j = S.hp.length
      · subst hjn
        rw [hnew] at hr'; cases hr'
        exact absurd (h.hp.lt i _ _ hr) (Nat.lt_irrefl _)
      · rw [hold j hjn] at hr'
        exact h.hp.dis i j r b b' hij hw hr hr'
  · intro i p hp
    rw [hlen]
    by_cases hin : i = S.hp.length
    · omega
    · rw [hold i hin] at hp
      have := h.hp.dom i p hp
      omega
  · intro i o x hx
    rw [hhv] at hx
    have := h.hp.ink i o x hx
    rw [hlen]; omega
  · intro i r b hr
    rw [World.size_alloc]
    by_cases hin : i = S.hp.length
    · subst hin
      rw [hnew] at hr; cases hr
      omega
    · rw [hold i hin] at hr
      have := h.hp.lt i r b hr
      omega
  · intro i o x r b hx hw hr
    by_cases hin : i = S.hp.length
    · subst hin
      rw [hnew] at hr; cases hr
      exact Or.inr h.fr.size
    · have hi := cell_lt hx
      rw [hlen] at hi
      rw [hcell i o (by omega)] at hx
      rw [hold i hin] at hr
      rw [hblk i (by omega)] at hw
      exact h.own i o x r b hx hw hr

end Go.Ab
