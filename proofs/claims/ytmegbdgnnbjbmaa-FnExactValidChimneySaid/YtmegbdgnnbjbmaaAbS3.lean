import Derived.Test.YtmegbdgnnbjbmaaAbS2
namespace Go.Ab
open Go Go.RowKit
set_option linter.unusedVariables false

/-! ### 3. Memory -/
/-- The block may be written. -/
def St.wrB (S : St) (i : Nat) : Bool :=
  match (S.blk i).cells with
  | [] => match S.vec i with | some v => v.wr | none => false
  | _ :: _ => (S.blk i).wr

theorem cell_zero {T : St} {i : Nat} {c : AVal} {cs : List AVal} (hcs : (T.blk i).cells = c :: cs) : ∃ x, T.cell i 0 = some x := by
  unfold St.cell
  rw [hcs]
  simp only [List.length_cons]
  have : Nat.ble (0 + 1) (cs.length + 1) = true := Nat.ble_eq_true_of_le (by omega)
  rw [this]
  simp only
  split
  · exact ⟨_, rfl⟩
  · exact ⟨_, rfl⟩

theorem cell_cons {T : St} {i o : Nat} {x : AVal} (h : T.cell i o = some x) : ∃ c cs, (T.blk i).cells = c :: cs := by
  cases hcs : (T.blk i).cells with
  | nil =>
    unfold St.cell at h
    rw [hcs] at h
    have e : Nat.ble (o + 1) ([] : List AVal).length = false := rfl
    rw [e] at h; cases h
  | cons c cs => exact ⟨c, cs, rfl⟩

theorem vec_nil {S : St} {i : Nat} {v : Vc} (h : S.vec i = some v) : (S.blk i).cells = [] := by
  unfold St.vec at h
  split at h
  · assumption
  · cases h

theorem wrB_iff {T : St} {i : Nat} : T.wrB i = true ↔ (∃ o x, T.cell i o = some x ∧ (T.blk i).wr = true) ∨ (∃ v, T.vec i = some v ∧ v.wr = true) := by
  unfold St.wrB
  constructor
  · intro h
    split at h
    · split at h
      · rename_i v hv; exact Or.inr ⟨v, hv, h⟩
      · cases h
    · rename_i c cs hcs
      obtain ⟨x, hx⟩ := cell_zero hcs
      exact Or.inl ⟨0, x, hx, h⟩
  · rintro (⟨o, x, hx, hw⟩ | ⟨v, hv, hw⟩)
    · obtain ⟨c, cs, hcs⟩ := cell_cons hx
      rw [hcs]; exact hw
    · rw [vec_nil hv]; simp only; rw [hv]; exact hw

structure Hp (ρ : Rho) (S : St) (w : World) : Prop where
  cell : ∀ i o x, S.cell i o = some x → ∃ r b v, ρ i = some (r, b) ∧ w.cell? ⟨r, b + o, none⟩ = some v ∧ V ρ x v
  vcell : ∀ i vc r b k o c, S.vec i = some vc → ρ i = some (r, b) → k < vc.n.val → nthC o vc.sh = some c → ∃ v, w.cell? ⟨r, b + (k * lenL vc.sh + o), none⟩ = some v ∧ V ρ (vc.mkA k o c) v
  frz : ∀ i o x r b, S.cell i o = some x → (S.blk i).wr = true → ρ i = some (r, b) → w.frozen? ⟨r, b + o, none⟩ = false
  vfrz : ∀ i vc r b q, S.vec i = some vc → vc.wr = true → ρ i = some (r, b) → q < ρ.cap i * lenL vc.sh → (∃ v, w.cell? ⟨r, b + q, none⟩ = some v) ∧ w.frozen? ⟨r, b + q, none⟩ = false
  vcap : ∀ i vc r b, S.vec i = some vc → vc.wr = true → ρ i = some (r, b) → vc.n.val ≤ ρ.cap i
  dis : ∀ i j r b b', i ≠ j → S.wrB i = true → ρ i = some (r, b) → ρ j = some (r, b') → S.live j = true → False
  dom : ∀ i p, ρ i = some p → i < S.hp.length
  kdm : ∀ i, ρ.kn i = true → i < S.hp.length
  ink : ∀ i o x, hlookL i o S.hvs = some x → i < S.hp.length
  vink : ∀ i x, vlookL i S.vvs = some x → i < S.hp.length
  lt : ∀ i r b, ρ i = some (r, b) → r < w.heap.size

structure Fr (M : Addr → Prop) (w0 w : World) : Prop where
  os : w.os = w0.os
  tape : w.tape = w0.tape
  output : w.output = w0.output
  size : w0.heap.size ≤ w.heap.size
  block : ∀ k, k < w0.heap.size → (∀ o, ¬ M ⟨k, o, none⟩) → w.heap[k]? = w0.heap[k]?
  cell : ∀ a, a.block < w0.heap.size → ¬ M a → w.cell? a = w0.cell? a
  frozen : ∀ a, a.block < w0.heap.size → w.frozen? a = w0.frozen? a

theorem Fr.refl (M : Addr → Prop) (w : World) : Fr M w w := ⟨rfl, rfl, rfl, Nat.le_refl _, fun _ _ _ => rfl, fun _ _ _ => rfl, fun _ _ => rfl⟩

theorem Fr.trans {M M' : Addr → Prop} {w0 w w' : World} (h : Fr M w0 w) (k : Fr M' w w') (hm : ∀ a, M' a → M a ∨ w0.heap.size ≤ a.block) : Fr M w0 w' := by
  have hs := h.size
  refine ⟨k.os.trans h.os, k.tape.trans h.tape, k.output.trans h.output, Nat.le_trans h.size k.size, fun b hb hn => ?_, fun a ha hn => ?_, fun a ha => ?_⟩
  · rw [k.block b (by omega) (fun o ho => (hm _ ho).elim (hn o) (fun h => by simp at h; omega)), h.block b hb hn]
  · rw [k.cell a (by omega) (fun ho => (hm _ ho).elim hn (fun h => by omega)), h.cell a ha hn]
  · rw [k.frozen a (by omega), h.frozen a ha]

theorem Fr.mono {M M' : Addr → Prop} {w0 w : World} (h : Fr M w0 w) (hm : ∀ a, M a → M' a) : Fr M' w0 w :=
  ⟨h.os, h.tape, h.output, h.size, fun k hk hn => h.block k hk (fun o ho => hn o (hm _ ho)), fun a ha hn => h.cell a ha (fun ho => hn (hm _ ho)), h.frozen⟩

def NoM : Addr → Prop := fun _ => False

theorem Fr.drew (w : World) : Fr NoM w w.drew := ⟨rfl, rfl, rfl, Nat.le_refl _, fun _ _ _ => rfl, fun _ _ _ => rfl, fun _ _ => rfl⟩
theorem Fr.drawn {w w' : World} (h : Drawn w w') : Fr NoM w w' := by
  rcases h with rfl | rfl
  · exact Fr.refl _ _
  · exact Fr.drew _

theorem Fr.alloc (w : World) (o : Obj) : Fr NoM w (w.alloc o) := by
  refine ⟨rfl, rfl, rfl, by simp, fun k hk _ => Below.heap_alloc _ _ _ hk, fun a ha _ => World.cell?_alloc_lt _ _ _ ha, fun a ha => World.frozen?_alloc_old _ _ _ (by omega)⟩

theorem Fr.of_below {w w' : World} (h : Below w.heap.size w w') : Fr NoM w w' :=
  ⟨h.os, h.tape, h.output, h.size, fun k hk _ => h.block k hk, fun _ ha _ => h.cell ha, fun _ ha => h.frozen ha⟩

theorem Fr.below {w w' : World} (h : Fr NoM w w') : Below w.heap.size w w' :=
  ⟨h.os, h.tape, h.output, h.size, fun k hk => h.block k hk (fun _ h => h)⟩

structure Own (M : Addr → Prop) (w0 : World) (ρ : Rho) (S : St) : Prop where
  cell : ∀ i o x r b, S.cell i o = some x → (S.blk i).wr = true → ρ i = some (r, b) → M ⟨r, b + o, none⟩ ∨ w0.heap.size ≤ r
  vec : ∀ i vc r b q, S.vec i = some vc → vc.wr = true → ρ i = some (r, b) → q < ρ.cap i * lenL vc.sh → M ⟨r, b + q, none⟩ ∨ w0.heap.size ≤ r

structure Mem (M : Addr → Prop) (w0 : World) (ρ : Rho) (S : St) (w : World) : Prop where
  hp : Hp ρ S w
  fr : Fr M w0 w
  own : Own M w0 ρ S

/-- The cells of a state that may be written. -/
def WrA (ρ : Rho) (S : St) : Addr → Prop := fun a => (∃ i o x r b, S.cell i o = some x ∧ (S.blk i).wr = true ∧ ρ i = some (r, b) ∧ a = ⟨r, b + o, none⟩) ∨
  (∃ i vc r b q, S.vec i = some vc ∧ vc.wr = true ∧ ρ i = some (r, b) ∧ q < ρ.cap i * lenL vc.sh ∧ a = ⟨r, b + q, none⟩)

theorem Own.wrA {M : Addr → Prop} {w0 : World} {ρ : Rho} {S : St} (h : Own M w0 ρ S) : ∀ a, WrA ρ S a → M a ∨ w0.heap.size ≤ a.block := by
  rintro a (⟨i, o, x, r, b, h1, h2, h3, rfl⟩ | ⟨i, vc, r, b, q, h1, h2, h3, h4, rfl⟩)
  · exact h.cell i o x r b h1 h2 h3
  · exact h.vec i vc r b q h1 h2 h3 h4

theorem wrB_same {S S' : St} (hc : ∀ i o, S'.cell i o = S.cell i o) (hb : ∀ i, (S'.blk i).wr = (S.blk i).wr) (hv : ∀ i, S'.vec i = S.vec i) (i : Nat) : S'.wrB i = S.wrB i := by
  have : S'.wrB i = true ↔ S.wrB i = true := by
    rw [wrB_iff, wrB_iff, hv, hb]
    constructor
    · rintro (⟨o, x, hx, hw⟩ | h)
      · exact Or.inl ⟨o, x, by rw [← hc]; exact hx, hw⟩
      · exact Or.inr h
    · rintro (⟨o, x, hx, hw⟩ | h)
      · exact Or.inl ⟨o, x, by rw [hc]; exact hx, hw⟩
      · exact Or.inr h
  cases h1 : S'.wrB i <;> cases h2 : S.wrB i <;> simp_all

theorem live_iff {T : St} {i : Nat} : T.live i = true ↔ (∃ x, T.cell i 0 = some x) ∨ (∃ v c sh, T.vec i = some v ∧ v.sh = c :: sh) := by
  unfold St.live
  constructor
  · intro h
    split at h
    · split at h
      · rename_i v hv
        split at h
        · cases h
        · rename_i c sh hsh; exact Or.inr ⟨v, c, sh, hv, hsh⟩
      · cases h
    · rename_i c cs hcs
      left
      unfold St.cell
      rw [hcs]
      simp only [List.length_cons]
      have : Nat.ble (0 + 1) (cs.length + 1) = true := Nat.ble_eq_true_of_le (by omega)
      rw [this]
      simp only
      split
      · exact ⟨_, rfl⟩
      · exact ⟨_, rfl⟩
  · intro h
    rcases h with ⟨x, hx⟩ | ⟨v, c, sh, hv, hsh⟩
    · cases hcs : (T.blk i).cells with
      | nil =>
        unfold St.cell at hx
        rw [hcs] at hx
        simp at hx
      | cons c cs => rfl
    · cases hcs : (T.blk i).cells with
      | nil => simp only; rw [hv]; simp only; rw [hsh]
      | cons c cs => rfl

theorem live_cell {T : St} {i o : Nat} {x : AVal} (h : T.cell i o = some x) : T.live i = true := by
  unfold St.live
  cases hcs : (T.blk i).cells with
  | nil =>
    unfold St.cell at h
    rw [hcs] at h
    have e : Nat.ble (o + 1) ([] : List AVal).length = false := rfl
    rw [e] at h; cases h
  | cons c cs => rfl

theorem live_vec {T : St} {i o : Nat} {v : Vc} {c : CK} (h : T.vec i = some v) (hc : nthC o v.sh = some c) : T.live i = true := by
  refine live_iff.2 (Or.inr ?_)
  cases hs : v.sh with
  | nil => rw [hs] at hc; simp [nthC] at hc
  | cons d sh => exact ⟨v, d, sh, h, hs⟩

theorem live_same {S S' : St} (hc : ∀ i o, S'.cell i o = S.cell i o) (hv : ∀ i, S'.vec i = S.vec i) (i : Nat) : S'.live i = S.live i := by
  have : S'.live i = true ↔ S.live i = true := by rw [live_iff, live_iff, hc, hv]
  cases h1 : S'.live i <;> cases h2 : S.live i <;> simp_all

theorem Mem.same {M : Addr → Prop} {w0 : World} {ρ : Rho} {S S' : St} {w : World} (h : Mem M w0 ρ S w) (hc : ∀ i o, S'.cell i o = S.cell i o) (hb : ∀ i, (S'.blk i).wr = (S.blk i).wr) (hv : ∀ i, S'.vec i = S.vec i)
    (hl : S'.hp.length = S.hp.length) (hi : ∀ i o x, hlookL i o S'.hvs = some x → i < S'.hp.length) (hvi : ∀ i x, vlookL i S'.vvs = some x → i < S'.hp.length) : Mem M w0 ρ S' w := by
  refine ⟨⟨fun i o x hx => h.hp.cell i o x (hc i o ▸ hx), fun i vc r b k o c hx => h.hp.vcell i vc r b k o c (hv i ▸ hx), fun i o x r b hx hw => h.hp.frz i o x r b (hc i o ▸ hx) (hb i ▸ hw),
    fun i vc r b q hx => h.hp.vfrz i vc r b q (hv i ▸ hx), fun i vc r b hx => h.hp.vcap i vc r b (hv i ▸ hx), fun i j r b b' hij hw h1 h2 h3 => h.hp.dis i j r b b' hij (wrB_same hc hb hv i ▸ hw) h1 h2 (live_same hc hv j ▸ h3),
    fun i p hp => hl ▸ h.hp.dom i p hp, fun i hk => hl ▸ h.hp.kdm i hk, hi, hvi, h.hp.lt⟩, h.fr, ⟨fun i o x r b hx hw => h.own.cell i o x r b (hc i o ▸ hx) (hb i ▸ hw), fun i vc r b q hx => h.own.vec i vc r b q (hv i ▸ hx)⟩⟩

/-- The world moves on: only what may be written is written. -/
theorem Mem.step {M M' : Addr → Prop} {w0 : World} {ρ : Rho} {S S' : St} {w w' : World} (h : Mem M w0 ρ S w) (k : Fr M' w w') (hm : ∀ a, M' a → WrA ρ S a)
    (hcell : ∀ i o x, S'.cell i o = some x → ∃ r b v, ρ i = some (r, b) ∧ w'.cell? ⟨r, b + o, none⟩ = some v ∧ V ρ x v)
    (hsome : ∀ i o x, S'.cell i o = some x → ∃ y, S.cell i o = some y)
    (hvcell : ∀ i vc r b k o c, S'.vec i = some vc → ρ i = some (r, b) → k < vc.n.val → nthC o vc.sh = some c → ∃ v, w'.cell? ⟨r, b + (k * lenL vc.sh + o), none⟩ = some v ∧ V ρ (vc.mkA k o c) v)
    (hvsome : ∀ i vc, S'.vec i = some vc → ∃ uc, S.vec i = some uc ∧ lenL uc.sh = lenL vc.sh ∧ (vc.wr = true → uc.wr = true ∧ vc.n.val ≤ uc.n.val))
    (hlive : ∀ i, S'.live i = true → S.live i = true)
    (hkeep : ∀ i vc r b q v, S'.vec i = some vc → vc.wr = true → ρ i = some (r, b) → w.cell? ⟨r, b + q, none⟩ = some v → ∃ u, w'.cell? ⟨r, b + q, none⟩ = some u)
    (hb : ∀ i, (S'.blk i).wr = (S.blk i).wr) (hl : S'.hp.length = S.hp.length) (hi : ∀ i o x, hlookL i o S'.hvs = some x → i < S'.hp.length) (hvi : ∀ i x, vlookL i S'.vvs = some x → i < S'.hp.length) : Mem M w0 ρ S' w' := by
  have hwr : ∀ i, S'.wrB i = true → S.wrB i = true := by
    intro i hw
    rcases wrB_iff.1 hw with ⟨o, x, hx, hw⟩ | ⟨v, hv, hw⟩
    · obtain ⟨y, hy⟩ := hsome i o x hx
      exact wrB_iff.2 (Or.inl ⟨o, y, hy, by rw [← hb]; exact hw⟩)
    · obtain ⟨uc, hu, _, h2⟩ := hvsome i v hv
      exact wrB_iff.2 (Or.inr ⟨uc, hu, (h2 hw).1⟩)
  refine ⟨⟨hcell, hvcell, fun i o x r b hx hw hr => ?_, fun i vc r b q hx hw hr hq => ?_, fun i vc r b hx hw hr => ?_, fun i j r b b' hij hw h1 h2 h3 => h.hp.dis i j r b b' hij (hwr i hw) h1 h2 (hlive j h3), fun i p hp => hl ▸ h.hp.dom i p hp, fun i hk => hl ▸ h.hp.kdm i hk, hi, hvi, fun i r b hr => Nat.lt_of_lt_of_le (h.hp.lt i r b hr) k.size⟩,
    h.fr.trans k (fun a ha => h.own.wrA a (hm a ha)), ⟨fun i o x r b hx hw hr => ?_, fun i vc r b q hx hw hr hq => ?_⟩⟩
  · obtain ⟨y, hy⟩ := hsome i o x hx
    obtain ⟨r', b', v, hr', hv, _⟩ := h.hp.cell i o y hy
    rw [hr] at hr'; cases hr'
    rw [k.frozen _ (World.block_lt_of_cell? _ _ hv)]
    exact h.hp.frz i o y r b hy (hb i ▸ hw) hr
  · obtain ⟨uc, hu, h1, h2⟩ := hvsome i vc hx
    obtain ⟨⟨v, hv⟩, h4⟩ := h.hp.vfrz i uc r b q hu (h2 hw).1 hr (by rw [h1]; exact hq)
    exact ⟨hkeep i vc r b q v hx hw hr hv, by rw [k.frozen _ (World.block_lt_of_cell? _ _ hv)]; exact h4⟩
  · obtain ⟨uc, hu, h1, h2⟩ := hvsome i vc hx
    exact Nat.le_trans (h2 hw).2 (h.hp.vcap i uc r b hu (h2 hw).1 hr)
  · obtain ⟨y, hy⟩ := hsome i o x hx
    exact h.own.cell i o y r b hy (hb i ▸ hw) hr
  · obtain ⟨uc, hu, h1, h2⟩ := hvsome i vc hx
    exact h.own.vec i uc r b q hu (h2 hw).1 hr (by rw [h1]; exact hq)

/-- Nothing at all is written. -/
theorem Mem.quiet {M : Addr → Prop} {w0 : World} {ρ : Rho} {S : St} {w w' : World} (h : Mem M w0 ρ S w) (k : Fr NoM w w') : Mem M w0 ρ S w' :=
  h.step k (fun _ ha => ha.elim) (fun i o x hx => by
    obtain ⟨r, b, v, h1, h2, h3⟩ := h.hp.cell i o x hx
    exact ⟨r, b, v, h1, by rw [k.cell _ (World.block_lt_of_cell? _ _ h2) (fun h => h)]; exact h2, h3⟩) (fun i o x hx => ⟨x, hx⟩)
    (fun i vc r b q o c hx hr hk hc => by
      obtain ⟨v, h2, h3⟩ := h.hp.vcell i vc r b q o c hx hr hk hc
      exact ⟨v, by rw [k.cell _ (World.block_lt_of_cell? _ _ h2) (fun h => h)]; exact h2, h3⟩) (fun i vc hx => ⟨vc, hx, rfl, fun h => ⟨h, Nat.le_refl _⟩⟩) (fun _ h => h)
    (fun i vc r b q v _ _ _ hv => ⟨v, by rw [k.cell _ (World.block_lt_of_cell? _ _ hv) (fun h => h)]; exact hv⟩) (fun _ => rfl) rfl h.hp.ink h.hp.vink

/-! lookups -/
theorem look1_append (t : Nat) : ∀ (a b : List (Nat × AVal)), look1 t (a ++ b) = match look1 t a with | some v => some v | none => look1 t b
  | [], b => rfl
  | (k, v) :: r, b => by
    simp only [List.cons_append, look1]
    split
    · rfl
    · exact look1_append t r b

theorem hlook1_append (i o : Nat) : ∀ (a b : List ((Nat × Nat) × AVal)), hlook1 i o (a ++ b) = match hlook1 i o a with | some v => some v | none => hlook1 i o b
  | [], b => rfl
  | (k, v) :: r, b => by
    simp only [List.cons_append, hlook1]
    split
    · rfl
    · exact hlook1_append i o r b

theorem nthB_append_left : ∀ (a b : List Blk) (i : Nat), i < a.length → nthB i (a ++ b) = nthB i a
  | [], _, i, h => by simp at h
  | x :: a, b, 0, _ => rfl
  | x :: a, b, i + 1, h => nthB_append_left a b i (by simpa using h)
theorem nthB_append_right : ∀ (a b : List Blk) (i : Nat), nthB (a.length + i) (a ++ b) = nthB i b
  | [], b, i => by simp
  | x :: a, b, i => by
    have : (x :: a).length + i = (a.length + i) + 1 := by simp; omega
    rw [this]; exact nthB_append_right a b i
theorem nthB_out : ∀ (a : List Blk) (i : Nat), a.length ≤ i → nthB i a = ⟨[], false, none⟩
  | [], i, _ => by cases i <;> rfl
  | x :: a, 0, h => by simp at h
  | x :: a, i + 1, h => nthB_out a i (by simpa using h)

theorem cell_none_out {S : St} {i o : Nat} (h : S.hp.length ≤ i) : S.cell i o = none := by
  unfold St.cell St.blk
  rw [nthB_out _ _ h]
  rfl

theorem cell_lt {S : St} {i o : Nat} {x : AVal} (h : S.cell i o = some x) : i < S.hp.length := by
  rcases Nat.lt_or_ge i S.hp.length with k | k
  · exact k
  · rw [cell_none_out k] at h; cases h

theorem cell_off {S : St} {i o : Nat} {x : AVal} (h : S.cell i o = some x) : o < (S.blk i).cells.length := by
  unfold St.cell at h
  split at h
  · rename_i hb; exact Nat.le_of_ble_eq_true hb
  · cases h

theorem cell_some {S : St} {i o : Nat} (h : o < (S.blk i).cells.length) : ∃ x, S.cell i o = some x := by
  unfold St.cell
  rw [Nat.ble_eq_true_of_le h]
  simp only
  split
  · exact ⟨_, rfl⟩
  · exact ⟨_, rfl⟩

theorem vlook1_append (i : Nat) : ∀ (a b : List (Nat × Vc)), vlook1 i (a ++ b) = match vlook1 i a with | some v => some v | none => vlook1 i b
  | [], b => rfl
  | (k, v) :: r, b => by
    simp only [List.cons_append, vlook1]
    split
    · rfl
    · exact vlook1_append i r b

theorem vec_cells {S : St} {i : Nat} {v : Vc} (h : S.vec i = some v) : (S.blk i).cells = [] := by
  unfold St.vec at h
  split at h
  · assumption
  · cases h

theorem vec_blk {S : St} {i : Nat} {v : Vc} (h : S.vec i = some v) : ∃ u, (S.blk i).vc = some u := by
  unfold St.vec at h
  split at h
  · rename_i u _ h2; exact ⟨u, h2⟩
  · cases h

theorem vec_none_out {S : St} {i : Nat} (h : S.hp.length ≤ i) : S.vec i = none := by
  unfold St.vec St.blk
  rw [nthB_out _ _ h]

theorem vec_lt {S : St} {i : Nat} {v : Vc} (h : S.vec i = some v) : i < S.hp.length := by
  rcases Nat.lt_or_ge i S.hp.length with k | k
  · exact k
  · rw [vec_none_out k] at h; cases h

/-- The state with some cells written and some blocks made. -/
def St.put (S : St) (hv : List ((Nat × Nat) × AVal)) (vv : List (Nat × Vc)) (nw : List Blk) : St := S.ext ⟨[], hv, vv, nw, [], true⟩

theorem put_nil (S : St) : ∀ i o, (S.put [] [] []).cell i o = S.cell i o := by
  intro i o
  simp [St.put, St.ext, St.cell, St.blk, hlookL, hlook1]
theorem put_nilv (S : St) : ∀ i, (S.put [] [] []).vec i = S.vec i := by
  intro i
  simp [St.put, St.ext, St.vec, St.blk, vlookL, vlook1]

theorem Mem.put_nil {M : Addr → Prop} {w0 : World} {ρ : Rho} {S : St} {w : World} (h : Mem M w0 ρ S w) : Mem M w0 ρ (S.put [] [] []) w :=
  h.same (Ab.put_nil S) (fun i => by simp [St.put, St.ext, St.blk]) (put_nilv S) (by simp [St.put, St.ext]) (fun i o x hx => by
    have := h.hp.ink i o x (by simpa [St.put, St.ext, hlookL, hlook1] using hx)
    simpa [St.put, St.ext] using this) (fun i x hx => by
    have := h.hp.vink i x (by simpa [St.put, St.ext, vlookL, vlook1] using hx)
    simpa [St.put, St.ext] using this)

/-! reading -/
theorem Addr_add (r o n : Nat) : Addr.add ⟨r, o, none⟩ n = ⟨r, o + n, none⟩ := by
  unfold Addr.add
  split
  · rename_i h; subst h; rfl
  · rfl

theorem run_loadCellsFrom {P : Program} {w : World} (r o : Nat) : ∀ (n i : Nat) (acc : Array Value) (vs : List Value),
    (vs.length = n) → (∀ j v, vs[j]? = some v → w.cell? ⟨r, o + i + j, none⟩ = some v) → (loadCellsFrom ⟨r, o, none⟩ i n acc).run P w = .ok (acc ++ vs.toArray) w
  | 0, i, acc, vs, hl, _ => by
    have : vs = [] := List.length_eq_zero_iff.1 hl
    subst this
    simp [loadCellsFrom]
  | n + 1, i, acc, vs, hl, hc => by
    cases vs with
    | nil => simp at hl
    | cons v vs =>
      have h0 := hc 0 v rfl
      have ih := run_loadCellsFrom (P := P) (w := w) r o n (i + 1) (acc.push v) vs (by simpa using hl) (fun j u hj => by
        have := hc (j + 1) u (by simpa using hj)
        have e : o + (i + 1) + j = o + i + (j + 1) := by omega
        rw [e]; exact this)
      simp only [loadCellsFrom, Sem.run_bind, Addr_add, run_load]
      simp only [Nat.add_zero] at h0
      rw [h0]
      simp only [Result.andThen_ok, ih]
      simp

theorem Hp.cellsAt {ρ : Rho} {S : St} {w : World} (h : Hp ρ S w) {i r b : Nat} (hr : ρ i = some (r, b)) : ∀ (n o : Nat) (cs : List AVal), S.cellsAt i o n = some cs →
    ∃ vs : List Value, vs.length = n ∧ VL ρ cs vs ∧ ∀ j v, vs[j]? = some v → w.cell? ⟨r, b + o + j, none⟩ = some v
  | 0, o, cs, hc => by
    simp only [St.cellsAt] at hc
    cases hc
    exact ⟨[], rfl, by simp [VL], fun j v hj => by simp at hj⟩
  | n + 1, o, cs, hc => by
    simp only [St.cellsAt] at hc
    split at hc
    · rename_i x hx
      split at hc
      · rename_i cs' hcs
        cases hc
        obtain ⟨r', b', v, h1, h2, h3⟩ := h.cell i o x hx
        rw [hr] at h1; cases h1
        obtain ⟨vs, hl, hv, hcell⟩ := h.cellsAt hr n (o + 1) cs' hcs
        refine ⟨v :: vs, by simp [hl], ?_, fun j u hj => ?_⟩
        · unfold VL; exact ⟨v, vs, rfl, h3, hv⟩
        · cases j with
          | zero => simp at hj; subst hj; simpa using h2
          | succ j =>
            have := hcell j u (by simpa using hj)
            have e : b + o + (j + 1) = b + (o + 1) + j := by omega
            rw [e]; exact this
      · cases hc
    · cases hc

theorem Hp.vcellsAt {ρ : Rho} {S : St} {w : World} (h : Hp ρ S w) {i r b k : Nat} {vc : Vc} (hv : S.vec i = some vc) (hr : ρ i = some (r, b)) (hk : k < vc.n.val) : ∀ (n o : Nat) (cs : List AVal), vc.cellsAt k o n = some cs →
    ∃ vs : List Value, vs.length = n ∧ VL ρ cs vs ∧ ∀ j v, vs[j]? = some v → w.cell? ⟨r, b + (k * lenL vc.sh + o) + j, none⟩ = some v
  | 0, o, cs, hc => by
    simp only [Vc.cellsAt] at hc
    cases hc
    exact ⟨[], rfl, by simp [VL], fun j v hj => by simp at hj⟩
  | n + 1, o, cs, hc => by
    simp only [Vc.cellsAt] at hc
    split at hc
    · rename_i c hcc
      split at hc
      · rename_i cs' hcs
        cases hc
        obtain ⟨v, h2, h3⟩ := h.vcell i vc r b k o c hv hr hk hcc
        obtain ⟨vs, hl, hvl, hcell⟩ := h.vcellsAt hv hr hk n (o + 1) cs' hcs
        refine ⟨v :: vs, by simp [hl], ?_, fun j u hj => ?_⟩
        · unfold VL; exact ⟨v, vs, rfl, h3, hvl⟩
        · cases j with
          | zero => simp at hj; subst hj; simpa using h2
          | succ j =>
            have := hcell j u (by simpa using hj)
            have e : b + (k * lenL vc.sh + o) + (j + 1) = b + (k * lenL vc.sh + (o + 1)) + j := by omega
            rw [e]; exact this
      · cases hc
    · cases hc

/-! writing -/
theorem run_storeCells {P : Program} (r o : Nat) : ∀ (vs : List Value) (i : Nat) (w : World), (∀ v ∈ vs, v.oneCell' = true) →
    (∀ j, j < vs.length → ∃ u, w.cell? ⟨r, o + i + j, none⟩ = some u) → (∀ j, j < vs.length → w.frozen? ⟨r, o + i + j, none⟩ = false) →
    ∃ w', (storeCells ⟨r, o, none⟩ vs i).run P w = .ok () w' ∧ w'.os = w.os ∧ w'.tape = w.tape ∧ w'.output = w.output ∧ w'.heap.size = w.heap.size ∧ (∀ a, w'.frozen? a = w.frozen? a) ∧
      (∀ k, k ≠ r → w'.heap[k]? = w.heap[k]?) ∧ (∀ j v, vs[j]? = some v → w'.cell? ⟨r, o + i + j, none⟩ = some v) ∧
      (∀ a, (∀ j, j < vs.length → a ≠ ⟨r, o + i + j, none⟩) → w'.cell? a = w.cell? a)
  | [], i, w, _, _, _ => ⟨w, by simp [storeCells], rfl, rfl, rfl, rfl, fun _ => rfl, fun _ _ => rfl, fun j v hj => by simp at hj, fun _ _ => rfl⟩
  | v :: vs, i, w, h1, hc, hf => by
    have hv := h1 v (by simp)
    obtain ⟨u, hu⟩ := hc 0 (by simp)
    have hfz := hf 0 (by simp)
    simp only [Nat.add_zero] at hu hfz
    obtain ⟨w', hr, e1, e2, e3, e4, e5, e6, e7, e8⟩ := run_storeCells (P := P) r o vs (i + 1) (w.setCell ⟨r, o + i, none⟩ v) (fun x hx => h1 x (by simp [hx]))
      (fun j hj => by
        obtain ⟨y, hy⟩ := hc (j + 1) (by simp; omega)
        refine ⟨y, ?_⟩
        rw [World.cell?_setCell_other _ _ _ _ (by intro e; simp at e)]
        have e : o + (i + 1) + j = o + i + (j + 1) := by omega
        rw [e]; exact hy)
      (fun j hj => by
        rw [World.frozen?_setCell]
        have := hf (j + 1) (by simp; omega)
        have e : o + (i + 1) + j = o + i + (j + 1) := by omega
        rw [e]; exact this)
    refine ⟨w', ?_, e1, e2, e3, by simpa using e4, fun a => (e5 a).trans (World.frozen?_setCell _ _ _ _), fun k hk => (e6 k hk).trans (Below.heap_setCell _ _ _ _ hk), ?_, ?_⟩
    · simp only [storeCells, Sem.run_bind, Addr_add]
      rw [run_store P w _ v .plain hv, hu]
      simp only [hfz, Bool.false_eq_true, if_false, Result.andThen_ok]
      exact hr
    · intro j x hj
      cases j with
      | zero =>
        simp at hj; subst hj
        rw [Nat.add_zero, e8 _ (fun j _ e => by simp at e)]
        exact World.cell?_setCell_same _ _ _ hu
      | succ j =>
        have := e7 j x (by simpa using hj)
        have e : o + i + (j + 1) = o + (i + 1) + j := by omega
        rw [e]; exact this
    · intro a ha
      rw [e8 a (fun j hj => by have := ha (j + 1) (by simp; omega); have e : o + i + (j + 1) = o + (i + 1) + j := by omega
                               rw [e] at this; exact this)]
      exact World.cell?_setCell_other _ _ _ _ (fun e => ha 0 (by simp) (by rw [Nat.add_zero]; exact e.symm))

theorem hlook1_storeL (i : Nat) : ∀ (vs : List AVal) (o i' o' : Nat), hlook1 i' o' (storeL i o vs) = if i' = i ∧ o ≤ o' ∧ o' < o + vs.length then some (nth (o' - o) vs) else none
  | [], o, i', o' => by
    simp only [storeL, hlook1, List.length_nil, Nat.add_zero]
    rw [if_neg (by omega)]
  | v :: vs, o, i', o' => by
    simp only [storeL, hlook1]
    split
    · rename_i h
      simp only [Bool.and_eq_true] at h
      have h1 := Nat.eq_of_beq_eq_true h.1
      have h2 := Nat.eq_of_beq_eq_true h.2
      subst h1; subst h2
      rw [if_pos (by simp)]
      simp [nth]
    · rename_i h
      have hne : ¬ (i' = i ∧ o' = o) := by
        rintro ⟨rfl, rfl⟩
        simp at h
      rw [hlook1_storeL i vs (o + 1) i' o']
      by_cases hc : i' = i ∧ o + 1 ≤ o' ∧ o' < o + 1 + vs.length
      · rw [if_pos hc, if_pos (by simp; omega)]
        have e : o' - o = (o' - (o + 1)) + 1 := by omega
        rw [e]; rfl
      · rw [if_neg hc, if_neg (by simp only [List.length_cons]; omega)]

theorem cell_put_store {S : St} {i o : Nat} {vs : List AVal} (i' o' : Nat) :
    (S.put (storeL i o vs) [] []).cell i' o' = match S.cell i' o' with
      | none => none
      | some y => if i' = i ∧ o ≤ o' ∧ o' < o + vs.length then some (nth (o' - o) vs) else some y := by
  unfold St.cell
  have eb : (S.put (storeL i o vs) [] []).blk i' = S.blk i' := by simp [St.put, St.ext, St.blk]
  rw [eb]
  cases hb : Nat.ble (o' + 1) (S.blk i').cells.length with
  | false => rfl
  | true =>
    simp only [St.put, St.ext, hlookL, hlook1_storeL]
    by_cases hc : i' = i ∧ o ≤ o' ∧ o' < o + vs.length
    · simp only [hc, and_self, if_true]
      cases hlookL i o' S.hvs <;> rfl
    · simp only [hc, if_false]
      cases hlookL i' o' S.hvs <;> rfl

theorem VL_mem {ρ : Rho} : ∀ (xs : List AVal) (vs : List Value), VL ρ xs vs → allOne xs = true → ∀ v ∈ vs, v.oneCell' = true
  | [], _, h, _, v, hv => by unfold VL at h; subst h; simp at hv
  | x :: xs, _, h, h1, v, hv => by
    unfold VL at h
    obtain ⟨u, us, rfl, h2, h3⟩ := h
    unfold allOne at h1
    split at h1
    · rename_i hx
      rcases List.mem_cons.1 hv with rfl | hv
      · exact V_oneA h2 hx
      · exact VL_mem xs us h3 h1 v hv
    · cases h1

theorem Mem.store {P : Program} {M : Addr → Prop} {w0 : World} {ρ : Rho} {S : St} {w : World} (h : Mem M w0 ρ S w) {i o r b : Nat} {xs : List AVal} {vs : List Value}
    (hr : ρ i = some (r, b)) (hw : (S.blk i).wr = true) (hlen : o + xs.length ≤ (S.blk i).cells.length) (hv : VL ρ xs vs) (h1 : allOne xs = true) :
    ∃ w', (storeCells ⟨r, b + o, none⟩ vs).run P w = .ok () w' ∧ Mem M w0 ρ (S.put (storeL i o xs) [] []) w' := by
  have hl := VL_length xs vs hv
  have hcells : ∀ j, j < vs.length → ∃ x, S.cell i (o + j) = some x := fun j hj => cell_some (by omega)
  obtain ⟨w', hrun, e1, e2, e3, e4, e5, e6, e7, e8⟩ := run_storeCells (P := P) r (b + o) vs 0 w (VL_mem xs vs hv h1)
    (fun j hj => by
      obtain ⟨x, hx⟩ := hcells j hj
      obtain ⟨r', b', v, k1, k2, _⟩ := h.hp.cell i (o + j) x hx
      rw [hr] at k1; cases k1
      exact ⟨v, by rw [Nat.add_zero, Nat.add_assoc]; exact k2⟩)
    (fun j hj => by
      obtain ⟨x, hx⟩ := hcells j hj
      have := h.hp.frz i (o + j) x r b hx hw hr
      rw [Nat.add_zero, Nat.add_assoc]; exact this)
  simp only [Nat.add_zero] at e7 e8
  have hvec : ∀ k, (S.put (storeL i o xs) [] []).vec k = S.vec k := fun k => by simp [St.put, St.ext, St.vec, St.blk, vlookL, vlook1]
  have hnov : S.vec i = none ∨ True := Or.inr trivial
  refine ⟨w', hrun, h.step (M' := fun a => ∃ j, j < vs.length ∧ a = ⟨r, b + o + j, none⟩) ⟨e1, e2, e3, by omega, ?_, ?_, fun a _ => e5 a⟩ ?_ ?_ ?_ ?_ (fun k vc hx => ⟨vc, hvec k ▸ hx, rfl, fun h => ⟨h, Nat.le_refl _⟩⟩) ?_ ?_ (fun k => by simp [St.put, St.ext, St.blk]) (by simp [St.put, St.ext]) ?_ (fun k x hx => by
    have := h.hp.vink k x (by simpa [St.put, St.ext, vlookL, vlook1] using hx)
    simpa [St.put, St.ext] using this)⟩
  · intro k hk hn
    by_cases hkr : k = r
    · -- the block of the store: it has no cell that is written only if there is none
      subst hkr
      cases vs with
      | nil =>
        simp [storeCells] at hrun
        rw [← hrun]
      | cons v vs => exact absurd ⟨0, by simp, rfl⟩ (hn (b + o))
    · exact e6 k hkr
  · intro a ha hn
    exact e8 a (fun j hj e => hn ⟨j, hj, e⟩)
  · rintro a ⟨j, hj, rfl⟩
    obtain ⟨x, hx⟩ := hcells j hj
    exact Or.inl ⟨i, o + j, x, r, b, hx, hw, hr, by rw [Nat.add_assoc]⟩
  · intro i' o' x hx
    rw [cell_put_store] at hx
    cases hy : S.cell i' o' with
    | none => rw [hy] at hx; cases hx
    | some y =>
      rw [hy] at hx
      simp only at hx
      obtain ⟨r', b', v, k1, k2, k3⟩ := h.hp.cell i' o' y hy
      split at hx
      · rename_i hc
        obtain ⟨rfl, hc1, hc2⟩ := hc
        cases hx
        rw [hr] at k1; cases k1
        obtain ⟨u, hu, hvu⟩ := VL_nth xs vs hv (o' - o) (by omega)
        have := e7 (o' - o) u hu
        have e : b + o + (o' - o) = b + o' := by omega
        rw [e] at this
        exact ⟨r, b, u, hr, this, hvu⟩
      · rename_i hc
        cases hx
        refine ⟨r', b', v, k1, ?_, k3⟩
        rw [e8 _ (fun j hj e => ?_)]
        · exact k2
        · simp only [Addr.mk.injEq, and_true] at e
          obtain ⟨rfl, e⟩ := e
          by_cases hii : i' = i
          · subst hii
            rw [hr] at k1; cases k1
            exact hc ⟨rfl, by omega, by omega⟩
          · obtain ⟨x0, hx0⟩ := hcells j hj; exact h.hp.dis i i' _ _ _ (Ne.symm hii) (wrB_iff.2 (Or.inl ⟨_, x0, hx0, hw⟩)) hr k1 (live_cell hy)
  · intro i' o' x hx
    rw [cell_put_store] at hx
    cases hy : S.cell i' o' with
    | none => rw [hy] at hx; cases hx
    | some y => exact ⟨y, rfl⟩
  · intro i' vc r' b' k o' c hx hr' hk hc
    rw [hvec] at hx
    obtain ⟨v, k2, k3⟩ := h.hp.vcell i' vc r' b' k o' c hx hr' hk hc
    by_cases hii : i' = i
    · subst hii
      -- a block of cells is no row
      cases vs with
      | nil =>
        simp [storeCells] at hrun
        rw [← hrun]; exact ⟨v, k2, k3⟩
      | cons v0 vs0 =>
        exfalso
        obtain ⟨x0, hx0⟩ := hcells 0 (by simp)
        have := vec_cells hx
        have h2 := cell_off hx0
        rw [this] at h2; simp at h2
    · refine ⟨v, ?_, k3⟩
      rw [e8 _ (fun j hj e => ?_)]
      · exact k2
      · simp only [Addr.mk.injEq, and_true] at e
        obtain ⟨rfl, e⟩ := e
        obtain ⟨x0, hx0⟩ := hcells j hj; exact h.hp.dis i i' _ _ _ (Ne.symm hii) (wrB_iff.2 (Or.inl ⟨_, x0, hx0, hw⟩)) hr hr' (live_vec hx hc)
  · intro j hj
    rcases live_iff.1 hj with ⟨x, hx⟩ | ⟨v, c, sh, hx, hs⟩
    · rw [cell_put_store] at hx
      cases hy : S.cell j 0 with
      | none => rw [hy] at hx; cases hx
      | some y => exact live_cell hy
    · rw [hvec] at hx
      exact live_iff.2 (Or.inr ⟨v, c, sh, hx, hs⟩)
  · intro i' vc r' b' q v _ _ _ hv0
    by_cases hq : ∃ j, j < vs.length ∧ (⟨r', b' + q, none⟩ : Addr) = ⟨r, b + o + j, none⟩
    · obtain ⟨j, hj, e⟩ := hq
      rw [e]
      exact ⟨vs[j], e7 j vs[j] (List.getElem?_eq_getElem hj)⟩
    · exact ⟨v, by rw [e8 _ (fun j hj e => hq ⟨j, hj, e⟩)]; exact hv0⟩
  · intro i' o' x hx
    simp only [St.put, St.ext, hlookL, hlook1_storeL, List.append_nil] at hx ⊢
    by_cases hc : i' = i ∧ o ≤ o' ∧ o' < o + xs.length
    · obtain ⟨rfl, _, _⟩ := hc
      exact h.hp.dom _ _ hr
    · simp only [hc, if_false] at hx
      exact h.hp.ink i' o' x hx

/-- A new block. -/
def upd (ρ : Rho) (n : Nat) (p : Nat × Nat) (c : Nat) : Rho := ⟨fun i => if i = n then some p else ρ i, fun i => if i = n then c else ρ.cap i, fun i => if i = n then true else ρ.kn i⟩
theorem upd_kn (ρ : Rho) (n : Nat) (p : Nat × Nat) (c : Nat) : (upd ρ n p c).kn n = true := by simp [upd]
theorem upd_okn (ρ : Rho) {n i : Nat} (h : i ≠ n) (p : Nat × Nat) (c : Nat) : (upd ρ n p c).kn i = ρ.kn i := if_neg h

theorem upd_new (ρ : Rho) (n : Nat) (p : Nat × Nat) (c : Nat) : (upd ρ n p c) n = some p := by simp [upd]
theorem upd_cap (ρ : Rho) (n : Nat) (p : Nat × Nat) (c : Nat) : (upd ρ n p c).cap n = c := by simp [upd]
theorem upd_old (ρ : Rho) {n i : Nat} (h : i ≠ n) (p : Nat × Nat) (c : Nat) : (upd ρ n p c) i = ρ i := by simp [upd, h]
theorem upd_ocap (ρ : Rho) {n i : Nat} (h : i ≠ n) (p : Nat × Nat) (c : Nat) : (upd ρ n p c).cap i = ρ.cap i := if_neg h

theorem upd_ext {ρ : Rho} {n : Nat} (h : ∀ i p, ρ i = some p → i < n) (p : Nat × Nat) (c : Nat) : Ext ρ (upd ρ n p c) := ⟨fun i q hq => by
  have := h i q hq
  exact ⟨by rw [upd_old ρ (by omega)]; exact hq, upd_ocap ρ (by omega) p c⟩, fun i hk => by
  by_cases hi : i = n
  · subst hi; exact upd_kn ..
  · rw [upd_okn ρ hi]; exact hk⟩

section
variable {M : Addr → Prop} {w0 : World} {ρ : Rho} {S : St} {w w' : World}

theorem put_blk_old (S : St) (hv : List ((Nat × Nat) × AVal)) (vv : List (Nat × Vc)) (B : Blk) {i : Nat} (h : i < S.hp.length) : (S.put hv vv [B]).blk i = S.blk i := nthB_append_left _ _ _ h
theorem put_blk_new (S : St) (hv : List ((Nat × Nat) × AVal)) (vv : List (Nat × Vc)) (B : Blk) : (S.put hv vv [B]).blk S.hp.length = B := by
  have := nthB_append_right S.hp [B] 0
  simpa [St.put, St.ext, St.blk, nthB] using this
/-- A NEW BLOCK: in a world that has moved on, and with some rows no longer known. -/
theorem Mem.newB (h : Mem M w0 ρ S w) {M' : Addr → Prop} (k : Fr M' w w') (hm : ∀ a, M' a → WrA ρ S a) (B : Blk) (r b c : Nat) (vv : List (Nat × Vc)) (hrlt : r < w'.heap.size)
    (hvv : ∀ i u, vlook1 i vv = some u → u = Vc.none [] ∧ i < S.hp.length)
    -- what was there and is still known is as it was
    (hcell : ∀ i o x r' b' v, S.cell i o = some x → ρ i = some (r', b') → w.cell? ⟨r', b' + o, none⟩ = some v → w'.cell? ⟨r', b' + o, none⟩ = some v)
    (hvec : ∀ i u r' b' q v, S.vec i = some u → S.live i = true → vlook1 i vv = none → ρ i = some (r', b') → w.cell? ⟨r', b' + q, none⟩ = some v → w'.cell? ⟨r', b' + q, none⟩ = some v)
    -- what the new one holds
    (hnc : ∀ o x, o < B.cells.length → x = nth o B.cells → ∃ v, w'.cell? ⟨r, b + o, none⟩ = some v ∧ V (upd ρ S.hp.length (r, b) c) x v)
    (hnf : ∀ o, o < B.cells.length → B.wr = true → w'.frozen? ⟨r, b + o, none⟩ = false)
    (hnv : ∀ u q o ck, B.vc = some u → q < u.n.val → nthC o u.sh = some ck → ∃ v, w'.cell? ⟨r, b + (q * lenL u.sh + o), none⟩ = some v ∧ V (upd ρ S.hp.length (r, b) c) (u.mkA q o ck) v)
    (hnvf : ∀ u q, B.vc = some u → u.wr = true → q < c * lenL u.sh → (∃ v, w'.cell? ⟨r, b + q, none⟩ = some v) ∧ w'.frozen? ⟨r, b + q, none⟩ = false)
    (hnvc : ∀ u, B.vc = some u → u.wr = true → u.n.val ≤ c)
    (hown : ∀ q, (q < B.cells.length ∨ ∃ u, B.vc = some u ∧ q < c * lenL u.sh) → M ⟨r, b + q, none⟩ ∨ w0.heap.size ≤ r)
    -- nobody else lies there
    (hdis : ∀ i r' b', ρ i = some (r', b') → (S.put [] vv [B]).live i = true → r' ≠ r)
    (hdisw : ∀ i r' b', ρ i = some (r', b') → (S.put [] vv [B]).wrB i = true → r' ≠ r) :
    Mem M w0 (upd ρ S.hp.length (r, b) c) (S.put [] vv [B]) w' := by
  have hext : Ext ρ (upd ρ S.hp.length (r, b) c) := upd_ext h.hp.dom _ _
  have hlen : (S.put [] vv [B]).hp.length = S.hp.length + 1 := by simp [St.put, St.ext]
  have hhv : ∀ i o, hlookL i o (S.put [] vv [B]).hvs = hlookL i o S.hvs := fun i o => by simp [St.put, St.ext, hlookL, hlook1]
  have hvvs : ∀ i, vlookL i (S.put [] vv [B]).vvs = match vlook1 i vv with | some u => some u | none => vlookL i S.vvs := fun i => by simp only [St.put, St.ext, vlookL]; cases vlook1 i vv <;> rfl
  have hcello : ∀ i o, i < S.hp.length → (S.put [] vv [B]).cell i o = S.cell i o := fun i o hi => by
    unfold St.cell; rw [put_blk_old _ _ _ _ hi, hhv]
  have hcelln : ∀ o x, (S.put [] vv [B]).cell S.hp.length o = some x → o < B.cells.length ∧ x = nth o B.cells := fun o x hx => by
    have hl := cell_off hx
    rw [put_blk_new] at hl
    refine ⟨hl, ?_⟩
    unfold St.cell at hx
    rw [put_blk_new, Nat.ble_eq_true_of_le hl, hhv] at hx
    cases hk : hlookL S.hp.length o S.hvs with
    | some y => exact absurd (h.hp.ink _ _ _ hk) (by omega)
    | none => rw [hk] at hx; simpa using hx.symm
  have hveco : ∀ i u, i < S.hp.length → (S.put [] vv [B]).vec i = some u → (u = Vc.none [] ∧ ∃ u', S.vec i = some u') ∨ (vlook1 i vv = none ∧ S.vec i = some u) := fun i u hi hu => by
    unfold St.vec at hu ⊢
    rw [put_blk_old _ _ _ _ hi, hvvs] at hu
    split at hu
    · rename_i v hcs hvc
      try rw [hcs, hvc]
      cases hl : vlook1 i vv with
      | some x =>
        rw [hl] at hu
        simp only [Option.some.injEq] at hu
        subst hu
        left
        refine ⟨(hvv i _ hl).1, ?_⟩
        cases vlookL i S.vvs <;> exact ⟨_, rfl⟩
      | none =>
        rw [hl] at hu
        exact Or.inr ⟨rfl, hu⟩
    · cases hu
  have hvecn : ∀ u, (S.put [] vv [B]).vec S.hp.length = some u → B.vc = some u := fun u hu => by
    unfold St.vec at hu
    rw [put_blk_new, hvvs] at hu
    split at hu
    · rename_i v hcs hvc
      cases hl : vlook1 S.hp.length vv with
      | some x => exact absurd (hvv _ _ hl).2 (Nat.lt_irrefl _)
      | none =>
        rw [hl] at hu
        cases hk : vlookL S.hp.length S.vvs with
        | some y => exact absurd (h.hp.vink _ _ hk) (Nat.lt_irrefl _)
        | none => rw [hk] at hu; simp only at hu; rw [hvc]; exact hu
    · cases hu
  have hwro : ∀ i, i < S.hp.length → (S.put [] vv [B]).wrB i = true → S.wrB i = true := fun i hi hw => by
    rcases wrB_iff.1 hw with ⟨o, x, hx, hw⟩ | ⟨v, hv, hw⟩
    · rw [hcello i o hi] at hx
      rw [put_blk_old _ _ _ _ hi] at hw
      exact wrB_iff.2 (Or.inl ⟨o, x, hx, hw⟩)
    · rcases hveco i v hi hv with ⟨rfl, _⟩ | ⟨_, h2⟩
      · simp [Vc.none] at hw
      · exact wrB_iff.2 (Or.inr ⟨v, h2, hw⟩)
  have hliveo : ∀ i, i < S.hp.length → (S.put [] vv [B]).live i = true → S.live i = true := fun i hi hl => by
    rcases live_iff.1 hl with ⟨x, hx⟩ | ⟨v, ck, sh, hx, hs⟩
    · rw [hcello i 0 hi] at hx; exact live_cell hx
    · rcases hveco i v hi hx with ⟨rfl, _⟩ | ⟨_, h2⟩
      · simp [Vc.none] at hs
      · exact live_iff.2 (Or.inr ⟨v, ck, sh, h2, hs⟩)
  refine ⟨⟨?_, ?_, ?_, ?_, ?_, ?_, ?_, ?_, ?_, ?_, ?_⟩, h.fr.trans k (fun a ha => h.own.wrA a (hm a ha)), ⟨?_, ?_⟩⟩
  · intro i o x hx
    have hi := cell_lt hx
    rw [hlen] at hi
    by_cases hin : i = S.hp.length
    · subst hin
      obtain ⟨ho, rfl⟩ := hcelln o x hx
      obtain ⟨v, h1, h2⟩ := hnc o _ ho rfl
      exact ⟨r, b, v, upd_new .., h1, h2⟩
    · rw [hcello i o (by omega)] at hx
      obtain ⟨r', b', v, k1, k2, k3⟩ := h.hp.cell i o x hx
      exact ⟨r', b', v, by rw [upd_old _ hin]; exact k1, hcell i o x r' b' v hx k1 k2, V_ext hext _ _ k3⟩
  · intro i vc r' b' q o ck hx hr hq hck
    have hi := vec_lt hx
    rw [hlen] at hi
    by_cases hin : i = S.hp.length
    · subst hin
      rw [upd_new] at hr; cases hr
      exact hnv vc q o ck (hvecn vc hx) hq hck
    · rw [upd_old _ hin] at hr
      rcases hveco i vc (by omega) hx with ⟨rfl, _⟩ | ⟨h1, h2⟩
      · simp [Vc.none, nthC] at hck
      · obtain ⟨v, k2, k3⟩ := h.hp.vcell i vc r' b' q o ck h2 hr hq hck
        exact ⟨v, hvec i vc r' b' _ v h2 (live_vec h2 hck) h1 hr k2, V_ext hext _ _ k3⟩
  · intro i o x r' b' hx hw hr
    have hi := cell_lt hx
    rw [hlen] at hi
    by_cases hin : i = S.hp.length
    · subst hin
      rw [upd_new] at hr; cases hr
      obtain ⟨ho, rfl⟩ := hcelln o x hx
      rw [put_blk_new] at hw
      exact hnf o ho hw
    · rw [hcello i o (by omega)] at hx
      rw [upd_old _ hin] at hr
      rw [put_blk_old _ _ _ _ (by omega)] at hw
      obtain ⟨r2, b2, v, k1, k2, _⟩ := h.hp.cell i o x hx
      rw [hr] at k1; cases k1
      rw [k.frozen _ (World.block_lt_of_cell? _ _ k2)]
      exact h.hp.frz i o x r' b' hx hw hr
  · intro i vc r' b' q hx hw hr hq
    have hi := vec_lt hx
    rw [hlen] at hi
    by_cases hin : i = S.hp.length
    · subst hin
      rw [upd_new] at hr; cases hr
      rw [upd_cap] at hq
      exact hnvf vc q (hvecn vc hx) hw hq
    · rw [upd_old _ hin] at hr
      rw [upd_ocap _ hin] at hq
      rcases hveco i vc (by omega) hx with ⟨rfl, _⟩ | ⟨h1, h2⟩
      · simp [Vc.none] at hw
      · obtain ⟨⟨v, k1⟩, k2⟩ := h.hp.vfrz i vc r' b' q h2 hw hr hq
        have hlv : S.live i = true := by
          refine live_iff.2 (Or.inr ?_)
          cases hs : vc.sh with
          | nil => rw [hs] at hq; simp [lenL] at hq
          | cons d sh => exact ⟨vc, d, sh, h2, hs⟩
        exact ⟨⟨v, hvec i vc r' b' q v h2 hlv h1 hr k1⟩, by rw [k.frozen _ (World.block_lt_of_cell? _ _ k1)]; exact k2⟩
  · intro i vc r' b' hx hw hr
    have hi := vec_lt hx
    rw [hlen] at hi
    by_cases hin : i = S.hp.length
    · subst hin
      rw [upd_cap]
      exact hnvc vc (hvecn vc hx) hw
    · rw [upd_old _ hin] at hr
      rw [upd_ocap _ hin]
      rcases hveco i vc (by omega) hx with ⟨rfl, _⟩ | ⟨h1, h2⟩
      · simp [Vc.none] at hw
      · exact h.hp.vcap i vc r' b' h2 hw hr
  · intro i j r1 b1 b2 hij hw hr hr' hlv
    by_cases hin : i = S.hp.length
    · subst hin
      rw [upd_new] at hr; cases hr
      rw [upd_old _ (Ne.symm hij)] at hr'
      exact hdis j _ _ hr' hlv rfl
    · rw [upd_old _ hin] at hr
      have hi := h.hp.dom _ _ hr
      by_cases hjn : j = S.hp.length
      · subst hjn
        rw [upd_new] at hr'; cases hr'
        exact hdisw i _ _ hr hw rfl
      · rw [upd_old _ hjn] at hr'
        have hj := h.hp.dom _ _ hr'
        exact h.hp.dis i j r1 b1 b2 hij (hwro i hi hw) hr hr' (hliveo j hj hlv)
  · intro i p hp
    rw [hlen]
    by_cases hin : i = S.hp.length
    · omega
    · rw [upd_old _ hin] at hp
      have := h.hp.dom i p hp
      omega
  · intro i hk
    rw [hlen]
    by_cases hin : i = S.hp.length
    · omega
    · rw [upd_okn _ hin] at hk
      have := h.hp.kdm i hk
      omega
  · intro i o x hx
    rw [hhv] at hx
    have := h.hp.ink i o x hx
    rw [hlen]; omega
  · intro i x hx
    rw [hvvs] at hx
    rw [hlen]
    cases hl : vlook1 i vv with
    | some u => have := (hvv i u hl).2; omega
    | none => rw [hl] at hx; have := h.hp.vink i x hx; omega
  · intro i r' b' hr
    by_cases hin : i = S.hp.length
    · subst hin
      rw [upd_new] at hr; cases hr
      exact hrlt
    · rw [upd_old _ hin] at hr
      exact Nat.lt_of_lt_of_le (h.hp.lt i r' b' hr) k.size
  · intro i o x r' b' hx hw hr
    have hi := cell_lt hx
    rw [hlen] at hi
    by_cases hin : i = S.hp.length
    · subst hin
      rw [upd_new] at hr; cases hr
      exact hown o (Or.inl (hcelln o x hx).1)
    · rw [hcello i o (by omega)] at hx
      rw [upd_old _ hin] at hr
      rw [put_blk_old _ _ _ _ (by omega)] at hw
      exact h.own.cell i o x r' b' hx hw hr
  · intro i vc r' b' q hx hw hr hq
    have hi := vec_lt hx
    rw [hlen] at hi
    by_cases hin : i = S.hp.length
    · subst hin
      rw [upd_new] at hr; cases hr
      rw [upd_cap] at hq
      exact hown q (Or.inr ⟨vc, hvecn vc hx, hq⟩)
    · rw [upd_old _ hin] at hr
      rw [upd_ocap _ hin] at hq
      rcases hveco i vc (by omega) hx with ⟨rfl, _⟩ | ⟨h1, h2⟩
      · simp [Vc.none] at hw
      · exact h.own.vec i vc r' b' q h2 hw hr hq

/-- Cells of the call's own. -/
theorem Mem.alloc (h : Mem M w0 ρ S w) (t : TypeId) {xs : List AVal} {vs : Array Value} (hv : VL ρ xs vs.toList) :
    Ext ρ (upd ρ S.hp.length (w.heap.size, 0) 0) ∧ Mem M w0 (upd ρ S.hp.length (w.heap.size, 0) 0) (S.put [] [] [⟨xs, true, none⟩]) (w.alloc (.cells vs t)) := by
  have hext : Ext ρ (upd ρ S.hp.length (w.heap.size, 0) 0) := upd_ext h.hp.dom _ _
  have k := Fr.alloc w (.cells vs t)
  have hcell : ∀ (r b : Nat) v, w.cell? ⟨r, b, none⟩ = some v → (w.alloc (.cells vs t)).cell? ⟨r, b, none⟩ = some v := fun r b v hv => by
    rw [World.cell?_alloc_lt _ _ _ (World.block_lt_of_cell? _ _ hv)]; exact hv
  refine ⟨hext, h.newB k (fun a ha => ha.elim) ⟨xs, true, none⟩ w.heap.size 0 0 [] (by simp) (fun i u hu => by simp [vlook1] at hu) (fun i o x r' b' v _ _ hv => hcell _ _ _ hv) (fun i u r' b' q v _ _ _ _ hv => hcell _ _ _ hv)
    ?_ ?_ (fun u q o ck hu => by simp at hu) (fun u q hu => by simp at hu) (fun u hu => by simp at hu) (fun q _ => Or.inr h.fr.size) (fun i r' b' hr _ => ?_) (fun i r' b' hr _ => ?_)⟩
  · intro o x ho hx
    subst hx
    obtain ⟨v, hv1, hv2⟩ := VL_nth xs _ hv o ho
    refine ⟨v, ?_, V_ext hext _ _ hv2⟩
    rw [Nat.zero_add, World.cell?_alloc_new, ← Array.getElem?_toList]; exact hv1
  · intro o ho _
    rw [Nat.zero_add]
    exact World.frozen?_alloc_new _ _ _ _
  · have := h.hp.lt i r' b' hr; omega
  · have := h.hp.lt i r' b' hr; omega
end

end Go.Ab
