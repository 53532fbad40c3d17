import Derived.Test.YtiebaggemiifoaaAbS8
import Derived.LoopN
namespace Go.Ab
open Go Go.RowKit

/-! ### 5. States and frames -/
structure Rel (N : Nat) (M : Addr → Prop) (w0 : World) (ρ : Rho) (S : St) (a : Act) (w : World) : Prop where
  fr : ∀ t, V ρ (S.get t) (a.tmps.getD t undef)
  sz : a.tmps.size = N
  df : a.defers = []
  mem : Mem M w0 ρ S w

/-- Two states that say the same. -/
structure Alk (S S' : St) : Prop where
  get : ∀ t, S'.get t = S.get t
  cell : ∀ i o, S'.cell i o = S.cell i o
  wr : ∀ i, (S'.blk i).wr = (S.blk i).wr
  len : S'.hp.length = S.hp.length
  ink : ∀ i o x, hlookL i o S'.hvs = some x → ∃ y, hlookL i o S.hvs = some y

theorem Mem.alk {M : Addr → Prop} {w0 : World} {ρ : Rho} {S S' : St} {w : World} (h : Mem M w0 ρ S w) (k : Alk S S') : Mem M w0 ρ S' w :=
  h.same k.cell k.wr k.len (fun i o x hx => by
    obtain ⟨y, hy⟩ := k.ink i o x hx
    rw [k.len]; exact h.hp.ink i o y hy)

theorem Rel.alk {N : Nat} {M : Addr → Prop} {w0 : World} {ρ : Rho} {S S' : St} {a : Act} {w : World} (h : Rel N M w0 ρ S a w) (k : Alk S S') : Rel N M w0 ρ S' a w :=
  ⟨fun t => by rw [k.get]; exact h.fr t, h.sz, h.df, h.mem.alk k⟩

section
variable {N : Nat} {M : Addr → Prop} {w0 : World} {ρ : Rho} {S : St} {a : Act} {w : World}

theorem Rel.opd (h : Rel N M w0 ρ S a w) (x : Operand) : V ρ (opd S x) (a.eval x) := by
  cases x with
  | tmp t => exact h.fr t
  | const v =>
    show V ρ (match v with | .agg cs => AVal.agg (absC cs.toList) | v => absV v) v
    split
    · rename_i cs; unfold V; exact ⟨cs.toList, rfl, VL_absC ρ _⟩
    · exact V_absV ρ _
  | global g => show V ρ (.raw _) _; unfold V; rfl
  | func f => show V ρ (.raw _) _; unfold V; rfl

theorem get_ext (S : St) (d : Dl) (t : Nat) : (S.ext d).get t = match look1 t d.ov with | some v => v | none => S.get t := by
  simp only [St.get, St.ext, lookL]
  cases look1 t d.ov <;> rfl

theorem get_put (S : St) (d : Dl) (dst : Option Nat) (v : AVal) (hv : List ((Nat × Nat) × AVal)) (nw : List Blk) (t : Nat) :
    (S.ext (d.put dst v hv nw)).get t = if dst = some t then v else (S.ext d).get t := by
  rw [get_ext, get_ext]
  cases dst with
  | none => simp [Dl.put]
  | some u =>
    simp only [Dl.put, look1, Option.some.injEq]
    by_cases h : u = t
    · subst h; simp
    · have : Nat.beq t u = false := by
        cases hb : Nat.beq t u with
        | false => rfl
        | true => exact absurd (Nat.eq_of_beq_eq_true hb).symm h
      simp [this, h]

theorem hlookL_put (S : St) (d : Dl) (dst : Option Nat) (v : AVal) (hv : List ((Nat × Nat) × AVal)) (nw : List Blk) (i o : Nat) :
    hlookL i o (S.ext (d.put dst v hv nw)).hvs = hlookL i o ((S.ext d).put hv nw).hvs := by
  simp only [St.ext, St.put, Dl.put, hlookL, hlook1_append]
  cases hlook1 i o hv <;> rfl

theorem blk_put (S : St) (d : Dl) (dst : Option Nat) (v : AVal) (hv : List ((Nat × Nat) × AVal)) (nw : List Blk) :
    (S.ext (d.put dst v hv nw)).hp = ((S.ext d).put hv nw).hp := by
  simp [St.ext, St.put, Dl.put]

theorem cell_put (S : St) (d : Dl) (dst : Option Nat) (v : AVal) (hv : List ((Nat × Nat) × AVal)) (nw : List Blk) (i o : Nat) :
    (S.ext (d.put dst v hv nw)).cell i o = ((S.ext d).put hv nw).cell i o := by
  unfold St.cell St.blk
  rw [blk_put, hlookL_put]

theorem Mem.putd {d : Dl} {dst : Option Nat} {v : AVal} {hv : List ((Nat × Nat) × AVal)} {nw : List Blk} (h : Mem M w0 ρ ((S.ext d).put hv nw) w) : Mem M w0 ρ (S.ext (d.put dst v hv nw)) w :=
  h.same (fun i o => cell_put ..) (fun i => by unfold St.blk; rw [blk_put]) (by rw [blk_put]) (fun i o x hx => by
    rw [hlookL_put] at hx
    rw [blk_put]; exact h.hp.ink i o x hx)

/-- One operation done. -/
theorem Rel.put {d : Dl} {dst : Option Nat} {v : AVal} {u : Value} {hv : List ((Nat × Nat) × AVal)} {nw : List Blk} {ρ' : Rho} {w' : World} (h : Rel N M w0 ρ (S.ext d) a w) (hd : okDst N dst = true)
    (hext : Ext ρ ρ') (hvu : V ρ' v u) (hm : Mem M w0 ρ' ((S.ext d).put hv nw) w') : Rel N M w0 ρ' (S.ext (d.put dst v hv nw)) (a.put dst u) w' := by
  refine ⟨fun t => ?_, ?_, ?_, hm.putd⟩
  · rw [get_put]
    cases dst with
    | none => simp only [reduceCtorEq, if_false, Act.put]; exact V_ext hext _ _ (h.fr t)
    | some s =>
      have hs : s < N := Nat.le_of_ble_eq_true hd
      simp only [Option.some.injEq, Act.put]
      by_cases he : s = t
      · subst he
        rw [if_pos rfl]
        have : (a.tmps.setIfInBounds s u).getD s undef = u := by
          simp [Array.getD_eq_getD_getElem?, h.sz, hs]
        rw [this]; exact hvu
      · rw [if_neg he]
        have : (a.tmps.setIfInBounds s u).getD t undef = a.tmps.getD t undef := by
          simp [Array.getD_eq_getD_getElem?, Array.getElem?_setIfInBounds_ne he]
        rw [this]; exact V_ext hext _ _ (h.fr t)
  · cases dst <;> simp [Act.put, h.sz]
  · cases dst <;> simp [Act.put, h.df]

/-- On one way of a test the slot says so. -/
theorem Rel.refine {t : Nat} {b : Bool} (h : Rel N M w0 ρ S a w) (ht : S.get t = .sbool b) : Rel N M w0 ρ (S.ext ⟨[(t, .bool b)], [], []⟩) a w := by
  refine ⟨fun s => ?_, h.sz, h.df, ?_⟩
  · rw [get_ext]
    simp only [look1]
    cases hb : Nat.beq s t with
    | true =>
      have := Nat.eq_of_beq_eq_true hb
      subst this
      have := h.fr s
      rw [ht] at this
      unfold V at this ⊢
      exact this
    | false => exact h.fr s
  · exact h.mem.same (fun i o => by simp [St.ext, St.cell, St.blk, hlookL, hlook1]) (fun i => by simp [St.ext, St.blk]) (by simp [St.ext]) (fun i o x hx => by
      have := h.mem.hp.ink i o x (by simpa [St.ext, hlookL, hlook1] using hx)
      simpa [St.ext] using this)

theorem Rel.nil (h : Rel N M w0 ρ S a w) : Rel N M w0 ρ (S.ext Dl.nil) a w :=
  h.alk ⟨fun t => by rw [get_ext]; rfl, fun i o => by simp [St.ext, Dl.nil, St.cell, St.blk, hlookL, hlook1], fun i => by simp [St.ext, Dl.nil, St.blk], by simp [St.ext, Dl.nil],
    fun i o x hx => ⟨x, by simpa [St.ext, Dl.nil, hlookL, hlook1] using hx⟩⟩
end

/-! ### 6. Two ways become one -/
theorem memN_iff (t : Nat) : ∀ l : List Nat, memN t l = true ↔ t ∈ l
  | [] => by simp [memN]
  | k :: r => by
    simp only [memN, List.mem_cons]
    split
    · rename_i h; have := Nat.eq_of_beq_eq_true h; simp [this]
    · rename_i h
      have hne : t ≠ k := fun e => by subst e; simp at h
      rw [memN_iff t r]; simp [hne]

theorem memP_iff (i o : Nat) : ∀ l : List (Nat × Nat), memP i o l = true ↔ (i, o) ∈ l
  | [] => by simp [memP]
  | k :: r => by
    simp only [memP, List.mem_cons]
    split
    · rename_i h
      simp only [Bool.and_eq_true] at h
      have h1 := Nat.eq_of_beq_eq_true h.1
      have h2 := Nat.eq_of_beq_eq_true h.2
      have : (i, o) = k := Prod.ext h1 h2
      simp [this]
    · rename_i h
      have hne : (i, o) ≠ k := fun e => by subst e; simp at h
      rw [memP_iff i o r]; simp [hne]

theorem keysO_mem (t : Nat) : ∀ (ov : List (Nat × AVal)) (acc : List Nat), (t ∈ keysO ov acc) ↔ (t ∈ acc ∨ (look1 t ov).isSome = true)
  | [], acc => by simp [keysO, look1]
  | (k, v) :: r, acc => by
    simp only [keysO, look1]
    split
    · rename_i hm
      rw [keysO_mem t r acc]
      have hk := (memN_iff k acc).1 hm
      split
      · rename_i hb
        have := Nat.eq_of_beq_eq_true hb; subst this
        simp [hk]
      · rfl
    · rw [keysO_mem t r (k :: acc)]
      split
      · rename_i hb
        have := Nat.eq_of_beq_eq_true hb; subst this
        simp
      · rename_i hb
        have hne : t ≠ k := fun e => by subst e; simp at hb
        simp [hne]

theorem keysH_mem (i o : Nat) : ∀ (hv : List ((Nat × Nat) × AVal)) (acc : List (Nat × Nat)), ((i, o) ∈ keysH hv acc) ↔ ((i, o) ∈ acc ∨ (hlook1 i o hv).isSome = true)
  | [], acc => by simp [keysH, hlook1]
  | (k, v) :: r, acc => by
    simp only [keysH, hlook1]
    split
    · rename_i hm
      rw [keysH_mem i o r acc]
      have hk := (memP_iff k.1 k.2 acc).1 hm
      split
      · rename_i hb
        simp only [Bool.and_eq_true] at hb
        have h1 := Nat.eq_of_beq_eq_true hb.1
        have h2 := Nat.eq_of_beq_eq_true hb.2
        subst h1; subst h2
        simp [hk]
      · rfl
    · rw [keysH_mem i o r (k :: acc)]
      split
      · rename_i hb
        simp only [Bool.and_eq_true] at hb
        have h1 := Nat.eq_of_beq_eq_true hb.1
        have h2 := Nat.eq_of_beq_eq_true hb.2
        have : (i, o) = k := Prod.ext h1 h2
        simp [this]
      · rename_i hb
        have hne : (i, o) ≠ k := fun e => by subst e; simp at hb
        simp [hne]

theorem look1_mergeOv (b : Bool) (S1 S2 : St) (t : Nat) : ∀ ks : List Nat, look1 t (mergeOv b S1 S2 ks) = if t ∈ ks then some (mergeV b (S1.get t) (S2.get t)) else none
  | [] => by simp [mergeOv, look1]
  | k :: r => by
    simp only [mergeOv, look1]
    split
    · rename_i hb; have := Nat.eq_of_beq_eq_true hb; subst this; simp
    · rename_i hb
      have hne : t ≠ k := fun e => by subst e; simp at hb
      rw [look1_mergeOv b S1 S2 t r]; simp [hne]

theorem hlook1_mergeHv (b : Bool) (n : Nat) (S1 S2 : St) (i o : Nat) : ∀ ks : List (Nat × Nat),
    hlook1 i o (mergeHv b n S1 S2 ks) = if (i, o) ∈ ks ∧ i < n then some (mergeV b (cellD S1 (i, o)) (cellD S2 (i, o))) else none
  | [] => by simp [mergeHv, hlook1]
  | k :: r => by
    simp only [mergeHv]
    have ih := hlook1_mergeHv b n S1 S2 i o r
    split
    · rename_i hn
      have hn := Nat.le_of_ble_eq_true hn
      simp only [hlook1]
      split
      · rename_i hb
        simp only [Bool.and_eq_true] at hb
        have h1 := Nat.eq_of_beq_eq_true hb.1
        have h2 := Nat.eq_of_beq_eq_true hb.2
        have hk : (i, o) = k := Prod.ext h1 h2
        rw [if_pos ⟨by simp [hk], by omega⟩, hk]
      · rename_i hb
        have hne : (i, o) ≠ k := fun e => by subst e; simp at hb
        rw [ih]; simp [hne]
    · rename_i hn
      rw [ih]
      by_cases hk : (i, o) = k
      · have hnlt : ¬ i < n := fun hlt => by
          rw [← hk] at hn
          simp only at hn
          rw [Nat.ble_eq_true_of_le hlt] at hn; cases hn
        simp [hnlt]
      · simp [hk]

theorem deadB_get : ∀ (n i : Nat), nthB i (deadB n) = ⟨[], false⟩
  | 0, i => by cases i <;> rfl
  | n + 1, 0 => rfl
  | n + 1, i + 1 => deadB_get n i
theorem deadB_len : ∀ n : Nat, (deadB n).length = n
  | 0 => rfl
  | n + 1 => by simp [deadB, deadB_len n]

section
variable {N : Nat} {M : Addr → Prop} {w0 : World} {ρ : Rho} {S : St} {a : Act} {w : World}

theorem blk_ext_left (S : St) (d : Dl) {i : Nat} (h : i < S.hp.length) : (S.ext d).blk i = S.blk i := nthB_append_left _ _ _ h

theorem blk_ext_right (S : St) (d : Dl) (i : Nat) : (S.ext d).blk (S.hp.length + i) = nthB i d.nw := nthB_append_right _ _ _

/-- THE MERGE: what holds of the way that was taken holds of the merged state. -/
theorem Rel.merge {b : Bool} {d1 d2 : Dl} (h : Rel N M w0 ρ (S.ext (if b then d1 else d2)) a w) : Rel N M w0 ρ (S.ext (mergeD b S d1 d2)) a w := by
  have hsel : ∀ {α : Type} (f : Dl → α), f (if b then d1 else d2) = if b then f d1 else f d2 := by
    intro α f; cases b <;> rfl
  -- the cells of the blocks that were there
  have hcell : ∀ i o x, (S.ext (mergeD b S d1 d2)).cell i o = some x → i < S.hp.length ∧ ∃ y, (S.ext (if b then d1 else d2)).cell i o = some y ∧ ∀ v, V ρ y v → V ρ x v := by
    intro i o x hx
    have hoff := cell_off hx
    have hi : i < S.hp.length := by
      rcases Nat.lt_or_ge i S.hp.length with hlt | hge
      · exact hlt
      · have e : i = S.hp.length + (i - S.hp.length) := by omega
        rw [e, blk_ext_right] at hoff
        simp only [mergeD, deadB_get] at hoff
        simp at hoff
    refine ⟨hi, ?_⟩
    rw [blk_ext_left _ _ hi] at hoff
    obtain ⟨y1, hy1⟩ := cell_some (S := S.ext d1) (i := i) (o := o) (by rw [blk_ext_left _ _ hi]; exact hoff)
    obtain ⟨y2, hy2⟩ := cell_some (S := S.ext d2) (i := i) (o := o) (by rw [blk_ext_left _ _ hi]; exact hoff)
    refine ⟨if b then y1 else y2, by cases b <;> simp [hy1, hy2], ?_⟩
    unfold St.cell at hx
    rw [blk_ext_left _ _ hi, Nat.ble_eq_true_of_le hoff] at hx
    simp only [St.ext, mergeD, hlookL, hlook1_mergeHv, keysH_mem, List.not_mem_nil, false_or] at hx
    by_cases hc : (hlook1 i o d1.hv).isSome = true ∨ (hlook1 i o d2.hv).isSome = true
    · rw [if_pos ⟨hc, hi⟩] at hx
      simp only [Option.some.injEq] at hx
      subst hx
      intro v hv
      apply mergeV_sound
      simp only [cellD]
      have e1 : (S.ext d1).cell i o = some y1 := hy1
      have e2 : (S.ext d2).cell i o = some y2 := hy2
      simp only [St.ext] at e1 e2
      rw [e1, e2]
      cases b <;> simpa using hv
    · rw [if_neg (fun h => hc h.1)] at hx
      have n1 : hlook1 i o d1.hv = none := by
        cases hh : hlook1 i o d1.hv with
        | none => rfl
        | some z => exact absurd (Or.inl (by simp [hh])) hc
      have n2 : hlook1 i o d2.hv = none := by
        cases hh : hlook1 i o d2.hv with
        | none => rfl
        | some z => exact absurd (Or.inr (by simp [hh])) hc
      have e1 : y1 = x := by
        have := hy1
        unfold St.cell at this
        rw [blk_ext_left _ _ hi, Nat.ble_eq_true_of_le hoff] at this
        simp only [St.ext, hlookL, n1] at this
        rw [this] at hx; simpa using hx
      have e2 : y2 = x := by
        have := hy2
        unfold St.cell at this
        rw [blk_ext_left _ _ hi, Nat.ble_eq_true_of_le hoff] at this
        simp only [St.ext, hlookL, n2] at this
        rw [this] at hx; simpa using hx
      subst e1; subst e2
      intro v hv
      cases b <;> simpa using hv
  have hwr : ∀ i, ((S.ext (mergeD b S d1 d2)).blk i).wr = true → i < S.hp.length ∧ ((S.ext (if b then d1 else d2)).blk i).wr = true := by
    intro i hi
    rcases Nat.lt_or_ge i S.hp.length with hlt | hge
    · refine ⟨hlt, ?_⟩
      rw [blk_ext_left _ _ hlt] at hi ⊢; exact hi
    · have e : i = S.hp.length + (i - S.hp.length) := by omega
      rw [e, blk_ext_right] at hi
      simp only [mergeD, deadB_get] at hi
      cases hi
  have hlen : (S.ext (mergeD b S d1 d2)).hp.length = S.hp.length + (d1.nw.length + d2.nw.length) := by simp [St.ext, mergeD, deadB_len]
  have hlen' : (S.ext (if b then d1 else d2)).hp.length ≤ S.hp.length + (d1.nw.length + d2.nw.length) := by
    cases b <;> simp [St.ext] <;> omega
  refine ⟨fun t => ?_, h.sz, h.df, ⟨⟨fun i o x hx => ?_, fun i o x r bb hx hw hr => ?_, fun i j r bb b' hij hw => ?_, fun i p hp => ?_, fun i o x hx => ?_, h.mem.hp.lt⟩, h.mem.fr, fun i o x r bb hx hw hr => ?_⟩⟩
  · -- the slots
    have ht := h.fr t
    rw [get_ext]
    simp only [mergeD, look1_mergeOv, keysO_mem, List.not_mem_nil, false_or]
    by_cases hc : (look1 t d1.ov).isSome = true ∨ (look1 t d2.ov).isSome = true
    · rw [if_pos hc]
      apply mergeV_sound
      cases b <;> simpa using ht
    · rw [if_neg hc]
      have n1 : look1 t d1.ov = none := by
        cases hh : look1 t d1.ov with
        | none => rfl
        | some z => exact absurd (Or.inl (by simp [hh])) hc
      have n2 : look1 t d2.ov = none := by
        cases hh : look1 t d2.ov with
        | none => rfl
        | some z => exact absurd (Or.inr (by simp [hh])) hc
      cases b
      · simp only [Bool.false_eq_true, if_false] at ht; rw [get_ext, n2] at ht; exact ht
      · simp only [if_true] at ht; rw [get_ext, n1] at ht; exact ht
  · obtain ⟨_, y, hy, hyx⟩ := hcell i o x hx
    obtain ⟨r, bb, v, k1, k2, k3⟩ := h.mem.hp.cell i o y hy
    exact ⟨r, bb, v, k1, k2, hyx v k3⟩
  · obtain ⟨_, y, hy, _⟩ := hcell i o x hx
    exact h.mem.hp.frz i o y r bb hy (hwr i hw).2 hr
  · exact h.mem.hp.dis i j r bb b' hij (hwr i hw).2
  · have := h.mem.hp.dom i p hp
    rw [hlen]; omega
  · rw [hlen]
    simp only [St.ext, mergeD, hlookL, hlook1_mergeHv, keysH_mem, List.not_mem_nil, false_or] at hx
    split at hx
    · rename_i v hv
      split at hv
      · rename_i hc; omega
      · cases hv
    · have hink := h.mem.hp.ink i o
      cases hb : hlook1 i o (if b then d1 else d2).hv with
      | some z =>
        have := hink z (by simp only [St.ext, hlookL, hb])
        omega
      | none =>
        have := hink x (by simp only [St.ext, hlookL, hb]; exact hx)
        omega
  · obtain ⟨_, y, hy, _⟩ := hcell i o x hx
    exact h.mem.own i o y r bb hy (hwr i hw).2 hr

theorem alk_comp (S : St) (d dm : Dl) : Alk ((S.ext d).ext dm) (S.ext (d.comp dm)) := by
  have hhv : ∀ i o, hlookL i o (S.ext (d.comp dm)).hvs = hlookL i o ((S.ext d).ext dm).hvs := fun i o => by
    simp only [St.ext, Dl.comp, hlookL, hlook1_append]
    cases hlook1 i o dm.hv <;> rfl
  have hhp : (S.ext (d.comp dm)).hp = ((S.ext d).ext dm).hp := by simp [St.ext, Dl.comp]
  refine ⟨fun t => ?_, fun i o => ?_, fun i => by unfold St.blk; rw [hhp], by rw [hhp], fun i o x hx => ⟨x, by rw [← hhv]; exact hx⟩⟩
  · rw [get_ext, get_ext, get_ext]
    simp only [Dl.comp, look1_append]
    cases look1 t dm.ov <;> rfl
  · unfold St.cell St.blk
    rw [hhp, hhv]
end

/-- Where a tree of ways leads. -/
def Tr.out (S : St) : Tr → Ex × St
  | .leaf e d => (e, S.ext d)
  | .node d b l r => if b then l.out (S.ext d) else r.out (S.ext d)

theorem Ex.same_eq {e f : Ex} (h : Ex.same e f = true) : e = f := by
  cases e <;> cases f <;> simp only [Ex.same] at h <;> first | rfl | (cases h; done) | (rw [Nat.eq_of_beq_eq_true h])

/-- 'x' says at most what 'y' says, of the same exit. -/
def Weak (N : Nat) (M : Addr → Prop) (w0 : World) (y x : Ex × St) : Prop := x.1 = y.1 ∧ ∀ ρ a w, Rel N M w0 ρ y.2 a w → Rel N M w0 ρ x.2 a w

theorem Weak.refl {N : Nat} {M : Addr → Prop} {w0 : World} (x : Ex × St) : Weak N M w0 x x := ⟨rfl, fun _ _ _ h => h⟩
theorem Weak.trans {N : Nat} {M : Addr → Prop} {w0 : World} {x y z : Ex × St} (h : Weak N M w0 x y) (k : Weak N M w0 y z) : Weak N M w0 x z := ⟨k.1.trans h.1, fun ρ a w r => k.2 ρ a w (h.2 ρ a w r)⟩

theorem mkNode_weak {N : Nat} {M : Addr → Prop} {w0 : World} (S : St) (d : Dl) (b : Bool) (l r : Tr) :
    Weak N M w0 ((if b then l else r).out (S.ext d)) ((mkNode S d b l r).out S) := by
  have triv : Weak N M w0 ((if b then l else r).out (S.ext d)) ((Tr.node d b l r).out S) := by
    simp only [Tr.out]; cases b <;> exact Weak.refl _
  cases l with
  | node _ _ _ _ => exact triv
  | leaf e1 d1 =>
    cases r with
    | node _ _ _ _ => exact triv
    | leaf e2 d2 =>
      cases he : Ex.same e1 e2 with
      | false =>
        have : mkNode S d b (.leaf e1 d1) (.leaf e2 d2) = .node d b (.leaf e1 d1) (.leaf e2 d2) := by simp [mkNode, he]
        rw [this]; exact triv
      | true =>
        have : mkNode S d b (.leaf e1 d1) (.leaf e2 d2) = .leaf e1 (d.comp (mergeD b (S.ext d) d1 d2)) := by simp [mkNode, he]
        rw [this]
        have he := Ex.same_eq he
        subst he
        refine ⟨by cases b <;> rfl, fun ρ a w h => ?_⟩
        simp only [Tr.out]
        refine Rel.alk (Rel.merge (b := b) (d1 := d1) (d2 := d2) ?_) (alk_comp _ _ _)
        cases b <;> exact h

end Go.Ab
