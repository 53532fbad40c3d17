import Derived.Test.YtmegbdgnnbjbmaaAbS8
import Derived.LoopN
namespace Go.Ab
open Go Go.RowKit
set_option linter.unusedVariables false

/-! ### 5. States and frames -/
/-- What is put off. -/
def DfV (ρ : Rho) : List (AVal × List AVal) → List Deferred → Prop
  | [], ds => ds = []
  | (f, xs) :: r, ds => ∃ d ds', ds = d :: ds' ∧ (∃ g cs us, f = .fn (.func g) [] cs ∧ xs = [] ∧ d = { target := .fn (.func g) ⟨us⟩, args := #[] } ∧ VL ρ cs us) ∧ DfV ρ r ds'

theorem DfV_ext {ρ ρ' : Rho} (h : Ext ρ ρ') : ∀ (l : List (AVal × List AVal)) (ds : List Deferred), DfV ρ l ds → DfV ρ' l ds
  | [], ds, k => k
  | (f, xs) :: r, ds, k => by
    obtain ⟨d, ds', h1, ⟨g, cs, us, h2, h3, h4, h5⟩, h6⟩ := k
    exact ⟨d, ds', h1, ⟨g, cs, us, h2, h3, h4, VL_ext h _ _ h5⟩, DfV_ext h r ds' h6⟩

structure Rel (N : Nat) (M : Addr → Prop) (w0 : World) (ρ : Rho) (S : St) (a : Act) (w : World) : Prop where
  fr : ∀ t, V ρ (S.get t) (a.tmps.getD t undef)
  sz : a.tmps.size = N
  df : DfV ρ S.dfs a.defers
  mem : Mem M w0 ρ S w

/-- Two states that say the same. -/
structure Alk (S S' : St) : Prop where
  get : ∀ t, S'.get t = S.get t
  cell : ∀ i o, S'.cell i o = S.cell i o
  wr : ∀ i, (S'.blk i).wr = (S.blk i).wr
  vec : ∀ i, S'.vec i = S.vec i
  len : S'.hp.length = S.hp.length
  ink : ∀ i o x, hlookL i o S'.hvs = some x → ∃ y, hlookL i o S.hvs = some y
  vink : ∀ i x, vlookL i S'.vvs = some x → ∃ y, vlookL i S.vvs = some y
  df : S'.dfs = S.dfs

theorem Mem.alk {M : Addr → Prop} {w0 : World} {ρ : Rho} {S S' : St} {w : World} (h : Mem M w0 ρ S w) (k : Alk S S') : Mem M w0 ρ S' w :=
  h.same k.cell k.wr k.vec k.len (fun i o x hx => by
    obtain ⟨y, hy⟩ := k.ink i o x hx
    rw [k.len]; exact h.hp.ink i o y hy) (fun i x hx => by
    obtain ⟨y, hy⟩ := k.vink i x hx
    rw [k.len]; exact h.hp.vink i y hy)

theorem Rel.alk {N : Nat} {M : Addr → Prop} {w0 : World} {ρ : Rho} {S S' : St} {a : Act} {w : World} (h : Rel N M w0 ρ S a w) (k : Alk S S') : Rel N M w0 ρ S' a w :=
  ⟨fun t => by rw [k.get]; exact h.fr t, h.sz, by rw [k.df]; exact h.df, h.mem.alk k⟩

section
variable {N : Nat} {M : Addr → Prop} {w0 : World} {ρ : Rho} {S : St} {a : Act} {w : World}

theorem opd_const (ρ : Rho) (S : St) (a : Act) (v : Value) : V ρ (opd S (.const v)) (a.eval (.const v)) := by
  show V ρ (match v with | .agg cs => AVal.agg (absC cs.toList) | v => absV v) v
  split
  · rename_i cs; unfold V; exact ⟨cs.toList, rfl, VL_absC ρ _⟩
  · exact V_absV ρ _

theorem opd_of (ρ : Rho) (S : St) (a : Act) (x : Operand) (h : ∀ t, x = .tmp t → V ρ (S.get t) (a.tmps.getD t undef)) : V ρ (opd S x) (a.eval x) := by
  cases x with
  | tmp t => exact h t rfl
  | const v => exact opd_const ρ S a v
  | global g => show V ρ (.raw _) _; unfold V; rfl
  | func f => show V ρ (.fn _ _ _) _; unfold V; exact ⟨[], [], rfl, by simp [VL], by simp [VL]⟩

theorem Rel.opd (h : Rel N M w0 ρ S a w) (x : Operand) : V ρ (opd S x) (a.eval x) := opd_of ρ S a x (fun t _ => h.fr t)

theorem get_ext (S : St) (d : Dl) (t : Nat) : (S.ext d).get t = match look1 t d.ov with | some v => v | none => S.get t := by
  simp only [St.get, St.ext, lookL]
  cases look1 t d.ov <;> rfl

theorem get_put (S : St) (d : Dl) (dst : Option Nat) (v : AVal) (hv : List ((Nat × Nat) × AVal)) (vv : List (Nat × Vc)) (nw : List Blk) (nd : Bool) (t : Nat) :
    (S.ext (d.put dst v hv vv nw nd)).get t = if dst = some t then v else (S.ext d).get t := by
  rw [get_ext, get_ext]
  cases dst with
  | none => simp [Dl.put]
  | some u =>
    simp only [Dl.put, look1, Option.some.injEq]
    by_cases h : u = t
    · subst h; simp
    · have : Nat.beq t u = false := by
        cases hb : Nat.beq t u with
        | false => rfl
        | true => exact absurd (Nat.eq_of_beq_eq_true hb).symm h
      simp [this, h]

theorem hlookL_put (S : St) (d : Dl) (dst : Option Nat) (v : AVal) (hv : List ((Nat × Nat) × AVal)) (vv : List (Nat × Vc)) (nw : List Blk) (nd : Bool) (i o : Nat) :
    hlookL i o (S.ext (d.put dst v hv vv nw nd)).hvs = hlookL i o ((S.ext d).put hv vv nw).hvs := by
  simp only [St.ext, St.put, Dl.put, hlookL, hlook1_append]
  cases hlook1 i o hv <;> rfl

theorem vlookL_put (S : St) (d : Dl) (dst : Option Nat) (v : AVal) (hv : List ((Nat × Nat) × AVal)) (vv : List (Nat × Vc)) (nw : List Blk) (nd : Bool) (i : Nat) :
    vlookL i (S.ext (d.put dst v hv vv nw nd)).vvs = vlookL i ((S.ext d).put hv vv nw).vvs := by
  simp only [St.ext, St.put, Dl.put, vlookL, vlook1_append]
  cases vlook1 i vv <;> rfl

theorem blk_put (S : St) (d : Dl) (dst : Option Nat) (v : AVal) (hv : List ((Nat × Nat) × AVal)) (vv : List (Nat × Vc)) (nw : List Blk) (nd : Bool) :
    (S.ext (d.put dst v hv vv nw nd)).hp = ((S.ext d).put hv vv nw).hp := by
  simp [St.ext, St.put, Dl.put]

theorem cell_put (S : St) (d : Dl) (dst : Option Nat) (v : AVal) (hv : List ((Nat × Nat) × AVal)) (vv : List (Nat × Vc)) (nw : List Blk) (nd : Bool) (i o : Nat) :
    (S.ext (d.put dst v hv vv nw nd)).cell i o = ((S.ext d).put hv vv nw).cell i o := by
  unfold St.cell St.blk
  rw [blk_put, hlookL_put]

theorem vec_put (S : St) (d : Dl) (dst : Option Nat) (v : AVal) (hv : List ((Nat × Nat) × AVal)) (vv : List (Nat × Vc)) (nw : List Blk) (nd : Bool) (i : Nat) :
    (S.ext (d.put dst v hv vv nw nd)).vec i = ((S.ext d).put hv vv nw).vec i := by
  unfold St.vec St.blk
  rw [blk_put, vlookL_put]

theorem Mem.putd {d : Dl} {dst : Option Nat} {v : AVal} {hv : List ((Nat × Nat) × AVal)} {vv : List (Nat × Vc)} {nw : List Blk} {nd : Bool} (h : Mem M w0 ρ ((S.ext d).put hv vv nw) w) : Mem M w0 ρ (S.ext (d.put dst v hv vv nw nd)) w :=
  h.same (fun i o => cell_put ..) (fun i => by unfold St.blk; rw [blk_put]) (fun i => vec_put ..) (by rw [blk_put]) (fun i o x hx => by
    rw [hlookL_put] at hx
    rw [blk_put]; exact h.hp.ink i o x hx) (fun i x hx => by
    rw [vlookL_put] at hx
    rw [blk_put]; exact h.hp.vink i x hx)

theorem act_put_df (a : Act) (dst : Option Nat) (u : Value) : (a.put dst u).defers = a.defers := by cases dst <;> rfl
theorem act_put_sz (a : Act) (dst : Option Nat) (u : Value) : (a.put dst u).tmps.size = a.tmps.size := by cases dst <;> simp [Act.put]

/-- The slots behind an operation. -/
theorem fr_put {d : Dl} {dst : Option Nat} {v : AVal} {u : Value} {hv : List ((Nat × Nat) × AVal)} {vv : List (Nat × Vc)} {nw : List Blk} {nd : Bool} {ρ' : Rho} (hfr : ∀ t, V ρ ((S.ext d).get t) (a.tmps.getD t undef)) (hsz : a.tmps.size = N) (hd : okDst N dst = true)
    (hext : Ext ρ ρ') (hvu : V ρ' v u) (t : Nat) : V ρ' ((S.ext (d.put dst v hv vv nw nd)).get t) ((a.put dst u).tmps.getD t undef) := by
  rw [get_put]
  cases dst with
  | none => simp only [reduceCtorEq, if_false, Act.put]; exact V_ext hext _ _ (hfr t)
  | some s =>
    have hs : s < N := Nat.le_of_ble_eq_true hd
    simp only [Option.some.injEq, Act.put]
    by_cases he : s = t
    · subst he
      rw [if_pos rfl]
      have : (a.tmps.setIfInBounds s u).getD s undef = u := by
        simp [Array.getD_eq_getD_getElem?, hsz, hs]
      rw [this]; exact hvu
    · rw [if_neg he]
      have : (a.tmps.setIfInBounds s u).getD t undef = a.tmps.getD t undef := by
        simp [Array.getD_eq_getD_getElem?, Array.getElem?_setIfInBounds_ne he]
      rw [this]; exact V_ext hext _ _ (hfr t)

/-- One operation done. -/
theorem Rel.put {d : Dl} {dst : Option Nat} {v : AVal} {u : Value} {hv : List ((Nat × Nat) × AVal)} {vv : List (Nat × Vc)} {nw : List Blk} {nd : Bool} {ρ' : Rho} {w' : World} (h : Rel N M w0 ρ (S.ext d) a w) (hd : okDst N dst = true)
    (hext : Ext ρ ρ') (hvu : V ρ' v u) (hm : Mem M w0 ρ' ((S.ext d).put hv vv nw) w') : Rel N M w0 ρ' (S.ext (d.put dst v hv vv nw nd)) (a.put dst u) w' := by
  refine ⟨fr_put h.fr h.sz hd hext hvu, by rw [act_put_sz]; exact h.sz, ?_, hm.putd⟩
  rw [act_put_df]
  have : (S.ext (d.put dst v hv vv nw nd)).dfs = (S.ext d).dfs := by simp [St.ext, Dl.put]
  rw [this]; exact DfV_ext hext _ _ h.df

/-- On one way of a test the slot says so. -/
theorem Rel.refine {t : Nat} {b : Bool} (h : Rel N M w0 ρ S a w) (ht : S.get t = .sbool b) : Rel N M w0 ρ (S.ext (Dl.one t (.bool b))) a w := by
  refine ⟨fun s => ?_, h.sz, h.df, ?_⟩
  · rw [get_ext]
    simp only [Dl.one, look1]
    cases hb : Nat.beq s t with
    | true =>
      have := Nat.eq_of_beq_eq_true hb
      subst this
      have := h.fr s
      rw [ht] at this
      unfold V at this ⊢
      exact this
    | false => exact h.fr s
  · exact h.mem.same (fun i o => by simp [Dl.one, St.ext, St.cell, St.blk, hlookL, hlook1]) (fun i => by simp [Dl.one, St.ext, St.blk]) (fun i => by simp [Dl.one, St.ext, St.vec, St.blk, vlookL, vlook1]) (by simp [Dl.one, St.ext]) (fun i o x hx => by
      have := h.mem.hp.ink i o x (by simpa [Dl.one, St.ext, hlookL, hlook1] using hx)
      simpa [Dl.one, St.ext] using this) (fun i x hx => by
      have := h.mem.hp.vink i x (by simpa [Dl.one, St.ext, vlookL, vlook1] using hx)
      simpa [Dl.one, St.ext] using this)

theorem Rel.nil (h : Rel N M w0 ρ S a w) : Rel N M w0 ρ (S.ext Dl.nil) a w :=
  h.alk ⟨fun t => by rw [get_ext]; rfl, fun i o => by simp [St.ext, Dl.nil, St.cell, St.blk, hlookL, hlook1], fun i => by simp [St.ext, Dl.nil, St.blk], fun i => by simp [St.ext, Dl.nil, St.vec, St.blk, vlookL, vlook1], by simp [St.ext, Dl.nil],
    fun i o x hx => ⟨x, by simpa [St.ext, Dl.nil, hlookL, hlook1] using hx⟩, fun i x hx => ⟨x, by simpa [St.ext, Dl.nil, vlookL, vlook1] using hx⟩, by simp [St.ext, Dl.nil]⟩
end

/-! ### 6. Two ways become one -/
theorem memN_iff (t : Nat) : ∀ l : List Nat, memN t l = true ↔ t ∈ l
  | [] => by simp [memN]
  | k :: r => by
    simp only [memN, List.mem_cons]
    split
    · rename_i h; have := Nat.eq_of_beq_eq_true h; simp [this]
    · rename_i h
      have hne : t ≠ k := fun e => by subst e; simp at h
      rw [memN_iff t r]; simp [hne]

theorem memP_iff (i o : Nat) : ∀ l : List (Nat × Nat), memP i o l = true ↔ (i, o) ∈ l
  | [] => by simp [memP]
  | k :: r => by
    simp only [memP, List.mem_cons]
    split
    · rename_i h
      simp only [Bool.and_eq_true] at h
      have h1 := Nat.eq_of_beq_eq_true h.1
      have h2 := Nat.eq_of_beq_eq_true h.2
      have : (i, o) = k := Prod.ext h1 h2
      simp [this]
    · rename_i h
      have hne : (i, o) ≠ k := fun e => by subst e; simp at h
      rw [memP_iff i o r]; simp [hne]

theorem keysO_mem (t : Nat) : ∀ (ov : List (Nat × AVal)) (acc : List Nat), (t ∈ keysO ov acc) ↔ (t ∈ acc ∨ (look1 t ov).isSome = true)
  | [], acc => by simp [keysO, look1]
  | (k, v) :: r, acc => by
    simp only [keysO, look1]
    split
    · rename_i hm
      rw [keysO_mem t r acc]
      have hk := (memN_iff k acc).1 hm
      split
      · rename_i hb
        have := Nat.eq_of_beq_eq_true hb; subst this
        simp [hk]
      · rfl
    · rw [keysO_mem t r (k :: acc)]
      split
      · rename_i hb
        have := Nat.eq_of_beq_eq_true hb; subst this
        simp
      · rename_i hb
        have hne : t ≠ k := fun e => by subst e; simp at hb
        simp [hne]

theorem keysH_mem (i o : Nat) : ∀ (hv : List ((Nat × Nat) × AVal)) (acc : List (Nat × Nat)), ((i, o) ∈ keysH hv acc) ↔ ((i, o) ∈ acc ∨ (hlook1 i o hv).isSome = true)
  | [], acc => by simp [keysH, hlook1]
  | (k, v) :: r, acc => by
    simp only [keysH, hlook1]
    split
    · rename_i hm
      rw [keysH_mem i o r acc]
      have hk := (memP_iff k.1 k.2 acc).1 hm
      split
      · rename_i hb
        simp only [Bool.and_eq_true] at hb
        have h1 := Nat.eq_of_beq_eq_true hb.1
        have h2 := Nat.eq_of_beq_eq_true hb.2
        subst h1; subst h2
        simp [hk]
      · rfl
    · rw [keysH_mem i o r (k :: acc)]
      split
      · rename_i hb
        simp only [Bool.and_eq_true] at hb
        have h1 := Nat.eq_of_beq_eq_true hb.1
        have h2 := Nat.eq_of_beq_eq_true hb.2
        have : (i, o) = k := Prod.ext h1 h2
        simp [this]
      · rename_i hb
        have hne : (i, o) ≠ k := fun e => by subst e; simp at hb
        simp [hne]

theorem look1_mergeOv (b : Bool) (S1 S2 : St) (t : Nat) : ∀ ks : List Nat, look1 t (mergeOv b S1 S2 ks) = if t ∈ ks then some (mergeV b (S1.get t) (S2.get t)) else none
  | [] => by simp [mergeOv, look1]
  | k :: r => by
    simp only [mergeOv, look1]
    split
    · rename_i hb; have := Nat.eq_of_beq_eq_true hb; subst this; simp
    · rename_i hb
      have hne : t ≠ k := fun e => by subst e; simp at hb
      rw [look1_mergeOv b S1 S2 t r]; simp [hne]

theorem hlook1_mergeHv (b : Bool) (n : Nat) (S1 S2 : St) (i o : Nat) : ∀ ks : List (Nat × Nat),
    hlook1 i o (mergeHv b n S1 S2 ks) = if (i, o) ∈ ks ∧ i < n then some (mergeV b (cellD S1 (i, o)) (cellD S2 (i, o))) else none
  | [] => by simp [mergeHv, hlook1]
  | k :: r => by
    simp only [mergeHv]
    have ih := hlook1_mergeHv b n S1 S2 i o r
    split
    · rename_i hn
      have hn := Nat.le_of_ble_eq_true hn
      simp only [hlook1]
      split
      · rename_i hb
        simp only [Bool.and_eq_true] at hb
        have h1 := Nat.eq_of_beq_eq_true hb.1
        have h2 := Nat.eq_of_beq_eq_true hb.2
        have hk : (i, o) = k := Prod.ext h1 h2
        rw [if_pos ⟨by simp [hk], by omega⟩, hk]
      · rename_i hb
        have hne : (i, o) ≠ k := fun e => by subst e; simp at hb
        rw [ih]; simp [hne]
    · rename_i hn
      rw [ih]
      by_cases hk : (i, o) = k
      · have hnlt : ¬ i < n := fun hlt => by
          rw [← hk] at hn
          simp only at hn
          rw [Nat.ble_eq_true_of_le hlt] at hn; cases hn
        simp [hnlt]
      · simp [hk]

theorem deadB_get : ∀ (n i : Nat), nthB i (deadB n) = ⟨[], false, none⟩
  | 0, i => by cases i <;> rfl
  | n + 1, 0 => rfl
  | n + 1, i + 1 => deadB_get n i
theorem deadB_len : ∀ n : Nat, (deadB n).length = n
  | 0 => rfl
  | n + 1 => by simp [deadB, deadB_len n]

section
variable {N : Nat} {M : Addr → Prop} {w0 : World} {ρ : Rho} {S : St} {a : Act} {w : World}

theorem blk_ext_left (S : St) (d : Dl) {i : Nat} (h : i < S.hp.length) : (S.ext d).blk i = S.blk i := nthB_append_left _ _ _ h

theorem blk_ext_right (S : St) (d : Dl) (i : Nat) : (S.ext d).blk (S.hp.length + i) = nthB i d.nw := nthB_append_right _ _ _

theorem vec_ext (S : St) (d : Dl) {i : Nat} (h : i < S.hp.length) : (S.ext d).vec i = match S.vec i with | none => none | some v => some ((vlook1 i d.vv).getD v) := by
  unfold St.vec
  rw [blk_ext_left S d h]
  split
  · simp only [St.ext, vlookL]
    cases vlook1 i d.vv <;> cases vlookL i S.vvs <;> rfl
  · rfl

/-- 'x' says at most what 'y' says. -/
def VWeak (y x : Vc) : Prop := (x.sh = [] ∧ x.wr = false) ∨ (y.sh = x.sh ∧ x.n.val = y.n.val ∧ (x.wr = true → y.wr = true) ∧ ∀ k o c ρ v, V ρ (y.mkA k o c) v → V ρ (x.mkA k o c) v)

theorem VWeak.refl (x : Vc) : VWeak x x := Or.inr ⟨rfl, rfl, fun h => h, fun _ _ _ _ _ h => h⟩

theorem mergeNum_val (b : Bool) (n m : Num) : (mergeNum b n m).val = if b then n.val else m.val := by
  unfold mergeNum
  split
  · split
    · rename_i h; have := Nat.eq_of_beq_eq_true h; subst this; cases b <;> rfl
    · cases b <;> rfl
  · split <;> (cases b <;> rfl)
  · cases b <;> rfl

theorem mergeVc_weak (b : Bool) (v u : Vc) : VWeak (if b then v else u) (mergeVc b v u) := by
  cases h1 : v.sh with
  | nil => exact Or.inl ⟨by simp only [mergeVc, h1]; rfl, by simp only [mergeVc, h1]; rfl⟩
  | cons c sh =>
    cases h2 : u.sh with
    | nil => exact Or.inl ⟨by simp only [mergeVc, h1, h2]; rfl, by simp only [mergeVc, h1, h2]; rfl⟩
    | cons d sh' =>
      cases he : eqSh (c :: sh) (d :: sh') with
      | false => exact Or.inl ⟨by simp only [mergeVc, h1, h2, he]; rfl, by simp only [mergeVc, h1, h2, he]; rfl⟩
      | true =>
        have he' := eqSh_eq he
        have e : mergeVc b v u = ⟨c :: sh, mergeNum b v.n u.n, fun k o => cond b (v.fd k o) (u.fd k o), fun k o => cond b (v.gd k o) (u.gd k o), fun k o => cond b (v.bd k o) (u.bd k o), v.wr && u.wr⟩ := by
          simp only [mergeVc, h1, h2, he]
        rw [e]
        refine Or.inr ⟨?_, ?_, ?_, ?_⟩
        · cases b
          · simp only [Bool.false_eq_true, if_false]; rw [h2, he']
          · simp only [if_true]; rw [h1]
        · show (mergeNum b v.n u.n).val = _
          rw [mergeNum_val]; cases b <;> rfl
        · intro hw
          have hw2 : (v.wr && u.wr) = true := hw
          rw [Bool.and_eq_true] at hw2
          cases b
          · exact hw2.2
          · exact hw2.1
        · intro k o c ρ x hx
          cases b <;> cases c <;> simpa [Vc.mkA] using hx

theorem keysV_mem (t : Nat) : ∀ (vv : List (Nat × Vc)) (acc : List Nat), (t ∈ keysV vv acc) ↔ (t ∈ acc ∨ (vlook1 t vv).isSome = true)
  | [], acc => by simp [keysV, vlook1]
  | (k, v) :: r, acc => by
    simp only [keysV, vlook1]
    split
    · rename_i hm
      rw [keysV_mem t r acc]
      have hk := (memN_iff k acc).1 hm
      split
      · rename_i hb
        have := Nat.eq_of_beq_eq_true hb; subst this
        simp [hk]
      · rfl
    · rw [keysV_mem t r (k :: acc)]
      split
      · rename_i hb
        have := Nat.eq_of_beq_eq_true hb; subst this
        simp
      · rename_i hb
        have hne : t ≠ k := fun e => by subst e; simp at hb
        simp [hne]

theorem vlook1_mergeVv (b : Bool) (n : Nat) (S1 S2 : St) (i : Nat) : ∀ ks : List Nat,
    vlook1 i (mergeVv b n S1 S2 ks) = if i ∈ ks ∧ i < n then some (mergeVc b (vecD S1 i) (vecD S2 i)) else none
  | [] => by simp [mergeVv, vlook1]
  | k :: r => by
    simp only [mergeVv]
    have ih := vlook1_mergeVv b n S1 S2 i r
    split
    · rename_i hn
      have hn := Nat.le_of_ble_eq_true hn
      simp only [vlook1]
      split
      · rename_i hb
        have := Nat.eq_of_beq_eq_true hb
        subst this
        rw [if_pos ⟨by simp, by omega⟩]
      · rename_i hb
        have hne : i ≠ k := fun e => by subst e; simp at hb
        rw [ih]; simp [hne]
    · rename_i hn
      rw [ih]
      by_cases hk : i = k
      · have hnlt : ¬ i < n := fun hlt => by
          rw [← hk] at hn
          rw [Nat.ble_eq_true_of_le hlt] at hn; cases hn
        simp [hnlt]
      · simp [hk]

/-- The rows of the blocks that were there. -/
theorem merge_vec {b : Bool} {d1 d2 : Dl} {i : Nat} {x : Vc} (hx : (S.ext (mergeD b S d1 d2)).vec i = some x) : i < S.hp.length ∧ ∃ y, (S.ext (if b then d1 else d2)).vec i = some y ∧ VWeak y x := by
  have hi : i < S.hp.length := by
    rcases Nat.lt_or_ge i S.hp.length with hlt | hge
    · exact hlt
    · exfalso
      obtain ⟨u, hu⟩ := vec_blk hx
      have e : i = S.hp.length + (i - S.hp.length) := by omega
      rw [e, blk_ext_right] at hu
      simp only [mergeD, deadB_get] at hu
      cases hu
  refine ⟨hi, ?_⟩
  rw [vec_ext S _ hi] at hx ⊢
  cases hv : S.vec i with
  | none => rw [hv] at hx; cases hx
  | some v =>
    rw [hv] at hx
    simp only [Option.some.injEq] at hx
    refine ⟨_, rfl, ?_⟩
    have key : vlook1 i (mergeD b S d1 d2).vv = if ((vlook1 i d1.vv).isSome = true ∨ (vlook1 i d2.vv).isSome = true) ∧ i < S.hp.length then some (mergeVc b (vecD (S.ext d1) i) (vecD (S.ext d2) i)) else none := by
      simp only [mergeD, vlook1_mergeVv, keysV_mem, List.not_mem_nil, false_or]
    rw [key] at hx
    by_cases hc : (vlook1 i d1.vv).isSome = true ∨ (vlook1 i d2.vv).isSome = true
    · rw [if_pos ⟨hc, hi⟩] at hx
      simp only [Option.getD_some] at hx
      subst hx
      have e1 : vecD (S.ext d1) i = (vlook1 i d1.vv).getD v := by unfold vecD; rw [vec_ext S _ hi, hv]
      have e2 : vecD (S.ext d2) i = (vlook1 i d2.vv).getD v := by unfold vecD; rw [vec_ext S _ hi, hv]
      rw [e1, e2]
      have := mergeVc_weak b ((vlook1 i d1.vv).getD v) ((vlook1 i d2.vv).getD v)
      cases b <;> exact this
    · rw [if_neg (fun h => hc h.1)] at hx
      simp only [Option.getD_none] at hx
      subst hx
      have n1 : vlook1 i d1.vv = none := by
        cases hh : vlook1 i d1.vv with
        | none => rfl
        | some z => exact absurd (Or.inl (by simp [hh])) hc
      have n2 : vlook1 i d2.vv = none := by
        cases hh : vlook1 i d2.vv with
        | none => rfl
        | some z => exact absurd (Or.inr (by simp [hh])) hc
      cases b
      · simp only [Bool.false_eq_true, if_false, n2, Option.getD_none]; exact VWeak.refl _
      · simp only [if_true, n1, Option.getD_none]; exact VWeak.refl _

/-- THE MERGE: what holds of the way that was taken holds of the merged state. -/
theorem Rel.merge {b : Bool} {d1 d2 : Dl} (hdf : (if b then d1 else d2).df = []) (h : Rel N M w0 ρ (S.ext (if b then d1 else d2)) a w) : Rel N M w0 ρ (S.ext (mergeD b S d1 d2)) a w := by
  have hsel : ∀ {α : Type} (f : Dl → α), f (if b then d1 else d2) = if b then f d1 else f d2 := by
    intro α f; cases b <;> rfl
  -- the cells of the blocks that were there
  have hcell : ∀ i o x, (S.ext (mergeD b S d1 d2)).cell i o = some x → i < S.hp.length ∧ ∃ y, (S.ext (if b then d1 else d2)).cell i o = some y ∧ ∀ v, V ρ y v → V ρ x v := by
    intro i o x hx
    have hoff := cell_off hx
    have hi : i < S.hp.length := by
      rcases Nat.lt_or_ge i S.hp.length with hlt | hge
      · exact hlt
      · have e : i = S.hp.length + (i - S.hp.length) := by omega
        rw [e, blk_ext_right] at hoff
        simp only [mergeD, deadB_get] at hoff
        simp at hoff
    refine ⟨hi, ?_⟩
    rw [blk_ext_left _ _ hi] at hoff
    obtain ⟨y1, hy1⟩ := cell_some (S := S.ext d1) (i := i) (o := o) (by rw [blk_ext_left _ _ hi]; exact hoff)
    obtain ⟨y2, hy2⟩ := cell_some (S := S.ext d2) (i := i) (o := o) (by rw [blk_ext_left _ _ hi]; exact hoff)
    refine ⟨if b then y1 else y2, by cases b <;> simp [hy1, hy2], ?_⟩
    unfold St.cell at hx
    rw [blk_ext_left _ _ hi, Nat.ble_eq_true_of_le hoff] at hx
    simp only [St.ext, mergeD, hlookL, hlook1_mergeHv, keysH_mem, List.not_mem_nil, false_or] at hx
    by_cases hc : (hlook1 i o d1.hv).isSome = true ∨ (hlook1 i o d2.hv).isSome = true
    · rw [if_pos ⟨hc, hi⟩] at hx
      simp only [Option.some.injEq] at hx
      subst hx
      intro v hv
      apply mergeV_sound
      simp only [cellD]
      have e1 : (S.ext d1).cell i o = some y1 := hy1
      have e2 : (S.ext d2).cell i o = some y2 := hy2
      simp only [St.ext] at e1 e2
      rw [e1, e2]
      cases b <;> simpa using hv
    · rw [if_neg (fun h => hc h.1)] at hx
      have n1 : hlook1 i o d1.hv = none := by
        cases hh : hlook1 i o d1.hv with
        | none => rfl
        | some z => exact absurd (Or.inl (by simp [hh])) hc
      have n2 : hlook1 i o d2.hv = none := by
        cases hh : hlook1 i o d2.hv with
        | none => rfl
        | some z => exact absurd (Or.inr (by simp [hh])) hc
      have e1 : y1 = x := by
        have := hy1
        unfold St.cell at this
        rw [blk_ext_left _ _ hi, Nat.ble_eq_true_of_le hoff] at this
        simp only [St.ext, hlookL, n1] at this
        rw [this] at hx; simpa using hx
      have e2 : y2 = x := by
        have := hy2
        unfold St.cell at this
        rw [blk_ext_left _ _ hi, Nat.ble_eq_true_of_le hoff] at this
        simp only [St.ext, hlookL, n2] at this
        rw [this] at hx; simpa using hx
      subst e1; subst e2
      intro v hv
      cases b <;> simpa using hv
  have hwr : ∀ i, ((S.ext (mergeD b S d1 d2)).blk i).wr = true → i < S.hp.length ∧ ((S.ext (if b then d1 else d2)).blk i).wr = true := by
    intro i hi
    rcases Nat.lt_or_ge i S.hp.length with hlt | hge
    · refine ⟨hlt, ?_⟩
      rw [blk_ext_left _ _ hlt] at hi ⊢; exact hi
    · have e : i = S.hp.length + (i - S.hp.length) := by omega
      rw [e, blk_ext_right] at hi
      simp only [mergeD, deadB_get] at hi
      cases hi
  have hlen : (S.ext (mergeD b S d1 d2)).hp.length = S.hp.length + (d1.nw.length + d2.nw.length) := by simp [St.ext, mergeD, deadB_len]
  have hlen' : (S.ext (if b then d1 else d2)).hp.length ≤ S.hp.length + (d1.nw.length + d2.nw.length) := by
    cases b <;> simp [St.ext] <;> omega
  have hvec : ∀ i x, (S.ext (mergeD b S d1 d2)).vec i = some x → ∃ y, (S.ext (if b then d1 else d2)).vec i = some y ∧ VWeak y x := fun i x hx => (merge_vec hx).2
  refine ⟨fun t => ?_, h.sz, ?_, ⟨⟨?_, ?_, ?_, ?_, ?_, ?_, ?_, ?_, ?_, ?_, h.mem.hp.lt⟩, h.mem.fr, ⟨?_, ?_⟩⟩⟩
  · -- the slots
    have ht := h.fr t
    rw [get_ext]
    simp only [mergeD, look1_mergeOv, keysO_mem, List.not_mem_nil, false_or]
    by_cases hc : (look1 t d1.ov).isSome = true ∨ (look1 t d2.ov).isSome = true
    · rw [if_pos hc]
      apply mergeV_sound
      cases b <;> simpa using ht
    · rw [if_neg hc]
      have n1 : look1 t d1.ov = none := by
        cases hh : look1 t d1.ov with
        | none => rfl
        | some z => exact absurd (Or.inl (by simp [hh])) hc
      have n2 : look1 t d2.ov = none := by
        cases hh : look1 t d2.ov with
        | none => rfl
        | some z => exact absurd (Or.inr (by simp [hh])) hc
      cases b
      · simp only [Bool.false_eq_true, if_false] at ht; rw [get_ext, n2] at ht; exact ht
      · simp only [if_true] at ht; rw [get_ext, n1] at ht; exact ht
  · have hd := h.df
    have e1 : (S.ext (if b then d1 else d2)).dfs = S.dfs := by
      show (if b then d1 else d2).df ++ S.dfs = S.dfs
      rw [hdf]; rfl
    rw [e1] at hd
    exact hd
  · intro i o x hx
    obtain ⟨_, y, hy, hyx⟩ := hcell i o x hx
    obtain ⟨r, bb, v, k1, k2, k3⟩ := h.mem.hp.cell i o y hy
    exact ⟨r, bb, v, k1, k2, hyx v k3⟩
  · intro i x r bb k o c hx hr hk hc
    obtain ⟨y, hy, hw⟩ := hvec i x hx
    rcases hw with ⟨h1, _⟩ | ⟨h1, h2, h3, h4⟩
    · rw [h1] at hc; simp [nthC] at hc
    · obtain ⟨v, k1, k2⟩ := h.mem.hp.vcell i y r bb k o c hy hr (by omega) (by rw [h1]; exact hc)
      exact ⟨v, by rw [← h1]; exact k1, h4 k o c ρ v k2⟩
  · intro i o x r bb hx hw hr
    obtain ⟨_, y, hy, _⟩ := hcell i o x hx
    exact h.mem.hp.frz i o y r bb hy (hwr i hw).2 hr
  · intro i x r bb q hx hw hr hq
    obtain ⟨y, hy, hwk⟩ := hvec i x hx
    rcases hwk with ⟨_, h1⟩ | ⟨h1, h2, h3, h4⟩
    · rw [h1] at hw; cases hw
    · exact h.mem.hp.vfrz i y r bb q hy (h3 hw) hr (by rw [h1]; exact hq)
  · intro i x r bb hx hw hr
    obtain ⟨y, hy, hwk⟩ := hvec i x hx
    rcases hwk with ⟨_, h1⟩ | ⟨h1, h2, h3, h4⟩
    · rw [h1] at hw; cases hw
    · rw [h2]; exact h.mem.hp.vcap i y r bb hy (h3 hw) hr
  · intro i j r bb b' hij hw hr hr' hlv
    refine h.mem.hp.dis i j r bb b' hij ?_ hr hr' ?_
    · rcases wrB_iff.1 hw with ⟨o, x, hx, hw⟩ | ⟨x, hx, hw⟩
      · obtain ⟨_, y, hy, _⟩ := hcell i o x hx
        exact wrB_iff.2 (Or.inl ⟨o, y, hy, (hwr i hw).2⟩)
      · obtain ⟨y, hy, hwk⟩ := hvec i x hx
        rcases hwk with ⟨_, h1⟩ | ⟨h1, h2, h3, h4⟩
        · rw [h1] at hw; cases hw
        · exact wrB_iff.2 (Or.inr ⟨y, hy, h3 hw⟩)
    · rcases live_iff.1 hlv with ⟨x, hx⟩ | ⟨x, c, sh, hx, hs⟩
      · obtain ⟨_, y, hy, _⟩ := hcell j 0 x hx
        exact live_cell hy
      · obtain ⟨y, hy, hwk⟩ := hvec j x hx
        rcases hwk with ⟨h1, _⟩ | ⟨h1, h2, h3, h4⟩
        · rw [h1] at hs; cases hs
        · exact live_iff.2 (Or.inr ⟨y, c, sh, hy, by rw [h1]; exact hs⟩)
  · intro i p hp
    have := h.mem.hp.dom i p hp
    rw [hlen]; omega
  · intro i hk
    have := h.mem.hp.kdm i hk
    rw [hlen]; omega
  · intro i o x hx
    rw [hlen]
    simp only [St.ext, mergeD, hlookL, hlook1_mergeHv, keysH_mem, List.not_mem_nil, false_or] at hx
    split at hx
    · rename_i v hv
      split at hv
      · rename_i hc; omega
      · cases hv
    · have hink := h.mem.hp.ink i o
      cases hb : hlook1 i o (if b then d1 else d2).hv with
      | some z =>
        have := hink z (by simp only [St.ext, hlookL, hb])
        omega
      | none =>
        have := hink x (by simp only [St.ext, hlookL, hb]; exact hx)
        omega
  · intro i x hx
    rw [hlen]
    simp only [St.ext, mergeD, vlookL, vlook1_mergeVv, keysV_mem, List.not_mem_nil, false_or] at hx
    split at hx
    · rename_i v hv
      split at hv
      · rename_i hc; omega
      · cases hv
    · have hink := h.mem.hp.vink i
      cases hb : vlook1 i (if b then d1 else d2).vv with
      | some z =>
        have := hink z (by simp only [St.ext, vlookL, hb])
        omega
      | none =>
        have := hink x (by simp only [St.ext, vlookL, hb]; exact hx)
        omega
  · intro i o x r bb hx hw hr
    obtain ⟨_, y, hy, _⟩ := hcell i o x hx
    exact h.mem.own.cell i o y r bb hy (hwr i hw).2 hr
  · intro i x r bb q hx hw hr hq
    obtain ⟨y, hy, hwk⟩ := hvec i x hx
    rcases hwk with ⟨_, h1⟩ | ⟨h1, h2, h3, h4⟩
    · rw [h1] at hw; cases hw
    · exact h.mem.own.vec i y r bb q hy (h3 hw) hr (by rw [h1]; exact hq)

theorem alk_comp (S : St) (d dm : Dl) : Alk ((S.ext d).ext dm) (S.ext (d.comp dm)) := by
  have hhv : ∀ i o, hlookL i o (S.ext (d.comp dm)).hvs = hlookL i o ((S.ext d).ext dm).hvs := fun i o => by
    simp only [St.ext, Dl.comp, hlookL, hlook1_append]
    cases hlook1 i o dm.hv <;> rfl
  have hvv : ∀ i, vlookL i (S.ext (d.comp dm)).vvs = vlookL i ((S.ext d).ext dm).vvs := fun i => by
    simp only [St.ext, Dl.comp, vlookL, vlook1_append]
    cases vlook1 i dm.vv <;> rfl
  have hhp : (S.ext (d.comp dm)).hp = ((S.ext d).ext dm).hp := by simp [St.ext, Dl.comp]
  refine ⟨fun t => ?_, fun i o => ?_, fun i => by unfold St.blk; rw [hhp], fun i => by unfold St.vec St.blk; rw [hhp, hvv], by rw [hhp], fun i o x hx => ⟨x, by rw [← hhv]; exact hx⟩, fun i x hx => ⟨x, by rw [← hvv]; exact hx⟩, by simp [St.ext, Dl.comp]⟩
  · rw [get_ext, get_ext, get_ext]
    simp only [Dl.comp, look1_append]
    cases look1 t dm.ov <;> rfl
  · unfold St.cell St.blk
    rw [hhp, hhv]
end

/-- Where a tree of ways leads. -/
def Tr.out (S : St) : Tr → Ex × St
  | .leaf e d => (e, S.ext d)
  | .node d b l r => if b then l.out (S.ext d) else r.out (S.ext d)

theorem Ex.same_eq {e f : Ex} (h : Ex.same e f = true) : e = f := by
  cases e <;> cases f <;> simp only [Ex.same] at h <;> first | rfl | (cases h; done) | (rw [Nat.eq_of_beq_eq_true h])

/-- 'x' says at most what 'y' says, of the same exit. -/
def Weak (N : Nat) (M : Addr → Prop) (w0 : World) (y x : Ex × St) : Prop := x.1 = y.1 ∧ ∀ ρ a w, Rel N M w0 ρ y.2 a w → Rel N M w0 ρ x.2 a w

theorem Weak.refl {N : Nat} {M : Addr → Prop} {w0 : World} (x : Ex × St) : Weak N M w0 x x := ⟨rfl, fun _ _ _ h => h⟩
theorem Weak.trans {N : Nat} {M : Addr → Prop} {w0 : World} {x y z : Ex × St} (h : Weak N M w0 x y) (k : Weak N M w0 y z) : Weak N M w0 x z := ⟨k.1.trans h.1, fun ρ a w r => k.2 ρ a w (h.2 ρ a w r)⟩

theorem noDf_eq {d : Dl} (h : noDf d = true) : d.df = [] := by
  unfold noDf at h
  split at h
  · assumption
  · cases h

theorem comp_nd (d dm : Dl) : (d.comp dm).nd = cond d.nd dm.nd false := rfl
theorem preT_need (d : Dl) : ∀ t : Tr, (preT d t).need = true → d.nd = true ∧ t.need = true
  | .leaf e dx, h => by
    simp only [preT, Tr.need, comp_nd] at h
    cases hd : d.nd with
    | false => rw [hd] at h; cases h
    | true => rw [hd] at h; exact ⟨rfl, h⟩
  | .node dx b l r, h => by
    simp only [preT, Tr.need, comp_nd] at h ⊢
    cases hd : d.nd with
    | false => rw [hd] at h; cases h
    | true => rw [hd] at h; exact ⟨rfl, h⟩

/-- The same lookups over the same blocks. -/
structure Sm (S S' : St) : Prop where
  get : ∀ t, S'.get t = S.get t
  hp : S'.hp = S.hp
  hv : ∀ i o, hlookL i o S'.hvs = hlookL i o S.hvs
  vv : ∀ i, vlookL i S'.vvs = vlookL i S.vvs
  df : S'.dfs = S.dfs

theorem Sm.alk {S S' : St} (h : Sm S S') : Alk S S' :=
  ⟨h.get, fun i o => by unfold St.cell St.blk; rw [h.hp, h.hv], fun i => by unfold St.blk; rw [h.hp], fun i => by unfold St.vec St.blk; rw [h.hp, h.vv], by rw [h.hp],
    fun i o x hx => ⟨x, by rw [← h.hv]; exact hx⟩, fun i x hx => ⟨x, by rw [← h.vv]; exact hx⟩, h.df⟩

theorem Sm.ext {S S' : St} (h : Sm S S') (d : Dl) : Sm (S.ext d) (S'.ext d) :=
  ⟨fun t => by rw [get_ext, get_ext, h.get], by simp only [St.ext, h.hp], fun i o => by simp only [St.ext, hlookL]; rw [h.hv], fun i => by simp only [St.ext, vlookL]; rw [h.vv], by simp only [St.ext, h.df]⟩

theorem sm_comp (S : St) (d dm : Dl) : Sm ((S.ext d).ext dm) (S.ext (d.comp dm)) := by
  refine ⟨fun t => ?_, by simp [St.ext, Dl.comp], fun i o => ?_, fun i => ?_, by simp [St.ext, Dl.comp]⟩
  · rw [get_ext, get_ext, get_ext]
    simp only [Dl.comp, look1_append]
    cases look1 t dm.ov <;> rfl
  · simp only [St.ext, Dl.comp, hlookL, hlook1_append]
    cases hlook1 i o dm.hv <;> rfl
  · simp only [St.ext, Dl.comp, vlookL, vlook1_append]
    cases vlook1 i dm.vv <;> rfl

theorem Sm.out {N : Nat} {M : Addr → Prop} {w0 : World} : ∀ (t : Tr) (S S' : St), Sm S S' → Weak N M w0 (t.out S) (t.out S')
  | .leaf e d, S, S', h => ⟨rfl, fun ρ a w hr => hr.alk (h.ext d).alk⟩
  | .node d b l r, S, S', h => by
    simp only [Tr.out]
    cases b with
    | true => exact Sm.out l _ _ (h.ext d)
    | false => exact Sm.out r _ _ (h.ext d)

theorem preT_out {N : Nat} {M : Addr → Prop} {w0 : World} (S : St) (d : Dl) : ∀ t : Tr, Weak N M w0 (t.out (S.ext d)) ((preT d t).out S)
  | .leaf e dx => ⟨rfl, fun ρ a w hr => hr.alk (sm_comp S d dx).alk⟩
  | .node dx b l r => by
    simp only [Tr.out, preT]
    cases b with
    | true => exact Sm.out l _ _ (sm_comp S d dx)
    | false => exact Sm.out r _ _ (sm_comp S d dx)

theorem splitT_spec {t : Tr} {d : Dl} {b : Bool} {X : Tr} {n : Dl} (h : splitT t = some (d, b, X, n)) : t = .node d b X (.leaf .normal n) ∨ (∃ c, b = !c ∧ t = .node d c (.leaf .normal n) X) := by
  unfold splitT at h
  split at h
  · cases h
  · split at h
    · split at h
      · cases h; exact Or.inl rfl
      · cases h
    · split at h
      · cases h; exact Or.inr ⟨_, rfl, rfl⟩
      · cases h
    · cases h

/-- What such a tree asks, and where it leads. -/
theorem splitT_need {t : Tr} {d : Dl} {b : Bool} {X : Tr} {n : Dl} (h : splitT t = some (d, b, X, n)) : t.need = cond d.nd (cond b X.need n.nd) false := by
  rcases splitT_spec h with rfl | ⟨c, rfl, rfl⟩
  · rfl
  · simp only [Tr.need]; cases c <;> rfl
theorem splitT_out {t : Tr} {d : Dl} {b : Bool} {X : Tr} {n : Dl} (h : splitT t = some (d, b, X, n)) (S : St) : t.out S = if b then X.out (S.ext d) else (.normal, (S.ext d).ext n) := by
  rcases splitT_spec h with rfl | ⟨c, rfl, rfl⟩
  · rfl
  · simp only [Tr.out]; cases c <;> rfl

theorem cond_true3 {a b c : Bool} (h : cond a b c = true) (ha : a = true) : b = true := by subst ha; exact h

theorem ndc_true {x y : Bool} (h : ndc true x y = true) : x = true := by rw [ndc_eq] at h; exact h
theorem ndc_false {x y : Bool} (h : ndc false x y = true) : y = true := by rw [ndc_eq] at h; exact h

theorem mkNode2_need (S : St) (d : Dl) (b : Bool) (l r : Tr) (h : (mkNode2 S d b l r).need = true) : d.nd = true ∧ (if b then l else r).need = true := by
  have triv : (Tr.node d b l r).need = true → d.nd = true ∧ (if b then l else r).need = true := fun h => by
    simp only [Tr.need] at h
    cases hd : d.nd with
    | false => rw [hd] at h; cases h
    | true => rw [hd] at h; refine ⟨rfl, ?_⟩; cases b <;> exact h
  have one : ∀ {E : Bool} {X : Tr} {n : Dl}, (Tr.node d E X (.leaf .normal n)).need = true → d.nd = true ∧ (E = true → X.need = true) ∧ (E = false → n.nd = true) := fun {E X n} h => by
    simp only [Tr.need] at h
    cases hd : d.nd with
    | false => rw [hd] at h; cases h
    | true =>
      rw [hd] at h
      exact ⟨rfl, fun he => by subst he; exact h, fun he => by subst he; exact h⟩
  have sp : ∀ {t : Tr} {d' : Dl} {b' : Bool} {X : Tr} {n : Dl}, splitT t = some (d', b', X, n) → (b' = true → (preT d' X).need = true) → (b' = false → (d'.comp n).nd = true) → t.need = true := fun {t d' b' X n} hs h1 h2 => by
    rw [splitT_need hs]
    cases b' with
    | true =>
      obtain ⟨a1, a2⟩ := preT_need d' X (h1 rfl)
      rw [a1, a2]; rfl
    | false =>
      have := h2 rfl
      rw [comp_nd] at this
      cases hd : d'.nd with
      | false => rw [hd] at this; cases this
      | true => rw [hd] at this; exact this
  unfold mkNode2 at h
  split at h
  · rename_i d1 dr br Xr n2 hr
    split at h
    · obtain ⟨k1, k2, k3⟩ := one h
      refine ⟨k1, ?_⟩
      cases b with
      | true => exact ndc_true (k3 rfl)
      | false => exact sp hr k2 (fun e => ndc_false (k3 e))
    · exact triv h
  · rename_i dr br Xr n2 _ hr
    split at h
    · rename_i dl bl Xl n1 hl
      split at h
      · obtain ⟨k1, k2, k3⟩ := one h
        refine ⟨k1, ?_⟩
        cases b with
        | true => exact sp hl (fun e => by simpa [Tr.need, Dl.nil] using k2 e) (fun e => ndc_true (k3 e))
        | false => exact sp hr (fun e => by simpa [Tr.need, Dl.nil] using k2 e) (fun e => ndc_false (k3 e))
      · exact triv h
    · exact triv h
  · split at h
    · rename_i d2 dl bl Xl n1 hl _
      split at h
      · obtain ⟨k1, k2, k3⟩ := one h
        refine ⟨k1, ?_⟩
        cases b with
        | true => exact sp hl k2 (fun e => ndc_true (k3 e))
        | false => exact ndc_false (k3 rfl)
      · exact triv h
    · exact triv h

theorem mkNode2_weak {N : Nat} {M : Addr → Prop} {w0 : World} (S : St) (d : Dl) (b : Bool) (l r : Tr) :
    Weak N M w0 ((if b then l else r).out (S.ext d)) ((mkNode2 S d b l r).out S) := by
  have triv : Weak N M w0 ((if b then l else r).out (S.ext d)) ((Tr.node d b l r).out S) := by
    simp only [Tr.out]; cases b <;> exact Weak.refl _
  have mg : ∀ (d1 d2 : Dl), noDf d1 = true → noDf d2 = true → Weak N M w0 (.normal, (S.ext d).ext (if b then d1 else d2)) (.normal, (S.ext d).ext (mergeD b (S.ext d) d1 d2)) := fun d1 d2 h1 h2 =>
    ⟨rfl, fun ρ a w h => Rel.merge (b := b) (d1 := d1) (d2 := d2) (by cases b <;> first | exact noDf_eq h2 | exact noDf_eq h1) h⟩
  have cp : ∀ (d' n : Dl), Weak N M w0 (.normal, ((S.ext d).ext d').ext n) (.normal, (S.ext d).ext (d'.comp n)) := fun d' n => ⟨rfl, fun ρ a w h => h.alk (sm_comp _ _ _).alk⟩
  generalize hT : mkNode2 S d b l r = T
  unfold mkNode2 at hT
  split at hT
  · rename_i d1 dr br Xr n2 hr
    split at hT
    · rename_i hdf
      subst hT
      simp only [Bool.and_eq_true] at hdf
      have hm := mg d1 (dr.comp n2) hdf.1 hdf.2
      cases b with
      | true => exact hm
      | false =>
        simp only [Bool.false_eq_true, if_false] at hm ⊢
        rw [splitT_out hr]
        cases br with
        | true => exact preT_out (S.ext d) dr Xr
        | false => exact (cp dr n2).trans hm
    · subst hT; exact triv
  · rename_i dr br Xr n2 _ hr
    split at hT
    · rename_i dl bl Xl n1 hl
      split at hT
      · rename_i hdf
        subst hT
        simp only [Bool.and_eq_true] at hdf
        have hm := mg (dl.comp n1) (dr.comp n2) hdf.1 hdf.2
        have nl : ∀ t : Tr, Weak N M w0 (t.out (S.ext d)) (t.out ((S.ext d).ext Dl.nil)) := fun t => Sm.out t _ _ ⟨fun t => by rw [get_ext]; rfl, by simp [St.ext, Dl.nil], fun i o => by simp [St.ext, Dl.nil, hlookL, hlook1], fun i => by simp [St.ext, Dl.nil, vlookL, vlook1], by simp [St.ext, Dl.nil]⟩
        cases b with
        | true =>
          simp only [if_true] at hm ⊢
          rw [splitT_out hl]
          cases bl with
          | true => exact (preT_out (S.ext d) dl Xl).trans (nl _)
          | false => exact (cp dl n1).trans hm
        | false =>
          simp only [Bool.false_eq_true, if_false] at hm ⊢
          rw [splitT_out hr]
          cases br with
          | true => exact (preT_out (S.ext d) dr Xr).trans (nl _)
          | false => exact (cp dr n2).trans hm
      · subst hT; exact triv
    · subst hT; exact triv
  · split at hT
    · rename_i d2 dl bl Xl n1 hl _
      split at hT
      · rename_i hdf
        subst hT
        simp only [Bool.and_eq_true] at hdf
        have hm := mg (dl.comp n1) d2 hdf.1 hdf.2
        cases b with
        | true =>
          simp only [if_true] at hm ⊢
          rw [splitT_out hl]
          cases bl with
          | true => exact preT_out (S.ext d) dl Xl
          | false => exact (cp dl n1).trans hm
        | false => exact hm
      · subst hT; exact triv
    · subst hT; exact triv

/-- What a node asks. -/
theorem mkNode_need (S : St) (d : Dl) (b : Bool) (l r : Tr) (h : (mkNode S d b l r).need = true) : d.nd = true ∧ (if b then l else r).need = true := by
  have triv : (Tr.node d b l r).need = true → d.nd = true ∧ (if b then l else r).need = true := fun h => by
    simp only [Tr.need] at h
    cases hd : d.nd with
    | false => rw [hd] at h; cases h
    | true => rw [hd] at h; refine ⟨rfl, ?_⟩; cases b <;> exact h
  cases l with
  | node _ _ _ _ => exact mkNode2_need _ _ _ _ _ h
  | leaf e1 d1 =>
    cases r with
    | node _ _ _ _ => exact mkNode2_need _ _ _ _ _ h
    | leaf e2 d2 =>
      cases he : (Ex.same e1 e2 && (noDf d1 && noDf d2)) with
      | false =>
        have e : mkNode S d b (.leaf e1 d1) (.leaf e2 d2) = .node d b (.leaf e1 d1) (.leaf e2 d2) := by simp only [mkNode, he]
        rw [e] at h; exact triv h
      | true =>
        have e : mkNode S d b (.leaf e1 d1) (.leaf e2 d2) = .leaf e1 (d.comp (mergeD b (S.ext d) d1 d2)) := by simp only [mkNode, he]
        rw [e] at h
        simp only [Tr.need, Dl.comp, mergeD, ndc_eq] at h
        cases hd : d.nd with
        | false => rw [hd] at h; cases h
        | true => rw [hd] at h; refine ⟨rfl, ?_⟩; cases b <;> exact h

theorem mkNode_weak {N : Nat} {M : Addr → Prop} {w0 : World} (S : St) (d : Dl) (b : Bool) (l r : Tr) :
    Weak N M w0 ((if b then l else r).out (S.ext d)) ((mkNode S d b l r).out S) := by
  have triv : Weak N M w0 ((if b then l else r).out (S.ext d)) ((Tr.node d b l r).out S) := by
    simp only [Tr.out]; cases b <;> exact Weak.refl _
  cases l with
  | node _ _ _ _ => exact mkNode2_weak _ _ _ _ _
  | leaf e1 d1 =>
    cases r with
    | node _ _ _ _ => exact mkNode2_weak _ _ _ _ _
    | leaf e2 d2 =>
      cases he : (Ex.same e1 e2 && (noDf d1 && noDf d2)) with
      | false =>
        have e : mkNode S d b (.leaf e1 d1) (.leaf e2 d2) = .node d b (.leaf e1 d1) (.leaf e2 d2) := by simp only [mkNode, he]
        rw [e]; exact triv
      | true =>
        have e : mkNode S d b (.leaf e1 d1) (.leaf e2 d2) = .leaf e1 (d.comp (mergeD b (S.ext d) d1 d2)) := by simp only [mkNode, he]
        rw [e]
        simp only [Bool.and_eq_true] at he
        obtain ⟨he, h1, h2⟩ := he
        have he := Ex.same_eq he
        subst he
        have h1 := noDf_eq h1
        have h2 := noDf_eq h2
        refine ⟨by cases b <;> rfl, fun ρ a w h => ?_⟩
        simp only [Tr.out]
        refine Rel.alk (Rel.merge (b := b) (d1 := d1) (d2 := d2) (by cases b <;> assumption) ?_) (alk_comp _ _ _)
        cases b <;> exact h

end Go.Ab
