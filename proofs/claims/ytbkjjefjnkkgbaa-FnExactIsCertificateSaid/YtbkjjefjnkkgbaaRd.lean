import Derived.OrdersIn
import Derived.Below
/-! A drawn region (inside a fence) whose operations each write one slot, each its one value, whatever the order, and leave the memory there was: one end. -/
namespace Go.Rd
open Go Go.RowKit
/-- The operations that come surely ahead of o. -/
def preOf (md : Region.Mode) (o : Oper) : List Nat := (o.after.toList.filter fun e => Region.binds md e).map (·.on)
/-- The operation that writes slot t. -/
def wr (ops : Array Oper) (t : Nat) : Option Nat := (ops.toList.zipIdx.find? fun p => decide (p.1.dst = some t)).map (·.2)
/-- Slot t is what it will be when o runs. -/
def known (md : Region.Mode) (ops : Array Oper) (o : Oper) (t : Nat) : Bool := match wr ops t with
  | none => true
  | some j => (preOf md o).contains j
def chk (md : Region.Mode) (ops : Array Oper) (N : Nat) : Bool := ops.toList.zipIdx.all fun p => (preOf md p.1).all (fun m => Nat.blt m p.2) && (match p.1.dst with | some t => Nat.blt t N && decide (wr ops t = some p.2) | none => false)
theorem set_at {listed : Array Bool} {i : Nat} (hi : i < listed.size) (j : Nat) : (listed.setIfInBounds i true).getD j false = if j = i then true else listed.getD j false := by
  by_cases h : j = i
  · subst h; rw [if_pos rfl, Array.getD_eq_getD_getElem?, Array.getElem?_setIfInBounds_self_of_lt hi]; rfl
  · rw [if_neg h, Array.getD_eq_getD_getElem?, Array.getElem?_setIfInBounds_ne (Ne.symm h), ← Array.getD_eq_getD_getElem?]
theorem count_set {listed : Array Bool} {i : Nat} (hi : i < listed.size) (hf : listed.getD i true = false) : (listed.setIfInBounds i true).toList.count false + 1 = listed.toList.count false := by
  rw [Array.getD_eq_getD_getElem?, Array.getElem?_eq_getElem hi] at hf
  have hf : listed[i] = false := hf
  rw [Array.toList_setIfInBounds, List.count_set (by simpa using hi)]
  have h1 : listed.toList[i]'(by simpa using hi) = false := by simpa using hf
  have h2 : 0 < listed.toList.count false := List.count_pos_iff.2 (by rw [← h1]; exact List.getElem_mem _)
  rw [h1]
  have e1 : ((false : Bool) == false) = true := rfl
  have e2 : ((true : Bool) == false) = false := rfl
  rw [e1, e2]
  simp only [if_true, Bool.false_eq_true, if_false]
  omega
section
variable {F : Fence} {n : Nat} {P : Program} {md : Region.Mode} {ops : Array Oper} {Q : Exit → Act → World → Prop} {N : Nat} {X : Nat → Value} {d : List Deferred} {W : World}
theorem chk_of (h : chk md ops N = true) {i : Nat} {o : Oper} (ho : ops[i]? = some o) : (∀ e ∈ o.after, Region.binds md e = true → e.on < i) ∧ ∃ t, o.dst = some t ∧ t < N ∧ wr ops t = some i := by
  have h1 := List.all_eq_true.1 h (o, i) (by rw [List.mk_mem_zipIdx_iff_getElem?]; simpa using ho)
  rw [Bool.and_eq_true] at h1
  refine ⟨fun e he hb => ?_, ?_⟩
  · have h2 := List.all_eq_true.1 h1.1 e.on (List.mem_map.2 ⟨e, List.mem_filter.2 ⟨by simpa using he, hb⟩, rfl⟩)
    simpa [Nat.blt_eq] using h2
  · have h2 := h1.2
    simp only at h2
    split at h2
    · rename_i t ht
      rw [Bool.and_eq_true] at h2
      exact ⟨t, ht, by simpa [Nat.blt_eq] using h2.1, of_decide_eq_true h2.2⟩
    · cases h2
theorem all_listed {listed : Array Bool} (hls : listed.size = ops.size) (hc : chk md ops N = true) (hr : Region.ready md ops listed = []) : ∀ i, i < ops.size → listed.getD i false = true := by
  intro i
  induction i using Nat.strongRecOn with
  | _ i ih =>
    intro hi
    cases hc' : listed.getD i false with
    | true => rfl
    | false =>
      exfalso
      have : i ∈ Region.ready md ops listed := by
        refine mem_ready.2 ⟨?_, ops[i], by simp [hi], fun e he hb => ?_⟩
        · rw [Array.getD_eq_getD_getElem?, Array.getElem?_eq_getElem (by omega)] at hc' ⊢; exact hc'
        · have := (chk_of hc (i := i) (o := ops[i]) (by simp [hi])).1 e he hb
          exact ih e.on this (by omega)
      rw [hr] at this; cases this
structure Inv (ops : Array Oper) (N : Nat) (X : Nat → Value) (d : List Deferred) (W : World) (listed : Array Bool) (a : Act) (w : World) : Prop where
  sz : a.tmps.size = N
  df : a.defers = d
  ls : listed.size = ops.size
  bel : Below W.heap.size W w
  slot : ∀ t, t < N → (∀ j, wr ops t = some j → listed.getD j false = true) → a.tmps.getD t undef = X t
/-- One operation. -/
def StepOk (F : Fence) (n : Nat) (P : Program) (md : Region.Mode) (ops : Array Oper) (Q : Exit → Act → World → Prop) (N : Nat) (X : Nat → Value) (d : List Deferred) (W : World) (i : Nat) (o : Oper) : Prop :=
  ∀ (a : Act) (w : World) (K : Act → World → Prop), a.tmps.size = N → a.defers = d → (∀ t, t < N → known md ops o t = true → a.tmps.getD t undef = X t) → Below W.heap.size W w →
    (∀ w', Below W.heap.size W w' → K (a.put o.dst (X (o.dst.getD 0))) w') → wpOpIn F n P ops Q i K a w
def AllOk (F : Fence) (n : Nat) (P : Program) (md : Region.Mode) (ops : Array Oper) (Q : Exit → Act → World → Prop) (N : Nat) (X : Nat → Value) (d : List Deferred) (W : World) : List Oper → Nat → Prop
  | [], _ => True
  | o :: os, i => StepOk F n P md ops Q N X d W i o ∧ AllOk F n P md ops Q N X d W os (i + 1)
theorem allOk_at : ∀ (l : List Oper) (k i : Nat) (o : Oper), AllOk F n P md ops Q N X d W l k → l[i]? = some o → StepOk F n P md ops Q N X d W (k + i) o := by
  intro l
  induction l with
  | nil => intro k i o _ h; cases h
  | cons x xs ih =>
    intro k i o h ho
    cases i with
    | zero => cases ho; exact h.1
    | succ i => have := ih (k + 1) i o h.2 (by simpa using ho); rwa [show k + 1 + i = k + (i + 1) by omega] at this
theorem det (hc : chk md ops N = true) (hs : AllOk F n P md ops Q N X d W ops.toList 0)
    (hQ : ∀ a w, a.tmps.size = N → a.defers = d → (∀ t, t < N → a.tmps.getD t undef = X t) → Below W.heap.size W w → Q .normal a w) :
    ∀ (fuel : Nat) (listed : Array Bool) (a : Act) (w : World), Inv ops N X d W listed a w → listed.toList.count false = fuel → wpAnyIn F n P md ops Q fuel listed a w := by
  have hend : ∀ (listed : Array Bool) (a : Act) (w : World), Inv ops N X d W listed a w → (∀ i, i < ops.size → listed.getD i false = true) → Q .normal a w := fun listed a w h hall =>
    hQ a w h.sz h.df (fun t ht => h.slot t ht (fun j hj => hall j (by
      unfold wr at hj
      rw [Option.map_eq_some_iff] at hj
      obtain ⟨p, hp, rfl⟩ := hj
      have hm := List.mem_of_find?_eq_some hp
      have hm : (p.1, p.2) ∈ ops.toList.zipIdx := hm
      rw [List.mk_mem_zipIdx_iff_getElem?] at hm
      have := (List.getElem?_eq_some_iff.1 hm).1
      simpa using this))) h.bel
  intro fuel
  induction fuel with
  | zero =>
    intro listed a w h hcn
    have hall : ∀ i, i < ops.size → listed.getD i false = true := by
      intro i hi
      have hil : i < listed.size := by rw [h.ls]; exact hi
      cases he : listed.getD i false with
      | true => rfl
      | false =>
        exfalso
        have hm : false ∈ listed.toList := by
          rw [Array.mem_toList_iff]
          rw [Array.getD_eq_getD_getElem?, Array.getElem?_eq_getElem hil] at he
          have he : listed[i] = false := he
          rw [← he]; exact Array.getElem_mem hil
        have := List.count_pos_iff.2 hm
        omega
    refine ⟨?_, hend listed a w h hall⟩
    rw [List.eq_nil_iff_forall_not_mem]
    intro j hj
    obtain ⟨h1, o, h2, _⟩ := mem_ready.1 hj
    have hlt : j < ops.size := (Array.getElem?_eq_some_iff.1 h2).1
    have hil : j < listed.size := by rw [h.ls]; exact hlt
    have := hall j hlt
    rw [Array.getD_eq_getD_getElem?, Array.getElem?_eq_getElem hil] at this h1
    have this : listed[j] = true := this
    have h1 : listed[j] = false := h1
    rw [this] at h1; cases h1
  | succ fuel ih =>
    intro listed a w h hcn
    refine ⟨fun hr => hend listed a w h (all_listed h.ls hc hr), fun i hi => ?_⟩
    obtain ⟨hf, o, ho, hpre⟩ := mem_ready.1 hi
    have hlt : i < ops.size := (Array.getElem?_eq_some_iff.1 ho).1
    have hil : i < listed.size := by rw [h.ls]; exact hlt
    obtain ⟨t0, hd, ht0, hw0⟩ := (chk_of hc ho).2
    have hst := allOk_at ops.toList 0 i o hs (by simpa using ho)
    rw [Nat.zero_add] at hst
    refine hst a w _ h.sz h.df (fun t ht hk => h.slot t ht (fun j hj => ?_)) h.bel (fun w' hB => ih _ _ _ ?_ (by have := count_set hil hf; omega))
    · unfold known at hk
      rw [hj] at hk
      simp only at hk
      have hm : j ∈ preOf md o := by simpa using hk
      unfold preOf at hm
      obtain ⟨e, he, rfl⟩ := List.mem_map.1 hm
      obtain ⟨h1, h2⟩ := List.mem_filter.1 he
      exact hpre e (by simpa using h1) h2
    · rw [hd]
      have htl : t0 < a.tmps.size := by rw [h.sz]; exact ht0
      refine ⟨?_, h.df, by simp [h.ls], hB, fun t ht hl => ?_⟩
      · show (a.tmps.setIfInBounds t0 _).size = N
        simp [h.sz]
      · show (a.tmps.setIfInBounds t0 (X t0)).getD t undef = X t
        by_cases e : t = t0
        · subst e
          simp [Array.getD_eq_getD_getElem?, htl]
        · rw [Array.getD_eq_getD_getElem?, Array.getElem?_setIfInBounds_ne (fun e' => e e'.symm), ← Array.getD_eq_getD_getElem?]
          refine h.slot t ht (fun j hj => ?_)
          have := hl j hj
          rw [set_at hil] at this
          split at this
          · rename_i e2
            subst e2
            exfalso
            unfold wr at hj
            rw [Option.map_eq_some_iff] at hj
            obtain ⟨p, hp, hp2⟩ := hj
            have hm := List.mem_of_find?_eq_some hp
            have hm : (p.1, p.2) ∈ ops.toList.zipIdx := hm
            rw [List.mk_mem_zipIdx_iff_getElem?, hp2] at hm
            have hm2 : ops[j]? = some p.1 := by simpa using hm
            rw [hm2] at ho
            cases ho
            have this := List.find?_some hp
            have this := of_decide_eq_true this
            rw [hd] at this
            cases this
            exact e rfl
          · exact this
theorem cons {o : Oper} {os : List Oper} {i : Nat} (h : StepOk F n P md ops Q N X d W i o) (h2 : AllOk F n P md ops Q N X d W os (i + 1)) : AllOk F n P md ops Q N X d W (o :: os) i := ⟨h, h2⟩
theorem nil {i : Nat} : AllOk F n P md ops Q N X d W [] i := trivial
theorem act_of {a : Act} {L : Array Value} (hl : L.size = N) (hs : a.tmps.size = N) (hd : a.defers = d) (h : ∀ t, t < N → a.tmps.getD t undef = L.getD t undef) : a = { tmps := L, defers := d } := by
  obtain ⟨ts, ds⟩ := a
  have hd : ds = d := hd
  subst hd
  have e : ts = L := by
    refine Array.ext (hs.trans hl.symm) (fun i h1 h2 => ?_)
    have := h i (by rw [← hl]; exact h2)
    rw [Array.getD_eq_getD_getElem?, Array.getD_eq_getD_getElem?, Array.getElem?_eq_getElem (show i < ts.size from h1), Array.getElem?_eq_getElem h2] at this
    exact this
  rw [e]
/-- The region. -/
theorem region {id : Nat} {a : Act} (hm : P.follows .mixedOrders = true) (hc : chk .any ops N = true) (hsz : a.tmps.size = N) (hX : ∀ t, t < N → wr ops t = none → a.tmps.getD t undef = X t)
    (hs : AllOk F n P .any ops Q N X a.defers W.drew ops.toList 0)
    (hQ : ∀ a' w, a'.tmps.size = N → a'.defers = a.defers → (∀ t, t < N → a'.tmps.getD t undef = X t) → Below W.drew.heap.size W.drew w → Q .normal a' w) : (Code.region id ops true).wpIn F n P Q a W := by
  refine wpIn_region_any hm (det (W := W.drew) hc hs hQ _ _ _ _ ⟨hsz, rfl, by simp, Below.refl _ _, fun t ht hl => ?_⟩ (by simp))
  cases h : wr ops t with
  | none => exact hX t ht h
  | some j =>
    have := hl j h
    rw [Array.getD_eq_getD_getElem?, Array.getElem?_replicate] at this
    split at this <;> cases this
end
theorem act23 {a : Act} {d : List Deferred} (hs : a.tmps.size = 23) (hd : a.defers = d) : ∃ x0 x1 x2 x3 x4 x5 x6 x7 x8 x9 x10 x11 x12 x13 x14 x15 x16 x17 x18 x19 x20 x21 x22 : Value, a = { tmps := #[x0, x1, x2, x3, x4, x5, x6, x7, x8, x9, x10, x11, x12, x13, x14, x15, x16, x17, x18, x19, x20, x21, x22], defers := d } := by
  obtain ⟨⟨l⟩, ds⟩ := a
  have hd : ds = d := hd
  subst hd
  match l, hs with
  | [x0, x1, x2, x3, x4, x5, x6, x7, x8, x9, x10, x11, x12, x13, x14, x15, x16, x17, x18, x19, x20, x21, x22], _ => exact ⟨x0, x1, x2, x3, x4, x5, x6, x7, x8, x9, x10, x11, x12, x13, x14, x15, x16, x17, x18, x19, x20, x21, x22, rfl⟩
end Go.Rd
