import Derived.Test.YtmegbdgnnbjbmaaAbW
import Derived.Deep.Fields
namespace Go.Ab
open Go Go.RowKit
set_option linter.unusedVariables false
/-! ### A slice that is an argument -/
def CellIs : CK → Value → Prop
  | .f32, v => ∃ b, v = .float .f32 b ∧ wfW .f32 b
  | .int k, v => ∃ n, v = .int k n
  | .bool, v => ∃ b, v = .bool b

section
variable {H : Type} {enc : TypeId × Value → H} {P : Program} {w : World} {base : Nat} {spare : Nat → Bool} {held : Bool}

theorem cell_is {t : TypeId} {c : CK} {n : Nat} {v : Value} {y : DataW H × List MemPlace} (hc : ckT P t = some c) (h : DataW.trod enc P w base spare held n t [v] = some y) : CellIs c v := by
  unfold ckT at hc
  split at hc
  · rename_i hu
    cases hc
    cases n with
    | zero => simp [DataW.trod] at h
    | succ n =>
      unfold DataW.trod at h
      rw [hu] at h
      cases v <;> simp at h
      obtain ⟨⟨rfl, hw⟩, _⟩ := h
      exact ⟨_, rfl, lit32 hw⟩
  · rename_i k hu
    cases hc
    obtain ⟨m, hm, _⟩ := DataW.trod_int hu h
    simp only [List.cons.injEq, and_true] at hm
    exact ⟨m, hm⟩
  · rename_i hu
    cases hc
    obtain ⟨m, hm, _⟩ := DataW.trod_bool hu h
    simp only [List.cons.injEq, and_true] at hm
    exact ⟨m, hm⟩
  · cases hc

/-- The cells of an element. -/
def ElemIs (P : Program) (e : TypeId) (sh : List CK) : Prop := ∀ {H : Type} {enc : TypeId × Value → H} {w : World} {base : Nat} {spare : Nat → Bool} {held : Bool} (n : Nat) (cs : List Value) (y : DataW H × List MemPlace), cs.length = P.cellsOf e → DataW.trod enc P w base spare held n e cs = some y → ∀ o c, nthC o sh = some c → ∃ v, cs[o]? = some v ∧ CellIs c v

theorem elem_one {e : TypeId} {c : CK} (hc : ckT P e = some c) (h1 : P.cellsOf e = 1) : ElemIs P e [c] := by
  intro H enc w base spare held n cs y hl h o d hd
  match cs, (hl.trans h1) with
  | [v], _ =>
    cases o with
    | zero =>
      simp only [nthC, Option.some.injEq] at hd
      subst hd
      exact ⟨v, rfl, cell_is hc h⟩
    | succ o => simp [nthC] at hd

/-- A struct of fields of one cell. -/
theorem elem_struct {e : TypeId} {fs : Array Field} {sh : List CK} (hs : P.underlying e = some (.struct fs)) (hone : Deep.oneCellFields P fs = true) (hC : P.cellsOf e = fs.size) (hk : ckTs P (fs.toList.map (·.type)) = some sh) : ElemIs P e sh := by
  intro H enc w base spare held n cs y hl h o c hc
  obtain ⟨xs, m, _, _, hlen, _, hf⟩ := DataW.trod_struct hs h
  have key : ∀ (l : List TypeId) (sh : List CK), ckTs P l = some sh → ∀ o c, nthC o sh = some c → ∃ t, l[o]? = some t ∧ ckT P t = some c := by
    intro l
    induction l with
    | nil => intro sh h o c hc; simp only [ckTs, Option.some.injEq] at h; subst h; cases o <;> cases hc
    | cons t l ih =>
      intro sh h o c hc
      unfold ckTs at h
      split at h
      · rename_i d r h1 h2
        cases h
        cases o with
        | zero => simp only [nthC, Option.some.injEq] at hc; subst hc; exact ⟨t, rfl, h1⟩
        | succ o =>
          obtain ⟨u, h3, h4⟩ := ih r h2 o c (by simpa [nthC] using hc)
          exact ⟨u, by simpa using h3, h4⟩
      · cases h
  obtain ⟨t, ht, hct⟩ := key _ _ hk o c hc
  rw [List.getElem?_map] at ht
  cases hfo : fs.toList[o]? with
  | none => rw [hfo] at ht; cases ht
  | some f =>
    rw [hfo] at ht
    simp only [Option.map_some, Option.some.injEq] at ht
    subst ht
    have hfo' : fs[o]? = some f := by simpa using hfo
    obtain ⟨ho, hc1⟩ := Deep.hone_of hone o f hfo'
    have hlt : o < fs.size := (Array.getElem?_eq_some_iff.1 hfo').1
    have g := hf o f hfo'
    rw [ho, hc1, Deep.take1_drop cs o undef (by omega)] at g
    have hxs : ∃ x, xs[o]? = some x := by
      cases hx : xs[o]? with
      | some x => exact ⟨x, rfl⟩
      | none =>
        rename_i hxl
        have : o < xs.length := by omega
        rw [List.getElem?_eq_getElem this] at hx; cases hx
    obtain ⟨x, hx⟩ := hxs
    rw [hx] at g
    refine ⟨cs.getD o undef, ?_, cell_is hct g⟩
    simp [List.getD, List.getElem?_eq_getElem (show o < cs.length by omega)]

theorem lenL_nthC : ∀ {sh : List CK} {o : Nat} {c : CK}, nthC o sh = some c → o < lenL sh := fun h => nthC_lt h

/-- A slice of rows, opened. -/
theorem open_rows {r : Reach} {b0 : Nat} {t e : TypeId} {sh : List CK} {v : Value} {d : DataW H} {ps : List MemPlace} {W : World} (ht : P.underlying t = some (.slice e)) (he : ElemIs P e sh) (hsz : P.cellsOf e = lenL sh) (hpos : 1 ≤ lenL sh)
    (hval : Value.okWide P W r b0 t v) (h : DataW.Trod enc P W 0 (fun _ => true) true t v d ps) :
    ∃ (n : Nat) (fd : Nat → Nat → Nat) (gd : Nat → Nat → Int) (bd : Nat → Nat → Bool) (ρ : Rho), n ≤ 9223372036854775807 ∧ Mem NoM W ρ (viewS [⟨sh, .sym n, fd, gd, bd, false⟩]) W ∧ V ρ (.vec 0 (lenL sh) 0 (.sym n)) v := by
  obtain ⟨fuel, h⟩ := h
  have hone : v.cells.toList = [v] := by
    unfold Value.okWide Cell.okWide at hval
    rw [ht] at hval
    cases v <;> first | rfl | (simp [Cell.ok, ht] at hval)
  rw [hone] at h
  have nomem : ∀ (k : Nat → Bool) (hk : ∀ i, k i = true → i = 0), Mem NoM W ⟨fun _ => none, fun _ => 0, k⟩ (viewS [⟨sh, .sym 0, fun _ _ => 0, fun _ _ => 0, fun _ _ => false, false⟩]) W := by
    intro k hk
    refine ⟨⟨fun i o x hx => (view_cell hx).elim, fun i vc r b k o c _ hr => by (cases hr), fun i o x r b hx => (view_cell hx).elim, fun i vc r b q _ _ hr => by (cases hr), fun i vc r b _ _ hr => by (cases hr), fun i j r b b' _ hw => (view_wr hw).elim, fun i p hp => by (cases hp), fun i hi => by (have := hk i hi; subst this; exact Nat.zero_lt_one), fun i o x hx => by (simp [viewS, hlookL] at hx), fun i x hx => by (simp [viewS, vlookL] at hx), fun i r b hr => by (cases hr)⟩, Fr.refl _ _, ⟨fun i o x r b hx => (view_cell hx).elim, fun i vc r b q _ _ hr => by (cases hr)⟩⟩
  rcases Deep.open_slice ht h with ⟨hcs, _⟩ | ⟨a, len, cap, m, n, D, Pl, hcs, _, hl, hm, hmm, _, hx⟩
  · simp only [List.cons.injEq, and_true] at hcs
    subst hcs
    refine ⟨0, _, _, _, ⟨fun _ => none, fun _ => 0, fun i => i == 0⟩, Nat.zero_le _, nomem _ (fun i hi => by simpa using hi), ?_⟩
    unfold V
    exact ⟨trivial, rfl, none, 0, rfl, Or.inl ⟨rfl, rfl⟩⟩
  · simp only [List.cons.injEq, and_true] at hcs
    subst hcs
    simp only [if_true] at hmm
    subst hmm
    rcases Nat.eq_zero_or_pos m with h0 | hpos'
    · subst h0
      have hl0 : len = 0 := by omega
      subst hl0
      refine ⟨0, _, _, _, ⟨fun _ => none, fun _ => 0, fun i => i == 0⟩, Nat.zero_le _, nomem _ (fun i hi => by simpa using hi), ?_⟩
      unfold V
      exact ⟨trivial, rfl, some a, 0, rfl, Or.inl ⟨rfl, rfl⟩⟩
    · have each : ∀ k, k < m → ∀ o c, nthC o sh = some c → ∃ v, W.cell? (a.add (k * lenL sh + o)) = some v ∧ CellIs c v := by
        intro k hk o c hc
        obtain ⟨cs', h1, h2⟩ := hx k hk
        obtain ⟨_, hlen, hcell⟩ := World.cells?_some h1
        obtain ⟨v, hv, hi⟩ := he n cs' _ hlen h2 o c hc
        have ho := nthC_lt hc
        refine ⟨v, ?_, hi⟩
        have := hcell o (by omega)
        rw [Deep.add_add, hsz] at this
        rw [this]; exact hv
      have hspot : a.spot = none := by
        have hc0 : ∃ c, nthC 0 sh = some c := nthC_some (by omega)
        obtain ⟨c, hc⟩ := hc0
        obtain ⟨v, hv, _⟩ := each 0 hpos' 0 c hc
        have := World.cell?_spot hv
        simpa [Addr.add] using this
      obtain ⟨blk, off, spot⟩ := a
      have hspot : spot = none := hspot
      subst hspot
      have eadd : ∀ q, (⟨blk, off, none⟩ : Addr).add q = ⟨blk, off + q, none⟩ := fun q => by unfold Addr.add; simp
      refine ⟨len, fun k o => wV ((W.cell? ⟨blk, off + (k * lenL sh + o), none⟩).getD undef), fun k o => gV ((W.cell? ⟨blk, off + (k * lenL sh + o), none⟩).getD undef), fun k o => bV ((W.cell? ⟨blk, off + (k * lenL sh + o), none⟩).getD undef),
        ⟨fun i => if i = 0 then some (blk, off) else none, fun i => m, fun i => i == 0⟩, ?_, ?_, ?_⟩
      · have : maxLen = 9223372036854775807 := by decide
        omega
      · refine ⟨⟨fun i o x hx => (view_cell hx).elim, fun i vc r b k o c hvc hr hk hc => ?_, fun i o x r b hx => (view_cell hx).elim, fun i vc r b q hvc hw => ?_, fun i vc r b hvc hw => ?_, fun i j r b b' _ hw => (view_wr hw).elim, fun i p hp => ?_, fun i hi => ?_, fun i o x hx => by (simp [viewS, hlookL] at hx), fun i x hx => by (simp [viewS, vlookL] at hx), fun i r b hr => ?_⟩, Fr.refl _ _, ⟨fun i o x r b hx => (view_cell hx).elim, fun i vc r b q hvc hw => ?_⟩⟩
        · simp only at hr
          split at hr
          · rename_i hi; subst hi
            cases hr
            obtain ⟨u, hu, rfl⟩ := view_vec hvc
            simp only [List.getElem?_cons_zero, Option.some.injEq] at hu
            subst hu
            have hk : k < len := hk
            obtain ⟨v, hv, hi⟩ := each k (by omega) o c hc
            rw [eadd] at hv
            refine ⟨v, hv, ?_⟩
            cases c with
            | f32 =>
              obtain ⟨b, rfl, hb⟩ := hi
              simp only [Vc.mkA, hv, Option.getD_some]
              unfold V
              exact ⟨b, rfl, sameW.refl _ _, hb, hb⟩
            | int k =>
              obtain ⟨z, rfl⟩ := hi
              simp only [Vc.mkA, hv, Option.getD_some]
              unfold V; rfl
            | bool =>
              obtain ⟨z, rfl⟩ := hi
              simp only [Vc.mkA, hv, Option.getD_some]
              unfold V; rfl
          · cases hr
        · obtain ⟨u, hu, rfl⟩ := view_vec hvc; cases hw
        · obtain ⟨u, hu, rfl⟩ := view_vec hvc; cases hw
        · simp only at hp
          split at hp
          · rename_i hi; subst hi; exact Nat.zero_lt_one
          · cases hp
        · have : i = 0 := by simpa using hi
          subst this; exact Nat.zero_lt_one
        · simp only at hr
          split at hr
          · cases hr
            obtain ⟨c, hc⟩ := nthC_some (l := sh) (p := 0) (by omega)
            obtain ⟨v, hv, _⟩ := each 0 hpos' 0 c hc
            have := World.block_lt_of_cell? _ _ hv
            simpa [Addr.add] using this
          · cases hr
        · obtain ⟨u, hu, rfl⟩ := view_vec hvc; cases hw
      · unfold V
        exact ⟨trivial, rfl, some ⟨blk, off, none⟩, m, rfl, Or.inr ⟨blk, off, by simp, by simp, by simp, by show 0 + len ≤ m; omega⟩⟩
end
end Go.Ab
