import Derived.Test.YtbblhkjkokbheaaGd
import Derived.Test.YtbblhkjkokbheaaGg
import Derived.Test.YtbblhkjkokbheaaGf
namespace Go.Ab
open Go Go.RowKit
set_option linter.unusedVariables false
/-! ### States of slots, cells and rows -/
def stC (fr : List AVal) (bs : List Blk) : St := ⟨fr, [], bs, [], [], []⟩

theorem mem_ofC {M : Addr → Prop} {w0 : World} {ρ : Rho} {w : World} {S S' : St} (h : Mem M w0 ρ S w) (hl : S'.hp.length = S.hp.length)
    (hcell : ∀ i o x, S'.cell i o = some x → ∃ y, S.cell i o = some y ∧ ∀ u, V ρ y u → V ρ x u) (hwb : ∀ i, (S'.blk i).wr = true → (S.blk i).wr = true)
    (hvec : ∀ i v, S'.vec i = some v → ∃ u, S.vec i = some u ∧ VcLe u v) (hhv : ∀ i o, hlookL i o S'.hvs = none) (hvv : ∀ i x, vlookL i S'.vvs = some x → i < S'.hp.length) : Mem M w0 ρ S' w := by
  have hwr : ∀ i, S'.wrB i = true → S.wrB i = true := fun i hw => by
    rcases wrB_iff.1 hw with ⟨o, x, hx, hw⟩ | ⟨v, hv, hw⟩
    · obtain ⟨y, hy, _⟩ := hcell i o x hx
      exact wrB_iff.2 (Or.inl ⟨o, y, hy, hwb i hw⟩)
    · obtain ⟨u, hu, k⟩ := hvec i v hv
      exact wrB_iff.2 (Or.inr ⟨u, hu, k.wr hw⟩)
  have hlv : ∀ i, S'.live i = true → S.live i = true := fun i hw => by
    rcases live_iff.1 hw with ⟨x, hx⟩ | ⟨v, c, sh, hv, hs⟩
    · obtain ⟨y, hy, _⟩ := hcell i 0 x hx
      exact live_iff.2 (Or.inl ⟨y, hy⟩)
    · obtain ⟨u, hu, k⟩ := hvec i v hv
      exact live_iff.2 (Or.inr ⟨u, c, sh, hu, by rw [← k.sh]; exact hs⟩)
  refine ⟨⟨fun i o x hx => ?_, fun i vc r b k o c hx hr hk hc => ?_, fun i o x r b hx hw hr => ?_, fun i vc r b q hx hw hr hq => ?_, fun i vc r b hx hw hr => ?_, fun i j r b b' hij hw hr hr' hj => h.hp.dis i j r b b' hij (hwr i hw) hr hr' (hlv j hj), fun i p hp => by rw [hl]; exact h.hp.dom i p hp, fun i hk => by rw [hl]; exact h.hp.kdm i hk, fun i o x hx => by (rw [hhv] at hx; cases hx), hvv, h.hp.lt⟩, h.fr, ⟨fun i o x r b hx hw hr => ?_, fun i vc r b q hx hw hr hq => ?_⟩⟩
  · obtain ⟨y, hy, hv⟩ := hcell i o x hx
    obtain ⟨r, b, v, k1, k2, k3⟩ := h.hp.cell i o y hy
    exact ⟨r, b, v, k1, k2, hv v k3⟩
  · obtain ⟨u, hu, k1⟩ := hvec i vc hx
    rw [k1.at_ k o c hk hc, k1.sh]
    have hn := k1.n
    exact h.hp.vcell i u r b k o c hu hr (by omega) (by rw [← k1.sh]; exact hc)
  · obtain ⟨y, hy, _⟩ := hcell i o x hx
    exact h.hp.frz i o y r b hy (hwb i hw) hr
  · obtain ⟨u, hu, k1⟩ := hvec i vc hx
    rw [k1.sh] at hq
    exact h.hp.vfrz i u r b q hu (k1.wr hw) hr hq
  · obtain ⟨u, hu, k1⟩ := hvec i vc hx
    have := h.hp.vcap i u r b hu (k1.wr hw) hr
    have hn := k1.n
    omega
  · obtain ⟨y, hy, _⟩ := hcell i o x hx
    exact h.own.cell i o y r b hy (hwb i hw) hr
  · obtain ⟨u, hu, k1⟩ := hvec i vc hx
    rw [k1.sh] at hq
    exact h.own.vec i u r b q hu (k1.wr hw) hr hq

theorem wk_ofC {N : Nat} {S S' : St} (hl : S'.hp.length = S.hp.length) (hget : ∀ t, S'.get t = .bad ∨ ∀ (ρ : Rho) (u : Value), V ρ (S.get t) u → V ρ (S'.get t) u)
    (hcell : ∀ i o x, S'.cell i o = some x → ∃ y, S.cell i o = some y ∧ ∀ (ρ : Rho) u, V ρ y u → V ρ x u) (hwb : ∀ i, (S'.blk i).wr = true → (S.blk i).wr = true)
    (hvec : ∀ i v, S'.vec i = some v → ∃ u, S.vec i = some u ∧ VcLe u v) (hd : S'.dfs = S.dfs) (hhv : ∀ i o, hlookL i o S'.hvs = none) (hvv : ∀ i x, vlookL i S'.vvs = some x → i < S'.hp.length) : Wk N S S' := by
  intro M w0 ρ a w h
  refine ⟨fun t => ?_, h.sz, by rw [hd]; exact h.df, mem_ofC h.mem hl (fun i o x hx => by obtain ⟨y, hy, hv⟩ := hcell i o x hx; exact ⟨y, hy, hv ρ⟩) hwb hvec hhv hvv⟩
  rcases hget t with hb | hv
  · rw [hb]; exact V_bad _
  · exact hv ρ _ (h.fr t)

def CellLe (S : St) (i : Nat) : Nat → List AVal → Prop
  | _, [] => True
  | o, x :: r => (∃ y, S.cell i o = some y ∧ ∀ (ρ : Rho) u, V ρ y u → V ρ x u) ∧ CellLe S i (o + 1) r
def BlkLe (S : St) (i : Nat) (b : Blk) : Prop := CellLe S i 0 b.cells ∧ (b.wr = true → (S.blk i).wr = true) ∧ (b.cells = [] → ∀ v, b.vc = some v → ∃ u, S.vec i = some u ∧ VcLe u v)
def BlksLe (S : St) : Nat → List Blk → Prop
  | _, [] => True
  | i, b :: r => BlkLe S i b ∧ BlksLe S (i + 1) r

theorem cellLe_at {S : St} {i : Nat} : ∀ (cs : List AVal) (o k : Nat), CellLe S i o cs → k < cs.length → ∃ y, S.cell i (o + k) = some y ∧ ∀ (ρ : Rho) u, V ρ y u → V ρ (nth k cs) u
  | [], o, k, _, hk => by simp at hk
  | x :: r, o, 0, h, _ => h.1
  | x :: r, o, k + 1, h, hk => by
    have := cellLe_at r (o + 1) k h.2 (by simpa using hk)
    have e : o + (k + 1) = o + 1 + k := by omega
    rw [e]; exact this
theorem blksLe_at {S : St} : ∀ (bs : List Blk) (i k : Nat), BlksLe S i bs → k < bs.length → BlkLe S (i + k) (nthB k bs)
  | [], i, k, _, hk => by simp at hk
  | b :: r, i, 0, h, _ => h.1
  | b :: r, i, k + 1, h, hk => by
    have := blksLe_at r (i + 1) k h.2 (by simpa using hk)
    have e : i + (k + 1) = i + 1 + k := by omega
    rw [e]; exact this

theorem nthB_off : ∀ (bs : List Blk) (k : Nat), bs.length ≤ k → nthB k bs = ⟨[], false, none⟩
  | [], k, _ => by cases k <;> rfl
  | b :: r, 0, h => by simp at h
  | b :: r, k + 1, h => nthB_off r k (by simpa using h)

theorem wk_rowC {N : Nat} {S : St} {fr : List AVal} {bs : List Blk} (hl : S.hp.length = bs.length) (hg : GetEq S 0 fr) (hb : BlksLe S 0 bs) (hd : S.dfs = []) : Wk N S (stC fr bs) := by
  have hat : ∀ i, i < bs.length → BlkLe S i (nthB i bs) := fun i hi => by
    have := blksLe_at bs 0 i hb hi
    rw [Nat.zero_add] at this
    exact this
  refine wk_ofC hl.symm (fun t => ?_) (fun i o x h => ?_) (fun i h => ?_) (fun i v h => ?_) (by rw [hd]; rfl) (fun i o => rfl) (fun i x h => by simp [stC, vlookL] at h)
  · have := getEq_at fr 0 t hg
    rw [Nat.zero_add] at this
    exact this
  · have hx : (match Nat.ble (o + 1) (nthB i bs).cells.length with | true => some (nth o (nthB i bs).cells) | false => none) = some x := h
    rcases Nat.lt_or_ge i bs.length with hi | hi
    · cases hc : Nat.ble (o + 1) (nthB i bs).cells.length with
      | false => rw [hc] at hx; cases hx
      | true =>
        rw [hc] at hx
        have hx : nth o (nthB i bs).cells = x := Option.some.inj hx
        have := cellLe_at _ 0 o (hat i hi).1 (Nat.le_of_ble_eq_true hc)
        rw [Nat.zero_add, hx] at this
        exact this
    · rw [nthB_off bs i hi] at hx
      cases hx
  · have h : (nthB i bs).wr = true := h
    rcases Nat.lt_or_ge i bs.length with hi | hi
    · exact (hat i hi).2.1 h
    · rw [nthB_off bs i hi] at h; cases h
  · rcases Nat.lt_or_ge i bs.length with hi | hi
    · have hk := (hat i hi).2.2
      unfold St.vec at h
      have hbk : (stC fr bs).blk i = nthB i bs := rfl
      rw [hbk] at h
      split at h
      · rename_i u hcs hvc
        have h : some u = some v := h
        cases h
        exact hk hcs _ hvc
      · cases h
    · unfold St.vec at h
      have hbk : (stC fr bs).blk i = nthB i bs := rfl
      rw [hbk, nthB_off bs i hi] at h
      cases h

section
variable {P : Program} {N : Nat}
/-- One way, to a state of slots, cells and rows. -/
theorem Run.toX {Γ : List (Nat × Ctr)} (hΓ : Good P Γ) (hmo : P.follows .mixedOrders = true) (fuel : Nat) {c : Code} {S : St} (p : List Bool) {e : Ex} {fr : List AVal} {bs : List Blk} (h0 : isWay (wayO p S (Ab.ev P Γ N fuel c S Dl.nil)) = true)
    (hb : wBs (wayO p S (Ab.ev P Γ N fuel c S Dl.nil)) = p) (hn : wNd (wayO p S (Ab.ev P Γ N fuel c S Dl.nil)) = true) (he : wE (wayO p S (Ab.ev P Γ N fuel c S Dl.nil)) = e)
    (hl : (wS (wayO p S (Ab.ev P Γ N fuel c S Dl.nil))).hp.length = bs.length) (hg : GetEq (wS (wayO p S (Ab.ev P Γ N fuel c S Dl.nil))) 0 fr) (hv : BlksLe (wS (wayO p S (Ab.ev P Γ N fuel c S Dl.nil))) 0 bs)
    (hd : (wS (wayO p S (Ab.ev P Γ N fuel c S Dl.nil))).dfs = []) : Run P N c S (e, stC fr bs) := by
  have := Run.way hΓ hmo p h0 hb hn
  rw [he] at this
  exact this.weak (Wk.refl S) (Nat.le_refl _) rfl (wk_rowC hl hg hv hd)
end
end Go.Ab

namespace Go.Ab
open Go Go.RowKit
set_option linter.unusedVariables false
/-! ### What a piece of code has made is forgotten; cells and rows stay -/
theorem stC_cell {fr : List AVal} {bs : List Blk} {i o : Nat} {x : AVal} (h : (stC fr bs).cell i o = some x) : i < bs.length ∧ o < (nthB i bs).cells.length ∧ x = nth o (nthB i bs).cells := by
  have hx : (match Nat.ble (o + 1) (nthB i bs).cells.length with | true => some (nth o (nthB i bs).cells) | false => none) = some x := h
  rcases Nat.lt_or_ge i bs.length with hi | hi
  · cases hc : Nat.ble (o + 1) (nthB i bs).cells.length with
    | false => rw [hc] at hx; cases hx
    | true => rw [hc] at hx; exact ⟨hi, Nat.le_of_ble_eq_true hc, (Option.some.inj hx).symm⟩
  · rw [nthB_off bs i hi] at hx; cases hx
theorem stC_vec {fr : List AVal} {bs : List Blk} {i : Nat} {v : Vc} (h : (stC fr bs).vec i = some v) : i < bs.length ∧ (nthB i bs).cells = [] ∧ (nthB i bs).vc = some v := by
  rcases Nat.lt_or_ge i bs.length with hi | hi
  · unfold St.vec at h
    have hbk : (stC fr bs).blk i = nthB i bs := rfl
    rw [hbk] at h
    split at h
    · rename_i u hcs hvc
      have h : some u = some v := h
      cases h
      exact ⟨hi, hcs, hvc⟩
    · cases h
  · unfold St.vec at h
    have hbk : (stC fr bs).blk i = nthB i bs := rfl
    rw [hbk, nthB_off bs i hi] at h
    cases h

def CellLeU (S : St) (n i : Nat) : Nat → List AVal → Prop
  | _, [] => True
  | o, x :: r => (∃ y, S.cell i o = some y ∧ x.under n = true ∧ ∀ (ρ : Rho) u, V ρ y u → V ρ x u) ∧ CellLeU S n i (o + 1) r
def BlkLeU (S : St) (n i : Nat) (b : Blk) : Prop := CellLeU S n i 0 b.cells ∧ (b.wr = true → (S.blk i).wr = true) ∧ (b.cells = [] → ∀ v, b.vc = some v → ∃ u, S.vec i = some u ∧ VcLe u v)
def BlksLeU (S : St) (n : Nat) : Nat → List Blk → Prop
  | _, [] => True
  | i, b :: r => BlkLeU S n i b ∧ BlksLeU S n (i + 1) r
theorem cellLeU_at {S : St} {n i : Nat} : ∀ (cs : List AVal) (o k : Nat), CellLeU S n i o cs → k < cs.length → ∃ y, S.cell i (o + k) = some y ∧ (nth k cs).under n = true ∧ ∀ (ρ : Rho) u, V ρ y u → V ρ (nth k cs) u
  | [], o, k, _, hk => by simp at hk
  | x :: r, o, 0, h, _ => h.1
  | x :: r, o, k + 1, h, hk => by
    have := cellLeU_at r (o + 1) k h.2 (by simpa using hk)
    have e : o + (k + 1) = o + 1 + k := by omega
    rw [e]; exact this
theorem blksLeU_at {S : St} {n : Nat} : ∀ (bs : List Blk) (i k : Nat), BlksLeU S n i bs → k < bs.length → BlkLeU S n (i + k) (nthB k bs)
  | [], i, k, _, hk => by simp at hk
  | b :: r, i, 0, h, _ => h.1
  | b :: r, i, k + 1, h, hk => by
    have := blksLeU_at r (i + 1) k h.2 (by simpa using hk)
    have e : i + (k + 1) = i + 1 + k := by omega
    rw [e]; exact this

theorem rel_cutC {N : Nat} {M : Addr → Prop} {w0 : World} {ρ : Rho} {S : St} {a : Act} {w : World} {fr : List AVal} {bs : List Blk} (h : Rel N M w0 ρ S a w) (hl : bs.length ≤ S.hp.length) (hg : GetEqU S bs.length 0 fr) (hb : BlksLeU S bs.length 0 bs) (hd : S.dfs = []) :
    Rel N M w0 (cutR bs.length ρ) (stC fr bs) a w := by
  have hag := cutR_agr bs.length ρ
  have hold : ∀ {i p}, cutR bs.length ρ i = some p → i < bs.length ∧ ρ i = some p := fun {i p} hp => cutR_old hp
  have hin : ∀ {i p}, i < bs.length → ρ i = some p → cutR bs.length ρ i = some p := fun {i p} hi hp => by simp only [cutR]; rw [if_pos hi]; exact hp
  have hat : ∀ i, i < bs.length → BlkLeU S bs.length i (nthB i bs) := fun i hi => by
    have := blksLeU_at bs 0 i hb hi
    rw [Nat.zero_add] at this
    exact this
  have hcell : ∀ i o x, (stC fr bs).cell i o = some x → i < bs.length ∧ ∃ y, S.cell i o = some y ∧ x.under bs.length = true ∧ ∀ (ρ : Rho) u, V ρ y u → V ρ x u := fun i o x hx => by
    obtain ⟨hi, ho, rfl⟩ := stC_cell hx
    have := cellLeU_at _ 0 o (hat i hi).1 ho
    rw [Nat.zero_add] at this
    exact ⟨hi, this⟩
  have hwb : ∀ i, ((stC fr bs).blk i).wr = true → (S.blk i).wr = true := fun i hw => by
    have hw : (nthB i bs).wr = true := hw
    rcases Nat.lt_or_ge i bs.length with hi | hi
    · exact (hat i hi).2.1 hw
    · rw [nthB_off bs i hi] at hw; cases hw
  have hvec : ∀ i v, (stC fr bs).vec i = some v → i < bs.length ∧ ∃ u, S.vec i = some u ∧ VcLe u v := fun i v hv => by
    obtain ⟨hi, hc, hx⟩ := stC_vec hv
    exact ⟨hi, (hat i hi).2.2 hc v hx⟩
  have hwr : ∀ i, (stC fr bs).wrB i = true → S.wrB i = true := fun i hw => by
    rcases wrB_iff.1 hw with ⟨o, x, hx, hw⟩ | ⟨v, hv, hw⟩
    · obtain ⟨_, y, hy, _⟩ := hcell i o x hx
      exact wrB_iff.2 (Or.inl ⟨o, y, hy, hwb i hw⟩)
    · obtain ⟨_, u, hu, k⟩ := hvec i v hv
      exact wrB_iff.2 (Or.inr ⟨u, hu, k.wr hw⟩)
  have hlv : ∀ i, (stC fr bs).live i = true → S.live i = true := fun i hw => by
    rcases live_iff.1 hw with ⟨x, hx⟩ | ⟨v, c, sh, hv, hs⟩
    · obtain ⟨_, y, hy, _⟩ := hcell i 0 x hx
      exact live_iff.2 (Or.inl ⟨y, hy⟩)
    · obtain ⟨_, u, hu, k⟩ := hvec i v hv
      exact live_iff.2 (Or.inr ⟨u, c, sh, hu, by rw [← k.sh]; exact hs⟩)
  have hlen : (stC fr bs).hp.length = bs.length := rfl
  refine ⟨fun t => ?_, h.sz, ?_, ⟨⟨fun i o x hx => ?_, fun i vc r b k o c hx hr hk hc => ?_, fun i o x r b hx hw hr => ?_, fun i vc r b q hx hw hr hq => ?_, fun i vc r b hx hw hr => ?_, fun i j r b b' hij hw hr hr' hj => h.mem.hp.dis i j r b b' hij (hwr i hw) (hold hr).2 (hold hr').2 (hlv j hj), fun i p hp => by rw [hlen]; exact (hold hp).1, fun i hk => ?_, fun i o x hx => by (simp [stC, hlookL] at hx), fun i x hx => by (simp [stC, vlookL] at hx), fun i r b hr => h.mem.hp.lt i r b (hold hr).2⟩, h.mem.fr, ⟨fun i o x r b hx hw hr => ?_, fun i vc r b q hx hw hr hq => ?_⟩⟩⟩
  · have := getEqU_at fr 0 t hg
    rw [Nat.zero_add] at this
    show V _ (nth t fr) _
    rcases this with hb | ⟨hu, hv⟩
    · rw [hb]; exact V_bad _
    · exact V_under hag _ _ hu (hv ρ _ (h.fr t))
  · have := h.df
    rw [hd] at this
    exact this
  · obtain ⟨hi, y, hy, hu, hv⟩ := hcell i o x hx
    obtain ⟨r, b, v, k1, k2, k3⟩ := h.mem.hp.cell i o y hy
    exact ⟨r, b, v, hin hi k1, k2, V_under hag _ _ hu (hv ρ v k3)⟩
  · obtain ⟨hi, u, hu, k1⟩ := hvec i vc hx
    rw [k1.at_ k o c hk hc, k1.sh]
    have hn := k1.n
    obtain ⟨x, g1, g2⟩ := h.mem.hp.vcell i u r b k o c hu (hold hr).2 (by omega) (by rw [← k1.sh]; exact hc)
    exact ⟨x, g1, V_flat _ _ (by cases c <;> rfl) g2⟩
  · obtain ⟨hi, y, hy, _⟩ := hcell i o x hx
    exact h.mem.hp.frz i o y r b hy (hwb i hw) (hold hr).2
  · obtain ⟨hi, u, hu, k1⟩ := hvec i vc hx
    rw [k1.sh] at hq
    exact h.mem.hp.vfrz i u r b q hu (k1.wr hw) (hold hr).2 hq
  · obtain ⟨hi, u, hu, k1⟩ := hvec i vc hx
    have := h.mem.hp.vcap i u r b hu (k1.wr hw) (hold hr).2
    have hn := k1.n
    show vc.n.val ≤ ρ.cap i
    omega
  · rw [hlen]
    simp only [cutR, Bool.and_eq_true, decide_eq_true_eq] at hk
    exact hk.1
  · obtain ⟨hi, y, hy, _⟩ := hcell i o x hx
    exact h.mem.own.cell i o y r b hy (hwb i hw) (hold hr).2
  · obtain ⟨hi, u, hu, k1⟩ := hvec i vc hx
    rw [k1.sh] at hq
    exact h.mem.own.vec i u r b q hu (k1.wr hw) (hold hr).2 hq

section
variable {P : Program} {N : Nat}
/-- One way, to a state of slots, cells and rows, what was made on it forgotten. -/
theorem Run.toXC {Γ : List (Nat × Ctr)} (hΓ : Good P Γ) (hmo : P.follows .mixedOrders = true) (fuel : Nat) {c : Code} {S : St} (p : List Bool) {e : Ex} {fr : List AVal} {bs : List Blk} (he : ∀ v, e ≠ .panic v) (hS : S.hp.length ≤ bs.length) (h0 : isWay (wayO p S (Ab.ev P Γ N fuel c S Dl.nil)) = true)
    (hb : wBs (wayO p S (Ab.ev P Γ N fuel c S Dl.nil)) = p) (hn : wNd (wayO p S (Ab.ev P Γ N fuel c S Dl.nil)) = true) (hE : wE (wayO p S (Ab.ev P Γ N fuel c S Dl.nil)) = e)
    (hl : bs.length ≤ (wS (wayO p S (Ab.ev P Γ N fuel c S Dl.nil))).hp.length) (hg : GetEqU (wS (wayO p S (Ab.ev P Γ N fuel c S Dl.nil))) bs.length 0 fr) (hv : BlksLeU (wS (wayO p S (Ab.ev P Γ N fuel c S Dl.nil))) bs.length 0 bs)
    (hd : (wS (wayO p S (Ab.ev P Γ N fuel c S Dl.nil))).dfs = []) : Run P N c S (e, stC fr bs) := by
  have hr := Run.way hΓ hmo p h0 hb hn
  rw [hE] at hr
  intro n0 hn0 M w0 ρ a w Q hR hQ
  refine hr n0 hn0 M w0 ρ a w Q hR (fun ρ' a' w' ex hext hx hr' => ?_)
  refine hQ (cutR bs.length ρ') a' w' ex ?_ ?_ (rel_cutC hr' hl hg hv hd)
  · refine ⟨⟨fun i p hp => ?_, fun i hk => ?_⟩, fun i hi => ?_, fun i hi => ?_⟩
    · have := hR.mem.hp.dom i p hp
      obtain ⟨k1, k2⟩ := hext.1.at_ i p hp
      exact ⟨by simp only [cutR]; rw [if_pos (by omega)]; exact k1, k2⟩
    · have := hR.mem.hp.kdm i hk
      have k1 := hext.1.kn i hk
      simp only [cutR, Bool.and_eq_true, decide_eq_true_eq]
      exact ⟨by omega, k1⟩
    · simp only [cutR]; rw [if_pos (by omega)]; exact hext.2.1 i hi
    · have : decide (i < bs.length) = true := decide_eq_true (by omega)
      simp only [cutR, this, Bool.true_and]; exact hext.2.2 i hi
  · cases e with
    | panic v => exact (he v rfl).elim
    | _ => exact hx
end
end Go.Ab

namespace Go.Ab
open Go
set_option linter.unusedVariables false
/-! ### A step of a log, as one function of its words -/
noncomputable def g1 (g : Bool) (y : Nat) : Nat := cond (!g) 0 y
noncomputable def g2 (g : Bool) (y : Nat) : Nat := cond ((cond (!g) (4 : Int) 0) != 0) 0 y
theorem g12 {g : Bool} {y : Nat} (F : Bool → Nat) (h : g = true → y = F true) : g1 g y = g2 g (F g) := by
  cases g with
  | false => rfl
  | true => exact h rfl
noncomputable def f0W (h0 a t : Nat) : Nat := fop .mul .f32 (fop .mul .f32 1056964608 (fop .sub .f32 a h0)) t
/-- The words of a step: the layers, the heat, the steam, the fuel. By the program. -/
noncomputable def impL (ws : List Nat) (a x t : Nat) : List Nat := match ws with
  | [a0, a1, a2, a3, a4, a5, h0, h1, h2, h3, h4, h5, c0, c1, c2, c3, c4, c5] => [g1 (finF (f0W h0 a t)) (wetI a0 (hW (f0W h0 a t) (flw h0 h1 t) a0 h0 c0) t), g1 (finF (f0W h0 a t)) (wetI a1 (hW (flw h0 h1 t) (flw h1 h2 t) a1 h1 c1) t), g1 (finF (f0W h0 a t)) (wetI a2 (hW (flw h1 h2 t) (flw h2 h3 t) a2 h2 c2) t), g1 (finF (f0W h0 a t)) (wetI a3 (hW (flw h2 h3 t) (flw h3 h4 t) a3 h3 c3) t), g1 (finF (f0W h0 a t)) (wetI a4 (hW (flw h3 h4 t) (flw h4 h5 t) a4 h4 c4) t), g1 (finF (f0W h0 a t)) (wetI a5 (hW (flw h4 h5 t) 0 a5 h5 c5) t), g1 (finF (f0W h0 a t)) (iH a0 (hW (f0W h0 a t) (flw h0 h1 t) a0 h0 c0) c0 x t), g1 (finF (f0W h0 a t)) (iH a1 (hW (flw h0 h1 t) (flw h1 h2 t) a1 h1 c1) c1 x t), g1 (finF (f0W h0 a t)) (iH a2 (hW (flw h1 h2 t) (flw h2 h3 t) a2 h2 c2) c2 x t), g1 (finF (f0W h0 a t)) (iH a3 (hW (flw h2 h3 t) (flw h3 h4 t) a3 h3 c3) c3 x t), g1 (finF (f0W h0 a t)) (iH a4 (hW (flw h3 h4 t) (flw h4 h5 t) a4 h4 c4) c4 x t), g1 (finF (f0W h0 a t)) (iH a5 (hW (flw h4 h5 t) 0 a5 h5 c5) c5 x t), g1 (finF (f0W h0 a t)) (iC a0 (hW (f0W h0 a t) (flw h0 h1 t) a0 h0 c0) c0 x t), g1 (finF (f0W h0 a t)) (iC a1 (hW (flw h0 h1 t) (flw h1 h2 t) a1 h1 c1) c1 x t), g1 (finF (f0W h0 a t)) (iC a2 (hW (flw h1 h2 t) (flw h2 h3 t) a2 h2 c2) c2 x t), g1 (finF (f0W h0 a t)) (iC a3 (hW (flw h2 h3 t) (flw h3 h4 t) a3 h3 c3) c3 x t), g1 (finF (f0W h0 a t)) (iC a4 (hW (flw h3 h4 t) (flw h4 h5 t) a4 h4 c4) c4 x t), g1 (finF (f0W h0 a t)) (iC a5 (hW (flw h4 h5 t) 0 a5 h5 c5) c5 x t), g1 (finF (f0W h0 a t)) (fop .sub .f32 (iE (iE (iE (iE (iE (iE (0) a0 (hW (f0W h0 a t) (flw h0 h1 t) a0 h0 c0) c0 x t) a1 (hW (flw h0 h1 t) (flw h1 h2 t) a1 h1 c1) c1 x t) a2 (hW (flw h1 h2 t) (flw h2 h3 t) a2 h2 c2) c2 x t) a3 (hW (flw h2 h3 t) (flw h3 h4 t) a3 h3 c3) c3 x t) a4 (hW (flw h3 h4 t) (flw h4 h5 t) a4 h4 c4) c4 x t) a5 (hW (flw h4 h5 t) 0 a5 h5 c5) c5 x t) (f0W h0 a t)), g1 (finF (f0W h0 a t)) (sumI (sumI (sumI (sumI (sumI (sumI (0) a0 (hW (f0W h0 a t) (flw h0 h1 t) a0 h0 c0) t) a1 (hW (flw h0 h1 t) (flw h1 h2 t) a1 h1 c1) t) a2 (hW (flw h1 h2 t) (flw h2 h3 t) a2 h2 c2) t) a3 (hW (flw h2 h3 t) (flw h3 h4 t) a3 h3 c3) t) a4 (hW (flw h3 h4 t) (flw h4 h5 t) a4 h4 c4) t) a5 (hW (flw h4 h5 t) 0 a5 h5 c5) t), g1 (finF (f0W h0 a t)) (iB (iB (iB (iB (iB (iB (0) a0 (hW (f0W h0 a t) (flw h0 h1 t) a0 h0 c0) c0 x t) a1 (hW (flw h0 h1 t) (flw h1 h2 t) a1 h1 c1) c1 x t) a2 (hW (flw h1 h2 t) (flw h2 h3 t) a2 h2 c2) c2 x t) a3 (hW (flw h2 h3 t) (flw h3 h4 t) a3 h3 c3) c3 x t) a4 (hW (flw h3 h4 t) (flw h4 h5 t) a4 h4 c4) c4 x t) a5 (hW (flw h4 h5 t) 0 a5 h5 c5) c5 x t)]
  | _ => []
/-- By the model. -/
noncomputable def specL (ws : List Nat) (a x t : Nat) : List Nat := match ws with
  | [a0, a1, a2, a3, a4, a5, h0, h1, h2, h3, h4, h5, c0, c1, c2, c3, c4, c5] => [g2 (finF (f0W h0 a t)) (sA (finF (f0W h0 a t)) a0 (hW (f0W h0 a t) (flw h0 h1 t) a0 h0 c0) t), g2 (finF (f0W h0 a t)) (sA (finF (f0W h0 a t)) a1 (hW (flw h0 h1 t) (flw h1 h2 t) a1 h1 c1) t), g2 (finF (f0W h0 a t)) (sA (finF (f0W h0 a t)) a2 (hW (flw h1 h2 t) (flw h2 h3 t) a2 h2 c2) t), g2 (finF (f0W h0 a t)) (sA (finF (f0W h0 a t)) a3 (hW (flw h2 h3 t) (flw h3 h4 t) a3 h3 c3) t), g2 (finF (f0W h0 a t)) (sA (finF (f0W h0 a t)) a4 (hW (flw h3 h4 t) (flw h4 h5 t) a4 h4 c4) t), g2 (finF (f0W h0 a t)) (sA (finF (f0W h0 a t)) a5 (hW (flw h4 h5 t) 0 a5 h5 c5) t), g2 (finF (f0W h0 a t)) (sH (finF (f0W h0 a t)) a0 (hW (f0W h0 a t) (flw h0 h1 t) a0 h0 c0) c0 x t), g2 (finF (f0W h0 a t)) (sH (finF (f0W h0 a t)) a1 (hW (flw h0 h1 t) (flw h1 h2 t) a1 h1 c1) c1 x t), g2 (finF (f0W h0 a t)) (sH (finF (f0W h0 a t)) a2 (hW (flw h1 h2 t) (flw h2 h3 t) a2 h2 c2) c2 x t), g2 (finF (f0W h0 a t)) (sH (finF (f0W h0 a t)) a3 (hW (flw h2 h3 t) (flw h3 h4 t) a3 h3 c3) c3 x t), g2 (finF (f0W h0 a t)) (sH (finF (f0W h0 a t)) a4 (hW (flw h3 h4 t) (flw h4 h5 t) a4 h4 c4) c4 x t), g2 (finF (f0W h0 a t)) (sH (finF (f0W h0 a t)) a5 (hW (flw h4 h5 t) 0 a5 h5 c5) c5 x t), g2 (finF (f0W h0 a t)) (sC (finF (f0W h0 a t)) a0 (hW (f0W h0 a t) (flw h0 h1 t) a0 h0 c0) c0 x t), g2 (finF (f0W h0 a t)) (sC (finF (f0W h0 a t)) a1 (hW (flw h0 h1 t) (flw h1 h2 t) a1 h1 c1) c1 x t), g2 (finF (f0W h0 a t)) (sC (finF (f0W h0 a t)) a2 (hW (flw h1 h2 t) (flw h2 h3 t) a2 h2 c2) c2 x t), g2 (finF (f0W h0 a t)) (sC (finF (f0W h0 a t)) a3 (hW (flw h2 h3 t) (flw h3 h4 t) a3 h3 c3) c3 x t), g2 (finF (f0W h0 a t)) (sC (finF (f0W h0 a t)) a4 (hW (flw h3 h4 t) (flw h4 h5 t) a4 h4 c4) c4 x t), g2 (finF (f0W h0 a t)) (sC (finF (f0W h0 a t)) a5 (hW (flw h4 h5 t) 0 a5 h5 c5) c5 x t), g2 (finF (f0W h0 a t)) (fop .sub .f32 (fop .add .f32 (fop .add .f32 (fop .add .f32 (fop .add .f32 (fop .add .f32 (fop .mul .f32 1167867904 (sB (finF (f0W h0 a t)) a0 (hW (f0W h0 a t) (flw h0 h1 t) a0 h0 c0) c0 x t)) (fop .mul .f32 1167867904 (sB (finF (f0W h0 a t)) a1 (hW (flw h0 h1 t) (flw h1 h2 t) a1 h1 c1) c1 x t))) (fop .mul .f32 1167867904 (sB (finF (f0W h0 a t)) a2 (hW (flw h1 h2 t) (flw h2 h3 t) a2 h2 c2) c2 x t))) (fop .mul .f32 1167867904 (sB (finF (f0W h0 a t)) a3 (hW (flw h2 h3 t) (flw h3 h4 t) a3 h3 c3) c3 x t))) (fop .mul .f32 1167867904 (sB (finF (f0W h0 a t)) a4 (hW (flw h3 h4 t) (flw h4 h5 t) a4 h4 c4) c4 x t))) (fop .mul .f32 1167867904 (sB (finF (f0W h0 a t)) a5 (hW (flw h4 h5 t) 0 a5 h5 c5) c5 x t))) (gv (finF (f0W h0 a t)) (f0W h0 a t))), g2 (finF (f0W h0 a t)) (fop .add .f32 (fop .add .f32 (fop .add .f32 (fop .add .f32 (fop .add .f32 (sD (finF (f0W h0 a t)) a0 (hW (f0W h0 a t) (flw h0 h1 t) a0 h0 c0) t) (sD (finF (f0W h0 a t)) a1 (hW (flw h0 h1 t) (flw h1 h2 t) a1 h1 c1) t)) (sD (finF (f0W h0 a t)) a2 (hW (flw h1 h2 t) (flw h2 h3 t) a2 h2 c2) t)) (sD (finF (f0W h0 a t)) a3 (hW (flw h2 h3 t) (flw h3 h4 t) a3 h3 c3) t)) (sD (finF (f0W h0 a t)) a4 (hW (flw h3 h4 t) (flw h4 h5 t) a4 h4 c4) t)) (sD (finF (f0W h0 a t)) a5 (hW (flw h4 h5 t) 0 a5 h5 c5) t)), g2 (finF (f0W h0 a t)) (fop .add .f32 (fop .add .f32 (fop .add .f32 (fop .add .f32 (fop .add .f32 (sB (finF (f0W h0 a t)) a0 (hW (f0W h0 a t) (flw h0 h1 t) a0 h0 c0) c0 x t) (sB (finF (f0W h0 a t)) a1 (hW (flw h0 h1 t) (flw h1 h2 t) a1 h1 c1) c1 x t)) (sB (finF (f0W h0 a t)) a2 (hW (flw h1 h2 t) (flw h2 h3 t) a2 h2 c2) c2 x t)) (sB (finF (f0W h0 a t)) a3 (hW (flw h2 h3 t) (flw h3 h4 t) a3 h3 c3) c3 x t)) (sB (finF (f0W h0 a t)) a4 (hW (flw h3 h4 t) (flw h4 h5 t) a4 h4 c4) c4 x t)) (sB (finF (f0W h0 a t)) a5 (hW (flw h4 h5 t) 0 a5 h5 c5) c5 x t))]
  | _ => []
/-- Whether a step can be made. -/
noncomputable def okG (ws : List Nat) (a t : Nat) : Bool := match ws with
  | [a0, a1, a2, a3, a4, a5, h0, h1, h2, h3, h4, h5, c0, c1, c2, c3, c4, c5] => (finF (f0W h0 a t))
  | _ => false
def nthN : Nat → List Nat → Nat
  | _, [] => 0
  | 0, y :: _ => y
  | n + 1, _ :: r => nthN n r
/-- All layers are valid. -/
def Lg (ws : List Nat) : Prop := match ws with
  | [a0, a1, a2, a3, a4, a5, h0, h1, h2, h3, h4, h5, c0, c1, c2, c3, c4, c5] => LayS a0 h0 c0 ∧ LayS a1 h1 c1 ∧ LayS a2 h2 c2 ∧ LayS a3 h3 c3 ∧ LayS a4 h4 c4 ∧ LayS a5 h5 c5
  | _ => False
theorem warm_layS {a0 a1 a2 a3 a4 a5 h0 h1 h2 h3 h4 h5 c0 c1 c2 c3 c4 c5 a t : Nat} (ht : t ≤ 1065353216) (hg : finF (f0W h0 a t) = true) (L0 : LayS a0 h0 c0) (L1 : LayS a1 h1 c1) (L2 : LayS a2 h2 c2) (L3 : LayS a3 h3 c3) (L4 : LayS a4 h4 c4) (L5 : LayS a5 h5 c5) :
    LayS a0 (hW (f0W h0 a t) (flw h0 h1 t) a0 h0 c0) c0 ∧ LayS a1 (hW (flw h0 h1 t) (flw h1 h2 t) a1 h1 c1) c1 ∧ LayS a2 (hW (flw h1 h2 t) (flw h2 h3 t) a2 h2 c2) c2 ∧ LayS a3 (hW (flw h2 h3 t) (flw h3 h4 t) a3 h3 c3) c3 ∧ LayS a4 (hW (flw h3 h4 t) (flw h4 h5 t) a4 h4 c4) c4 ∧ LayS a5 (hW (flw h4 h5 t) 0 a5 h5 c5) c5 := by
  have k0 := fin_size hg
  have k1 := flw_fin L0.siz L1.siz ht
  have k2 := flw_fin L1.siz L2.siz ht
  have k3 := flw_fin L2.siz L3.siz ht
  have k4 := flw_fin L3.siz L4.siz ht
  have k5 := flw_fin L4.siz L5.siz ht
  have n1 := fin_nan k1
  have n2 := fin_nan k2
  have n3 := fin_nan k3
  have n4 := fin_nan k4
  have n5 := fin_nan k5
  have n6 : nanB .f32 0 = false := nanp (by decide)
  exact ⟨lays_warm L0.lay (sub_num2 k0 n1), lays_warm L1.lay (sub_num2 k1 n2), lays_warm L2.lay (sub_num2 k2 n3), lays_warm L3.lay (sub_num2 k3 n4), lays_warm L4.lay (sub_num2 k4 n5), lays_warm L5.lay (sub_num2 k5 n6)⟩

/-- The program and the model make the same step of a valid log. -/
theorem step_eq {ws : List Nat} {a x t : Nat} (L : Lg ws) (hx : x ≤ 1065353216) (ht : t ≤ 1065353216) : impL ws a x t = specL ws a x t := by
  unfold Lg at L
  split at L
  · rename_i a0 a1 a2 a3 a4 a5 h0 h1 h2 h3 h4 h5 c0 c1 c2 c3 c4 c5
    obtain ⟨l0, l1, l2, l3, l4, l5⟩ := L
    have hLW := fun (hg : (finF (f0W h0 a t)) = true) => (by
      obtain ⟨w0, w1, w2, w3, w4, w5⟩ := warm_layS ht hg l0 l1 l2 l3 l4 l5
      exact ⟨w0.lay, w1.lay, w2.lay, w3.lay, w4.lay, w5.lay⟩ : Lay a0 (hW (f0W h0 a t) (flw h0 h1 t) a0 h0 c0) c0 ∧ Lay a1 (hW (flw h0 h1 t) (flw h1 h2 t) a1 h1 c1) c1 ∧ Lay a2 (hW (flw h1 h2 t) (flw h2 h3 t) a2 h2 c2) c2 ∧ Lay a3 (hW (flw h2 h3 t) (flw h3 h4 t) a3 h3 c3) c3 ∧ Lay a4 (hW (flw h3 h4 t) (flw h4 h5 t) a4 h4 c4) c4 ∧ Lay a5 (hW (flw h4 h5 t) 0 a5 h5 c5) c5)
    exact (cons_eq (g12 (fun gg => sA gg a0 (hW (f0W h0 a t) (flw h0 h1 t) a0 h0 c0) t) (fun hg => by obtain ⟨L0, L1, L2, L3, L4, L5⟩ := hLW hg; exact wet3 L0 ht)) (cons_eq (g12 (fun gg => sA gg a1 (hW (flw h0 h1 t) (flw h1 h2 t) a1 h1 c1) t) (fun hg => by obtain ⟨L0, L1, L2, L3, L4, L5⟩ := hLW hg; exact wet3 L1 ht)) (cons_eq (g12 (fun gg => sA gg a2 (hW (flw h1 h2 t) (flw h2 h3 t) a2 h2 c2) t) (fun hg => by obtain ⟨L0, L1, L2, L3, L4, L5⟩ := hLW hg; exact wet3 L2 ht)) (cons_eq (g12 (fun gg => sA gg a3 (hW (flw h2 h3 t) (flw h3 h4 t) a3 h3 c3) t) (fun hg => by obtain ⟨L0, L1, L2, L3, L4, L5⟩ := hLW hg; exact wet3 L3 ht)) (cons_eq (g12 (fun gg => sA gg a4 (hW (flw h3 h4 t) (flw h4 h5 t) a4 h4 c4) t) (fun hg => by obtain ⟨L0, L1, L2, L3, L4, L5⟩ := hLW hg; exact wet3 L4 ht)) (cons_eq (g12 (fun gg => sA gg a5 (hW (flw h4 h5 t) 0 a5 h5 c5) t) (fun hg => by obtain ⟨L0, L1, L2, L3, L4, L5⟩ := hLW hg; exact wet3 L5 ht)) (cons_eq (g12 (fun gg => sH gg a0 (hW (f0W h0 a t) (flw h0 h1 t) a0 h0 c0) c0 x t) (fun hg => by obtain ⟨L0, L1, L2, L3, L4, L5⟩ := hLW hg; exact heat3 L0 hx ht)) (cons_eq (g12 (fun gg => sH gg a1 (hW (flw h0 h1 t) (flw h1 h2 t) a1 h1 c1) c1 x t) (fun hg => by obtain ⟨L0, L1, L2, L3, L4, L5⟩ := hLW hg; exact heat3 L1 hx ht)) (cons_eq (g12 (fun gg => sH gg a2 (hW (flw h1 h2 t) (flw h2 h3 t) a2 h2 c2) c2 x t) (fun hg => by obtain ⟨L0, L1, L2, L3, L4, L5⟩ := hLW hg; exact heat3 L2 hx ht)) (cons_eq (g12 (fun gg => sH gg a3 (hW (flw h2 h3 t) (flw h3 h4 t) a3 h3 c3) c3 x t) (fun hg => by obtain ⟨L0, L1, L2, L3, L4, L5⟩ := hLW hg; exact heat3 L3 hx ht)) (cons_eq (g12 (fun gg => sH gg a4 (hW (flw h3 h4 t) (flw h4 h5 t) a4 h4 c4) c4 x t) (fun hg => by obtain ⟨L0, L1, L2, L3, L4, L5⟩ := hLW hg; exact heat3 L4 hx ht)) (cons_eq (g12 (fun gg => sH gg a5 (hW (flw h4 h5 t) 0 a5 h5 c5) c5 x t) (fun hg => by obtain ⟨L0, L1, L2, L3, L4, L5⟩ := hLW hg; exact heat3 L5 hx ht)) (cons_eq (g12 (fun gg => sC gg a0 (hW (f0W h0 a t) (flw h0 h1 t) a0 h0 c0) c0 x t) (fun hg => by obtain ⟨L0, L1, L2, L3, L4, L5⟩ := hLW hg; exact fuel3 L0 hx ht)) (cons_eq (g12 (fun gg => sC gg a1 (hW (flw h0 h1 t) (flw h1 h2 t) a1 h1 c1) c1 x t) (fun hg => by obtain ⟨L0, L1, L2, L3, L4, L5⟩ := hLW hg; exact fuel3 L1 hx ht)) (cons_eq (g12 (fun gg => sC gg a2 (hW (flw h1 h2 t) (flw h2 h3 t) a2 h2 c2) c2 x t) (fun hg => by obtain ⟨L0, L1, L2, L3, L4, L5⟩ := hLW hg; exact fuel3 L2 hx ht)) (cons_eq (g12 (fun gg => sC gg a3 (hW (flw h2 h3 t) (flw h3 h4 t) a3 h3 c3) c3 x t) (fun hg => by obtain ⟨L0, L1, L2, L3, L4, L5⟩ := hLW hg; exact fuel3 L3 hx ht)) (cons_eq (g12 (fun gg => sC gg a4 (hW (flw h3 h4 t) (flw h4 h5 t) a4 h4 c4) c4 x t) (fun hg => by obtain ⟨L0, L1, L2, L3, L4, L5⟩ := hLW hg; exact fuel3 L4 hx ht)) (cons_eq (g12 (fun gg => sC gg a5 (hW (flw h4 h5 t) 0 a5 h5 c5) c5 x t) (fun hg => by obtain ⟨L0, L1, L2, L3, L4, L5⟩ := hLW hg; exact fuel3 L5 hx ht)) (cons_eq (g12 (fun gg => fop .sub .f32 (fop .add .f32 (fop .add .f32 (fop .add .f32 (fop .add .f32 (fop .add .f32 (fop .mul .f32 1167867904 (sB gg a0 (hW (f0W h0 a t) (flw h0 h1 t) a0 h0 c0) c0 x t)) (fop .mul .f32 1167867904 (sB gg a1 (hW (flw h0 h1 t) (flw h1 h2 t) a1 h1 c1) c1 x t))) (fop .mul .f32 1167867904 (sB gg a2 (hW (flw h1 h2 t) (flw h2 h3 t) a2 h2 c2) c2 x t))) (fop .mul .f32 1167867904 (sB gg a3 (hW (flw h2 h3 t) (flw h3 h4 t) a3 h3 c3) c3 x t))) (fop .mul .f32 1167867904 (sB gg a4 (hW (flw h3 h4 t) (flw h4 h5 t) a4 h4 c4) c4 x t))) (fop .mul .f32 1167867904 (sB gg a5 (hW (flw h4 h5 t) 0 a5 h5 c5) c5 x t))) (gv gg (f0W h0 a t))) (fun hg => by obtain ⟨L0, L1, L2, L3, L4, L5⟩ := hLW hg; exact by rw [energy3 hx ht L0 L1 L2 L3 L4 L5]; rfl)) (cons_eq (g12 (fun gg => fop .add .f32 (fop .add .f32 (fop .add .f32 (fop .add .f32 (fop .add .f32 (sD gg a0 (hW (f0W h0 a t) (flw h0 h1 t) a0 h0 c0) t) (sD gg a1 (hW (flw h0 h1 t) (flw h1 h2 t) a1 h1 c1) t)) (sD gg a2 (hW (flw h1 h2 t) (flw h2 h3 t) a2 h2 c2) t)) (sD gg a3 (hW (flw h2 h3 t) (flw h3 h4 t) a3 h3 c3) t)) (sD gg a4 (hW (flw h3 h4 t) (flw h4 h5 t) a4 h4 c4) t)) (sD gg a5 (hW (flw h4 h5 t) 0 a5 h5 c5) t)) (fun hg => by obtain ⟨L0, L1, L2, L3, L4, L5⟩ := hLW hg; exact steam3 ht L0 L1 L2 L3 L4 L5)) (cons_eq (g12 (fun gg => fop .add .f32 (fop .add .f32 (fop .add .f32 (fop .add .f32 (fop .add .f32 (sB gg a0 (hW (f0W h0 a t) (flw h0 h1 t) a0 h0 c0) c0 x t) (sB gg a1 (hW (flw h0 h1 t) (flw h1 h2 t) a1 h1 c1) c1 x t)) (sB gg a2 (hW (flw h1 h2 t) (flw h2 h3 t) a2 h2 c2) c2 x t)) (sB gg a3 (hW (flw h2 h3 t) (flw h3 h4 t) a3 h3 c3) c3 x t)) (sB gg a4 (hW (flw h3 h4 t) (flw h4 h5 t) a4 h4 c4) c4 x t)) (sB gg a5 (hW (flw h4 h5 t) 0 a5 h5 c5) c5 x t)) (fun hg => by obtain ⟨L0, L1, L2, L3, L4, L5⟩ := hLW hg; exact burn3 hx ht L0 L1 L2 L3 L4 L5)) rfl)))))))))))))))))))))
  · exact L.elim

/-- It leaves a valid log. -/
theorem step_lay {ws : List Nat} {a x t : Nat} (L : Lg ws) (hx : x ≤ 1065353216) (ht : t ≤ 1065353216) (hg : okG ws a t = true) : Lg ((specL ws a x t).take 18) := by
  unfold Lg at L
  split at L
  · rename_i a0 a1 a2 a3 a4 a5 h0 h1 h2 h3 h4 h5 c0 c1 c2 c3 c4 c5
    obtain ⟨l0, l1, l2, l3, l4, l5⟩ := L
    have hg : (finF (f0W h0 a t)) = true := hg
    obtain ⟨w0, w1, w2, w3, w4, w5⟩ := warm_layS ht hg l0 l1 l2 l3 l4 l5
    have key : LayS (sA true a0 (hW (f0W h0 a t) (flw h0 h1 t) a0 h0 c0) t) (sH true a0 (hW (f0W h0 a t) (flw h0 h1 t) a0 h0 c0) c0 x t) (sC true a0 (hW (f0W h0 a t) (flw h0 h1 t) a0 h0 c0) c0 x t) ∧ LayS (sA true a1 (hW (flw h0 h1 t) (flw h1 h2 t) a1 h1 c1) t) (sH true a1 (hW (flw h0 h1 t) (flw h1 h2 t) a1 h1 c1) c1 x t) (sC true a1 (hW (flw h0 h1 t) (flw h1 h2 t) a1 h1 c1) c1 x t) ∧ LayS (sA true a2 (hW (flw h1 h2 t) (flw h2 h3 t) a2 h2 c2) t) (sH true a2 (hW (flw h1 h2 t) (flw h2 h3 t) a2 h2 c2) c2 x t) (sC true a2 (hW (flw h1 h2 t) (flw h2 h3 t) a2 h2 c2) c2 x t) ∧ LayS (sA true a3 (hW (flw h2 h3 t) (flw h3 h4 t) a3 h3 c3) t) (sH true a3 (hW (flw h2 h3 t) (flw h3 h4 t) a3 h3 c3) c3 x t) (sC true a3 (hW (flw h2 h3 t) (flw h3 h4 t) a3 h3 c3) c3 x t) ∧ LayS (sA true a4 (hW (flw h3 h4 t) (flw h4 h5 t) a4 h4 c4) t) (sH true a4 (hW (flw h3 h4 t) (flw h4 h5 t) a4 h4 c4) c4 x t) (sC true a4 (hW (flw h3 h4 t) (flw h4 h5 t) a4 h4 c4) c4 x t) ∧ LayS (sA true a5 (hW (flw h4 h5 t) 0 a5 h5 c5) t) (sH true a5 (hW (flw h4 h5 t) 0 a5 h5 c5) c5 x t) (sC true a5 (hW (flw h4 h5 t) 0 a5 h5 c5) c5 x t) := ⟨lays_step w0 hx ht, lays_step w1 hx ht, lays_step w2 hx ht, lays_step w3 hx ht, lays_step w4 hx ht, lays_step w5 hx ht⟩
    unfold specL
    simp only [hg]
    exact key
  · exact L.elim

/-! ### The same, by names that are not looked into -/
theorem stpI_ex : ∃ f : List Nat → Nat → Nat → Nat → Nat → Nat, f = fun ws a x t j => nthN j (impL ws a x t) := ⟨_, rfl⟩
noncomputable def stpI : List Nat → Nat → Nat → Nat → Nat → Nat := Classical.choose stpI_ex
theorem stpI_eq : stpI = fun ws a x t j => nthN j (impL ws a x t) := Classical.choose_spec stpI_ex
theorem stpS_ex : ∃ f : List Nat → Nat → Nat → Nat → Nat → Nat, f = fun ws a x t j => nthN j (specL ws a x t) := ⟨_, rfl⟩
noncomputable def stpS : List Nat → Nat → Nat → Nat → Nat → Nat := Classical.choose stpS_ex
theorem stpS_eq : stpS = fun ws a x t j => nthN j (specL ws a x t) := Classical.choose_spec stpS_ex
theorem stG_ex : ∃ f : List Nat → Nat → Nat → Bool, f = okG := ⟨_, rfl⟩
noncomputable def stG : List Nat → Nat → Nat → Bool := Classical.choose stG_ex
theorem stG_eq : stG = okG := Classical.choose_spec stG_ex
noncomputable def stOut (f : Nat → Nat) (c : Int) : AVal := .tuple [.agg [.flt .f32 (f 0), .flt .f32 (f 1), .flt .f32 (f 2), .flt .f32 (f 3), .flt .f32 (f 4), .flt .f32 (f 5), .flt .f32 (f 6), .flt .f32 (f 7), .flt .f32 (f 8), .flt .f32 (f 9), .flt .f32 (f 10), .flt .f32 (f 11), .flt .f32 (f 12), .flt .f32 (f 13), .flt .f32 (f 14), .flt .f32 (f 15), .flt .f32 (f 16), .flt .f32 (f 17)], .flt .f32 (f 18), .flt .f32 (f 19), .flt .f32 (f 20), .sint .i64 c]
theorem co4 (g : Bool) : (cond ((cond (!g) (4 : Int) 0) != 0) (cond (!g) 4 0) 0 : Int) = cond (!g) 4 0 := by cases g <;> rfl
/-- What a step answers. -/
noncomputable def stpIv (ws : List Nat) (a x t : Nat) : AVal := stOut (stpI ws a x t) (cond (!stG ws a t) 4 0)
noncomputable def stpSv (ws : List Nat) (a x t : Nat) : AVal := stOut (stpS ws a x t) (cond (!stG ws a t) 4 0)
noncomputable def stpSr (ws : List Nat) (a x t : Nat) : AVal := stOut (stpS ws a x t) (cond ((cond (!stG ws a t) (4 : Int) 0) != 0) (cond (!stG ws a t) 4 0) 0)
theorem stpS_raw (ws : List Nat) (a x t : Nat) : stpSv ws a x t = stpSr ws a x t := by unfold stpSv stpSr; rw [co4]
/-- The layers behind a step. -/
def lay18 (f : Nat → Nat) : List Nat := [f 0, f 1, f 2, f 3, f 4, f 5, f 6, f 7, f 8, f 9, f 10, f 11, f 12, f 13, f 14, f 15, f 16, f 17]
theorem stp_same {ws : List Nat} {a x t : Nat} (L : Lg ws) (hx : x ≤ 1065353216) (ht : t ≤ 1065353216) : stpI ws a x t = stpS ws a x t := by
  rw [stpI_eq, stpS_eq]; simp only [step_eq L hx ht]
theorem stp_lay {ws : List Nat} {a x t : Nat} (L : Lg ws) (hx : x ≤ 1065353216) (ht : t ≤ 1065353216) (hg : stG ws a t = true) : Lg (lay18 (stpS ws a x t)) := by
  rw [stG_eq] at hg
  have h := step_lay (x := x) L hx ht hg
  have e : lay18 (stpS ws a x t) = (specL ws a x t).take 18 := by
    rw [stpS_eq]
    unfold Lg at L
    split at L
    · rfl
    · exact L.elim
  rw [e]; exact h

/-! ### Contracts -/
section
variable {P : Program}
/-- Of a log and three numbers. -/
def ctrW4 (g : List Nat → Nat → Nat → Nat → AVal) : Ctr := ⟨fun args _ => match args with | [.agg l, .flt .f32 a, .flt .f32 x, .flt .f32 t] => (match decN 18 l with | some ns => some ⟨g ns a x t, [], [], [], true, none⟩ | none => none) | _ => none, none⟩
theorem satW4 {Γ : List (Nat × Ctr)} (hΓ : Good P Γ) (hm : P.follows .mixedOrders = true) {f : FuncId} {fn : Func} (hf : P.funcs[f]? = some fn)
    (hcall : ∀ (args : Array Value) (w : World), (callFunc f args).run P w = .ok (.enter f args) w) {g : List Nat → Nat → Nat → Nat → AVal} (fuel : Nat) (nd : List Nat → Nat → Nat → Nat → Bool)
    (he : ∀ ns a x t, ns.length = 18 → evBody P Γ fuel fn [.agg (encF ns), .flt .f32 a, .flt .f32 x, .flt .f32 t] St0 = some ⟨g ns a x t, [], [], [], nd ns a x t, none⟩) (hn : ∀ ns a x t, ns.length = 18 → nd ns a x t = true) (hfl : ∀ ns a x t, (g ns a x t).flat = true := by intros; rfl) : Sat P f (ctrW4 g) :=
  sat_flatN hΓ hm hf hcall (fun args S out hfn _ => by
    simp only [ctrW4] at hfn
    split at hfn
    · rename_i l a x t
      split at hfn
      · rename_i ns hd
        obtain ⟨rfl, hl⟩ := decN_spec hd
        cases hfn
        refine ⟨?_, fuel, g ns a x t, nd ns a x t, he ns a x t hl, hn ns a x t hl, hfl ns a x t, rfl⟩
        simp only [AVal.flat.flatL, AVal.flat, encF_flat]
      · cases hfn
    · cases hfn) rfl
/-- Of a log that is pointed to, and three numbers. -/
def ctrWp4 (g : List Nat → Nat → Nat → Nat → AVal) : Ctr := ⟨fun args S => match args with | [.ptr i o, .flt .f32 a, .flt .f32 x, .flt .f32 t] => (match S.cellsAt i o 18 with | some l => (match decN 18 l with | some ns => some ⟨g ns a x t, [], [], [], true, none⟩ | none => none) | none => none) | _ => none, none⟩
theorem satWp4 {Γ : List (Nat × Ctr)} (hΓ : Good P Γ) (hm : P.follows .mixedOrders = true) {f : FuncId} {fn : Func} (hf : P.funcs[f]? = some fn)
    (hcall : ∀ (args : Array Value) (w : World), (callFunc f args).run P w = .ok (.enter f args) w) {g : List Nat → Nat → Nat → Nat → AVal} (fuel : Nat) (nd : List Nat → Nat → Nat → Nat → Bool)
    (he : ∀ ns a x t, ns.length = 18 → evBody P Γ fuel fn [.ptr 0 0, .flt .f32 a, .flt .f32 x, .flt .f32 t] (St1 (encF ns)) = some ⟨g ns a x t, [], [], [], nd ns a x t, none⟩) (hn : ∀ ns a x t, ns.length = 18 → nd ns a x t = true) (hfl : ∀ ns a x t, (g ns a x t).flat = true := by intros; rfl) : Sat P f (ctrWp4 g) :=
  sat_viewN (n := 18) hΓ hm hf hcall (fun args S out hfn _ => by
    simp only [ctrWp4] at hfn
    split at hfn
    · rename_i i o a x t
      split at hfn
      · rename_i l hc
        split at hfn
        · rename_i ns hd
          obtain ⟨rfl, hl⟩ := decN_spec hd
          cases hfn
          exact ⟨i, o, _, [.flt .f32 a, .flt .f32 x, .flt .f32 t], rfl, rfl, hc, encF_flat ns, fuel, _, _, he ns a x t hl, hn ns a x t hl, hfl ns a x t, rfl⟩
        · cases hfn
      · cases hfn
    · cases hfn) rfl
end
end Go.Ab


namespace Go.Ab
open Go Go.RowKit
set_option linter.unusedVariables false
/-! ### Steps one after the other -/
noncomputable def wsI (f : List Nat → Nat → Nat) (w : Nat → Nat) : Nat → Nat → Nat
  | 0 => w
  | k + 1 => f (lay18 (wsI f w k))
/-- The sums of one output. -/
noncomputable def acI (f : List Nat → Nat → Nat) (w : Nat → Nat) (r : Nat) : Nat → Nat
  | 0 => 0
  | k + 1 => fop .add .f32 (acI f w r k) (f (lay18 (wsI f w k)) r)
noncomputable def okI (g : List Nat → Bool) (f : List Nat → Nat → Nat) (w : Nat → Nat) (k : Nat) : Bool := g (lay18 (wsI f w k))
/-- What several steps answer, behind their checks. -/
noncomputable def lgV (z : Bool) (c : Int) (bad : Bool) (w : Nat → Nat) (s u : Nat) : AVal :=
  .tuple [.agg [.flt .f32 (cond z 0 (cond bad 0 (w 0))), .flt .f32 (cond z 0 (cond bad 0 (w 1))), .flt .f32 (cond z 0 (cond bad 0 (w 2))), .flt .f32 (cond z 0 (cond bad 0 (w 3))), .flt .f32 (cond z 0 (cond bad 0 (w 4))), .flt .f32 (cond z 0 (cond bad 0 (w 5))),
    .flt .f32 (cond z 0 (cond bad 0 (w 6))), .flt .f32 (cond z 0 (cond bad 0 (w 7))), .flt .f32 (cond z 0 (cond bad 0 (w 8))), .flt .f32 (cond z 0 (cond bad 0 (w 9))), .flt .f32 (cond z 0 (cond bad 0 (w 10))), .flt .f32 (cond z 0 (cond bad 0 (w 11))),
    .flt .f32 (cond z 0 (cond bad 0 (w 12))), .flt .f32 (cond z 0 (cond bad 0 (w 13))), .flt .f32 (cond z 0 (cond bad 0 (w 14))), .flt .f32 (cond z 0 (cond bad 0 (w 15))), .flt .f32 (cond z 0 (cond bad 0 (w 16))), .flt .f32 (cond z 0 (cond bad 0 (w 17)))],
    .flt .f32 (cond z 0 (cond bad 0 s)), .flt .f32 (cond z 0 (cond bad 0 u)), .sint .i64 (cond z c (cond bad 4 0))]
noncomputable def lgA (f : List Nat → Nat → Nat) (g : List Nat → Bool) (w : Nat → Nat) (k : Int) (c : Int) : AVal :=
  lgV (c != 0) c (!allB k.toNat (okI g f w)) (wsI f w k.toNat) (acI f w 19 k.toNat) (acI f w 20 k.toNat)

/-- What is so as long as all steps can be made. -/
theorem lg_same {f f' : List Nat → Nat → Nat} {g : List Nat → Bool} {I : List Nat → Prop} (hs : ∀ l, I l → f l = f' l) (hn : ∀ l, I l → g l = true → I (lay18 (f' l))) {w : Nat → Nat} (h0 : I (lay18 w)) :
    ∀ j, (∀ i, i < j → okI g f' w i = true) → I (lay18 (wsI f' w j)) ∧ wsI f w j = wsI f' w j ∧ ∀ r, acI f w r j = acI f' w r j
  | 0, _ => ⟨h0, rfl, fun _ => rfl⟩
  | j + 1, h => by
    obtain ⟨h1, h2, h3⟩ := lg_same hs hn h0 j (fun i hi => h i (by omega))
    have hk := h j (by omega)
    refine ⟨hn _ h1 hk, ?_, fun r => ?_⟩
    · show f (lay18 (wsI f w j)) = f' (lay18 (wsI f' w j))
      rw [h2, hs _ h1]
    · show fop .add .f32 (acI f w r j) (f (lay18 (wsI f w j)) r) = fop .add .f32 (acI f' w r j) (f' (lay18 (wsI f' w j)) r)
      rw [h3 r, h2, hs _ h1]

theorem lg_all {f f' : List Nat → Nat → Nat} {g : List Nat → Bool} {I : List Nat → Prop} (hs : ∀ l, I l → f l = f' l) (hn : ∀ l, I l → g l = true → I (lay18 (f' l))) {w : Nat → Nat} (h0 : I (lay18 w)) (n : Nat) :
    allB n (okI g f w) = allB n (okI g f' w) := by
  have key : ∀ j, (∀ i, i < j → okI g f' w i = true) → okI g f w j = okI g f' w j := fun j h => by
    unfold okI; rw [(lg_same hs hn h0 j h).2.1]
  induction n with
  | zero => rfl
  | succ n ih =>
    simp only [allB, ih]
    cases h : allB n (okI g f' w) with
    | false => rfl
    | true => rw [key n (allB_true h)]

theorem lgA_same {f f' : List Nat → Nat → Nat} {g : List Nat → Bool} {I : List Nat → Prop} (hs : ∀ l, I l → f l = f' l) (hn : ∀ l, I l → g l = true → I (lay18 (f' l))) {w : Nat → Nat} {c : Int} (h0 : c = 0 → I (lay18 w)) (k : Int) :
    lgA f g w k c = lgA f' g w k c := by
  unfold lgA
  by_cases hc : c = 0
  · have h0 := h0 hc
    rw [lg_all hs hn h0]
    cases h : allB k.toNat (okI g f' w) with
    | false => subst hc; rfl
    | true =>
      obtain ⟨_, h2, h3⟩ := lg_same hs hn h0 k.toNat (allB_true h)
      rw [h2, h3, h3]
  · have : (c != 0) = true := by simp [hc]
    rw [this]; rfl

theorem cellLeU_of {S : St} {n i : Nat} : ∀ (cs : List AVal) (o : Nat), S.cellsAt i o cs.length = some cs → AVal.under.underL n cs = true → CellLeU S n i o cs
  | [], _, _, _ => trivial
  | x :: r, o, h, hu => by
    simp only [List.length_cons, St.cellsAt] at h
    split at h
    · rename_i v hv
      split at h
      · rename_i l hl
        cases h
        simp only [AVal.under.underL] at hu
        split at hu
        · rename_i hx
          exact ⟨⟨x, hv, hx, fun _ _ h => h⟩, cellLeU_of r (o + 1) hl hu⟩
        · cases hu
      · cases h
    · cases h
theorem blkLeU_of {S : St} {n i : Nat} {b : Blk} (h : S.cellsAt i 0 b.cells.length = some b.cells) (hu : AVal.under.underL n b.cells = true) (hw : b.wr = true → (S.blk i).wr = true) (hc : b.cells ≠ []) : BlkLeU S n i b := ⟨cellLeU_of _ 0 h hu, hw, fun e => (hc e).elim⟩
theorem cellLe_of {S : St} {i : Nat} : ∀ (cs : List AVal) (o : Nat), S.cellsAt i o cs.length = some cs → CellLe S i o cs
  | [], _, _ => trivial
  | x :: r, o, h => by
    simp only [List.length_cons, St.cellsAt] at h
    split at h
    · rename_i v hv
      split at h
      · rename_i l hl
        cases h
        exact ⟨⟨x, hv, fun _ _ h => h⟩, cellLe_of r (o + 1) hl⟩
      · cases h
    · cases h
theorem blkLe_of {S : St} {i : Nat} {b : Blk} (h : S.cellsAt i 0 b.cells.length = some b.cells) (hw : b.wr = true → (S.blk i).wr = true) (hc : b.cells ≠ []) : BlkLe S i b := ⟨cellLe_of _ 0 h, hw, fun e => (hc e).elim⟩

section
variable {P : Program}
/-- A contract over numbers, by a run from no memory. -/
theorem sat_run {f : FuncId} {c : Ctr} (hcall : ∀ (args : Array Value) (w : World), (callFunc f args).run P w = .ok (.enter f args) w)
    (h : ∀ args S out, c.fn args S = some out → out.nd = true → AVal.flat.flatL args = true ∧ out.v.flat = true ∧ out = ⟨out.v, [], [], [], true, none⟩ ∧ ∀ (w : World) (vs : List Value), VL noRho args vs → Calls P f ⟨vs⟩ w (Res NoM w noRho St0 out)) (hx : c.x = none) : Sat P f c := by
  unfold Sat
  rw [hx]
  refine ⟨hcall, fun args S out hfn hnd M w0 ρ w vs hM hv => ?_⟩
  obtain ⟨hfl, hf0, hout, hr⟩ := h args S out hfn hnd
  refine (hr w vs (VL_flat' _ _ hfl hv)).mono ?_
  intro e w' hr
  cases e with
  | outgrown => exact hr.elim
  | panicked ch =>
    obtain ⟨v, u, hp, _⟩ := hr
    rw [hout] at hp
    cases hp
  | returned u =>
    obtain ⟨_, ρ', _, hu, hm'⟩ := hr
    rw [hout]
    exact ⟨fun b v h => (by cases h), ρ, ExtS.refl _ _, V_flat _ _ hf0 hu, (hM.quiet hm'.fr).put_nil⟩
end
/-- The contract of several steps of a log. -/
noncomputable def ctrLg (f : List Nat → Nat → Nat → Nat → Nat → Nat) (c : (Nat → Nat) → Nat → Nat → Nat → Int → Int) : Ctr := ⟨fun args _ => match args with
  | [.agg l, .flt .f32 a, .flt .f32 x, .flt .f32 t, .sint .i64 k] => (match decN 18 l with
    | some ns => some ⟨lgA (fun l => f l a x t) (fun l => stG l a t) (fun q => nthN q ns) k (c (fun q => nthN q ns) a x t k), [], [], [], true, none⟩
    | none => none)
  | _ => none, none⟩
section
variable {P : Program}
theorem sat_lg {f : FuncId} {st : List Nat → Nat → Nat → Nat → Nat → Nat} {c : (Nat → Nat) → Nat → Nat → Nat → Int → Int} (hcall : ∀ (args : Array Value) (w : World), (callFunc f args).run P w = .ok (.enter f args) w)
    (h : ∀ (w : Nat → Nat) (a x t : Nat) (k : Int) (w0 : World) (vs : List Value), VL noRho [.agg (encF (lay18 w)), .flt .f32 a, .flt .f32 x, .flt .f32 t, .sint .i64 k] vs →
      Calls P f ⟨vs⟩ w0 (Res NoM w0 noRho St0 ⟨lgA (fun l => st l a x t) (fun l => stG l a t) w k (c w a x t k), [], [], [], true, none⟩)) : Sat P f (ctrLg st c) :=
  sat_run hcall (fun args S out hfn _ => by
    simp only [ctrLg] at hfn
    split at hfn
    · rename_i l a x t k
      split at hfn
      · rename_i ns hd
        obtain ⟨rfl, hl⟩ := decN_spec hd
        cases hfn
        refine ⟨?_, rfl, rfl, fun w vs hv => ?_⟩
        · simp only [AVal.flat.flatL, AVal.flat, encF_flat]
        · refine h (fun q => nthN q ns) a x t k w vs ?_
          obtain ⟨a0, a1, a2, a3, a4, a5, b0, b1, b2, b3, b4, b5, c0, c1, c2, c3, c4, c5, rfl⟩ := len18 hl
          exact hv
      · cases hfn
    · cases hfn) rfl
end
/-- The checks of several steps, by the program and by the model. -/
noncomputable def ckI (w : Nat → Nat) (a x t : Nat) : Int := cond (!vOp (lay18 w)) 1 (cond (cond (!finF a) true (cond (!shO t) true (!shO x))) 2 0)
noncomputable def ksI (w : Nat → Nat) (a x t : Nat) (k : Int) : Int := cond (cond (ckI w a x t == 0) (cond (decide (k < 0)) true (decide (k > 300))) false) 2 (ckI w a x t)
noncomputable def ckS (w : Nat → Nat) (a x t : Nat) : Int := cond (!vOp (lay18 w)) 1 (cond (cond (!finF a) true (cond (!shO x) true (!shO t))) 2 0)
noncomputable def ksS (w : Nat → Nat) (a x t : Nat) (k : Int) : Int := cond (cond (ckS w a x t == 0) (!cond (decide (k ≥ 0)) (decide (k ≤ 300)) false) false) 2 (ckS w a x t)
theorem ck_eq (w : Nat → Nat) (a x t : Nat) : ckI w a x t = ckS w a x t := by
  unfold ckI ckS; cases vOp (lay18 w) <;> cases finF a <;> cases shO t <;> cases shO x <;> rfl
theorem ks_eq (w : Nat → Nat) (a x t : Nat) (k : Int) : ksI w a x t k = ksS w a x t k := by
  unfold ksI ksS
  rw [ck_eq]
  have e : cond (decide (k < 0)) true (decide (k > 300)) = !cond (decide (k ≥ 0)) (decide (k ≤ 300)) false := by
    by_cases h1 : k < 0
    · rw [decide_eq_true h1, decide_eq_false (show ¬ k ≥ 0 by omega)]; rfl
    · rw [decide_eq_false h1, decide_eq_true (show k ≥ 0 by omega)]
      by_cases h2 : k > 300
      · rw [decide_eq_true h2, decide_eq_false (show ¬ k ≤ 300 by omega)]; rfl
      · rw [decide_eq_false h2, decide_eq_true (show k ≤ 300 by omega)]; rfl
  rw [e]
theorem ks_zero {w : Nat → Nat} {a x t : Nat} {k : Int} (h : ksS w a x t k = 0) : (0 ≤ k ∧ k ≤ 300) ∧ vOp (lay18 w) = true ∧ finF a = true ∧ shO x = true ∧ shO t = true := by
  unfold ksS ckS at h
  cases h1 : vOp (lay18 w) <;> cases h2 : finF a <;> cases h3 : shO x <;> cases h4 : shO t <;> simp [h1, h2, h3, h4] at h
  refine ⟨?_, rfl, rfl, rfl, rfl⟩
  by_cases g1 : 0 ≤ k
  · by_cases g2 : k ≤ 300
    · exact ⟨g1, g2⟩
    · simp [g1, g2] at h
  · simp [g1] at h

/-! ### The least number of steps behind which a log is dry -/
noncomputable def dryW (u : Nat → Nat) : Bool := fltB .f32 (fop .add .f32 (fop .add .f32 (fop .add .f32 (fop .add .f32 (fop .add .f32 (u 0) (u 1)) (u 2)) (u 3)) (u 4)) (u 5)) 1015021568
noncomputable def sdR (D G : Nat → Bool) : Nat → Nat → Int × Int
  | 0, j => cond (D j) (Int.ofNat j, 0) (0, 7)
  | r + 1, j => cond (D j) (Int.ofNat j, 0) (cond (G j) (sdR D G r (j + 1)) (0, 4))
theorem sdR_at {D G : Nat → Bool} : ∀ (r j : Nat), ∃ i, j ≤ i ∧ i ≤ j + r ∧ (∀ m, j ≤ m → m < i → D m = false ∧ G m = true) ∧
    ((D i = true ∧ sdR D G r j = (Int.ofNat i, 0)) ∨ (D i = false ∧ i = j + r ∧ sdR D G r j = (0, 7)) ∨ (D i = false ∧ i < j + r ∧ G i = false ∧ sdR D G r j = (0, 4)))
  | 0, j => by
    refine ⟨j, Nat.le_refl _, Nat.le_refl _, fun m h1 h2 => by omega, ?_⟩
    cases h : D j with
    | true => exact Or.inl ⟨rfl, by simp only [sdR, h]; rfl⟩
    | false => exact Or.inr (Or.inl ⟨rfl, rfl, by simp only [sdR, h]; rfl⟩)
  | r + 1, j => by
    cases h : D j with
    | true => exact ⟨j, Nat.le_refl _, by omega, fun m h1 h2 => by omega, Or.inl ⟨h, by simp only [sdR, h]; rfl⟩⟩
    | false =>
      cases hg : G j with
      | false => exact ⟨j, Nat.le_refl _, by omega, fun m h1 h2 => by omega, Or.inr (Or.inr ⟨h, by omega, hg, by simp only [sdR, h, hg]; rfl⟩)⟩
      | true =>
        obtain ⟨i, h1, h2, h3, h4⟩ := sdR_at (D := D) (G := G) r (j + 1)
        have e : sdR D G (r + 1) j = sdR D G r (j + 1) := by simp only [sdR, h, hg]; rfl
        refine ⟨i, by omega, by omega, fun m k1 k2 => ?_, ?_⟩
        · by_cases hm : m = j
          · subst hm; exact ⟨h, hg⟩
          · exact h3 m (by omega) k2
        · rw [e]
          rcases h4 with h4 | ⟨k1, k2, k3⟩ | ⟨k1, k2, k3⟩
          · exact Or.inl h4
          · exact Or.inr (Or.inl ⟨k1, by omega, k3⟩)
          · exact Or.inr (Or.inr ⟨k1, by omega, k3⟩)
theorem sdR_congr {D G D' G' : Nat → Bool} : ∀ (r j : Nat), (∀ i, j ≤ i → (∀ m, j ≤ m → m < i → G' m = true) → D i = D' i ∧ G i = G' i) → sdR D G r j = sdR D' G' r j
  | 0, j, h => by
    obtain ⟨h1, _⟩ := h j (Nat.le_refl _) (fun m k1 k2 => by omega)
    simp only [sdR, h1]
  | r + 1, j, h => by
    obtain ⟨h1, h2⟩ := h j (Nat.le_refl _) (fun m k1 k2 => by omega)
    simp only [sdR, h1, h2]
    cases hg : G' j with
    | false => rfl
    | true =>
      rw [sdR_congr r (j + 1) (fun i k1 k2 => h i (by omega) (fun m k3 k4 => by
        by_cases hm : m = j
        · subst hm; exact hg
        · exact k2 m (by omega) k4))]
noncomputable def sdA (f : List Nat → Nat → Nat) (g : List Nat → Bool) (w : Nat → Nat) (k : Int) (c : Int) : AVal :=
  .tuple [.sint .i64 (cond (c != 0) 0 (sdR (fun j => dryW (wsI f w j)) (okI g f w) k.toNat 0).1), .sint .i64 (cond (c != 0) c (sdR (fun j => dryW (wsI f w j)) (okI g f w) k.toNat 0).2)]
theorem sdA_same {f f' : List Nat → Nat → Nat} {g : List Nat → Bool} {I : List Nat → Prop} (hs : ∀ l, I l → f l = f' l) (hn : ∀ l, I l → g l = true → I (lay18 (f' l))) {w : Nat → Nat} {c : Int} (h0 : c = 0 → I (lay18 w)) (k : Int) :
    sdA f g w k c = sdA f' g w k c := by
  unfold sdA
  by_cases hc : c = 0
  · have h0 := h0 hc
    rw [sdR_congr (D' := fun j => dryW (wsI f' w j)) (G' := okI g f' w) k.toNat 0 (fun i _ h => by
      obtain ⟨_, h2, _⟩ := lg_same hs hn h0 i (fun m hm => h m (Nat.zero_le _) hm)
      refine ⟨?_, ?_⟩
      · show dryW (wsI f w i) = dryW (wsI f' w i)
        rw [h2]
      · unfold okI; rw [h2])]
  · have : (c != 0) = true := by simp [hc]
    rw [this]; rfl
/-- The contract of it. -/
noncomputable def ctrSd (f : List Nat → Nat → Nat → Nat → Nat → Nat) (c : (Nat → Nat) → Nat → Nat → Nat → Int → Int) : Ctr := ⟨fun args _ => match args with
  | [.agg l, .flt .f32 a, .flt .f32 t, .sint .i64 k] => (match decN 18 l with
    | some ns => some ⟨sdA (fun l => f l a 0 t) (fun l => stG l a t) (fun q => nthN q ns) k (c (fun q => nthN q ns) a 0 t k), [], [], [], true, none⟩
    | none => none)
  | _ => none, none⟩
section
variable {P : Program}
theorem sat_sd {f : FuncId} {st : List Nat → Nat → Nat → Nat → Nat → Nat} {c : (Nat → Nat) → Nat → Nat → Nat → Int → Int} (hcall : ∀ (args : Array Value) (w : World), (callFunc f args).run P w = .ok (.enter f args) w)
    (h : ∀ (w : Nat → Nat) (a t : Nat) (k : Int) (w0 : World) (vs : List Value), VL noRho [.agg (encF (lay18 w)), .flt .f32 a, .flt .f32 t, .sint .i64 k] vs →
      Calls P f ⟨vs⟩ w0 (Res NoM w0 noRho St0 ⟨sdA (fun l => st l a 0 t) (fun l => stG l a t) w k (c w a 0 t k), [], [], [], true, none⟩)) : Sat P f (ctrSd st c) :=
  sat_run hcall (fun args S out hfn _ => by
    simp only [ctrSd] at hfn
    split at hfn
    · rename_i l a t k
      split at hfn
      · rename_i ns hd
        obtain ⟨rfl, hl⟩ := decN_spec hd
        cases hfn
        refine ⟨?_, rfl, rfl, fun w vs hv => ?_⟩
        · simp only [AVal.flat.flatL, AVal.flat, encF_flat]
        · refine h (fun q => nthN q ns) a t k w vs ?_
          obtain ⟨a0, a1, a2, a3, a4, a5, b0, b1, b2, b3, b4, b5, c0, c1, c2, c3, c4, c5, rfl⟩ := len18 hl
          exact hv
      · cases hfn
    · cases hfn) rfl
end
/-- Two integers, as a law asks them. -/
noncomputable def askI2 (R R' : Option AVal) : Bool := cond (cond (iT R 0 != iT R' 0) true (iT R 1 != iT R' 1)) false true
theorem askI2_self (R : Option AVal) : askI2 R R = true := by unfold askI2; simp
end Go.Ab

namespace Go.Ab
open Go Go.RowKit
set_option linter.unusedVariables false
/-! ### Logs that are mixed -/
def wdSh : List CK := [.f32, .f32, .f32, .f32, .f32, .f32, .f32, .f32, .f32, .f32, .f32, .f32, .f32, .f32, .f32, .f32, .f32, .f32]
noncomputable def rowL (fd : Nat → Nat → Nat) (k : Nat) : List Nat := lay18 (fd k)
/-- Sums, from the first one on. -/
noncomputable def smW (e : Nat → Nat) (el : Nat → Nat → Nat) : Nat → Nat → Nat
  | 0 => e
  | k + 1 => fun q => fop .add .f32 (smW e el k q) (el k q)
noncomputable def mixR (n : Nat) : Bool := cond (decide (Int.ofNat n ≥ 1)) (decide (Int.ofNat n ≤ 8)) false
noncomputable def mixC (fd : Nat → Nat → Nat) (a n : Nat) : Int := cond (!allB n (fun j => vOp (rowL fd (Nat.add a j)))) 1 (cond (!mixR n) 2 0)
noncomputable def mixW (fd : Nat → Nat → Nat) (a n q : Nat) : Nat := fop .quo .f32 (smW (fd (Nat.add a 0)) (fun j => fd (Nat.add a (j + 1))) (n - 1) q) (ofInt .f32 (Int.ofNat n))
noncomputable def mixV (c : Int) (w : Nat → Nat) : AVal := .tuple [.agg [.flt .f32 (cond (c != 0) 0 (w 0)), .flt .f32 (cond (c != 0) 0 (w 1)), .flt .f32 (cond (c != 0) 0 (w 2)), .flt .f32 (cond (c != 0) 0 (w 3)), .flt .f32 (cond (c != 0) 0 (w 4)), .flt .f32 (cond (c != 0) 0 (w 5)),
  .flt .f32 (cond (c != 0) 0 (w 6)), .flt .f32 (cond (c != 0) 0 (w 7)), .flt .f32 (cond (c != 0) 0 (w 8)), .flt .f32 (cond (c != 0) 0 (w 9)), .flt .f32 (cond (c != 0) 0 (w 10)), .flt .f32 (cond (c != 0) 0 (w 11)),
  .flt .f32 (cond (c != 0) 0 (w 12)), .flt .f32 (cond (c != 0) 0 (w 13)), .flt .f32 (cond (c != 0) 0 (w 14)), .flt .f32 (cond (c != 0) 0 (w 15)), .flt .f32 (cond (c != 0) 0 (w 16)), .flt .f32 (cond (c != 0) 0 (w 17))], .sint .i64 c]
noncomputable def mixA (fd : Nat → Nat → Nat) (a n : Nat) : AVal := mixV (mixC fd a n) (mixW fd a n)
theorem mixR_lt (n : Nat) : cond (decide (Int.ofNat n < 1)) true (decide (Int.ofNat n > 8)) = !mixR n := by
  unfold mixR
  by_cases h : Int.ofNat n < 1
  · rw [decide_eq_true h, decide_eq_false (show ¬ Int.ofNat n ≥ 1 by omega)]; rfl
  · rw [decide_eq_false h, decide_eq_true (show Int.ofNat n ≥ 1 by omega)]
    by_cases h2 : Int.ofNat n > 8
    · rw [decide_eq_true h2, decide_eq_false (show ¬ Int.ofNat n ≤ 8 by omega)]; rfl
    · rw [decide_eq_false h2, decide_eq_true (show Int.ofNat n ≤ 8 by omega)]; rfl
theorem mixR_pos {n : Nat} (h : mixR n = true) : 1 ≤ n ∧ n ≤ 8 := by
  obtain ⟨h1, h2⟩ := cond_and h
  have h1 := of_decide_eq_true h1
  have h2 := of_decide_eq_true h2
  have h1 : (1 : Int) ≤ (n : Int) := h1
  have h2 : (n : Int) ≤ 8 := h2
  omega
noncomputable def mixK : Ctr := ⟨fun args S => match args with
  | [.vec i e a n] => match S.vec i with
    | some v => match Nat.beq e 18 && eqSh wdSh v.sh with
      | true => some ⟨mixA v.fd a n.val, [], [], [], Nat.ble n.val 140737488355328 && Nat.ble (Nat.add a n.val) v.n.val, none⟩
      | false => none
    | none => none
  | _ => none, none⟩
section
variable {P : Program}
theorem sat_mix {f : FuncId} (hcall : ∀ (args : Array Value) (w : World), (callFunc f args).run P w = .ok (.enter f args) w)
    (h : ∀ (i a n : Nat) (v : Vc), v.sh = wdSh → a + n ≤ v.n.val → n ≤ 140737488355328 → OnRows P f [⟨i, 18, a, .sym n⟩] [] [v] ⟨mixA v.fd a n, [], [], [], true, none⟩) : Sat P f mixK :=
  sat_rd hcall rfl (fun args S out hfn hnd hv => by
    simp only [mixK] at hfn
    split at hfn
    · rename_i i e a n
      split at hfn
      · rename_i v hvec
        split at hfn
        · rename_i hb
          simp only [Bool.and_eq_true] at hb
          have he := Nat.eq_of_beq_eq_true hb.1
          subst he
          have hs := eqSh_eq hb.2
          cases hfn
          have hnd : (Nat.ble n.val 140737488355328 && Nat.ble (Nat.add a n.val) v.n.val) = true := hnd
          simp only [Bool.and_eq_true] at hnd
          have h1 := Nat.le_of_ble_eq_true hnd.1
          have h2 : a + n.val ≤ v.n.val := Nat.le_of_ble_eq_true hnd.2
          refine ⟨[⟨i, 18, a, n⟩], [], [v], mixA v.fd a n.val, rfl, rfl, ?_, onRows_sym1 (h i a n.val v hs.symm h2 h1), rfl, ?_, fun ρ u h => h⟩
          · simp only [rowsAt, hvec]
          · simp only [hnd.1, hnd.2]; rfl
        · cases hfn
      · cases hfn
    · cases hfn)
end
theorem blkLe_row {S : St} {i : Nat} {u v : Vc} (h : S.vec i = some u) (k : VcLe u v) : BlkLe S i ⟨[], false, some v⟩ := ⟨trivial, fun h => (by cases h), fun _ w hw => (by cases hw; exact ⟨u, h, k⟩)⟩
theorem blkLe_bad {S : St} {i : Nat} : BlkLe S i ⟨[], false, none⟩ := ⟨trivial, fun h => (by cases h), fun _ w hw => (by cases hw)⟩
theorem blkLeU_row {S : St} {n i : Nat} {u v : Vc} (h : S.vec i = some u) (k : VcLe u v) : BlkLeU S n i ⟨[], false, some v⟩ := ⟨trivial, fun h => (by cases h), fun _ w hw => (by cases hw; exact ⟨u, h, k⟩)⟩
/-- A log and a code, as a law asks them. -/
noncomputable def askM (R R' : Option AVal) : Bool := cond (cond (!logQ R R') true (iT R 1 != iT R' 1)) false true
theorem askM_self (R : Option AVal) : askM R R = true := by unfold askM; rw [logQ_self]; simp
end Go.Ab

namespace Go.Ab
open Go Go.RowKit
set_option linter.unusedVariables false
/-! ### Two stoves alike -/
/-- Two logs alike, bit for bit. -/
noncomputable def elKW : ElQ := fun f g f' g' => cond (cond (nbF (f 0) == nbF (f' 0)) (cond (nbF (f 1) == nbF (f' 1)) (cond (nbF (f 2) == nbF (f' 2)) (cond (nbF (f 3) == nbF (f' 3)) (cond (nbF (f 4) == nbF (f' 4)) (cond (nbF (f 5) == nbF (f' 5)) (true) false) false) false) false) false) false) (cond (cond (nbF (f 6) == nbF (f' 6)) (cond (nbF (f 7) == nbF (f' 7)) (cond (nbF (f 8) == nbF (f' 8)) (cond (nbF (f 9) == nbF (f' 9)) (cond (nbF (f 10) == nbF (f' 10)) (cond (nbF (f 11) == nbF (f' 11)) (true) false) false) false) false) false) false) (cond (nbF (f 12) == nbF (f' 12)) (cond (nbF (f 13) == nbF (f' 13)) (cond (nbF (f 14) == nbF (f' 14)) (cond (nbF (f 15) == nbF (f' 15)) (cond (nbF (f 16) == nbF (f' 16)) (cond (nbF (f 17) == nbF (f' 17)) (true) false) false) false) false) false) false) false) false
theorem elKW_spec (f : Nat → Nat) (g : Nat → Int) (f' : Nat → Nat) (g' : Nat → Int) : (cond (cond (!(nbF (f 0) == nbF (f' 0))) false (cond (!(nbF (f 1) == nbF (f' 1))) false (cond (!(nbF (f 2) == nbF (f' 2))) false (cond (!(nbF (f 3) == nbF (f' 3))) false (cond (!(nbF (f 4) == nbF (f' 4))) false (cond (!(nbF (f 5) == nbF (f' 5))) false (true))))))) (cond (cond (!(nbF (f 6) == nbF (f' 6))) false (cond (!(nbF (f 7) == nbF (f' 7))) false (cond (!(nbF (f 8) == nbF (f' 8))) false (cond (!(nbF (f 9) == nbF (f' 9))) false (cond (!(nbF (f 10) == nbF (f' 10))) false (cond (!(nbF (f 11) == nbF (f' 11))) false (true))))))) (cond (!(nbF (f 12) == nbF (f' 12))) false (cond (!(nbF (f 13) == nbF (f' 13))) false (cond (!(nbF (f 14) == nbF (f' 14))) false (cond (!(nbF (f 15) == nbF (f' 15))) false (cond (!(nbF (f 16) == nbF (f' 16))) false (cond (!(nbF (f 17) == nbF (f' 17))) false (true))))))) false) false) = elKW f g f' g' := by
  have h : ∀ s x : Bool, cond (!s) false x = cond s x false := by intro s x; cases s <;> rfl
  unfold elKW
  simp only [h]
noncomputable def ssT (n n' : Nat) (s s' h h' : Int) : Bool := cond (Int.ofNat n != Int.ofNat n') true (cond (s != s') true (h != h'))
noncomputable def ssU (b b' d d' u u' : Nat) : Bool := cond (nbF b == nbF b') (cond (nbF d == nbF d') (nbF u == nbF u') false) false
/-- Two stoves alike, as the model asks. -/
noncomputable def ssV (v v' : Vc) (a a' n n' : Nat) (b b' d d' u u' : Nat) (s s' h h' : Int) : Bool := cond (ssT n n' s s' h h') false (cond (allB n (fun j => elAt elKW v v' a a' j)) (ssU b b' d d' u u') false)
/-- As the program asks. -/
noncomputable def ssI (v v' : Vc) (a a' n n' : Nat) (b b' d d' u u' : Nat) (s s' h h' : Int) : Bool :=
  cond (eqRows elKW v v' a a' n n') (cond (nbF b == nbF b') (cond (nbF d == nbF d') (cond (s == s') (cond (h == h') (nbF u == nbF u') false) false) false) false) false
theorem ss_eq (v v' : Vc) (a a' n n' : Nat) (b b' d d' u u' : Nat) (s s' h h' : Int) : ssI v v' a a' n n' b b' d d' u u' s s' h h' = ssV v v' a a' n n' b b' d d' u u' s s' h h' := by
  unfold ssI ssV ssT ssU eqRows
  simp only [bne]
  cases (Int.ofNat n == Int.ofNat n') <;> cases (s == s') <;> cases (h == h') <;> cases (allB n (fun j => elAt elKW v v' a a' j)) <;> cases (nbF b == nbF b') <;> cases (nbF d == nbF d') <;> cases (nbF u == nbF u') <;> rfl
theorem ssV_congr {v v' w w' : Vc} {a a' c c' n n' : Nat} {b b' d d' u u' : Nat} {s s' h h' : Int} (H : ∀ j, elAt elKW v v' a a' j = elAt elKW w w' c c' j) : ssV v v' a a' n n' b b' d d' u u' s s' h h' = ssV w w' c c' n n' b b' d d' u u' s s' h h' := by
  unfold ssV
  have : (fun j => elAt elKW v v' a a' j) = (fun j => elAt elKW w w' c c' j) := funext H
  rw [this]

/-- Nothing has been written. -/
def allNil {α : Type} : List (List α) → Bool
  | [] => true
  | [] :: r => allNil r
  | (_ :: _) :: _ => false
theorem hlook_nil {i o : Nat} : ∀ l : List (List ((Nat × Nat) × AVal)), allNil l = true → hlookL i o l = none
  | [], _ => rfl
  | [] :: r, h => by simp only [hlookL, hlook1]; exact hlook_nil r h
  | (_ :: _) :: _, h => by cases h
theorem vlook_nil {i : Nat} : ∀ l : List (List (Nat × Vc)), allNil l = true → vlookL i l = none
  | [], _ => rfl
  | [] :: r, h => by simp only [vlookL, vlook1]; exact vlook_nil r h
  | (_ :: _) :: _, h => by cases h
theorem alk_plain {S : St} {bs : List Blk} (h1 : S.hp = bs) (h2 : allNil S.hvs = true) (h3 : allNil S.vvs = true) : AlkM S (stC [] bs) :=
  ⟨h1.symm, fun i o => by rw [hlook_nil _ h2]; rfl, fun i => by rw [vlook_nil _ h3]; rfl⟩

/-- The model's comparison, over two stoves in boxes and their rows alone. -/
noncomputable def ssC : Ctr := ⟨fun args S => match args with
  | [.ptr 2 0, .ptr 3 0] => match S.hp with
    | [⟨[], _, some v⟩, ⟨[], _, some v'⟩, ⟨[.vec 0 18 a n, .flt .f32 b, .flt .f32 d, .sint .i8 s, .sint .i64 h, .flt .f32 u], true, none⟩, ⟨[.vec 1 18 a' n', .flt .f32 b', .flt .f32 d', .sint .i8 s', .sint .i64 h', .flt .f32 u'], true, none⟩] =>
      match (allNil S.hvs && allNil S.vvs) && ((!v.wr && !v'.wr) && (eqSh wdSh v.sh && eqSh wdSh v'.sh)) with
      | true => some ⟨.sbool (ssV v v' a a' n.val n'.val b b' d d' u u' s s' h h'), [], [], [], Nat.ble n.val 140737488355328 && (Nat.ble (Nat.add a n.val) v.n.val && Nat.ble (Nat.add a' n'.val) v'.n.val), none⟩
      | false => none
    | _ => none
  | _ => none, none⟩

theorem mem_rowC {M : Addr → Prop} {w0 : World} {ρ : Rho} {w : World} {S : St} {bs : List Blk} (h : Mem M w0 ρ S w) (hl : S.hp.length = bs.length) (hb : BlksLe S 0 bs) : Mem M w0 ρ (stC [] bs) w := by
  have hat : ∀ i, i < bs.length → BlkLe S i (nthB i bs) := fun i hi => by
    have := blksLe_at bs 0 i hb hi
    rw [Nat.zero_add] at this
    exact this
  refine mem_ofC h hl.symm (fun i o x hx => ?_) (fun i hw => ?_) (fun i v hv => ?_) (fun i o => rfl) (fun i x h => by simp [stC, vlookL] at h)
  · obtain ⟨hi, ho, rfl⟩ := stC_cell hx
    have := cellLe_at _ 0 o (hat i hi).1 ho
    rw [Nat.zero_add] at this
    obtain ⟨y, hy, hv⟩ := this
    exact ⟨y, hy, hv ρ⟩
  · have hw : (nthB i bs).wr = true := hw
    rcases Nat.lt_or_ge i bs.length with hi | hi
    · exact (hat i hi).2.1 hw
    · rw [nthB_off bs i hi] at hw; cases hw
  · obtain ⟨hi, hc, hx⟩ := stC_vec hv
    exact (hat i hi).2.2 hc v hx

/-- What may not be written stays. -/
def roAll : List Blk → Bool
  | [] => true
  | b :: r => (!b.wr && (match b.vc with | some v => !v.wr | none => true)) && roAll r
theorem roAll_at : ∀ (bs : List Blk) (i : Nat), roAll bs = true → (nthB i bs).wr = false ∧ ∀ v, (nthB i bs).vc = some v → v.wr = false
  | [], i, _ => by cases i <;> exact ⟨rfl, fun v h => (by cases h)⟩
  | b :: r, 0, h => by
    simp only [roAll, Bool.and_eq_true, Bool.not_eq_true'] at h
    refine ⟨h.1.1, fun v hv => ?_⟩
    have hv : b.vc = some v := hv
    have := h.1.2
    rw [hv] at this
    simpa using this
  | b :: r, i + 1, h => by
    simp only [roAll, Bool.and_eq_true] at h
    exact roAll_at r i h.2
theorem mem_ro {M : Addr → Prop} {w0 : World} {ρ : Rho} {w : World} {bs : List Blk} (h : Mem M w0 ρ (stC [] bs) w) (hr : roAll bs = true) : Mem NoM w ρ (stC [] bs) w := by
  refine ⟨h.hp, Fr.refl _ _, ⟨fun i o x r b hx hw => ?_, fun i vc r b q hx hw => ?_⟩⟩
  · have hw : (nthB i bs).wr = true := hw
    rw [(roAll_at bs i hr).1] at hw; cases hw
  · obtain ⟨_, _, hv⟩ := stC_vec hx
    rw [(roAll_at bs i hr).2 vc hv] at hw; cases hw

theorem V_sym {ρ : Rho} {i e a : Nat} {n : Num} {u : Value} (h : V ρ (.vec i e a n) u) : V ρ (.vec i e a (.sym n.val)) u := by
  unfold V at h ⊢
  obtain ⟨_, k2, base, c, k3, k4⟩ := h
  exact ⟨trivial, k2, base, c, k3, k4⟩

def ssBs (v v' : Vc) (a a' n n' : Nat) (b b' d d' u u' : Nat) (s s' h h' : Int) : List Blk :=
  [⟨[], false, some v⟩, ⟨[], false, some v'⟩, ⟨[.vec 0 18 a (.sym n), .flt .f32 b, .flt .f32 d, .sint .i8 s, .sint .i64 h, .flt .f32 u], false, none⟩, ⟨[.vec 1 18 a' (.sym n'), .flt .f32 b', .flt .f32 d', .sint .i8 s', .sint .i64 h', .flt .f32 u'], false, none⟩]
section
variable {P : Program}
theorem sat_ss {f : FuncId} (hcall : ∀ (args : Array Value) (w : World), (callFunc f args).run P w = .ok (.enter f args) w)
    (h : ∀ (v v' : Vc) (a a' n n' b b' d d' u u' : Nat) (s s' h h' : Int), v.sh = wdSh → v'.sh = wdSh → v.wr = false → v'.wr = false → n ≤ 140737488355328 → a + n ≤ v.n.val → a' + n' ≤ v'.n.val →
      ∀ (ρ : Rho) (w : World) (vs : List Value), Mem NoM w ρ (stC [] (ssBs v v' a a' n n' b b' d d' u u' s s' h h')) w → VL ρ [.ptr 2 0, .ptr 3 0] vs →
        Calls P f ⟨vs⟩ w (Res NoM w ρ (stC [] (ssBs v v' a a' n n' b b' d d' u u' s s' h h')) ⟨.sbool (ssV v v' a a' n n' b b' d d' u u' s s' h h'), [], [], [], true, none⟩)) : Sat P f ssC := by
  show SatC P f ssC
  refine ⟨hcall, fun args S out hfn hnd M w0 ρ w vs hM hv => ?_⟩
  simp only [ssC] at hfn
  split at hfn
  · split at hfn
    · rename_i wr1 v wr2 v' a n b d s hh u a' n' b' d' s' hh' u' hhp
      split at hfn
      · rename_i hb
        cases hfn
        simp only [Bool.and_eq_true, Bool.not_eq_true'] at hb hnd
        obtain ⟨⟨k1, k2⟩, ⟨k3, k4⟩, k5, k6⟩ := hb
        have c1 := Nat.le_of_ble_eq_true hnd.1
        have c2 : a + n.val ≤ v.n.val := Nat.le_of_ble_eq_true hnd.2.1
        have c3 : a' + n'.val ≤ v'.n.val := Nat.le_of_ble_eq_true hnd.2.2
        have hM1 := AlkM.mem hM (alk_plain hhp k1 k2)
        have hM2 : Mem M w0 ρ (stC [] (ssBs v v' a a' n.val n'.val b b' d d' u u' s s' hh hh')) w := by
          refine mem_rowC hM1 rfl ⟨⟨trivial, fun h => (by cases h), fun _ x hx => (by cases hx; exact ⟨_, rfl, VcLe.refl _⟩)⟩, ⟨trivial, fun h => (by cases h), fun _ x hx => (by cases hx; exact ⟨_, rfl, VcLe.refl _⟩)⟩,
            ⟨⟨⟨_, rfl, fun _ _ h => V_sym h⟩, ⟨_, rfl, fun _ _ h => h⟩, ⟨_, rfl, fun _ _ h => h⟩, ⟨_, rfl, fun _ _ h => h⟩, ⟨_, rfl, fun _ _ h => h⟩, ⟨_, rfl, fun _ _ h => h⟩, trivial⟩, fun h => (by cases h), fun h => (by cases h)⟩,
            ⟨⟨⟨_, rfl, fun _ _ h => V_sym h⟩, ⟨_, rfl, fun _ _ h => h⟩, ⟨_, rfl, fun _ _ h => h⟩, ⟨_, rfl, fun _ _ h => h⟩, ⟨_, rfl, fun _ _ h => h⟩, ⟨_, rfl, fun _ _ h => h⟩, trivial⟩, fun h => (by cases h), fun h => (by cases h)⟩, trivial⟩
        have hM3 := mem_ro hM2 (by simp only [ssBs, roAll, k3, k4]; rfl)
        refine (h v v' a a' n.val n'.val b b' d d' u u' s s' hh hh' (eqSh_eq k5).symm (eqSh_eq k6).symm k3 k4 c1 c2 c3 ρ w vs hM3 hv).mono ?_
        intro e w' hr
        cases e with
        | outgrown => exact hr.elim
        | panicked ch => obtain ⟨v, u, hp, _⟩ := hr; cases hp
        | returned z =>
          obtain ⟨_, ρ', _, hu, hm'⟩ := hr
          exact ⟨fun b v h => (by cases h), ρ, ExtS.refl _ _, V_flat _ _ rfl hu, (hM.quiet hm'.fr).put_nil⟩
      · cases hfn
    · cases hfn
  · cases hfn
end

/-- The model's comparison of two stoves. -/
noncomputable def ssD : Ctr := ⟨fun args S => match args with
  | [.agg [.vec i e a n, .flt .f32 b, .flt .f32 d, .sint .i8 s, .sint .i64 h, .flt .f32 u], .agg [.vec i' e' a' n', .flt .f32 b', .flt .f32 d', .sint .i8 s', .sint .i64 h', .flt .f32 u']] => match S.vec i, S.vec i' with
    | some v, some v' => match (Nat.beq e 18 && Nat.beq e' 18) && (eqSh wdSh v.sh && eqSh wdSh v'.sh) with
      | true => some ⟨.sbool (ssV (shiftV v a n) (shiftV v' a' n') 0 0 n.val n'.val b b' d d' u u' s s' h h'), [], [], [], Nat.ble n.val 140737488355328 && (Nat.ble (Nat.add a n.val) v.n.val && Nat.ble (Nat.add a' n'.val) v'.n.val), none⟩
      | false => none
    | _, _ => none
  | _ => none, none⟩
def ssN (v v' : Vc) (n n' : Num) : Bool := cond (andN true (Nat.ble n.val 140737488355328 && (Nat.ble (Nat.add 0 n.val) v.n.val && Nat.ble (Nat.add 0 n'.val) v'.n.val))) true false
section
variable {P : Program}
theorem sat_ssD {Γ : List (Nat × Ctr)} (hΓ : Good P Γ) (hm : P.follows .mixedOrders = true) {f : FuncId} {fn : Func} (hf : P.funcs[f]? = some fn) (hcall : ∀ (args : Array Value) (w : World), (callFunc f args).run P w = .ok (.enter f args) w) (fuel : Nat)
    (he : ∀ (v v' : Vc) (n n' : Num) (b b' d d' u u' : Nat) (s s' h h' : Int), v.sh = wdSh → v'.sh = wdSh →
      evBody P Γ fuel fn [.agg [.vec 0 18 0 n, .flt .f32 b, .flt .f32 d, .sint .i8 s, .sint .i64 h, .flt .f32 u], .agg [.vec 1 18 0 n', .flt .f32 b', .flt .f32 d', .sint .i8 s', .sint .i64 h', .flt .f32 u']] (viewS [v, v']) = some ⟨.sbool (ssV v v' 0 0 n.val n'.val b b' d d' u u' s s' h h'), [], [], [], ssN v v' n n', none⟩) : Sat P f ssD :=
  sat_rdA2 hm hf hcall rfl (fun args S out hfn hnd hv => by
    simp only [ssD] at hfn
    split at hfn
    · rename_i i e a n b d s hh u i' e' a' n' b' d' s' hh' u'
      split at hfn
      · rename_i v v' hv1 hv2
        split at hfn
        · rename_i hb
          cases hfn
          simp only [Bool.and_eq_true] at hb hnd
          obtain ⟨⟨k1, k2⟩, k3, k4⟩ := hb
          have e1 := Nat.eq_of_beq_eq_true k1
          have e2 := Nat.eq_of_beq_eq_true k2
          subst e1; subst e2
          have h3 := (eqSh_eq k3).symm
          have h4 := (eqSh_eq k4).symm
          have b1 : Nat.beq 18 (lenL v.sh) = true := by rw [h3]; rfl
          have b2 : Nat.beq 18 (lenL v'.sh) = true := by rw [h4]; rfl
          refine ⟨Γ, fuel, _, [shiftV v a n, shiftV v' a' n'], _, _, hΓ, fun _ _ h => h, rfl, ?_, he (shiftV v a n) (shiftV v' a' n') n n' b b' d d' u u' s s' hh hh' h3 h4, ?_, rfl, rfl, fun ρ z h => h⟩
          · show rowsI S [⟨i, 18, a, n⟩, ⟨i', 18, a', n'⟩] = _
            simp only [rowsI, hv1, hv2, b1, b2, hnd.2.1, hnd.2.2, Bool.and_self]
          · have c1 : Nat.ble (Nat.add 0 n.val) n.val = true := Nat.ble_eq_true_of_le (by show 0 + n.val ≤ _; omega)
            have c2 : Nat.ble (Nat.add 0 n'.val) n'.val = true := Nat.ble_eq_true_of_le (by show 0 + n'.val ≤ _; omega)
            show cond (andN true (Nat.ble n.val 140737488355328 && (Nat.ble (Nat.add 0 n.val) n.val && Nat.ble (Nat.add 0 n'.val) n'.val))) true false = true
            rw [hnd.1, c1, c2]; rfl
        · cases hfn
      · cases hfn
    · cases hfn)
end
/-- Two stoves that are arguments. -/
theorem views2S {W : World} {ρ1 ρ2 : Rho} {v1 v2 : Vc} {xs ys : List AVal} {e1 a1 e2 a2 : Nat} {n1 n2 : Num} {u1 u2 : Value} (hx : AVal.flat.flatL xs = true) (hy : AVal.flat.flatL ys = true) (h1 : Mem NoM W ρ1 (viewS [v1]) W) (h2 : Mem NoM W ρ2 (viewS [v2]) W)
    (k1 : V ρ1 (.agg (.vec 0 e1 a1 n1 :: xs)) u1) (k2 : V ρ2 (.agg (.vec 0 e2 a2 n2 :: ys)) u2) :
    ∃ ρ, Mem NoM W ρ (viewS [v1, v2]) W ∧ V ρ (.agg (.vec 0 e1 a1 n1 :: xs)) u1 ∧ V ρ (.agg (.vec 1 e2 a2 n2 :: ys)) u2 := by
  unfold V at k1 k2
  obtain ⟨l1, rfl, k1⟩ := k1
  obtain ⟨l2, rfl, k2⟩ := k2
  unfold VL at k1 k2
  obtain ⟨x1, r1, rfl, p1, q1⟩ := k1
  obtain ⟨x2, r2, rfl, p2, q2⟩ := k2
  obtain ⟨ρ, hM, g1, g2⟩ := views2 h1 h2 p1 p2
  refine ⟨ρ, hM, ?_, ?_⟩
  · unfold V VL
    exact ⟨_, rfl, x1, r1, rfl, g1, VL_flat' _ _ hx q1⟩
  · unfold V VL
    exact ⟨_, rfl, x2, r2, rfl, g2, VL_flat' _ _ hy q2⟩
end Go.Ab
