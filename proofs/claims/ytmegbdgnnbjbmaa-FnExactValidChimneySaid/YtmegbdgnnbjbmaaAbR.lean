import Derived.Test.YtmegbdgnnbjbmaaAbQ
import Derived.IntWalk
namespace Go.Ab
open Go Go.RowKit
set_option linter.unusedVariables false
/-! ### Ways through a tree -/
structure Way where
  nd : Bool
  bs : List Bool
  e : Ex
  S : St

/-- Along a way: what it asks, the tests met, the end. -/
def fol : List Bool → St → Tr → Option Way
  | [], S, .leaf e d => some ⟨d.nd, [], e, S.ext d⟩
  | c :: p, S, .node d b l r => match fol p (S.ext d) (match c with | true => l | false => r) with
    | some w => some ⟨cond d.nd w.nd false, b :: w.bs, w.e, w.S⟩
    | none => none
  | _, _, _ => none

theorem fol_spec : ∀ (p : List Bool) (S : St) (t : Tr) (w : Way), fol p S t = some w → w.bs = p → w.nd = true → t.need = true ∧ t.out S = (w.e, w.S)
  | [], S, .leaf e d, w, h, _, hn => by
    simp only [fol, Option.some.injEq] at h
    subst h
    exact ⟨hn, rfl⟩
  | [], S, .node d b l r, w, h, _, _ => by simp [fol] at h
  | c :: p, S, .leaf e d, w, h, _, _ => by simp [fol] at h
  | c :: p, S, .node d b l r, w, h, hb, hn => by
    unfold fol at h
    split at h
    · rename_i u hu
      cases h
      simp only [List.cons.injEq] at hb
      obtain ⟨rfl, hb⟩ := hb
      obtain ⟨h1, h2⟩ := cond_and hn
      obtain ⟨h3, h4⟩ := fol_spec p _ _ u hu hb h2
      simp only [Tr.need, Tr.out]
      rw [h1]
      cases b with
      | true => exact ⟨by simpa using h3, by simpa using h4⟩
      | false => exact ⟨by simpa using h3, by simpa using h4⟩
    · cases h

def wayO (p : List Bool) (S : St) (o : Option Tr) : Option Way := match o with | some t => fol p S t | none => none
def wNd (o : Option Way) : Bool := match o with | some w => w.nd | none => false
def wBs (o : Option Way) : List Bool := match o with | some w => w.bs | none => [false, true, false, true]
def wE (o : Option Way) : Ex := match o with | some w => w.e | none => .normal
def wS (o : Option Way) : St := match o with | some w => w.S | none => ⟨[], [], [], [], [], []⟩
def isWay (o : Option Way) : Bool := match o with | some _ => true | none => false

section
variable {P : Program} {N : Nat}
/-- One way, where its tests come out so. -/
theorem Run.way {Γ : List (Nat × Ctr)} (hΓ : Good P Γ) (hmo : P.follows .mixedOrders = true) {fuel : Nat} {c : Code} {S : St} (p : List Bool) (h0 : isWay (wayO p S (Ab.ev P Γ N fuel c S Dl.nil)) = true)
    (hb : wBs (wayO p S (Ab.ev P Γ N fuel c S Dl.nil)) = p) (hn : wNd (wayO p S (Ab.ev P Γ N fuel c S Dl.nil)) = true) :
    Run P N c S (wE (wayO p S (Ab.ev P Γ N fuel c S Dl.nil)), wS (wayO p S (Ab.ev P Γ N fuel c S Dl.nil))) := by
  cases he : Ab.ev P Γ N fuel c S Dl.nil with
  | none => rw [he] at h0; cases h0
  | some t =>
    rw [he] at h0 hb hn
    simp only [wayO] at h0 hb hn ⊢
    cases hf : fol p S t with
    | none => rw [hf] at h0; cases h0
    | some w =>
      rw [hf] at hb hn
      obtain ⟨h1, h2⟩ := fol_spec p S t w hf hb hn
      have := Run.ev hΓ hmo he h1
      rw [h2] at this
      exact this
end

/-! ### To say less of a state -/
theorem V_bad {ρ : Rho} (v : Value) : V ρ .bad v := by unfold V; trivial

/-- Rows of one content. -/
structure VcLe (u v : Vc) : Prop where
  sh : v.sh = u.sh
  n : v.n.val ≤ u.n.val
  wr : v.wr = true → u.wr = true
  at_ : ∀ k o c, k < v.n.val → nthC o v.sh = some c → v.mkA k o c = u.mkA k o c

theorem mem_of {M : Addr → Prop} {w0 : World} {ρ : Rho} {w : World} {S S' : St} (h : Mem M w0 ρ S w) (hl : S'.hp.length = S.hp.length) (hcell : ∀ i o x, ¬ S'.cell i o = some x)
    (hvec : ∀ i v, S'.vec i = some v → ∃ u, S.vec i = some u ∧ VcLe u v) (hhv : ∀ i o, hlookL i o S'.hvs = none) (hvv : ∀ i x, vlookL i S'.vvs = some x → i < S'.hp.length) : Mem M w0 ρ S' w := by
  have hwr : ∀ i, S'.wrB i = true → S.wrB i = true := fun i hw => by
    rcases wrB_iff.1 hw with ⟨o, x, hx, _⟩ | ⟨v, hv, hw⟩
    · exact (hcell i o x hx).elim
    · obtain ⟨u, hu, k⟩ := hvec i v hv
      exact wrB_iff.2 (Or.inr ⟨u, hu, k.wr hw⟩)
  have hlv : ∀ i, S'.live i = true → S.live i = true := fun i hw => by
    rcases live_iff.1 hw with ⟨x, hx⟩ | ⟨v, c, sh, hv, hs⟩
    · exact (hcell i 0 x hx).elim
    · obtain ⟨u, hu, k⟩ := hvec i v hv
      exact live_iff.2 (Or.inr ⟨u, c, sh, hu, by rw [← k.sh]; exact hs⟩)
  refine ⟨⟨fun i o x hx => (hcell i o x hx).elim, fun i vc r b k o c hx hr hk hc => ?_, fun i o x r b hx => (hcell i o x hx).elim, fun i vc r b q hx hw hr hq => ?_, fun i vc r b hx hw hr => ?_, fun i j r b b' hij hw hr hr' hj => h.hp.dis i j r b b' hij (hwr i hw) hr hr' (hlv j hj), fun i p hp => by rw [hl]; exact h.hp.dom i p hp, fun i hk => by rw [hl]; exact h.hp.kdm i hk, fun i o x hx => by (rw [hhv] at hx; cases hx), hvv, h.hp.lt⟩, h.fr, ⟨fun i o x r b hx => (hcell i o x hx).elim, fun i vc r b q hx hw hr hq => ?_⟩⟩
  · obtain ⟨u, hu, k1⟩ := hvec i vc hx
    rw [k1.at_ k o c hk hc, k1.sh]
    have hn := k1.n
    exact h.hp.vcell i u r b k o c hu hr (by omega) (by rw [← k1.sh]; exact hc)
  · obtain ⟨u, hu, k1⟩ := hvec i vc hx
    rw [k1.sh] at hq
    exact h.hp.vfrz i u r b q hu (k1.wr hw) hr hq
  · obtain ⟨u, hu, k1⟩ := hvec i vc hx
    have := h.hp.vcap i u r b hu (k1.wr hw) hr
    have hn := k1.n
    omega
  · obtain ⟨u, hu, k1⟩ := hvec i vc hx
    rw [k1.sh] at hq
    exact h.own.vec i u r b q hu (k1.wr hw) hr hq

theorem wk_of {N : Nat} {S S' : St} (hl : S'.hp.length = S.hp.length) (hget : ∀ t, S'.get t = .bad ∨ ∀ (ρ : Rho) (u : Value), V ρ (S.get t) u → V ρ (S'.get t) u) (hcell : ∀ i o x, ¬ S'.cell i o = some x)
    (hvec : ∀ i v, S'.vec i = some v → ∃ u, S.vec i = some u ∧ VcLe u v) (hd : S'.dfs = S.dfs) (hhv : ∀ i o, hlookL i o S'.hvs = none) (hvv : ∀ i x, vlookL i S'.vvs = some x → i < S'.hp.length) : Wk N S S' := by
  intro M w0 ρ a w h
  refine ⟨fun t => ?_, h.sz, by rw [hd]; exact h.df, mem_of h.mem hl hcell hvec hhv hvv⟩
  rcases hget t with hb | hv
  · rw [hb]; exact V_bad _
  · exact hv ρ _ (h.fr t)

/-- A state of slots and rows as they are now. -/
def rwB : List Vc → List Blk
  | [] => []
  | v :: r => ⟨[], false, some v⟩ :: rwB r
def stR (fr : List AVal) (rows : List Vc) : St := ⟨fr, [], rwB rows, [], [], []⟩

theorem rwB_len : ∀ l : List Vc, (rwB l).length = l.length
  | [] => rfl
  | v :: l => by simp [rwB, rwB_len l]
theorem nthB_rw : ∀ (vs : List Vc) (j : Nat), nthB j (rwB vs) = match vs[j]? with | some v => ⟨[], false, some v⟩ | none => ⟨[], false, none⟩
  | [], j => by cases j <;> rfl
  | v :: vs, 0 => rfl
  | v :: vs, j + 1 => by simpa [rwB, nthB] using nthB_rw vs j
theorem stR_cell {fr : List AVal} {rows : List Vc} (i o : Nat) (x : AVal) : ¬ (stR fr rows).cell i o = some x := fun h => by
  have := cell_off h
  unfold St.blk stR at this
  simp only [nthB_rw] at this
  cases hv : rows[i]? with
  | none => rw [hv] at this; simp at this
  | some v => rw [hv] at this; simp at this
theorem stR_vec {fr : List AVal} {rows : List Vc} {i : Nat} {v : Vc} (h : (stR fr rows).vec i = some v) : rows[i]? = some v := by
  unfold St.vec St.blk stR at h
  simp only [nthB_rw] at h
  cases hv : rows[i]? with
  | none => rw [hv] at h; simp at h
  | some u => rw [hv] at h; simpa [vlookL] using h

def GetEq (S : St) : Nat → List AVal → Prop
  | _, [] => True
  | t, x :: r => (x = .bad ∨ ∀ (ρ : Rho) (u : Value), V ρ (S.get t) u → V ρ x u) ∧ GetEq S (t + 1) r
def VecsLe (S : St) : Nat → List Vc → Prop
  | _, [] => True
  | i, v :: r => (∃ u, S.vec i = some u ∧ VcLe u v) ∧ VecsLe S (i + 1) r

theorem ge_eq {S : St} {t : Nat} {x : AVal} (h : S.get t = x) (ρ : Rho) (u : Value) (hu : V ρ (S.get t) u) : V ρ x u := by rw [← h]; exact hu
theorem ge_int {S : St} {t : Nat} {k : IntKind} {n : Int} (h : S.get t = .int k n) (ρ : Rho) (u : Value) (hu : V ρ (S.get t) u) : V ρ (.sint k n) u := by rw [h] at hu; unfold V at hu ⊢; exact hu
theorem ge_bool {S : St} {t : Nat} {b : Bool} (h : S.get t = .bool b) (ρ : Rho) (u : Value) (hu : V ρ (S.get t) u) : V ρ (.sbool b) u := by rw [h] at hu; unfold V at hu ⊢; exact hu
theorem getEq_at {S : St} : ∀ (fr : List AVal) (t k : Nat), GetEq S t fr → nth k fr = .bad ∨ ∀ (ρ : Rho) (u : Value), V ρ (S.get (t + k)) u → V ρ (nth k fr) u
  | [], t, k, _ => Or.inl (by cases k <;> rfl)
  | x :: r, t, 0, h => h.1
  | x :: r, t, k + 1, h => by
    have := getEq_at r (t + 1) k h.2
    have e : t + (k + 1) = t + 1 + k := by omega
    rw [e]; exact this
theorem vecsLe_at {S : St} : ∀ (rows : List Vc) (i k : Nat) (v : Vc), VecsLe S i rows → rows[k]? = some v → ∃ u, S.vec (i + k) = some u ∧ VcLe u v
  | [], i, k, v, _, h => by simp at h
  | x :: r, i, 0, v, h, hk => by simp at hk; subst hk; exact h.1
  | x :: r, i, k + 1, v, h, hk => by
    have := vecsLe_at r (i + 1) k v h.2 (by simpa using hk)
    have e : i + (k + 1) = i + 1 + k := by omega
    rw [e]; exact this

theorem wk_row {N : Nat} {S : St} {fr : List AVal} {rows : List Vc} (hl : S.hp.length = rows.length) (hg : GetEq S 0 fr) (hv : VecsLe S 0 rows) (hd : S.dfs = []) : Wk N S (stR fr rows) := by
  refine wk_of (by show (rwB rows).length = _; rw [rwB_len, hl]) (fun t => ?_) stR_cell (fun i v h => ?_) (by rw [hd]; rfl) (fun i o => rfl) (fun i x h => by simp [stR, vlookL] at h)
  · have := getEq_at fr 0 t hg
    rw [Nat.zero_add] at this
    exact this
  · have := vecsLe_at rows 0 i v hv (stR_vec h)
    rw [Nat.zero_add] at this
    exact this

theorem VcLe.refl (v : Vc) : VcLe v v := ⟨rfl, Nat.le_refl _, fun h => h, fun _ _ _ _ _ => rfl⟩

section
variable {P : Program} {N : Nat}
/-- One way, to a state of slots and rows. -/
theorem Run.to {Γ : List (Nat × Ctr)} (hΓ : Good P Γ) (hmo : P.follows .mixedOrders = true) (fuel : Nat) {c : Code} {S : St} (p : List Bool) {e : Ex} {fr : List AVal} {rows : List Vc} (h0 : isWay (wayO p S (Ab.ev P Γ N fuel c S Dl.nil)) = true)
    (hb : wBs (wayO p S (Ab.ev P Γ N fuel c S Dl.nil)) = p) (hn : wNd (wayO p S (Ab.ev P Γ N fuel c S Dl.nil)) = true) (he : wE (wayO p S (Ab.ev P Γ N fuel c S Dl.nil)) = e)
    (hl : (wS (wayO p S (Ab.ev P Γ N fuel c S Dl.nil))).hp.length = rows.length) (hg : GetEq (wS (wayO p S (Ab.ev P Γ N fuel c S Dl.nil))) 0 fr) (hv : VecsLe (wS (wayO p S (Ab.ev P Γ N fuel c S Dl.nil))) 0 rows)
    (hd : (wS (wayO p S (Ab.ev P Γ N fuel c S Dl.nil))).dfs = []) : Run P N c S (e, stR fr rows) := by
  have := Run.way hΓ hmo p h0 hb hn
  rw [he] at this
  exact this.weak (Wk.refl S) (Nat.le_refl _) rfl (wk_row hl hg hv hd)
end

theorem wrap_next {j n : Nat} (h : j < n) (hn : n ≤ 140737488355328) : IntKind.i64.wrap (Int.ofNat j + 1) = Int.ofNat (j + 1) := by
  have e : (Int.ofNat j + 1 : Int) = ((j + 1 : Nat) : Int) := by simp
  rw [e]
  exact IntWalk.i64_in _ (by omega)
end Go.Ab
