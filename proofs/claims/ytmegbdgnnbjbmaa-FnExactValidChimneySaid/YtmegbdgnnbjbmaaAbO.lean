import Derived.Test.YtmegbdgnnbjbmaaAbN
namespace Go.Ab
open Go Go.RowKit
set_option linter.unusedVariables false
/-! ### Arguments of several kinds -/
/-- The cells of an element of a shape. -/
def encC (fd : Nat → Nat) (gd : Nat → Int) (bd : Nat → Bool) : Nat → List CK → List AVal
  | _, [] => []
  | o, .f32 :: r => .flt .f32 (fd o) :: encC fd gd bd (o + 1) r
  | o, .int t :: r => .sint t (gd o) :: encC fd gd bd (o + 1) r
  | o, .bool :: r => .sbool (bd o) :: encC fd gd bd (o + 1) r

def ckT (P : Program) (t : TypeId) : Option CK :=
  match P.underlying t with
  | some (.float .f32) => some .f32
  | some (.int k) => some (.int k)
  | some .bool => some .bool
  | _ => none

def ckTs (P : Program) : List TypeId → Option (List CK)
  | [] => some []
  | t :: r => match ckT P t, ckTs P r with
    | some c, some l => some (c :: l)
    | _, _ => none

def wV : Value → Nat | .float _ b => b | _ => 0
def gV : Value → Int | .int _ n => n | _ => 0
def bV : Value → Bool | .bool b => b | _ => false

theorem enc_of_cells {P : Program} {ρ : Rho} (fd : Nat → Nat) (gd : Nat → Int) (bd : Nat → Bool) : ∀ (ts : List TypeId) (sh : List CK) (vs : List Value) (o : Nat), ckTs P ts = some sh → vs.length = ts.length →
    (∀ (i : Nat) (v : Value) (t : TypeId), vs[i]? = some v → ts[i]? = some t → fd (o + i) = wV v ∧ gd (o + i) = gV v ∧ bd (o + i) = bV v ∧ ∀ c, ckT P t = some c → match c with | .f32 => ∃ b, v = .float .f32 b ∧ wfW .f32 b | .int k => ∃ n, v = .int k n | .bool => ∃ b, v = .bool b) →
    VL ρ (encC fd gd bd o sh) vs
  | [], sh, vs, o, h, hl, _ => by
    simp only [ckTs, Option.some.injEq] at h
    subst h
    cases vs with
    | nil => simp [encC, VL]
    | cons v vs => simp at hl
  | t :: ts, sh, vs, o, h, hl, hc => by
    unfold ckTs at h
    split at h
    · rename_i c l h1 h2
      cases h
      cases vs with
      | nil => simp at hl
      | cons v vs =>
        obtain ⟨e1, e2, e3, hk⟩ := hc 0 v t rfl rfl
        have hk := hk c h1
        have IH := enc_of_cells (P := P) (ρ := ρ) fd gd bd ts l vs (o + 1) h2 (by simpa using hl) (fun i v t hv ht => by
          have := hc (i + 1) v t (by simpa using hv) (by simpa using ht)
          have e : o + (i + 1) = o + 1 + i := by omega
          rw [e] at this
          exact this)
        cases c with
        | f32 =>
          obtain ⟨b, rfl, hb⟩ := hk
          show VL ρ (.flt .f32 (fd o) :: encC fd gd bd (o + 1) l) _
          unfold VL
          have e1 : fd o = b := e1
          exact ⟨_, vs, rfl, by rw [e1]; unfold V; exact ⟨b, rfl, sameW.refl _ _, hb, hb⟩, IH⟩
        | int k =>
          obtain ⟨n, rfl⟩ := hk
          show VL ρ (.sint k (gd o) :: encC fd gd bd (o + 1) l) _
          unfold VL
          have e2 : gd o = n := e2
          exact ⟨_, vs, rfl, by rw [e2]; unfold V; rfl, IH⟩
        | bool =>
          obtain ⟨b, rfl⟩ := hk
          show VL ρ (.sbool (bd o) :: encC fd gd bd (o + 1) l) _
          unfold VL
          have e3 : bd o = b := e3
          exact ⟨_, vs, rfl, by rw [e3]; unfold V; rfl, IH⟩
    · cases h

/-- A struct or an array of such cells, opened. -/
theorem open_cells {P : Program} {W : World} {r : Reach} {base : Nat} {t : TypeId} {v : Value} {ts : List TypeId} {sh : List CK} (hagg : (match P.underlying t with | some (.struct _) | some (.array _ _) => true | _ => false) = true)
    (hct : P.cellTypes P.depth t = some ts) (hn : P.cellsOf t = ts.length) (hk : ckTs P ts = some sh) (h : Value.okWide P W r base t v) :
    ∃ fd gd bd vs, v = .agg ⟨vs⟩ ∧ VL noRho (encC fd gd bd 0 sh) vs := by
  unfold Value.okWide at h
  have h' : ∃ cs, v = .agg cs ∧ cs.size = P.cellsOf t ∧ Row.okWide P W r base t cs := by
    cases hu : P.underlying t with
    | none => rw [hu] at hagg; cases hagg
    | some d => rw [hu] at hagg h; cases d <;> first | exact h | cases hagg
  obtain ⟨cs, rfl, hsz, ts', hts, _, hcells⟩ := h'
  rw [hct] at hts; cases hts
  obtain ⟨vs⟩ := cs
  have hlen : vs.length = ts.length := by simpa [hn] using hsz
  refine ⟨fun i => wV (vs[i]?.getD undef), fun i => gV (vs[i]?.getD undef), fun i => bV (vs[i]?.getD undef), vs, rfl, enc_of_cells (P := P) _ _ _ ts sh vs 0 hk hlen (fun i v t hv ht => ?_)⟩
  refine ⟨by simp [hv], by simp [hv], by simp [hv], fun c hc => ?_⟩
  obtain ⟨u, hu, hok⟩ := hcells i v (by simpa using hv)
  have hut : u = t := by
    have hlt : i < ts.length := by
      rcases Nat.lt_or_ge i ts.length with h | h
      · exact h
      · rw [List.getElem?_eq_none h] at ht; cases ht
    rw [Nat.mod_eq_of_lt hlt, ht] at hu; cases hu; rfl
  subst hut
  unfold ckT at hc
  unfold Cell.okWide at hok
  split at hc
  · rename_i hf
    cases hc
    rw [hf] at hok
    cases v <;> simp [Cell.ok, hf] at hok
    obtain ⟨rfl, hb⟩ := hok
    exact ⟨_, rfl, hb⟩
  · rename_i k hf
    cases hc
    rw [hf] at hok
    cases v <;> simp [Cell.ok, hf] at hok
    obtain ⟨rfl, hb⟩ := hok
    exact ⟨_, rfl⟩
  · rename_i hf
    cases hc
    rw [hf] at hok
    cases v <;> simp [Cell.ok, hf] at hok
    exact ⟨_, rfl⟩
  · cases hc

theorem VL_hd {ρ : Rho} {k : FloatKind} {a : Nat} {r : List AVal} {vs : List Value} (h : VL ρ (.flt k a :: r) vs) : wfW k a := by
  unfold VL at h
  obtain ⟨v, vs', rfl, h1, h2⟩ := h
  exact V_wf h1
theorem VL_tl {ρ : Rho} {x : AVal} {r : List AVal} {vs : List Value} (h : VL ρ (x :: r) vs) : ∃ vs', VL ρ r vs' := by
  unfold VL at h
  obtain ⟨v, vs', rfl, h1, h2⟩ := h
  exact ⟨vs', h2⟩
/-- A float and a code. -/
noncomputable def askT (R R' : Option AVal) : Bool := cond (cond (!sO (wide (wT R 0)) (wide (wT R' 0))) true (iT R 1 != iT R' 1)) false true
theorem askT_self (R : Option AVal) : askT R R = true := by unfold askT; rw [sO_self]; simp
theorem askT_of {R R' : Option AVal} (h : R = R') : askT R R' = true := by subst h; exact askT_self R
end Go.Ab
