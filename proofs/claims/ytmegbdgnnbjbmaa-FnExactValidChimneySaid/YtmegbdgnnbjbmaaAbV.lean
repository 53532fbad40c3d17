import Derived.Test.YtmegbdgnnbjbmaaAbU
namespace Go.Ab
open Go Go.RowKit
set_option linter.unusedVariables false
/-! ### What a piece of code has made is forgotten -/
def GetEqU (S : St) (n : Nat) : Nat → List AVal → Prop
  | _, [] => True
  | t, x :: r => (x = .bad ∨ (x.under n = true ∧ ∀ (ρ : Rho) (u : Value), V ρ (S.get t) u → V ρ x u)) ∧ GetEqU S n (t + 1) r

theorem getEqU_at {S : St} {n : Nat} : ∀ (fr : List AVal) (t k : Nat), GetEqU S n t fr → nth k fr = .bad ∨ ((nth k fr).under n = true ∧ ∀ (ρ : Rho) (u : Value), V ρ (S.get (t + k)) u → V ρ (nth k fr) u)
  | [], t, k, _ => Or.inl (by cases k <;> rfl)
  | x :: r, t, 0, h => h.1
  | x :: r, t, k + 1, h => by
    have := getEqU_at r (t + 1) k h.2
    have e : t + (k + 1) = t + 1 + k := by omega
    rw [e]; exact this

theorem rel_cut {N : Nat} {M : Addr → Prop} {w0 : World} {ρ : Rho} {S : St} {a : Act} {w : World} {fr : List AVal} {rows : List Vc} (h : Rel N M w0 ρ S a w) (hl : rows.length ≤ S.hp.length) (hg : GetEqU S rows.length 0 fr) (hv : VecsLe S 0 rows) (hd : S.dfs = []) :
    Rel N M w0 (cutR rows.length ρ) (stR fr rows) a w := by
  have hag := cutR_agr rows.length ρ
  have hold : ∀ {i p}, cutR rows.length ρ i = some p → i < rows.length ∧ ρ i = some p := fun {i p} hp => cutR_old hp
  have hcap : ∀ i, (cutR rows.length ρ).cap i = ρ.cap i := fun i => rfl
  have vec : ∀ i v, (stR fr rows).vec i = some v → ∃ u, S.vec i = some u ∧ VcLe u v := fun i v hx => by
    have := vecsLe_at rows 0 i v hv (stR_vec hx)
    rw [Nat.zero_add] at this
    exact this
  have hwr : ∀ i, (stR fr rows).wrB i = true → S.wrB i = true := fun i hw => by
    rcases wrB_iff.1 hw with ⟨o, x, hx, _⟩ | ⟨v, hv, hw⟩
    · exact (stR_cell i o x hx).elim
    · obtain ⟨u, hu, k⟩ := vec i v hv
      exact wrB_iff.2 (Or.inr ⟨u, hu, k.wr hw⟩)
  have hlv : ∀ i, (stR fr rows).live i = true → S.live i = true := fun i hw => by
    rcases live_iff.1 hw with ⟨x, hx⟩ | ⟨v, c, sh, hv, hs⟩
    · exact (stR_cell i 0 x hx).elim
    · obtain ⟨u, hu, k⟩ := vec i v hv
      exact live_iff.2 (Or.inr ⟨u, c, sh, hu, by rw [← k.sh]; exact hs⟩)
  have hlen : (stR fr rows).hp.length = rows.length := rwB_len rows
  refine ⟨fun t => ?_, h.sz, ?_, ⟨⟨fun i o x hx => (stR_cell i o x hx).elim, fun i vc r b k o c hx hr hk hc => ?_, fun i o x r b hx => (stR_cell i o x hx).elim, fun i vc r b q hx hw hr hq => ?_, fun i vc r b hx hw hr => ?_, fun i j r b b' hij hw hr hr' hj => h.mem.hp.dis i j r b b' hij (hwr i hw) (hold hr).2 (hold hr').2 (hlv j hj), fun i p hp => by rw [hlen]; exact (hold hp).1, fun i hk => ?_, fun i o x hx => by (simp [stR, hlookL] at hx), fun i x hx => by (simp [stR, vlookL] at hx), fun i r b hr => h.mem.hp.lt i r b (hold hr).2⟩, h.mem.fr, ⟨fun i o x r b hx => (stR_cell i o x hx).elim, fun i vc r b q hx hw hr hq => ?_⟩⟩⟩
  · have := getEqU_at fr 0 t hg
    rw [Nat.zero_add] at this
    show V _ (nth t fr) _
    rcases this with hb | ⟨hu, hv⟩
    · rw [hb]; exact V_bad _
    · exact V_under hag _ _ hu (hv ρ _ (h.fr t))
  · have := h.df
    rw [hd] at this
    exact this
  · obtain ⟨u, hu, k1⟩ := vec i vc hx
    rw [k1.at_ k o c hk hc, k1.sh]
    have hn := k1.n
    obtain ⟨x, g1, g2⟩ := h.mem.hp.vcell i u r b k o c hu (hold hr).2 (by omega) (by rw [← k1.sh]; exact hc)
    exact ⟨x, g1, V_flat _ _ (by cases c <;> rfl) g2⟩
  · obtain ⟨u, hu, k1⟩ := vec i vc hx
    rw [k1.sh] at hq
    exact h.mem.hp.vfrz i u r b q hu (k1.wr hw) (hold hr).2 hq
  · obtain ⟨u, hu, k1⟩ := vec i vc hx
    have := h.mem.hp.vcap i u r b hu (k1.wr hw) (hold hr).2
    have hn := k1.n
    show vc.n.val ≤ ρ.cap i
    omega
  · rw [hlen]
    simp only [cutR, Bool.and_eq_true, decide_eq_true_eq] at hk
    exact hk.1
  · obtain ⟨u, hu, k1⟩ := vec i vc hx
    rw [k1.sh] at hq
    exact h.mem.own.vec i u r b q hu (k1.wr hw) (hold hr).2 hq

section
variable {P : Program} {N : Nat}
/-- One way, to a state of slots and rows, what was made on it forgotten. -/
theorem Run.toC {Γ : List (Nat × Ctr)} (hΓ : Good P Γ) (hmo : P.follows .mixedOrders = true) (fuel : Nat) {c : Code} {S : St} (p : List Bool) {e : Ex} {fr : List AVal} {rows : List Vc} (he : ∀ v, e ≠ .panic v) (hS : S.hp.length ≤ rows.length) (h0 : isWay (wayO p S (Ab.ev P Γ N fuel c S Dl.nil)) = true)
    (hb : wBs (wayO p S (Ab.ev P Γ N fuel c S Dl.nil)) = p) (hn : wNd (wayO p S (Ab.ev P Γ N fuel c S Dl.nil)) = true) (hE : wE (wayO p S (Ab.ev P Γ N fuel c S Dl.nil)) = e)
    (hl : rows.length ≤ (wS (wayO p S (Ab.ev P Γ N fuel c S Dl.nil))).hp.length) (hg : GetEqU (wS (wayO p S (Ab.ev P Γ N fuel c S Dl.nil))) rows.length 0 fr) (hv : VecsLe (wS (wayO p S (Ab.ev P Γ N fuel c S Dl.nil))) 0 rows)
    (hd : (wS (wayO p S (Ab.ev P Γ N fuel c S Dl.nil))).dfs = []) : Run P N c S (e, stR fr rows) := by
  have hr := Run.way hΓ hmo p h0 hb hn
  rw [hE] at hr
  intro n0 hn0 M w0 ρ a w Q hR hQ
  refine hr n0 hn0 M w0 ρ a w Q hR (fun ρ' a' w' ex hext hx hr' => ?_)
  refine hQ (cutR rows.length ρ') a' w' ex ?_ ?_ (rel_cut hr' hl hg hv hd)
  · refine ⟨⟨fun i p hp => ?_, fun i hk => ?_⟩, fun i hi => ?_, fun i hi => ?_⟩
    · have := hR.mem.hp.dom i p hp
      obtain ⟨k1, k2⟩ := hext.1.at_ i p hp
      exact ⟨by simp only [cutR]; rw [if_pos (by omega)]; exact k1, k2⟩
    · have := hR.mem.hp.kdm i hk
      have k1 := hext.1.kn i hk
      simp only [cutR, Bool.and_eq_true, decide_eq_true_eq]
      exact ⟨by omega, k1⟩
    · simp only [cutR]; rw [if_pos (by omega)]; exact hext.2.1 i hi
    · have : decide (i < rows.length) = true := decide_eq_true (by omega)
      simp only [cutR, this, Bool.true_and]; exact hext.2.2 i hi
  · cases e with
    | panic v => exact (he v rfl).elim
    | _ => exact hx
end
end Go.Ab
