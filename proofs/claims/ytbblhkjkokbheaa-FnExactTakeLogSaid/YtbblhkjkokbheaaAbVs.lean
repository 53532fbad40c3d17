import Derived.Test.YtbblhkjkokbheaaGa
namespace Go.Ab
open Go Go.RowKit
set_option linter.unusedVariables false
section
variable {M : Addr → Prop} {w0 w : World} {S : St} {ρ : Rho}
/-- A store of cells into a row, from a place on: the row reads otherwise there. -/
theorem Mem.vset {P : Program} (h : Mem M w0 ρ S w) {i r b : Nat} {vc vc' : Vc} (hvc : S.vec i = some vc) (hw : vc.wr = true) (hr : ρ i = some (r, b)) (hsh : vc'.sh = vc.sh) (hn : vc'.n = vc.n) (hw' : vc'.wr = true)
    {off : Nat} {vs : List Value} (h1 : ∀ v ∈ vs, v.oneCell' = true) (hoff : off + vs.length ≤ ρ.cap i * lenL vc.sh)
    (hnew : ∀ q p c, q < vc.n.val → nthC p vc.sh = some c → (∃ j v, q * lenL vc.sh + p = off + j ∧ vs[j]? = some v ∧ V ρ (vc'.mkA q p c) v) ∨ ((∀ j, j < vs.length → q * lenL vc.sh + p ≠ off + j) ∧ vc'.mkA q p c = vc.mkA q p c)) :
    ∃ w', (storeCells ⟨r, b + off, none⟩ vs).run P w = .ok () w' ∧ Mem M w0 ρ (S.put [] [(i, vc')] []) w' := by
  have hoff' : ∀ j, j < vs.length → off + j < ρ.cap i * lenL vc.sh := fun j hj => by omega
  have hwB : S.wrB i = true := wrB_iff.2 (Or.inr ⟨vc, hvc, hw⟩)
  obtain ⟨w', hrun, e1, e2, e3, e4, e5, e6, e7, e8⟩ := run_storeCells (P := P) r (b + off) vs 0 w h1
    (fun j hj => by
      obtain ⟨⟨v, h1⟩, _⟩ := h.hp.vfrz i vc r b _ hvc hw hr (hoff' j hj)
      exact ⟨v, by rw [← h1]; congr 1; simp only [Addr.mk.injEq, true_and, and_true]; omega⟩)
    (fun j hj => by
      obtain ⟨_, h1⟩ := h.hp.vfrz i vc r b _ hvc hw hr (hoff' j hj)
      rw [← h1]; congr 1; simp only [Addr.mk.injEq, true_and, and_true]; omega)
  simp only [Nat.add_zero] at e7 e8
  have hcl : ∀ i' o', (S.put [] [(i, vc')] []).cell i' o' = S.cell i' o' := fun i' o' => by simp [St.put, St.ext, St.cell, St.blk, hlookL, hlook1]
  have hother : ∀ (i' r' b' q : Nat), i' ≠ i → ρ i' = some (r', b') → S.live i' = true → w'.cell? ⟨r', b' + q, none⟩ = w.cell? ⟨r', b' + q, none⟩ := fun i' r' b' q hne hr' hlv =>
    e8 _ (fun j hj e => by
      simp only [Addr.mk.injEq, and_true] at e
      exact h.hp.dis i i' r b b' (Ne.symm hne) hwB hr (by rw [hr', e.1]) hlv)
  refine ⟨w', hrun, h.step (M' := fun a => ∃ j, j < vs.length ∧ a = ⟨r, b + off + j, none⟩) ⟨e1, e2, e3, by omega, ?_, ?_, fun a _ => e5 a⟩ ?_ ?_ ?_ ?_ ?_ ?_ ?_ (fun k => by simp [St.put, St.ext, St.blk]) (by simp [St.put, St.ext]) ?_ ?_⟩
  · intro q hq hn
    by_cases hqr : q = r
    · subst hqr
      cases vs with
      | nil =>
        simp [storeCells] at hrun
        rw [← hrun]
      | cons v vs => exact absurd ⟨0, by simp, rfl⟩ (hn (b + off))
    · exact e6 q hqr
  · intro a ha hn
    exact e8 a (fun j hj e => hn ⟨j, hj, e⟩)
  · rintro a ⟨j, hj, rfl⟩
    exact Or.inr ⟨i, vc, r, b, off + j, hvc, hw, hr, hoff' j hj, by rw [Nat.add_assoc]⟩
  · intro i' o' x hx
    rw [hcl] at hx
    obtain ⟨r', b', v, k1, k2, k3⟩ := h.hp.cell i' o' x hx
    have hne : i' ≠ i := fun e => by
      subst e
      have h1 := vec_cells hvc
      have h2 := cell_off hx
      rw [h1] at h2; simp at h2
    exact ⟨r', b', v, k1, by rw [hother i' r' b' o' hne k1 (live_cell hx)]; exact k2, k3⟩
  · intro i' o' x hx
    rw [hcl] at hx; exact ⟨x, hx⟩
  · intro i' vc1 r' b' q p c hx hr' hq hc
    rw [put_vv_vec] at hx
    cases hy : S.vec i' with
    | none => rw [hy] at hx; cases hx
    | some y =>
      rw [hy] at hx
      simp only at hx
      split at hx
      · rename_i hii
        subst hii
        cases hx
        rw [hr] at hr'; cases hr'
        rw [hsh] at hc ⊢
        rw [hn] at hq
        rcases hnew q p c hq hc with ⟨j, v, k1, k2, k3⟩ | ⟨k1, k2⟩
        · refine ⟨v, ?_, k3⟩
          have := e7 j v k2
          rw [← this]; congr 1; simp only [Addr.mk.injEq, true_and, and_true]; omega
        · rw [k2]
          obtain ⟨v, k3, k4⟩ := h.hp.vcell i' vc r b q p c hvc hr hq hc
          refine ⟨v, ?_, k4⟩
          rw [e8 _ (fun j hj e => ?_)]
          · exact k3
          · simp only [Addr.mk.injEq, true_and, and_true] at e
            exact k1 j hj (by omega)
      · rename_i hii
        cases hx
        obtain ⟨v, k2, k3⟩ := h.hp.vcell i' vc1 r' b' q p c hy hr' hq hc
        exact ⟨v, by rw [hother i' r' b' _ hii hr' (live_vec hy hc)]; exact k2, k3⟩
  · intro i' vc1 hx
    rw [put_vv_vec] at hx
    cases hy : S.vec i' with
    | none => rw [hy] at hx; cases hx
    | some y =>
      rw [hy] at hx
      simp only at hx
      split at hx
      · rename_i hii; subst hii; cases hx
        rw [hvc] at hy; cases hy
        exact ⟨vc, rfl, by rw [hsh], fun _ => ⟨hw, by rw [hn]; exact Nat.le_refl _⟩⟩
      · cases hx; exact ⟨vc1, rfl, rfl, fun h => ⟨h, Nat.le_refl _⟩⟩
  · intro j hj
    rcases live_iff.1 hj with ⟨x, hx⟩ | ⟨v, c, sh, hx, hs⟩
    · rw [hcl] at hx; exact live_cell hx
    · rw [put_vv_vec] at hx
      cases hy : S.vec j with
      | none => rw [hy] at hx; cases hx
      | some y =>
        rw [hy] at hx
        simp only at hx
        split at hx
        · rename_i hii; subst hii; cases hx
          rw [hvc] at hy; cases hy
          exact live_iff.2 (Or.inr ⟨vc, c, sh, hvc, by rw [← hsh]; exact hs⟩)
        · cases hx
          exact live_iff.2 (Or.inr ⟨v, c, sh, hy, hs⟩)
  · intro i' vc1 r' b' q v hx _ hr' hv0
    by_cases hq : ∃ j, j < vs.length ∧ (⟨r', b' + q, none⟩ : Addr) = ⟨r, b + off + j, none⟩
    · obtain ⟨j, hj, e⟩ := hq
      rw [e]
      exact ⟨vs[j], e7 j vs[j] (List.getElem?_eq_getElem hj)⟩
    · rw [e8 _ (fun j hj e => hq ⟨j, hj, e⟩)]
      exact ⟨v, hv0⟩
  · intro i' o' x hx
    have := h.hp.ink i' o' x (by simpa [St.put, St.ext, hlookL, hlook1] using hx)
    simpa [St.put, St.ext] using this
  · intro i' x hx
    simp only [St.put, St.ext, vlookL, vlook1] at hx
    simp only [St.put, St.ext, List.append_nil]
    cases hb : Nat.beq i' i with
    | true =>
      have := Nat.eq_of_beq_eq_true hb
      subst this
      exact vec_lt hvc
    | false =>
      rw [hb] at hx
      exact h.hp.vink i' x hx
end
end Go.Ab
