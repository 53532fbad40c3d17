import Derived.Test.YtbblhkjkokbheaaGf
namespace Go.Ab
open Go Go.RowKit
set_option linter.unusedVariables false
/-! ### A row that is written, and handed back in part -/
section
variable {P : Program}
theorem sat_mkV {f : FuncId} {c : Ctr} (hcall : ∀ (args : Array Value) (w : World), (callFunc f args).run P w = .ok (.enter f args) w) (hx : c.x = none)
    (h : ∀ args S out, c.fn args S = some out → out.nd = true → (∃ ρ vs, VL ρ args vs) → ∃ x ys v u e' a' m', args = x.av :: ys ∧ AVal.flat.flatL ys = true ∧ S.vec x.i = some v ∧ v.wr = true ∧ u.sh = v.sh ∧ u.n = v.n ∧ u.wr = true ∧
      OnRowW P f x ys v ⟨.vec 0 e' a' m', [], [(0, u)], [], true, none⟩ ∧ out = ⟨.vec x.i e' a' m', [], [(x.i, u)], [], out.nd, none⟩) : Sat P f c := by
  unfold Sat
  rw [hx]
  refine ⟨hcall, fun args S out hfn hnd M w0 ρ w vs hM hv => ?_⟩
  obtain ⟨x, ys, v, u, e', a', m', rfl, hys, hSv, hvw, hush, hun, huw, hon, hout⟩ := h args S out hfn hnd ⟨ρ, vs, hv⟩
  let M' : Addr → Prop := fun a => ∃ r b q, ρ x.i = some (r, b) ∧ q < ρ.cap x.i * lenL v.sh ∧ a = ⟨r, b + q, none⟩
  have hρ0 : (rhoV ρ [x.i]) 0 = ρ x.i := rfl
  have hcap0 : (rhoV ρ [x.i]).cap 0 = ρ.cap x.i := rfl
  have hρj : ∀ {j : Nat} {p : Nat × Nat}, (rhoV ρ [x.i]) j = some p → j = 0 := fun {j p} hp => by
    cases j with
    | zero => rfl
    | succ j => simp [rhoV] at hp
  have hv0 : ∀ {j : Nat} {y : Vc}, (stR [] [v]).vec j = some y → j = 0 ∧ y = v := fun {j y} hy => by
    have := stR_vec hy
    cases j with
    | zero => simp at this; exact ⟨rfl, this.symm⟩
    | succ j => simp at this
  have hMV : Mem M' w (rhoV ρ [x.i]) (stR [] [v]) w := by
    refine ⟨⟨fun j o y hy => (stR_cell j o y hy).elim, fun j vc r b k o c hy hr hk hc => ?_, fun j o y r b hy => (stR_cell j o y hy).elim, fun j vc r b q hy hw hr hq => ?_, fun j vc r b hy hw hr => ?_, fun j j' r b b' hne hw hr hr' hl => ?_, fun j p hp => ?_, fun j hk => ?_, fun j o y hy => by (simp [stR, hlookL] at hy), fun j y hy => by (simp [stR, vlookL] at hy), fun j r b hr => ?_⟩, Fr.refl _ _, ⟨fun j o y r b hy => (stR_cell j o y hy).elim, fun j vc r b q hy hw hr hq => ?_⟩⟩
    · obtain ⟨rfl, rfl⟩ := hv0 hy
      obtain ⟨z, k1, k2⟩ := hM.hp.vcell x.i vc r b k o c hSv hr hk hc
      exact ⟨z, k1, V_flat _ _ (by cases c <;> rfl) k2⟩
    · obtain ⟨rfl, rfl⟩ := hv0 hy
      exact hM.hp.vfrz x.i vc r b q hSv hw hr hq
    · obtain ⟨rfl, rfl⟩ := hv0 hy
      exact hM.hp.vcap x.i vc r b hSv hw hr
    · exact hne ((hρj hr).trans (hρj hr').symm)
    · rw [hρj hp]; show 0 < (rwB [v]).length; simp [rwB]
    · cases j with
      | zero => show 0 < (rwB [v]).length; simp [rwB]
      | succ j => simp [rhoV] at hk
    · have := hρj hr
      subst this
      exact hM.hp.lt x.i r b hr
    · obtain ⟨rfl, rfl⟩ := hv0 hy
      exact Or.inl ⟨r, b, q, hr, hq, rfl⟩
  refine (hon M' w (rhoV ρ [x.i]) w vs hMV (views_V (xs := [x]) (is := [x.i]) hys 0 vs (fun k i hk => by rw [Nat.zero_add]; exact hk) hv)).mono ?_
  intro e w' hr
  cases e with
  | outgrown => exact hr.elim
  | panicked ch => obtain ⟨z, u', hp, _⟩ := hr; cases hp
  | returned z =>
    obtain ⟨_, ρ', hext, hu, hm'⟩ := hr
    have hm' : Mem M' w ρ' ((stR [] [v]).put [] [(0, u)] []) w' := hm'
    rw [hout]
    refine ⟨fun b v h => (by cases h), ρ, ExtS.refl _ _, ?_, ?_⟩
    · have hkn : ρ.kn x.i = true := by
        have h0 := hv
        unfold VL at h0
        obtain ⟨y, _, _, h1, _⟩ := h0
        unfold VA.av at h1
        unfold V at h1
        exact h1.2.1
      have e0 : ρ' 0 = ρ x.i := hext.2.1 0 (by show 0 < (rwB [v]).length; simp [rwB])
      have hu : V ρ' (.vec 0 e' a' m') z := hu
      unfold V at hu
      obtain ⟨k1, k2, base, c, k3, k4⟩ := hu
      show V ρ (.vec x.i e' a' m') z
      unfold V
      refine ⟨k1, hkn, base, c, k3, ?_⟩
      rcases k4 with k4 | ⟨r, b, k5, k6, k7, k8⟩
      · exact Or.inl k4
      · have k5' : ρ x.i = some (r, b) := by rw [← e0]; exact k5
        have hc : ρ'.cap 0 = ρ.cap x.i := ((hext.1.at_ 0 (r, b) k5').2).trans hcap0
        rw [hc] at k7 k8
        exact Or.inr ⟨r, b, k5', k6, k7, k8⟩
    have hkf : Fr M' w w' := hm'.fr
    have hcl : ∀ i o, (S.put [] [(x.i, u)] []).cell i o = S.cell i o := fun i o => by simp [St.put, St.ext, St.cell, St.blk, hlookL, hlook1]
    have hwB : S.wrB x.i = true := wrB_iff.2 (Or.inr ⟨v, hSv, hvw⟩)
    have hat : ∀ {r b}, ρ x.i = some (r, b) → ρ' 0 = some (r, b) ∧ ρ'.cap 0 = ρ.cap x.i := fun {r b} hr => by
      have := hext.1.at_ 0 (r, b) hr
      exact ⟨this.1, this.2.trans hcap0⟩
    have hother : ∀ (i r b q : Nat), i ≠ x.i → ρ i = some (r, b) → S.live i = true → ∀ y, w.cell? ⟨r, b + q, none⟩ = some y → w'.cell? ⟨r, b + q, none⟩ = some y := fun i r b q hne hr hlv y hy => by
      rw [hkf.cell _ (World.block_lt_of_cell? _ _ hy) (fun ⟨r', b', q', h1, h2, h3⟩ => by
        simp only [Addr.mk.injEq, and_true] at h3
        exact hM.hp.dis x.i i r' b' b (Ne.symm hne) hwB h1 (by rw [hr, h3.1]) hlv)]
      exact hy
    refine hM.step hkf (fun a ha => ?_) (fun i o y hy => ?_) (fun i o y hy => ?_) (fun i vc r b k o c hy hr hk hc => ?_) (fun i vc hy => ?_) (fun i hl => ?_) (fun i vc r b q y hy hw hr hv => ?_) (fun i => by simp [St.put, St.ext, St.blk]) (by simp [St.put, St.ext]) (fun i o y hy => ?_) (fun i y hy => ?_)
    · obtain ⟨r, b, q, h1, h2, h3⟩ := ha
      exact Or.inr ⟨x.i, v, r, b, q, hSv, hvw, h1, h2, h3⟩
    · rw [hcl] at hy
      obtain ⟨r, b, z', k1, k2, k3⟩ := hM.hp.cell i o y hy
      have hne : i ≠ x.i := fun e => by
        subst e
        have h1 := vec_cells hSv
        have h2 := cell_off hy
        rw [h1] at h2; simp at h2
      exact ⟨r, b, z', k1, hother i r b o hne k1 (live_cell hy) z' k2, k3⟩
    · rw [hcl] at hy; exact ⟨y, hy⟩
    · rw [put_vv_vec] at hy
      cases hs : S.vec i with
      | none => rw [hs] at hy; cases hy
      | some s =>
        rw [hs] at hy
        simp only at hy
        split at hy
        · rename_i hii
          subst hii
          cases hy
          obtain ⟨z', k1, k2⟩ := hm'.hp.vcell 0 u r b k o c stR1_put (hat hr).1 hk hc
          exact ⟨z', k1, V_flat _ _ (by cases c <;> rfl) k2⟩
        · rename_i hii
          cases hy
          obtain ⟨z', k1, k2⟩ := hM.hp.vcell i vc r b k o c hs hr hk hc
          exact ⟨z', hother i r b _ hii hr (live_vec hs hc) z' k1, k2⟩
    · rw [put_vv_vec] at hy
      cases hs : S.vec i with
      | none => rw [hs] at hy; cases hy
      | some s =>
        rw [hs] at hy
        simp only at hy
        split at hy
        · rename_i hii; subst hii; cases hy
          rw [hSv] at hs; cases hs
          exact ⟨v, rfl, by rw [hush], fun _ => ⟨hvw, by rw [hun]; exact Nat.le_refl _⟩⟩
        · cases hy; exact ⟨vc, rfl, rfl, fun h => ⟨h, Nat.le_refl _⟩⟩
    · rcases live_iff.1 hl with ⟨y, hy⟩ | ⟨y, c, sh, hy, hs⟩
      · rw [hcl] at hy; exact live_cell hy
      · rw [put_vv_vec] at hy
        cases hs' : S.vec i with
        | none => rw [hs'] at hy; cases hy
        | some s =>
          rw [hs'] at hy
          simp only at hy
          split at hy
          · rename_i hii; subst hii; cases hy
            rw [hSv] at hs'; cases hs'
            exact live_iff.2 (Or.inr ⟨v, c, sh, hSv, by rw [← hush]; exact hs⟩)
          · cases hy
            exact live_iff.2 (Or.inr ⟨y, c, sh, hs', hs⟩)
    · by_cases hin : M' ⟨r, b + q, none⟩
      · obtain ⟨r', b', q', h1, h2, h3⟩ := hin
        obtain ⟨g1, g2⟩ := hat h1
        obtain ⟨⟨z', hz⟩, _⟩ := hm'.hp.vfrz 0 u r' b' q' stR1_put huw g1 (by rw [g2, hush]; exact h2)
        exact ⟨z', by rw [h3]; exact hz⟩
      · exact ⟨y, by rw [hkf.cell _ (World.block_lt_of_cell? _ _ hv) hin]; exact hv⟩
    · have := hM.hp.ink i o y (by simpa [St.put, St.ext, hlookL, hlook1] using hy)
      simpa [St.put, St.ext] using this
    · simp only [St.put, St.ext, vlookL, vlook1, List.append_nil] at hy ⊢
      cases hb : Nat.beq i x.i with
      | true =>
        have := Nat.eq_of_beq_eq_true hb
        subst this
        have h1 := vec_cells hSv
        rcases Nat.lt_or_ge x.i S.hp.length with g | g
        · exact g
        · exfalso
          unfold St.vec St.blk at hSv
          rw [nthB_out _ _ g] at hSv
          simp at hSv
      | false =>
        rw [hb] at hy
        exact hM.hp.vink i y hy
end
end Go.Ab
