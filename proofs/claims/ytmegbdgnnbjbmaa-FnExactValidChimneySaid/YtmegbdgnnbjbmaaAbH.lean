import Derived.Test.YtmegbdgnnbjbmaaAbG
namespace Go.Ab
open Go Go.RowKit
set_option linter.unusedVariables false
section
variable {M : Addr → Prop} {w0 : World} {ρ : Rho} {S : St} {w : World}

theorem vec_new {hv : List ((Nat × Nat) × AVal)} {vv : List (Nat × Vc)} {vs : List Vc} (hSv : ∀ i x, vlookL i S.vvs = some x → i < S.hp.length) {i : Nat} (hlow : vlook1 i vv = none) (hi : S.hp.length ≤ i) :
    (S.ext ⟨[], hv, vv, blksOf vs, [], true⟩).vec i = vs[i - S.hp.length]? := by
  have e : i = S.hp.length + (i - S.hp.length) := by omega
  have hnv : vlookL i S.vvs = none := by
    cases hh : vlookL i S.vvs with
    | none => rfl
    | some z => have := hSv i z hh; omega
  unfold St.vec
  rw [e, blk_ext_right, ← e]
  simp only [nth_blksOf]
  cases vs[i - S.hp.length]? with
  | none => rfl
  | some v => simp only [St.ext, vlookL, hlow, hnv]

theorem cell_new {hv : List ((Nat × Nat) × AVal)} {vv : List (Nat × Vc)} {vs : List Vc} {i o : Nat} {x : AVal} (hx : (S.ext ⟨[], hv, vv, blksOf vs, [], true⟩).cell i o = some x) : i < S.hp.length := by
  rcases Nat.lt_or_ge i S.hp.length with hlt | hge
  · exact hlt
  · have hoff := cell_off hx
    have e : i = S.hp.length + (i - S.hp.length) := by omega
    rw [e, blk_ext_right, nth_blksOf] at hoff
    simp at hoff

/-- WHERE A WAY ENDS: the caller's memory. -/
theorem leaf_mem {X : St} {ρ' ρm : Rho} {w' : World} {m : Nm} {src : Nat → Option Nat} {ahv hv : List ((Nat × Nat) × AVal)} {avv : List (Nat × Vc)} (hS : Mem M w0 ρ S w) (hX : Mem M w0 ρ' X w') (hext : ExtS S.hp.length ρ ρ')
    (hacc : Acc S X ahv avv) (ho : oldHv S.hp.length ahv = some hv) (hk : NmOk S.hp.length X ρ' m ρm src) : ExtS S.hp.length ρ ρm ∧ RtOk S M w0 ρm hv (oldVv S.hp.length avv) m.vs w' := by
  obtain ⟨ho1, ho2⟩ := oldHv_spec ho
  have hov := oldVv_spec (base := S.hp.length) avv
  have hE : Ext ρ ρm := ⟨fun i p hp => by
      have hi := hS.hp.dom i p hp
      obtain ⟨h1, h2⟩ := hext.1.at_ i p hp
      obtain ⟨k1, k2, k3⟩ := hk.lo i hi
      exact ⟨k1.trans h1, k2.trans h2⟩, fun i hi => by
      have hlt := hS.hp.kdm i hi
      exact (hk.lo i hlt).2.2.trans (hext.1.kn i hi)⟩
  have hES : ExtS S.hp.length ρ ρm := ⟨hE, fun i hi => (hk.lo i hi).1.trans (hext.2.1 i hi), fun i hi => (hk.lo i hi).2.2.trans (hext.2.2 i hi)⟩
  refine ⟨hES, ?_⟩
  have hlow : ∀ i, S.hp.length ≤ i → vlook1 i (oldVv S.hp.length avv) = none := fun i hi => by rw [hov, if_neg (by omega)]
  have hcl : ∀ {i : Nat}, i < S.hp.length → ∀ o, (S.ext ⟨[], hv, oldVv S.hp.length avv, blksOf m.vs, [], true⟩).cell i o = X.cell i o := fun hi o => hacc.cell ho1 hi o
  have hvl : ∀ {i : Nat}, i < S.hp.length → (S.ext ⟨[], hv, oldVv S.hp.length avv, blksOf m.vs, [], true⟩).vec i = X.vec i := fun hi => hacc.vec hov hi
  have hbl : ∀ {i : Nat}, i < S.hp.length → (S.ext ⟨[], hv, oldVv S.hp.length avv, blksOf m.vs, [], true⟩).blk i = X.blk i := fun hi => (blk_ext_left _ _ hi).trans (hacc.blk hi).symm
  have hvn : ∀ {i : Nat}, S.hp.length ≤ i → (S.ext ⟨[], hv, oldVv S.hp.length avv, blksOf m.vs, [], true⟩).vec i = m.vs[i - S.hp.length]? := fun {i} hi => vec_new hS.hp.vink (hlow i hi) hi
  have hag : Agr S.hp.length ρ' ρm := fun j hj => ⟨fun p hp => ⟨(hk.lo j hj).1.trans hp, (hk.lo j hj).2.1⟩, fun hk' => (hk.lo j hj).2.2.trans hk'⟩
  have hlo : ∀ {i : Nat} {p : Nat × Nat}, i < S.hp.length → ρm i = some p → ρ' i = some p := fun {i p} hi hp => (hk.lo i hi).1.symm.trans hp
  -- where a new row lies
  have hrow : ∀ {i r b : Nat}, S.hp.length ≤ i → ρm i = some (r, b) → ∃ j a n v, src (i - S.hp.length) = some j ∧ S.hp.length ≤ j ∧ i < S.hp.length + m.vs.length ∧ m.vs[i - S.hp.length]? = some (shiftV v a n) ∧ X.vec j = some v ∧ 1 ≤ lenL v.sh ∧ a + n.val ≤ v.n.val ∧
      ∃ b0, ρ' j = some (r, b0) ∧ b = b0 + a * lenL v.sh ∧ ρm.cap i = ρ'.cap j - a := by
    intro i r b hi hp
    have hlt : i < S.hp.length + m.vs.length := by
      rcases Nat.lt_or_ge i (S.hp.length + m.vs.length) with h | h
      · exact h
      · rw [(hk.hi i h).1] at hp; cases hp
    have e : S.hp.length + (i - S.hp.length) = i := by omega
    have hu : m.vs[i - S.hp.length]? = some m.vs[i - S.hp.length] := List.getElem?_eq_getElem (by omega)
    cases hs : src (i - S.hp.length) with
    | none =>
      have := (hk.nil _ _ hu hs).2
      rw [e, hp] at this; cases this
    | some j =>
      obtain ⟨_, g2, a, n, v, g3, g4, g5, g6, g7⟩ := hk.row _ _ j hu hs
      rw [e] at g7
      obtain ⟨b0, k1, k2, k3⟩ := g7 r b hp
      exact ⟨j, a, n, v, rfl, g2, hlt, by rw [hu, g5], g3, g4, g6, b0, k1, k2, k3⟩
  -- the block that stands for a block
  have hstar : ∀ {i r b : Nat}, ρm i = some (r, b) → ∃ i' b', ρ' i' = some (r, b') ∧ ((S.ext ⟨[], hv, oldVv S.hp.length avv, blksOf m.vs, [], true⟩).wrB i = true → X.wrB i' = true) ∧ ((S.ext ⟨[], hv, oldVv S.hp.length avv, blksOf m.vs, [], true⟩).live i = true → X.live i' = true) ∧
      ((i < S.hp.length ∧ i' = i) ∨ (S.hp.length ≤ i ∧ S.hp.length ≤ i' ∧ i < S.hp.length + m.vs.length ∧ src (i - S.hp.length) = some i')) := by
    intro i r b hp
    rcases Nat.lt_or_ge i S.hp.length with hi | hi
    · refine ⟨i, b, hlo hi hp, fun hw => ?_, fun hl => ?_, Or.inl ⟨hi, rfl⟩⟩
      · rcases wrB_iff.1 hw with ⟨o, x, hx, hw⟩ | ⟨x, hx, hw⟩
        · rw [hcl hi] at hx; rw [hbl hi] at hw
          exact wrB_iff.2 (Or.inl ⟨o, x, hx, hw⟩)
        · rw [hvl hi] at hx
          exact wrB_iff.2 (Or.inr ⟨x, hx, hw⟩)
      · rcases live_iff.1 hl with ⟨x, hx⟩ | ⟨x, c, sh, hx, hs⟩
        · rw [hcl hi] at hx; exact live_cell hx
        · rw [hvl hi] at hx; exact live_iff.2 (Or.inr ⟨x, c, sh, hx, hs⟩)
    · obtain ⟨j, a, n, v, q1, q2, q3, q4, q5, q6, q7, b0, q8, q9, q10⟩ := hrow hi hp
      refine ⟨j, b0, q8, fun hw => ?_, fun hl => ?_, Or.inr ⟨hi, q2, q3, q1⟩⟩
      · rcases wrB_iff.1 hw with ⟨o, x, hx, hw⟩ | ⟨x, hx, hw⟩
        · have := cell_new hx; omega
        · rw [hvn hi, q4] at hx
          cases hx
          exact wrB_iff.2 (Or.inr ⟨v, q5, hw⟩)
      · rcases live_iff.1 hl with ⟨x, hx⟩ | ⟨x, c, sh, hx, hs⟩
        · have := cell_new hx; omega
        · rw [hvn hi, q4] at hx
          cases hx
          exact live_iff.2 (Or.inr ⟨v, c, sh, q5, hs⟩)
  have hlen : (S.ext ⟨[], hv, oldVv S.hp.length avv, blksOf m.vs, [], true⟩).hp.length = S.hp.length + m.vs.length := by simp [St.ext, len_blksOf]
  refine ⟨⟨⟨?_, ?_, ?_, ?_, ?_, ?_, ?_, ?_, ?_, ?_, ?_⟩, hX.fr, ⟨?_, ?_⟩⟩, ?_, hlow⟩
  · intro i o x hx
    have hi := cell_new hx
    rw [hcl hi] at hx
    obtain ⟨r, b, v, k1, k2, k3⟩ := hX.hp.cell i o x hx
    refine ⟨r, b, v, (hk.lo i hi).1.trans k1, k2, ?_⟩
    cases hh : hlook1 i o ahv with
    | some z =>
      have hxz : x = z := by
        unfold St.cell at hx
        rw [hacc.hv, hh] at hx
        split at hx
        · simpa using hx.symm
        · cases hx
      subst hxz
      exact V_under hag _ _ (ho2 i o x (by rw [ho1, if_pos hi, hh])) k3
    | none =>
      have hxS : S.cell i o = some x := by
        unfold St.cell at hx ⊢
        rw [hacc.blk hi, hacc.hv, hh] at hx
        exact hx
      obtain ⟨r0, b0, v0, m1, m2, m3⟩ := hS.hp.cell i o x hxS
      exact V_ext hE _ _ (V_back (hext.known hS.hp.dom hS.hp.kdm) x v v0 m3 k3)
  · intro i vc r b k o c hx hr hkn hc
    rcases Nat.lt_or_ge i S.hp.length with hi | hi
    · rw [hvl hi] at hx
      obtain ⟨v, k1, k2⟩ := hX.hp.vcell i vc r b k o c hx (hlo hi hr) hkn hc
      exact ⟨v, k1, V_flat _ _ (by cases c <;> rfl) k2⟩
    · obtain ⟨j, a, n, v, q1, q2, q3, q4, q5, q6, q7, b0, q8, q9, q10⟩ := hrow hi hr
      rw [hvn hi, q4] at hx
      cases hx
      have hkn : k < n.val := hkn
      obtain ⟨u, k1, k2⟩ := hX.hp.vcell j v r b0 (a + k) o c q5 q8 (by omega) hc
      refine ⟨u, ?_, V_flat _ _ (by cases c <;> rfl) (by rw [shiftV_mkA]; exact k2)⟩
      have e : b + (k * lenL (shiftV v a n).sh + o) = b0 + ((a + k) * lenL v.sh + o) := by
        show b + (k * lenL v.sh + o) = _
        rw [q9, Nat.add_mul]; omega
      rw [e]; exact k1
  · intro i o x r b hx hw hr
    have hi := cell_new hx
    rw [hcl hi] at hx; rw [hbl hi] at hw
    exact hX.hp.frz i o x r b hx hw (hlo hi hr)
  · intro i vc r b q hx hw hr hq
    rcases Nat.lt_or_ge i S.hp.length with hi | hi
    · rw [hvl hi] at hx
      rw [(hk.lo i hi).2.1] at hq
      exact hX.hp.vfrz i vc r b q hx hw (hlo hi hr) hq
    · obtain ⟨j, a, n, v, q1, q2, q3, q4, q5, q6, q7, b0, q8, q9, q10⟩ := hrow hi hr
      rw [hvn hi, q4] at hx
      cases hx
      have hq : q < ρm.cap i * lenL v.sh := hq
      rw [q10, Nat.sub_mul] at hq
      have := hX.hp.vfrz j v r b0 (a * lenL v.sh + q) q5 hw q8 (by omega)
      have e : b + q = b0 + (a * lenL v.sh + q) := by omega
      rw [e]; exact this
  · intro i vc r b hx hw hr
    rcases Nat.lt_or_ge i S.hp.length with hi | hi
    · rw [hvl hi] at hx
      rw [(hk.lo i hi).2.1]
      exact hX.hp.vcap i vc r b hx hw (hlo hi hr)
    · obtain ⟨j, a, n, v, q1, q2, q3, q4, q5, q6, q7, b0, q8, q9, q10⟩ := hrow hi hr
      rw [hvn hi, q4] at hx
      cases hx
      have := hX.hp.vcap j v r b0 q5 hw q8
      rw [q10]
      show n.val ≤ _
      omega
  · intro i j r b b' hij hw hr hr' hl
    obtain ⟨i', c1, e1, e2, _, e4⟩ := hstar hr
    obtain ⟨j', c2, f1, _, f3, f4⟩ := hstar hr'
    refine hX.hp.dis i' j' r c1 c2 ?_ (e2 hw) e1 f1 (f3 hl)
    rcases e4 with ⟨h1, rfl⟩ | ⟨h1, h2, h3, h4⟩
    · rcases f4 with ⟨g1, rfl⟩ | ⟨g1, g2, g3, g4⟩
      · exact hij
      · omega
    · rcases f4 with ⟨g1, rfl⟩ | ⟨g1, g2, g3, g4⟩
      · omega
      · intro e
        subst e
        have := hk.inj _ _ i' (by omega) (by omega) h4 g4
        omega
  · intro i p hp
    rw [hlen]
    rcases Nat.lt_or_ge i (S.hp.length + m.vs.length) with h | h
    · exact h
    · rw [(hk.hi i h).1] at hp; cases hp
  · intro i hp
    rw [hlen]
    rcases Nat.lt_or_ge i (S.hp.length + m.vs.length) with h | h
    · exact h
    · rw [(hk.hi i h).2] at hp; cases hp
  · intro i o x hx
    rw [hlen]
    simp only [St.ext, hlookL] at hx
    split at hx
    · rename_i v hv'
      rw [ho1] at hv'
      split at hv'
      · omega
      · cases hv'
    · have := hS.hp.ink i o x hx; omega
  · intro i x hx
    rw [hlen]
    simp only [St.ext, vlookL] at hx
    split at hx
    · rename_i v hv'
      rw [hov] at hv'
      split at hv'
      · omega
      · cases hv'
    · have := hS.hp.vink i x hx; omega
  · intro i r b hr
    obtain ⟨i', c1, e1, _⟩ := hstar hr
    exact hX.hp.lt i' r c1 e1
  · intro i o x r b hx hw hr
    have hi := cell_new hx
    rw [hcl hi] at hx; rw [hbl hi] at hw
    exact hX.own.cell i o x r b hx hw (hlo hi hr)
  · intro i vc r b q hx hw hr hq
    rcases Nat.lt_or_ge i S.hp.length with hi | hi
    · rw [hvl hi] at hx
      rw [(hk.lo i hi).2.1] at hq
      exact hX.own.vec i vc r b q hx hw (hlo hi hr) hq
    · obtain ⟨j, a, n, v, q1, q2, q3, q4, q5, q6, q7, b0, q8, q9, q10⟩ := hrow hi hr
      rw [hvn hi, q4] at hx
      cases hx
      have hq : q < ρm.cap i * lenL v.sh := hq
      rw [q10, Nat.sub_mul] at hq
      have := hX.own.vec j v r b0 (a * lenL v.sh + q) q5 hw q8 (by omega)
      have e : b + q = b0 + (a * lenL v.sh + q) := by omega
      rw [e]; exact this
  · intro t vc ht hs
    cases hsr : src t with
    | none => exact (hk.nil t vc ht hsr).2
    | some j =>
      obtain ⟨_, _, a, n, v, _, g4, g5, _⟩ := hk.row t vc j ht hsr
      subst g5
      have hs : v.sh = [] := hs
      rw [hs] at g4; simp [lenL] at g4
end
end Go.Ab
