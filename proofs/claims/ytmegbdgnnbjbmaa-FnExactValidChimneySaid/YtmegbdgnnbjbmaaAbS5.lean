import Derived.Test.YtmegbdgnnbjbmaaAbS4
namespace Go.Ab
open Go Go.RowKit

section
variable {P : Program} (w : World) {ρ : Rho}

theorem evConv0_sound {src dst : TypeId} {x z : AVal} {u : Value} (h : evConv0 P src dst x = some z) (hx : V ρ x u) :
    ∃ r w', (convert src dst u).run P w = .ok r w' ∧ V ρ z r ∧ Drawn w w' := by
  unfold evConv0 at h
  split at h
  · cases h
  rename_i ks hks
  obtain ⟨ds, hs⟩ := kd_underlying hks
  split at h
  all_goals first | (cases h; done) | skip
  all_goals (cases h; rename_i hd; unfold V at hx)
  case h_1 | h_2 =>
    have hd := kd_int hd
    subst hx
    refine ⟨_, w, ?_, by unfold V; rfl, Or.inl rfl⟩
    unfold convert; simp only [Sem.run_bind, run_underlying hs, run_underlying hd, Result.andThen_ok]; cases ds <;> rfl
  case h_3 =>
    have hd := kd_int hd
    obtain ⟨n', rfl, hn⟩ := hx
    rename_i k1 _ _ n1 _
    refine ⟨.int k1 (k1.wrap n'), w, ?_, by unfold V; exact ⟨_, rfl, fun h => by rw [hn h]⟩, Or.inl rfl⟩
    unfold convert; simp only [Sem.run_bind, run_underlying hs, run_underlying hd, Result.andThen_ok]; cases ds <;> rfl
  case h_4 | h_5 =>
    have hd := kd_flt hd
    subst hx
    refine ⟨_, w, ?_, by unfold V; exact ⟨_, rfl, Or.inl (by rw [ofInt_eq]), ofInt_wf .., by rw [← ofInt_eq]; exact ofInt_wf ..⟩, Or.inl rfl⟩
    exact run_convert_int_float w src dst _ _ _ (by rw [hs]; rfl) hd
  case h_6 =>
    have hd := kd_flt hd
    obtain ⟨b', rfl, hb, _, _⟩ := hx
    obtain ⟨r, w', h1, h2, h2w, h3⟩ := run_wide (P := P) w hb
    refine ⟨_, w', ?_, by unfold V; exact ⟨r, rfl, h2, wide_wf _, h2w⟩, h3⟩
    unfold convert; simp only [Sem.run_bind, run_underlying hs, run_underlying hd, Result.andThen_ok]; cases ds <;> exact h1
  case h_7 | h_8 =>
    have hd := kd_flt hd
    obtain ⟨b', rfl, hb⟩ := hx
    refine ⟨.float _ b', w, ?_, by unfold V; exact ⟨_, rfl, hb⟩, Or.inl rfl⟩
    unfold convert; simp only [Sem.run_bind, run_underlying hs, run_underlying hd, Result.andThen_ok]; cases ds <;> rfl

theorem evConv_sound {src dst : TypeId} {x z : AVal} {u : Value} (h : evConv P src dst x = some z) (hx : V ρ x u) :
    ∃ r w', (convert src dst u).run P w = .ok r w' ∧ V ρ z r ∧ Drawn w w' := evConv0_sound w h (unlint_V hx)

theorem run_part {t : TypeId} {cs : List AVal} {vs : List Value} {o : Nat} {z : AVal} (h : partV P t cs o = some z) (hv : VL ρ cs vs) :
    ∃ r, (part t ⟨vs⟩ o).run P w = .ok r w ∧ V ρ z r := by
  unfold partV at h
  split at h
  · rename_i k n hk hn
    have hl := VL_length cs vs hv
    split at h
    · rename_i ha
      split at h
      · rename_i hb; cases h
        have hb := Nat.le_of_ble_eq_true hb
        refine ⟨.agg ⟨(vs.drop o).take n⟩, ?_, ?_⟩
        · unfold part
          simp only [Sem.run_bind, run_isAgg w hk, Result.andThen_ok, ha, if_true, run_sizeOf w hn, Sem.run_pure]
          have : (⟨vs⟩ : Array Value).extract o (o + n) = ⟨(vs.drop o).take n⟩ := by
            apply Array.ext'
            simp [List.extract_eq_take_drop]
          rw [this]
        · unfold V; exact ⟨_, rfl, VL_take n _ _ (VL_drop o _ _ hv)⟩
      · cases h
    · rename_i ha
      split at h
      · rename_i hb; cases h
        have hb := Nat.le_of_ble_eq_true hb
        obtain ⟨v, h1, h2⟩ := VL_nth cs vs hv o (by omega)
        refine ⟨v, ?_, h2⟩
        unfold part
        have : (⟨vs⟩ : Array Value)[o]? = some v := by simpa using h1
        simp only [Sem.run_bind, run_isAgg w hk, Result.andThen_ok, ha, Bool.false_eq_true, if_false, this, Sem.run_pure]
      · cases h
  · cases h

theorem idxOf_spec {i : AVal} {len m : Nat} {u : Value} (h : idxOf i len = some m) (hu : V ρ i u) : ∃ k, u = .int k (m : Int) ∧ m < len := by
  unfold idxOf at h
  split at h
  · rename_i k n
    unfold V at hu
    split at h
    · rename_i m' hm
      split at h
      · rename_i hb; cases h
        unfold natOf at hm
        split at hm
        · cases hm; exact ⟨k, hu, Nat.le_of_ble_eq_true hb⟩
        · cases hm
      · cases h
    · cases h
  · cases h

/-- 'array[i]' of a value. -/
theorem run_index_arr {t e n : Nat} {cs : List AVal} {vs : List Value} {m sz : Nat} {k : IntKind} {z : AVal} (ht : P.underlying t = some (.array n e)) (hm : m < n) (hsz : tsize P e = some sz)
    (hz : partV P e cs (m * sz) = some z) (hv : VL ρ cs vs) : ∃ r, (Instr.index t (.agg ⟨vs⟩) (.int k m)).run P w = .ok r w ∧ V ρ z r := by
  obtain ⟨r, h1, h2⟩ := run_part w hz hv
  refine ⟨r, ?_, h2⟩
  unfold Instr.index
  simp only [Sem.run_bind, asIntOf, Sem.run_pure, Result.andThen_ok, run_underlying ht]
  rw [if_pos (by omega)]
  simp only [Sem.run_bind, run_sizeOf w hsz, Result.andThen_ok, Int.toNat_natCast, h1]

theorem run_field {t : Nat} {fs : List Field} {f : Nat} {fd : Field} {cs : List AVal} {vs : List Value} {z : AVal} (ht : P.underlying t = some (.struct fs.toArray)) (hf : fieldOf fs f = some fd)
    (hz : partV P fd.type cs fd.offset = some z) (hv : VL ρ cs vs) : ∃ r, (Instr.field t (.agg ⟨vs⟩) f).run P w = .ok r w ∧ V ρ z r := by
  obtain ⟨r, h1, h2⟩ := run_part w hz hv
  refine ⟨r, ?_, h2⟩
  unfold Instr.field
  have := fieldOf_get fs f fd hf
  simp only [Sem.run_bind, run_underlying ht, Result.andThen_ok, List.getElem?_toArray, this, asAgg, Sem.run_pure, h1]

theorem run_fieldAt {s : Nat} {fs : List Field} {f n : Nat} {fd : Field} {r b : Nat} (ht : P.underlying s = some (.struct fs.toArray)) (hf : fieldOf fs f = some fd) (hn : tsize P fd.type = some n) (hn0 : n ≠ 0) :
    (Instr.fieldAt s (.pointer (some ⟨r, b, none⟩)) f).run P w = .ok (.pointer (some ⟨r, b + fd.offset, none⟩)) w := by
  unfold Instr.fieldAt
  have := fieldOf_get fs f fd hf
  simp only [Sem.run_bind, run_underlying ht, Result.andThen_ok, List.getElem?_toArray, this, Instr.sureAddr, Sem.run_pure, fieldPlace, run_sizeOf w hn]
  rw [if_neg hn0]
  simp [Addr_add]

theorem run_indexAt_arr {t e n m sz : Nat} {k : IntKind} {r b : Nat} (ht : P.underlying t = some (.array n e)) (hm : m < n) (hsz : tsize P e = some sz) :
    (Instr.indexAt t (.pointer (some ⟨r, b, none⟩)) (.int k m)).run P w = .ok (.pointer (some ⟨r, b + m * sz, none⟩)) w := by
  unfold Instr.indexAt
  simp only [Sem.run_bind, asIntOf, Sem.run_pure, Result.andThen_ok, run_underlying ht, Instr.sureAddr]
  rw [if_pos (by omega)]
  simp [run_sizeOf w hsz, Addr_add]

theorem run_indexAt_slice {t e l c m sz : Nat} {k : IntKind} {r b : Nat} (ht : P.underlying t = some (.slice e)) (hm : m < l) (hsz : tsize P e = some sz) :
    (Instr.indexAt t (.slice (some ⟨r, b, none⟩) l c) (.int k m)).run P w = .ok (.pointer (some ⟨r, b + m * sz, none⟩)) w := by
  unfold Instr.indexAt
  simp only [Sem.run_bind, asIntOf, Sem.run_pure, Result.andThen_ok, run_underlying ht, Instr.sureAddr]
  rw [if_pos (by omega)]
  simp [run_sizeOf w hsz, Addr_add]

theorem run_loadAt {S : St} {t i o : Nat} {k : Kd} {n r b : Nat} (h : Hp ρ S w) (hk : kd P t = some k) (hn : tsize P t = some n) (hr : ρ i = some (r, b)) :
    (∀ cs, k.isAgg = true → S.cellsAt i o n = some cs → ∃ vs, (Instr.loadAt t (.pointer (some ⟨r, b + o, none⟩))).run P w = .ok (.agg ⟨vs⟩) w ∧ VL ρ cs vs) ∧
    (∀ x, k.isAgg = false → S.cell i o = some x → ∃ v, (Instr.loadAt t (.pointer (some ⟨r, b + o, none⟩))).run P w = .ok v w ∧ V ρ x v) := by
  refine ⟨fun cs ha hc => ?_, fun x ha hc => ?_⟩
  · obtain ⟨vs, hl, hv, hcell⟩ := h.cellsAt hr n o cs hc
    refine ⟨vs, ?_, hv⟩
    have := run_loadCellsFrom (P := P) (w := w) r (b + o) n 0 #[] vs hl (fun j v hj => by rw [Nat.add_zero]; exact hcell j v hj)
    simp only [Instr.loadAt, Instr.sureAddr, Sem.run_bind, Sem.run_pure, Result.andThen_ok, loadVar, run_isAgg w hk, ha, if_true, run_sizeOf w hn, loadCells, this]
    simp
  · obtain ⟨r', b', v, h1, h2, h3⟩ := h.cell i o x hc
    rw [hr] at h1; cases h1
    refine ⟨v, ?_, h3⟩
    simp only [Instr.loadAt, Instr.sureAddr, Sem.run_bind, Sem.run_pure, Result.andThen_ok, loadVar, run_isAgg w hk, ha, Bool.false_eq_true, if_false, run_load, h2]

theorem minmax_sound {mx : Bool} {args : List AVal} {z : AVal} {vs : List Value} (h : minmax mx args = some z) (hv : VL ρ args vs) (t : Array TypeId) (ty : TypeId) :
    ∃ r w', ((if mx then Builtin.max_ t ty ⟨vs⟩ else Builtin.min_ t ty ⟨vs⟩) : Sem Value).run P w = .ok r w' ∧ V ρ z r ∧ Drawn w w' := by
  unfold minmax at h
  split at h
  · rename_i k a k' b
    unfold VL at hv
    obtain ⟨v, vs', rfl, hv1, hv⟩ := hv
    unfold VL at hv
    obtain ⟨v', vs'', rfl, hv2, hv⟩ := hv
    unfold VL at hv
    subst hv
    unfold V at hv1 hv2
    obtain ⟨a', rfl, ha, wa, wa'⟩ := hv1
    obtain ⟨b', rfl, hb, wb, wb'⟩ := hv2
    split at h
    · rename_i hk; have hk := of_decide_eq_true hk; subst hk
      split at h <;> cases h
      · rename_i hk0 _
        have wb0 : wfW k b := wb
        obtain ⟨r, w', h1, h2, h2w, h3⟩ := run_max2 (P := P) w k ha hb wa' wb'
        exact ⟨.float k r, w', by simp [Builtin.max_, h1], by unfold V; exact ⟨r, rfl, h2, fmax_wf wa wb0, h2w⟩, h3⟩
      · rename_i hk0 _
        have wb0 : wfW k b := wb
        obtain ⟨r, w', h1, h2, h2w, h3⟩ := run_min2 (P := P) w k ha hb wa' wb'
        exact ⟨.float k r, w', by simp [Builtin.min_, h1], by unfold V; exact ⟨r, rfl, h2, fmin_wf wa wb0, h2w⟩, h3⟩
    · cases h
  · cases h

end
end Go.Ab
