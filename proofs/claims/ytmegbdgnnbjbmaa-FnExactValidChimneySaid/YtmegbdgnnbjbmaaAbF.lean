import Derived.Test.YtmegbdgnnbjbmaaAbC
namespace Go.Ab
open Go Go.RowKit
set_option linter.unusedVariables false

/-! ### 9. A function -/
section
variable {P : Program} {ρ : Rho}

/-- One result. -/
def resOne (a : Act) : ResultVar → Sem Value
  | .tmp t => pure (a.tmps.getD t undef)
  | .cell x t => do loadVar t (← asAddr (a.tmps.getD x undef))

theorem getRes_run {N : Nat} {M : Addr → Prop} {w0 : World} {S : St} {a : Act} {w : World} (hR : Rel N M w0 ρ S a w) : ∀ (rs : List ResultVar) (vs : List AVal), getRes P S rs = some vs →
    ∃ us : List Value, Sem.run P (rs.mapM (resOne a)) w = .ok us w ∧ VL ρ vs us
  | [], vs, h => by simp [getRes] at h; subst h; exact ⟨[], by simp, by simp [VL]⟩
  | .tmp t :: r, vs, h => by
    simp only [getRes] at h
    split at h
    · rename_i vs' hvs; cases h
      obtain ⟨us, h1, h2⟩ := getRes_run hR r vs' hvs
      refine ⟨a.tmps.getD t undef :: us, ?_, by unfold VL; exact ⟨_, us, rfl, hR.fr t, h2⟩⟩
      simp only [List.mapM_cons, resOne, Sem.run_bind, Sem.run_pure, Result.andThen_ok, h1]
    · cases h
  | .cell x t :: r, vs, h => by
    simp only [getRes] at h
    split at h
    · rename_i i o hp
      have hx := hR.fr x
      rw [hp] at hx; unfold V at hx
      obtain ⟨rr, b, hr, hxe⟩ := hx
      split at h
      · rename_i k n vs' hk hn hvs
        obtain ⟨us, h1, h2⟩ := getRes_run hR r vs' hvs
        obtain ⟨l1, l2⟩ := run_loadAt (P := P) w (o := o) hR.mem.hp hk hn hr
        have hload : ∀ v, (Instr.loadAt t (.pointer (some ⟨rr, b + o, none⟩))).run P w = .ok v w → (loadVar t ⟨rr, b + o, none⟩).run P w = .ok v w := by
          intro v hv
          simpa [Instr.loadAt, Instr.sureAddr] using hv
        split at h
        · rename_i ha
          split at h
          · rename_i cs hcs; cases h
            obtain ⟨zs, k1, k2⟩ := l1 cs ha hcs
            refine ⟨.agg ⟨zs⟩ :: us, ?_, by unfold VL; exact ⟨_, us, rfl, by unfold V; exact ⟨zs, rfl, k2⟩, h2⟩⟩
            simp only [List.mapM_cons, resOne, Sem.run_bind, Sem.run_pure, Result.andThen_ok, h1, hxe, asAddr, hload _ k1]
          · cases h
        · rename_i ha
          split at h
          · rename_i z hz; cases h
            obtain ⟨u, k1, k2⟩ := l2 z ha hz
            refine ⟨u :: us, ?_, by unfold VL; exact ⟨_, us, rfl, k2, h2⟩⟩
            simp only [List.mapM_cons, resOne, Sem.run_bind, Sem.run_pure, Result.andThen_ok, h1, hxe, asAddr, hload _ k1]
          · cases h
      · cases h
    · cases h

theorem one_V {vs : List AVal} {us : List Value} (h : VL ρ vs us) : V ρ (one vs) (if h : (us.toArray).size = 1 then us.toArray[0] else .tuple us.toArray) := by
  have hl := VL_length _ _ h
  unfold one
  split
  · rename_i v
    unfold VL at h
    obtain ⟨u, us', rfl, h1, h2⟩ := h
    unfold VL at h2; subst h2
    simpa using h1
  · rename_i hne
    have : ¬ us.toArray.size = 1 := by
      intro h1
      have h2 : vs.length = 1 := by rw [← hl]; simpa using h1
      match vs, h2, hne with
      | [x], _, hne => exact hne x rfl
    rw [dif_neg this]
    unfold V
    exact ⟨us, rfl, h⟩

theorem results_run {N : Nat} {M : Addr → Prop} {w0 : World} {S : St} {a : Act} {w : World} {fn : Func} (hR : Rel N M w0 ρ S a w) {vs : List AVal} (h : getRes P S fn.results.toList = some vs) :
    ∃ u, (results fn a.tmps).run P w = .ok u w ∧ V ρ (one vs) u := by
  obtain ⟨us, h1, h2⟩ := getRes_run hR fn.results.toList vs h
  refine ⟨_, ?_, one_V h2⟩
  unfold results
  change Sem.run P (do let vs ← fn.results.mapM (resOne a); pure (if h : vs.size = 1 then vs[0] else Value.tuple vs)) w = _
  rw [Array.mapM_eq_mapM_toList]
  simp only [Sem.run_bind, Sem.run_map, h1, Result.andThen_ok, Sem.run_pure]

theorem undefs_VL (ρ : Rho) : ∀ n : Nat, VL ρ (undefs n) (List.replicate n undef)
  | 0 => by simp [undefs, VL]
  | n + 1 => by
    simp only [undefs, List.replicate_succ]
    unfold VL
    exact ⟨undef, _, rfl, by unfold V; rfl, undefs_VL ρ n⟩

theorem nth_out : ∀ (l : List AVal) (i : Nat), l.length ≤ i → nth i l = .bad
  | [], i, _ => by cases i <;> rfl
  | x :: l, 0, h => by simp at h
  | x :: l, i + 1, h => by simpa [nth] using nth_out l i (by simpa using h)


/-- What of the old blocks has been written. -/
theorem oldHv_spec {base : Nat} : ∀ {l r : List ((Nat × Nat) × AVal)}, oldHv base l = some r → (∀ i o, hlook1 i o r = if i < base then hlook1 i o l else none) ∧ ∀ i o x, hlook1 i o r = some x → x.under base = true
  | [], r, h => by simp [oldHv] at h; subst h; exact ⟨fun i o => by simp [hlook1], fun i o x hx => by simp [hlook1] at hx⟩
  | (k, v) :: l, r, h => by
    unfold oldHv at h
    split at h
    · rename_i r' hr'
      obtain ⟨h1, h2⟩ := oldHv_spec hr'
      split at h
      · rename_i hk
        have hk := Nat.le_of_ble_eq_true hk
        split at h
        · rename_i hu
          cases h
          refine ⟨fun i o => ?_, fun i o x hx => ?_⟩
          · simp only [hlook1]
            split
            · rename_i hb
              simp only [Bool.and_eq_true] at hb
              have := Nat.eq_of_beq_eq_true hb.1
              rw [if_pos (by omega)]
            · exact h1 i o
          · simp only [hlook1] at hx
            split at hx
            · cases hx; exact hu
            · exact h2 i o x hx
        · cases h
      · rename_i hk
        cases h
        refine ⟨fun i o => ?_, h2⟩
        rw [h1]
        simp only [hlook1]
        split
        · rename_i hi
          split
          · rename_i hb
            simp only [Bool.and_eq_true] at hb
            have := Nat.eq_of_beq_eq_true hb.1
            exfalso
            have hle : Nat.ble (k.1 + 1) base = true := Nat.ble_eq_true_of_le (by omega)
            rw [hle] at hk; cases hk
          · rfl
        · rfl
    · cases h

theorem oldVv_spec {base : Nat} : ∀ (l : List (Nat × Vc)) (i : Nat), vlook1 i (oldVv base l) = if i < base then vlook1 i l else none
  | [], i => by simp [oldVv, vlook1]
  | (k, v) :: l, i => by
    unfold oldVv
    have ih := oldVv_spec (base := base) l i
    split
    · rename_i hk
      have hk := Nat.le_of_ble_eq_true hk
      simp only [vlook1]
      split
      · rename_i hb
        have := Nat.eq_of_beq_eq_true hb
        rw [if_pos (by omega)]
      · exact ih
    · rename_i hk
      rw [ih]
      simp only [vlook1]
      split
      · rename_i hi
        split
        · rename_i hb
          have := Nat.eq_of_beq_eq_true hb
          exfalso
          have hle : Nat.ble (k + 1) base = true := Nat.ble_eq_true_of_le (by omega)
          rw [hle] at hk; cases hk
        · rfl
      · rfl

/-- 'T' is the caller's memory, with what has been written, and what is new. -/
structure Acc (S T : St) (ahv : List ((Nat × Nat) × AVal)) (avv : List (Nat × Vc)) : Prop where
  hp : ∃ l, T.hp = S.hp ++ l
  hv : ∀ i o, hlookL i o T.hvs = match hlook1 i o ahv with | some v => some v | none => hlookL i o S.hvs
  vv : ∀ i, vlookL i T.vvs = match vlook1 i avv with | some v => some v | none => vlookL i S.vvs

theorem Acc.ext {S T : St} {ahv : List ((Nat × Nat) × AVal)} {avv : List (Nat × Vc)} (h : Acc S T ahv avv) (d : Dl) : Acc S (T.ext d) (d.hv ++ ahv) (d.vv ++ avv) := by
  obtain ⟨l, hl⟩ := h.hp
  refine ⟨⟨l ++ d.nw, by simp [St.ext, hl]⟩, fun i o => ?_, fun i => ?_⟩
  · simp only [St.ext, hlookL, hlook1_append, h.hv]
    cases hlook1 i o d.hv <;> rfl
  · simp only [St.ext, vlookL, vlook1_append, h.vv]
    cases vlook1 i d.vv <;> rfl

theorem Acc.blk {S T : St} {ahv : List ((Nat × Nat) × AVal)} {avv : List (Nat × Vc)} (h : Acc S T ahv avv) {i : Nat} (hi : i < S.hp.length) : T.blk i = S.blk i := by
  obtain ⟨l, hl⟩ := h.hp
  unfold St.blk
  rw [hl]; exact nthB_append_left _ _ _ hi

/-- The caller's memory in the end. -/
theorem Acc.cell {S T : St} {ahv hv : List ((Nat × Nat) × AVal)} {avv vv : List (Nat × Vc)} {nw : List Blk} (h : Acc S T ahv avv) (ho : ∀ i o, hlook1 i o hv = if i < S.hp.length then hlook1 i o ahv else none) {i : Nat} (hi : i < S.hp.length) (o : Nat) :
    (S.put hv vv nw).cell i o = T.cell i o := by
  unfold St.cell
  have hb : (S.put hv vv nw).blk i = S.blk i := nthB_append_left _ _ _ hi
  have e : hlookL i o (S.put hv vv nw).hvs = hlookL i o T.hvs := by
    rw [h.hv]
    simp only [St.put, St.ext, hlookL, ho, if_pos hi]
    cases hlook1 i o ahv <;> rfl
  rw [hb, h.blk hi, e]

theorem Acc.vec {S T : St} {ahv hv : List ((Nat × Nat) × AVal)} {avv vv : List (Nat × Vc)} {nw : List Blk} (h : Acc S T ahv avv) (ho : ∀ i, vlook1 i vv = if i < S.hp.length then vlook1 i avv else none) {i : Nat} (hi : i < S.hp.length) :
    (S.put hv vv nw).vec i = T.vec i := by
  unfold St.vec
  have hb : (S.put hv vv nw).blk i = S.blk i := nthB_append_left _ _ _ hi
  have e : vlookL i (S.put hv vv nw).vvs = vlookL i T.vvs := by
    rw [h.vv]
    simp only [St.put, St.ext, vlookL, ho, if_pos hi]
    cases vlook1 i avv <;> rfl
  rw [hb, h.blk hi, e]

/-! new rows that are handed back -/
theorem shiftV_mkA (v : Vc) (a : Nat) (n : Num) (k o : Nat) (c : CK) : (shiftV v a n).mkA k o c = v.mkA (a + k) o c := by cases c <;> rfl

/-- Where they lie. -/
structure NmOk (base : Nat) (X : St) (ρ' : Rho) (m : Nm) (ρm : Rho) (src : Nat → Option Nat) : Prop where
  lo : ∀ i, i < base → ρm i = ρ' i ∧ ρm.cap i = ρ'.cap i ∧ ρm.kn i = ρ'.kn i
  hi : ∀ i, base + m.vs.length ≤ i → ρm i = none ∧ ρm.kn i = false
  kn : ∀ t, t < m.vs.length → ρm.kn (base + t) = true
  nil : ∀ t vc, m.vs[t]? = some vc → src t = none → vc = Vc.none [] ∧ ρm (base + t) = none
  row : ∀ t vc i, m.vs[t]? = some vc → src t = some i → i ∈ m.us ∧ base ≤ i ∧ ∃ a n v, X.vec i = some v ∧ 1 ≤ lenL v.sh ∧ vc = shiftV v a n ∧ a + n.val ≤ v.n.val ∧
      ∀ r b, ρm (base + t) = some (r, b) → ∃ b0, ρ' i = some (r, b0) ∧ b = b0 + a * lenL v.sh ∧ ρm.cap (base + t) = ρ'.cap i - a
  inj : ∀ t t' i, t < m.vs.length → t' < m.vs.length → src t = some i → src t' = some i → t = t'

/-- One more. -/
def updR (ρ : Rho) (n : Nat) (p : Option (Nat × Nat)) (c : Nat) : Rho := ⟨fun i => if i = n then p else ρ i, fun i => if i = n then c else ρ.cap i, fun i => if i = n then true else ρ.kn i⟩

theorem getElem?_snoc {α : Type} {l : List α} {x y : α} {t : Nat} (h : (l ++ [x])[t]? = some y) : (t < l.length ∧ l[t]? = some y) ∨ (t = l.length ∧ y = x) := by
  rcases Nat.lt_trichotomy t l.length with hlt | heq | hgt
  · left; rw [List.getElem?_append_left hlt] at h; exact ⟨hlt, h⟩
  · right; subst heq; simp at h; exact ⟨rfl, h.symm⟩
  · rw [List.getElem?_append_right (by omega)] at h
    have : t - l.length ≠ 0 := by omega
    obtain ⟨k, hk⟩ := Nat.exists_eq_succ_of_ne_zero this
    rw [hk] at h; simp at h

theorem norm_rest {base : Nat} {X : St} {ρ' : Rho} (x : AVal) (m m' : Nm) (x' : AVal) (v : Value) (ρm : Rho) (src : Nat → Option Nat) (h : x.under base = true ∧ x = x' ∧ m = m') (hn : m'.nd = true) (hv : V ρ' x v) (hk : NmOk base X ρ' m ρm src) :
    m.nd = true ∧ m.vs.length ≤ m'.vs.length ∧ ∃ ρm' src', NmOk base X ρ' m' ρm' src' ∧ (∀ i, i < base + m.vs.length → ρm' i = ρm i ∧ ρm'.cap i = ρm.cap i ∧ (ρm.kn i = true → ρm'.kn i = true)) ∧ V ρm' x' v := by
  obtain ⟨hu, rfl, rfl⟩ := h
  · exact ⟨hn, Nat.le_refl _, ρm, src, hk, fun _ _ => ⟨rfl, rfl, fun h => h⟩, V_under (m := base) (fun j hj => ⟨fun p hp => ⟨(hk.lo j hj).1.trans hp, (hk.lo j hj).2.1⟩, fun hk' => (hk.lo j hj).2.2.trans hk'⟩) x v hu hv⟩

mutual
theorem normV_nd {base : Nat} {X : St} : ∀ (x : AVal) (m m' : Nm) (x' : AVal), normV base X x m = some (x', m') → m'.nd = true → m.nd = true
  | .vec i e a n, m, m', x', h, hn => by
    unfold normV at h
    split at h
    · cases h; exact hn
    · split at h
      · split at h
        · cases h
        · cases h; exact (cond_and hn).1
      · cases h
  | .raw u, m, m', x', h, hn => by
    unfold normV at h
    split at h <;> (cases h; exact hn)
  | .agg cs, m, m', x', h, hn => by
    unfold normV at h
    split at h
    · rename_i hcs; cases h; exact normL_nd cs m _ _ hcs hn
    · cases h
  | .tuple cs, m, m', x', h, hn => by
    unfold normV at h
    split at h
    · rename_i hcs; cases h; exact normL_nd cs m _ _ hcs hn
    · cases h
  | .bad, m, m', x', h, hn => by simp [normV, AVal.under] at h
  | .bool b, m, m', x', h, hn => by simp [normV, AVal.under] at h; rw [h.2]; exact hn
  | .sbool b, m, m', x', h, hn => by simp [normV, AVal.under] at h; rw [h.2]; exact hn
  | .int a b, m, m', x', h, hn => by simp [normV, AVal.under] at h; rw [h.2]; exact hn
  | .sint a b, m, m', x', h, hn => by simp [normV, AVal.under] at h; rw [h.2]; exact hn
  | .cbool a b, m, m', x', h, hn => by simp [normV, AVal.under] at h; rw [h.2]; exact hn
  | .cint a b c, m, m', x', h, hn => by simp [normV, AVal.under] at h; rw [h.2]; exact hn
  | .flt a b, m, m', x', h, hn => by simp [normV, AVal.under] at h; rw [h.2]; exact hn
  | .lint a b c, m, m', x', h, hn => by simp [normV, AVal.under] at h; rw [h.2]; exact hn
  | .ptr a b, m, m', x', h, hn => by simp only [normV] at h; split at h <;> cases h; exact hn
  | .vptr a b c d, m, m', x', h, hn => by simp only [normV] at h; split at h <;> cases h; exact hn
  | .slice a b c d, m, m', x', h, hn => by simp only [normV] at h; split at h <;> cases h; exact hn
  | .fn a b c, m, m', x', h, hn => by simp only [normV] at h; split at h <;> cases h; exact hn
  | .ifc a b, m, m', x', h, hn => by simp only [normV] at h; split at h <;> cases h; exact hn
theorem normL_nd {base : Nat} {X : St} : ∀ (xs : List AVal) (m m' : Nm) (xs' : List AVal), normV.normL base X xs m = some (xs', m') → m'.nd = true → m.nd = true
  | [], m, m', xs', h, hn => by simp [normV.normL] at h; rw [h.2]; exact hn
  | x :: xs, m, m', xs', h, hn => by
    unfold normV.normL at h
    split at h
    · rename_i c m1 hc
      split at h
      · rename_i r m2 hr; cases h
        exact normV_nd x m m1 c hc (normL_nd xs m1 _ _ hr hn)
      · cases h
    · cases h
end

mutual
theorem normV_sound {base : Nat} {X : St} {ρ' : Rho} : ∀ (x : AVal) (m m' : Nm) (x' : AVal) (v : Value) (ρm : Rho) (src : Nat → Option Nat), normV base X x m = some (x', m') → m'.nd = true → V ρ' x v → NmOk base X ρ' m ρm src →
    m.nd = true ∧ m.vs.length ≤ m'.vs.length ∧ ∃ ρm' src', NmOk base X ρ' m' ρm' src' ∧ (∀ i, i < base + m.vs.length → ρm' i = ρm i ∧ ρm'.cap i = ρm.cap i ∧ (ρm.kn i = true → ρm'.kn i = true)) ∧ V ρm' x' v
  | .vec i e a n, m, m', x', v, ρm, src, h, hn, hv, hk => by
    unfold normV at h
    split at h
    · rename_i hlo
      have hlo := Nat.le_of_ble_eq_true hlo
      cases h
      refine ⟨hn, Nat.le_refl _, ρm, src, hk, fun _ _ => ⟨rfl, rfl, fun h => h⟩, ?_⟩
      unfold V at hv ⊢
      exact hv.agr (m := base) (fun j hj => ⟨fun p hp => ⟨(hk.lo j hj).1.trans hp, (hk.lo j hj).2.1⟩, fun hk' => (hk.lo j hj).2.2.trans hk'⟩) hlo
    · rename_i hlo
      have hge : base ≤ i := by
        rcases Nat.lt_or_ge i base with h' | h'
        · rw [Nat.ble_eq_true_of_le h'] at hlo; cases hlo
        · exact h'
      split at h
      · rename_i vc hvc
        split at h
        · cases h
        · rename_i hc
          have hc' : (memN i m.us || !(Nat.beq e (lenL vc.sh) && Nat.ble 1 e)) = false := hc
          simp only [Bool.or_eq_false_iff, Bool.not_eq_false', Bool.and_eq_true] at hc'
          obtain ⟨hnm, he1, he2⟩ := hc'
          have he1 := Nat.eq_of_beq_eq_true he1
          have he2 := Nat.le_of_ble_eq_true he2
          subst he1
          cases h
          obtain ⟨hmn, hle⟩ := cond_and hn
          have hle := Nat.le_of_ble_eq_true hle
          have hfresh : i ∉ m.us := fun h' => by rw [(memN_iff _ _).2 h'] at hnm; cases hnm
          unfold V at hv
          obtain ⟨hok, _, bs, c, hve, hcc⟩ := hv
          have hlen : (m.vs ++ [shiftV vc a n]).length = m.vs.length + 1 := by simp
          refine ⟨hmn, by simp, updR ρm (base + m.vs.length) ((ρ' i).map fun p => (p.1, p.2 + a * lenL vc.sh)) (ρ'.cap i - a), fun t => if t = m.vs.length then some i else src t, ⟨fun j hj => ?_, fun j hj => ?_, fun t ht => ?_, fun t u hu hs => ?_, fun t u j hu hs => ?_, fun t t' j ht ht' hs hs' => ?_⟩, fun j hj => ?_, ?_⟩
          · have hne : j ≠ base + m.vs.length := by omega
            simp only [updR]
            rw [if_neg hne, if_neg hne, if_neg hne]; exact hk.lo j hj
          · rw [hlen] at hj
            have hne : j ≠ base + m.vs.length := by omega
            simp only [updR]
            rw [if_neg hne, if_neg hne]; exact hk.hi j (by omega)
          · rw [hlen] at ht
            simp only [updR]
            by_cases hte : t = m.vs.length
            · rw [if_pos (by omega)]
            · rw [if_neg (by omega)]; exact hk.kn t (by omega)
          · rcases getElem?_snoc hu with ⟨h1, h2⟩ | ⟨rfl, rfl⟩
            · rw [if_neg (by omega)] at hs
              simp only [updR]
              rw [if_neg (by omega)]
              exact hk.nil t u h2 hs
            · rw [if_pos rfl] at hs; cases hs
          · rcases getElem?_snoc hu with ⟨h1, h2⟩ | ⟨rfl, rfl⟩
            · rw [if_neg (by omega)] at hs
              obtain ⟨g1, g2, a', n', v', g3, g4, g5, g6, g7⟩ := hk.row t u j h2 hs
              refine ⟨by simp [g1], g2, a', n', v', g3, g4, g5, g6, fun r b hrb => ?_⟩
              simp only [updR] at hrb ⊢
              rw [if_neg (by omega)] at hrb ⊢
              exact g7 r b hrb
            · rw [if_pos rfl] at hs; cases hs
              refine ⟨by simp, hge, a, n, vc, hvc, he2, rfl, hle, fun r b hrb => ?_⟩
              simp only [updR, ite_true] at hrb ⊢
              cases hp : ρ' i with
              | none => rw [hp] at hrb; cases hrb
              | some p =>
                obtain ⟨p1, p2⟩ := p
                rw [hp] at hrb
                simp only [Option.map_some, Option.some.injEq, Prod.mk.injEq] at hrb
                obtain ⟨rfl, rfl⟩ := hrb
                exact ⟨p2, by simp⟩
          · rw [hlen] at ht ht'
            by_cases h1 : t = m.vs.length
            · by_cases h2 : t' = m.vs.length
              · omega
              · rw [if_pos h1] at hs; cases hs
                rw [if_neg h2] at hs'
                have hu : m.vs[t']? = some m.vs[t'] := List.getElem?_eq_getElem (by omega)
                exact absurd (hk.row t' _ i hu hs').1 hfresh
            · by_cases h2 : t' = m.vs.length
              · rw [if_pos h2] at hs'; cases hs'
                rw [if_neg h1] at hs
                have hu : m.vs[t]? = some m.vs[t] := List.getElem?_eq_getElem (by omega)
                exact absurd (hk.row t _ i hu hs).1 hfresh
              · rw [if_neg h1] at hs
                rw [if_neg h2] at hs'
                exact hk.inj t t' j (by omega) (by omega) hs hs'
          · simp only [updR]
            rw [if_neg (by omega), if_neg (by omega), if_neg (by omega)]
            exact ⟨rfl, rfl, fun h => h⟩
          · unfold V
            refine ⟨hok, ?_, bs, c, hve, ?_⟩
            · show (if base + lenL m.vs = base + m.vs.length then true else _) = true
              rw [lenL_eq, if_pos rfl]
            · rcases hcc with hcc | ⟨r, b, hr, hb, hcv, hcap⟩
              · exact Or.inl hcc
              · right
                refine ⟨r, b + a * lenL vc.sh, ?_, by rw [hb]; simp, ?_, ?_⟩
                · show (if base + lenL m.vs = base + m.vs.length then _ else _) = _
                  rw [lenL_eq, if_pos rfl, hr]; rfl
                · show c = (if base + lenL m.vs = base + m.vs.length then _ else _) - 0
                  rw [lenL_eq, if_pos rfl, hcv]; rfl
                · show 0 + n.val ≤ (if base + lenL m.vs = base + m.vs.length then _ else _)
                  rw [lenL_eq, if_pos rfl]; omega
      · cases h
  | .raw u, m, m', x', v, ρm, src, h, hn, hv, hk => by
    unfold normV at h
    split at h
    · -- nil
      cases h
      unfold V at hv
      subst hv
      have hlen : (m.vs ++ [Vc.none []]).length = m.vs.length + 1 := by simp
      refine ⟨hn, by simp, updR ρm (base + m.vs.length) none 0, fun t => if t = m.vs.length then none else src t, ⟨fun j hj => ?_, fun j hj => ?_, fun t ht => ?_, fun t u hu hs => ?_, fun t u j hu hs => ?_, fun t t' j ht ht' hs hs' => ?_⟩, fun j hj => ?_, ?_⟩
      · simp only [updR]
        rw [if_neg (by omega), if_neg (by omega), if_neg (by omega)]; exact hk.lo j hj
      · rw [hlen] at hj
        simp only [updR]
        rw [if_neg (by omega), if_neg (by omega)]; exact hk.hi j (by omega)
      · rw [hlen] at ht
        simp only [updR]
        by_cases hte : t = m.vs.length
        · rw [if_pos (by omega)]
        · rw [if_neg (by omega)]; exact hk.kn t (by omega)
      · simp only [updR]
        rcases getElem?_snoc hu with ⟨h1, h2⟩ | ⟨rfl, rfl⟩
        · rw [if_neg (by omega)] at hs
          rw [if_neg (by omega)]
          exact hk.nil t u h2 hs
        · rw [if_pos rfl]; exact ⟨rfl, rfl⟩
      · rcases getElem?_snoc hu with ⟨h1, h2⟩ | ⟨rfl, rfl⟩
        · rw [if_neg (by omega)] at hs
          obtain ⟨g1, g2, a', n', v', g3, g4, g5, g6, g7⟩ := hk.row t u j h2 hs
          refine ⟨g1, g2, a', n', v', g3, g4, g5, g6, fun r b hrb => ?_⟩
          simp only [updR] at hrb ⊢
          rw [if_neg (by omega)] at hrb ⊢
          exact g7 r b hrb
        · rw [if_pos rfl] at hs; cases hs
      · rw [hlen] at ht ht'
        by_cases h1 : t = m.vs.length
        · rw [if_pos h1] at hs; cases hs
        · by_cases h2 : t' = m.vs.length
          · rw [if_pos h2] at hs'; cases hs'
          · rw [if_neg h1] at hs
            rw [if_neg h2] at hs'
            exact hk.inj t t' j (by omega) (by omega) hs hs'
      · simp only [updR]
        rw [if_neg (by omega), if_neg (by omega), if_neg (by omega)]
        exact ⟨rfl, rfl, fun h => h⟩
      · unfold V
        refine ⟨trivial, ?_, none, 0, rfl, Or.inl ⟨rfl, rfl⟩⟩
        show (if base + lenL m.vs = base + m.vs.length then true else _) = true
        rw [lenL_eq, if_pos rfl]
    · cases h
      exact ⟨hn, Nat.le_refl _, ρm, src, hk, fun _ _ => ⟨rfl, rfl, fun h => h⟩, by unfold V at hv ⊢; exact hv⟩
  | .agg cs, m, m', x', v, ρm, src, h, hn, hv, hk => by
    unfold normV at h
    split at h
    · rename_i cs' m1 hcs; cases h
      unfold V at hv
      obtain ⟨vs, rfl, hvl⟩ := hv
      obtain ⟨g1, g2, ρm', src', g3, g4, g5⟩ := normL_sound cs m m' cs' vs ρm src hcs hn hvl hk
      exact ⟨g1, g2, ρm', src', g3, g4, by unfold V; exact ⟨vs, rfl, g5⟩⟩
    · cases h
  | .tuple cs, m, m', x', v, ρm, src, h, hn, hv, hk => by
    unfold normV at h
    split at h
    · rename_i cs' m1 hcs; cases h
      unfold V at hv
      obtain ⟨vs, rfl, hvl⟩ := hv
      obtain ⟨g1, g2, ρm', src', g3, g4, g5⟩ := normL_sound cs m m' cs' vs ρm src hcs hn hvl hk
      exact ⟨g1, g2, ρm', src', g3, g4, by unfold V; exact ⟨vs, rfl, g5⟩⟩
    · cases h
  | .bad, m, m', x', v, ρm, src, h, hn, hv, hk => by simp [normV, AVal.under] at h
  | .bool b, m, m', x', v, ρm, src, h, hn, hv, hk => norm_rest (.bool b) m m' x' v ρm src (by unfold normV at h; split at h; (· rename_i hu; cases h; exact ⟨hu, rfl, rfl⟩); cases h) hn hv hk
  | .sbool b, m, m', x', v, ρm, src, h, hn, hv, hk => norm_rest (.sbool b) m m' x' v ρm src (by unfold normV at h; split at h; (· rename_i hu; cases h; exact ⟨hu, rfl, rfl⟩); cases h) hn hv hk
  | .int a b, m, m', x', v, ρm, src, h, hn, hv, hk => norm_rest (.int a b) m m' x' v ρm src (by unfold normV at h; split at h; (· rename_i hu; cases h; exact ⟨hu, rfl, rfl⟩); cases h) hn hv hk
  | .sint a b, m, m', x', v, ρm, src, h, hn, hv, hk => norm_rest (.sint a b) m m' x' v ρm src (by unfold normV at h; split at h; (· rename_i hu; cases h; exact ⟨hu, rfl, rfl⟩); cases h) hn hv hk
  | .cbool a b, m, m', x', v, ρm, src, h, hn, hv, hk => norm_rest (.cbool a b) m m' x' v ρm src (by unfold normV at h; split at h; (· rename_i hu; cases h; exact ⟨hu, rfl, rfl⟩); cases h) hn hv hk
  | .cint a b c, m, m', x', v, ρm, src, h, hn, hv, hk => norm_rest (.cint a b c) m m' x' v ρm src (by unfold normV at h; split at h; (· rename_i hu; cases h; exact ⟨hu, rfl, rfl⟩); cases h) hn hv hk
  | .flt a b, m, m', x', v, ρm, src, h, hn, hv, hk => norm_rest (.flt a b) m m' x' v ρm src (by unfold normV at h; split at h; (· rename_i hu; cases h; exact ⟨hu, rfl, rfl⟩); cases h) hn hv hk
  | .lint a b c, m, m', x', v, ρm, src, h, hn, hv, hk => norm_rest (.lint a b c) m m' x' v ρm src (by unfold normV at h; split at h; (· rename_i hu; cases h; exact ⟨hu, rfl, rfl⟩); cases h) hn hv hk
  | .ptr a b, m, m', x', v, ρm, src, h, hn, hv, hk => norm_rest (.ptr a b) m m' x' v ρm src (by unfold normV at h; split at h; (· rename_i hu; cases h; exact ⟨hu, rfl, rfl⟩); cases h) hn hv hk
  | .vptr a b c d, m, m', x', v, ρm, src, h, hn, hv, hk => norm_rest (.vptr a b c d) m m' x' v ρm src (by unfold normV at h; split at h; (· rename_i hu; cases h; exact ⟨hu, rfl, rfl⟩); cases h) hn hv hk
  | .slice a b c d, m, m', x', v, ρm, src, h, hn, hv, hk => norm_rest (.slice a b c d) m m' x' v ρm src (by unfold normV at h; split at h; (· rename_i hu; cases h; exact ⟨hu, rfl, rfl⟩); cases h) hn hv hk
  | .fn a b c, m, m', x', v, ρm, src, h, hn, hv, hk => norm_rest (.fn a b c) m m' x' v ρm src (by unfold normV at h; split at h; (· rename_i hu; cases h; exact ⟨hu, rfl, rfl⟩); cases h) hn hv hk
  | .ifc a b, m, m', x', v, ρm, src, h, hn, hv, hk => norm_rest (.ifc a b) m m' x' v ρm src (by unfold normV at h; split at h; (· rename_i hu; cases h; exact ⟨hu, rfl, rfl⟩); cases h) hn hv hk
theorem normL_sound {base : Nat} {X : St} {ρ' : Rho} : ∀ (xs : List AVal) (m m' : Nm) (xs' : List AVal) (vs : List Value) (ρm : Rho) (src : Nat → Option Nat), normV.normL base X xs m = some (xs', m') → m'.nd = true → VL ρ' xs vs → NmOk base X ρ' m ρm src →
    m.nd = true ∧ m.vs.length ≤ m'.vs.length ∧ ∃ ρm' src', NmOk base X ρ' m' ρm' src' ∧ (∀ i, i < base + m.vs.length → ρm' i = ρm i ∧ ρm'.cap i = ρm.cap i ∧ (ρm.kn i = true → ρm'.kn i = true)) ∧ VL ρm' xs' vs
  | [], m, m', xs', vs, ρm, src, h, hn, hv, hk => by
    simp only [normV.normL, Option.some.injEq, Prod.mk.injEq] at h
    obtain ⟨rfl, rfl⟩ := h
    exact ⟨hn, Nat.le_refl _, ρm, src, hk, fun _ _ => ⟨rfl, rfl, fun h => h⟩, by unfold VL at hv ⊢; exact hv⟩
  | x :: xs, m, m', xs', vs, ρm, src, h, hn, hv, hk => by
    unfold normV.normL at h
    split at h
    · rename_i c m1 hc
      split at h
      · rename_i r m2 hr; cases h
        unfold VL at hv
        obtain ⟨v, vs', rfl, hv1, hv2⟩ := hv
        -- the needs, from behind
        have hn1 : m1.nd = true := normL_nd xs m1 m' _ hr hn
        obtain ⟨g1, g2, ρ1, src1, g3, g4, g5⟩ := normV_sound x m m1 c v ρm src hc hn1 hv1 hk
        obtain ⟨e1, e2, ρ2, src2, e3, e4, e5⟩ := normL_sound xs m1 m' _ vs' ρ1 src1 hr hn hv2 g3
        refine ⟨g1, by omega, ρ2, src2, e3, fun i hi => ?_, ?_⟩
        · obtain ⟨k1, k2, k3⟩ := g4 i hi
          obtain ⟨k4, k5, k6⟩ := e4 i (by omega)
          exact ⟨k4.trans k1, k5.trans k2, fun h => k6 (k3 h)⟩
        · unfold VL
          refine ⟨v, vs', rfl, V_ext ⟨fun i p hp => ?_, fun i hk' => ?_⟩ _ _ g5, e5⟩
          · have hi : i < base + m1.vs.length := by
              rcases Nat.lt_or_ge i (base + m1.vs.length) with h' | h'
              · exact h'
              · rw [(g3.hi i h').1] at hp; cases hp
            exact ⟨(e4 i hi).1.trans hp, (e4 i hi).2.1⟩
          · have hi : i < base + m1.vs.length := by
              rcases Nat.lt_or_ge i (base + m1.vs.length) with h' | h'
              · exact h'
              · rw [(g3.hi i h').2] at hk'; cases hk'
            exact (e4 i hi).2.2 hk'
      · cases h
    · cases h
end

end
end Go.Ab
