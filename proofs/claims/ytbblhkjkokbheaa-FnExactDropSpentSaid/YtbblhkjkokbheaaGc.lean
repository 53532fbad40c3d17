import Derived.Test.YtbblhkjkokbheaaGi
import Derived.OpenShut
import Derived.ShutString
import Derived.ChangeOld
import Derived.Lib.SmallJoins
import Derived.ProofKit
import Derived.WalkKit
import Derived.Below
import Derived.Laws.Cover2
namespace Go.Ab
open Go Go.RowKit
set_option linter.unusedVariables false

/-! ### 9. A function -/
section
variable {P : Program} {ρ : Rho}

/-- One result. -/
def resOne (a : Act) : ResultVar → Sem Value
  | .tmp t => pure (a.tmps.getD t undef)
  | .cell x t => do loadVar t (← asAddr (a.tmps.getD x undef))

theorem getRes_run {N : Nat} {M : Addr → Prop} {w0 : World} {S : St} {a : Act} {w : World} (hR : Rel N M w0 ρ S a w) : ∀ (rs : List ResultVar) (vs : List AVal), getRes P S rs = some vs →
    ∃ us : List Value, Sem.run P (rs.mapM (resOne a)) w = .ok us w ∧ VL ρ vs us
  | [], vs, h => by simp [getRes] at h; subst h; exact ⟨[], by simp, by simp [VL]⟩
  | .tmp t :: r, vs, h => by
    simp only [getRes] at h
    split at h
    · rename_i vs' hvs; cases h
      obtain ⟨us, h1, h2⟩ := getRes_run hR r vs' hvs
      refine ⟨a.tmps.getD t undef :: us, ?_, by unfold VL; exact ⟨_, us, rfl, hR.fr t, h2⟩⟩
      simp only [List.mapM_cons, resOne, Sem.run_bind, Sem.run_pure, Result.andThen_ok, h1]
    · cases h
  | .cell x t :: r, vs, h => by
    simp only [getRes] at h
    split at h
    · rename_i i o hp
      have hx := hR.fr x
      rw [hp] at hx; unfold V at hx
      obtain ⟨rr, b, hr, hxe⟩ := hx
      split at h
      · rename_i k n vs' hk hn hvs
        obtain ⟨us, h1, h2⟩ := getRes_run hR r vs' hvs
        obtain ⟨l1, l2⟩ := run_loadAt (P := P) w (o := o) hR.mem.hp hk hn hr
        have hload : ∀ v, (Instr.loadAt t (.pointer (some ⟨rr, b + o, none⟩))).run P w = .ok v w → (loadVar t ⟨rr, b + o, none⟩).run P w = .ok v w := by
          intro v hv
          simpa [Instr.loadAt, Instr.sureAddr] using hv
        split at h
        · rename_i ha
          split at h
          · rename_i cs hcs; cases h
            obtain ⟨zs, k1, k2⟩ := l1 cs ha hcs
            refine ⟨.agg ⟨zs⟩ :: us, ?_, by unfold VL; exact ⟨_, us, rfl, by unfold V; exact ⟨zs, rfl, k2⟩, h2⟩⟩
            simp only [List.mapM_cons, resOne, Sem.run_bind, Sem.run_pure, Result.andThen_ok, h1, hxe, asAddr, hload _ k1]
          · cases h
        · rename_i ha
          split at h
          · rename_i z hz; cases h
            obtain ⟨u, k1, k2⟩ := l2 z ha hz
            refine ⟨u :: us, ?_, by unfold VL; exact ⟨_, us, rfl, k2, h2⟩⟩
            simp only [List.mapM_cons, resOne, Sem.run_bind, Sem.run_pure, Result.andThen_ok, h1, hxe, asAddr, hload _ k1]
          · cases h
      · cases h
    · cases h

theorem one_V {vs : List AVal} {us : List Value} (h : VL ρ vs us) : V ρ (one vs) (if h : (us.toArray).size = 1 then us.toArray[0] else .tuple us.toArray) := by
  have hl := VL_length _ _ h
  unfold one
  split
  · rename_i v
    unfold VL at h
    obtain ⟨u, us', rfl, h1, h2⟩ := h
    unfold VL at h2; subst h2
    simpa using h1
  · rename_i hne
    have : ¬ us.toArray.size = 1 := by
      intro h1
      have h2 : vs.length = 1 := by rw [← hl]; simpa using h1
      match vs, h2, hne with
      | [x], _, hne => exact hne x rfl
    rw [dif_neg this]
    unfold V
    exact ⟨us, rfl, h⟩

theorem results_run {N : Nat} {M : Addr → Prop} {w0 : World} {S : St} {a : Act} {w : World} {fn : Func} (hR : Rel N M w0 ρ S a w) {vs : List AVal} (h : getRes P S fn.results.toList = some vs) :
    ∃ u, (results fn a.tmps).run P w = .ok u w ∧ V ρ (one vs) u := by
  obtain ⟨us, h1, h2⟩ := getRes_run hR fn.results.toList vs h
  refine ⟨_, ?_, one_V h2⟩
  unfold results
  change Sem.run P (do let vs ← fn.results.mapM (resOne a); pure (if h : vs.size = 1 then vs[0] else Value.tuple vs)) w = _
  rw [Array.mapM_eq_mapM_toList]
  simp only [Sem.run_bind, Sem.run_map, h1, Result.andThen_ok, Sem.run_pure]

theorem undefs_VL (ρ : Rho) : ∀ n : Nat, VL ρ (undefs n) (List.replicate n undef)
  | 0 => by simp [undefs, VL]
  | n + 1 => by
    simp only [undefs, List.replicate_succ]
    unfold VL
    exact ⟨undef, _, rfl, by unfold V; rfl, undefs_VL ρ n⟩

theorem nth_out : ∀ (l : List AVal) (i : Nat), l.length ≤ i → nth i l = .bad
  | [], i, _ => by cases i <;> rfl
  | x :: l, 0, h => by simp at h
  | x :: l, i + 1, h => by simpa [nth] using nth_out l i (by simpa using h)


/-- What of the old blocks has been written. -/
theorem oldHv_spec {base : Nat} : ∀ {l r : List ((Nat × Nat) × AVal)}, oldHv base l = some r → (∀ i o, hlook1 i o r = if i < base then hlook1 i o l else none) ∧ ∀ i o x, hlook1 i o r = some x → okU base x = true
  | [], r, h => by simp [oldHv] at h; subst h; exact ⟨fun i o => by simp [hlook1], fun i o x hx => by simp [hlook1] at hx⟩
  | (k, v) :: l, r, h => by
    unfold oldHv at h
    split at h
    · rename_i r' hr'
      obtain ⟨h1, h2⟩ := oldHv_spec hr'
      split at h
      · rename_i hk
        have hk := Nat.le_of_ble_eq_true hk
        split at h
        · rename_i hu
          cases h
          refine ⟨fun i o => ?_, fun i o x hx => ?_⟩
          · simp only [hlook1]
            split
            · rename_i hb
              simp only [Bool.and_eq_true] at hb
              have := Nat.eq_of_beq_eq_true hb.1
              rw [if_pos (by omega)]
            · exact h1 i o
          · simp only [hlook1] at hx
            split at hx
            · cases hx; exact hu
            · exact h2 i o x hx
        · cases h
      · rename_i hk
        cases h
        refine ⟨fun i o => ?_, h2⟩
        rw [h1]
        simp only [hlook1]
        split
        · rename_i hi
          split
          · rename_i hb
            simp only [Bool.and_eq_true] at hb
            have := Nat.eq_of_beq_eq_true hb.1
            exfalso
            have hle : Nat.ble (k.1 + 1) base = true := Nat.ble_eq_true_of_le (by omega)
            rw [hle] at hk; cases hk
          · rfl
        · rfl
    · cases h

theorem oldVv_spec {base : Nat} : ∀ (l : List (Nat × Vc)) (i : Nat), vlook1 i (oldVv base l) = if i < base then vlook1 i l else none
  | [], i => by simp [oldVv, vlook1]
  | (k, v) :: l, i => by
    unfold oldVv
    have ih := oldVv_spec (base := base) l i
    split
    · rename_i hk
      have hk := Nat.le_of_ble_eq_true hk
      simp only [vlook1]
      split
      · rename_i hb
        have := Nat.eq_of_beq_eq_true hb
        rw [if_pos (by omega)]
      · exact ih
    · rename_i hk
      rw [ih]
      simp only [vlook1]
      split
      · rename_i hi
        split
        · rename_i hb
          have := Nat.eq_of_beq_eq_true hb
          exfalso
          have hle : Nat.ble (k + 1) base = true := Nat.ble_eq_true_of_le (by omega)
          rw [hle] at hk; cases hk
        · rfl
      · rfl

/-- 'T' is the caller's memory, with what has been written, and what is new. -/
structure Acc (S T : St) (ahv : List ((Nat × Nat) × AVal)) (avv : List (Nat × Vc)) : Prop where
  hp : ∃ l, T.hp = S.hp ++ l
  hv : ∀ i o, hlookL i o T.hvs = match hlook1 i o ahv with | some v => some v | none => hlookL i o S.hvs
  vv : ∀ i, vlookL i T.vvs = match vlook1 i avv with | some v => some v | none => vlookL i S.vvs

theorem Acc.ext {S T : St} {ahv : List ((Nat × Nat) × AVal)} {avv : List (Nat × Vc)} (h : Acc S T ahv avv) (d : Dl) : Acc S (T.ext d) (d.hv ++ ahv) (d.vv ++ avv) := by
  obtain ⟨l, hl⟩ := h.hp
  refine ⟨⟨l ++ d.nw, by simp [St.ext, hl]⟩, fun i o => ?_, fun i => ?_⟩
  · simp only [St.ext, hlookL, hlook1_append, h.hv]
    cases hlook1 i o d.hv <;> rfl
  · simp only [St.ext, vlookL, vlook1_append, h.vv]
    cases vlook1 i d.vv <;> rfl

theorem Acc.blk {S T : St} {ahv : List ((Nat × Nat) × AVal)} {avv : List (Nat × Vc)} (h : Acc S T ahv avv) {i : Nat} (hi : i < S.hp.length) : T.blk i = S.blk i := by
  obtain ⟨l, hl⟩ := h.hp
  unfold St.blk
  rw [hl]; exact nthB_append_left _ _ _ hi

/-- The caller's memory in the end. -/
theorem Acc.cell {S T : St} {ahv hv : List ((Nat × Nat) × AVal)} {avv vv : List (Nat × Vc)} {nw : List Blk} (h : Acc S T ahv avv) (ho : ∀ i o, hlook1 i o hv = if i < S.hp.length then hlook1 i o ahv else none) {i : Nat} (hi : i < S.hp.length) (o : Nat) :
    (S.put hv vv nw).cell i o = T.cell i o := by
  unfold St.cell
  have hb : (S.put hv vv nw).blk i = S.blk i := nthB_append_left _ _ _ hi
  have e : hlookL i o (S.put hv vv nw).hvs = hlookL i o T.hvs := by
    rw [h.hv]
    simp only [St.put, St.ext, hlookL, ho, if_pos hi]
    cases hlook1 i o ahv <;> rfl
  rw [hb, h.blk hi, e]

theorem Acc.vec {S T : St} {ahv hv : List ((Nat × Nat) × AVal)} {avv vv : List (Nat × Vc)} {nw : List Blk} (h : Acc S T ahv avv) (ho : ∀ i, vlook1 i vv = if i < S.hp.length then vlook1 i avv else none) {i : Nat} (hi : i < S.hp.length) :
    (S.put hv vv nw).vec i = T.vec i := by
  unfold St.vec
  have hb : (S.put hv vv nw).blk i = S.blk i := nthB_append_left _ _ _ hi
  have e : vlookL i (S.put hv vv nw).vvs = vlookL i T.vvs := by
    rw [h.vv]
    simp only [St.put, St.ext, vlookL, ho, if_pos hi]
    cases vlook1 i avv <;> rfl
  rw [hb, h.blk hi, e]

/-! new rows that are handed back -/
theorem shiftV_mkA (v : Vc) (a : Nat) (n : Num) (k o : Nat) (c : CK) : (shiftV v a n).mkA k o c = v.mkA (a + k) o c := by cases c <;> rfl

/-- Where they lie. -/
structure NmOk (base : Nat) (X : St) (ρ' : Rho) (m : Nm) (ρm : Rho) (src : Nat → Option Nat) : Prop where
  lo : ∀ i, i < base → ρm i = ρ' i ∧ ρm.cap i = ρ'.cap i ∧ ρm.kn i = ρ'.kn i
  hi : ∀ i, base + m.vs.length ≤ i → ρm i = none ∧ ρm.kn i = false
  kn : ∀ t, t < m.vs.length → ρm.kn (base + t) = true
  nil : ∀ t vc, m.vs[t]? = some vc → src t = none → vc = Vc.none [] ∧ ρm (base + t) = none
  row : ∀ t vc i, m.vs[t]? = some vc → src t = some i → i ∈ m.us ∧ base ≤ i ∧ ∃ a n v, X.vec i = some v ∧ 1 ≤ lenL v.sh ∧ vc = shiftV v a n ∧ a + n.val ≤ v.n.val ∧
      ∀ r b, ρm (base + t) = some (r, b) → ∃ b0, ρ' i = some (r, b0) ∧ b = b0 + a * lenL v.sh ∧ ρm.cap (base + t) = ρ'.cap i - a
  inj : ∀ t t' i, t < m.vs.length → t' < m.vs.length → src t = some i → src t' = some i → t = t'

/-- One more. -/
def updR (ρ : Rho) (n : Nat) (p : Option (Nat × Nat)) (c : Nat) : Rho := ⟨fun i => if i = n then p else ρ i, fun i => if i = n then c else ρ.cap i, fun i => if i = n then true else ρ.kn i⟩

theorem getElem?_snoc {α : Type} {l : List α} {x y : α} {t : Nat} (h : (l ++ [x])[t]? = some y) : (t < l.length ∧ l[t]? = some y) ∨ (t = l.length ∧ y = x) := by
  rcases Nat.lt_trichotomy t l.length with hlt | heq | hgt
  · left; rw [List.getElem?_append_left hlt] at h; exact ⟨hlt, h⟩
  · right; subst heq; simp at h; exact ⟨rfl, h.symm⟩
  · rw [List.getElem?_append_right (by omega)] at h
    have : t - l.length ≠ 0 := by omega
    obtain ⟨k, hk⟩ := Nat.exists_eq_succ_of_ne_zero this
    rw [hk] at h; simp at h

theorem norm_rest {base : Nat} {X : St} {ρ' : Rho} (x : AVal) (m m' : Nm) (x' : AVal) (v : Value) (ρm : Rho) (src : Nat → Option Nat) (h : x.under base = true ∧ x = x' ∧ m = m') (hn : m'.nd = true) (hv : V ρ' x v) (hk : NmOk base X ρ' m ρm src) :
    m.nd = true ∧ m.vs.length ≤ m'.vs.length ∧ ∃ ρm' src', NmOk base X ρ' m' ρm' src' ∧ (∀ i, i < base + m.vs.length → ρm' i = ρm i ∧ ρm'.cap i = ρm.cap i ∧ (ρm.kn i = true → ρm'.kn i = true)) ∧ V ρm' x' v := by
  obtain ⟨hu, rfl, rfl⟩ := h
  · exact ⟨hn, Nat.le_refl _, ρm, src, hk, fun _ _ => ⟨rfl, rfl, fun h => h⟩, V_under (m := base) (fun j hj => ⟨fun p hp => ⟨(hk.lo j hj).1.trans hp, (hk.lo j hj).2.1⟩, fun hk' => (hk.lo j hj).2.2.trans hk'⟩) x v hu hv⟩

mutual
theorem normV_nd {base : Nat} {X : St} : ∀ (x : AVal) (m m' : Nm) (x' : AVal), normV base X x m = some (x', m') → m'.nd = true → m.nd = true
  | .vec i e a n, m, m', x', h, hn => by
    unfold normV at h
    split at h
    · cases h; exact hn
    · split at h
      · split at h
        · cases h
        · cases h; exact (cond_and hn).1
      · cases h
  | .raw u, m, m', x', h, hn => by
    unfold normV at h
    split at h <;> (cases h; exact hn)
  | .agg cs, m, m', x', h, hn => by
    unfold normV at h
    split at h
    · rename_i hcs; cases h; exact normL_nd cs m _ _ hcs hn
    · cases h
  | .tuple cs, m, m', x', h, hn => by
    unfold normV at h
    split at h
    · rename_i hcs; cases h; exact normL_nd cs m _ _ hcs hn
    · cases h
  | .bad, m, m', x', h, hn => by simp [normV, AVal.under] at h
  | .bool b, m, m', x', h, hn => by simp [normV, AVal.under] at h; rw [h.2]; exact hn
  | .sbool b, m, m', x', h, hn => by simp [normV, AVal.under] at h; rw [h.2]; exact hn
  | .int a b, m, m', x', h, hn => by simp [normV, AVal.under] at h; rw [h.2]; exact hn
  | .sint a b, m, m', x', h, hn => by simp [normV, AVal.under] at h; rw [h.2]; exact hn
  | .cbool a b, m, m', x', h, hn => by simp [normV, AVal.under] at h; rw [h.2]; exact hn
  | .cint a b c, m, m', x', h, hn => by simp [normV, AVal.under] at h; rw [h.2]; exact hn
  | .flt a b, m, m', x', h, hn => by simp [normV, AVal.under] at h; rw [h.2]; exact hn
  | .lint a b c, m, m', x', h, hn => by simp [normV, AVal.under] at h; rw [h.2]; exact hn
  | .ptr a b, m, m', x', h, hn => by simp only [normV] at h; split at h <;> cases h; exact hn
  | .vptr a b c d, m, m', x', h, hn => by simp only [normV] at h; split at h <;> cases h; exact hn
  | .slice a b c d, m, m', x', h, hn => by simp only [normV] at h; split at h <;> cases h; exact hn
  | .fn a b c, m, m', x', h, hn => by simp only [normV] at h; split at h <;> cases h; exact hn
  | .ifc a b, m, m', x', h, hn => by simp only [normV] at h; split at h <;> cases h; exact hn
theorem normL_nd {base : Nat} {X : St} : ∀ (xs : List AVal) (m m' : Nm) (xs' : List AVal), normV.normL base X xs m = some (xs', m') → m'.nd = true → m.nd = true
  | [], m, m', xs', h, hn => by simp [normV.normL] at h; rw [h.2]; exact hn
  | x :: xs, m, m', xs', h, hn => by
    unfold normV.normL at h
    split at h
    · rename_i c m1 hc
      split at h
      · rename_i r m2 hr; cases h
        exact normV_nd x m m1 c hc (normL_nd xs m1 _ _ hr hn)
      · cases h
    · cases h
end

mutual
theorem normV_sound {base : Nat} {X : St} {ρ' : Rho} : ∀ (x : AVal) (m m' : Nm) (x' : AVal) (v : Value) (ρm : Rho) (src : Nat → Option Nat), normV base X x m = some (x', m') → m'.nd = true → V ρ' x v → NmOk base X ρ' m ρm src →
    m.nd = true ∧ m.vs.length ≤ m'.vs.length ∧ ∃ ρm' src', NmOk base X ρ' m' ρm' src' ∧ (∀ i, i < base + m.vs.length → ρm' i = ρm i ∧ ρm'.cap i = ρm.cap i ∧ (ρm.kn i = true → ρm'.kn i = true)) ∧ V ρm' x' v
  | .vec i e a n, m, m', x', v, ρm, src, h, hn, hv, hk => by
    unfold normV at h
    split at h
    · rename_i hlo
      have hlo := Nat.le_of_ble_eq_true hlo
      cases h
      refine ⟨hn, Nat.le_refl _, ρm, src, hk, fun _ _ => ⟨rfl, rfl, fun h => h⟩, ?_⟩
      unfold V at hv ⊢
      exact hv.agr (m := base) (fun j hj => ⟨fun p hp => ⟨(hk.lo j hj).1.trans hp, (hk.lo j hj).2.1⟩, fun hk' => (hk.lo j hj).2.2.trans hk'⟩) hlo
    · rename_i hlo
      have hge : base ≤ i := by
        rcases Nat.lt_or_ge i base with h' | h'
        · rw [Nat.ble_eq_true_of_le h'] at hlo; cases hlo
        · exact h'
      split at h
      · rename_i vc hvc
        split at h
        · cases h
        · rename_i hc
          have hc' : (memN i m.us || !(Nat.beq e (lenL vc.sh) && Nat.ble 1 e)) = false := hc
          simp only [Bool.or_eq_false_iff, Bool.not_eq_false', Bool.and_eq_true] at hc'
          obtain ⟨hnm, he1, he2⟩ := hc'
          have he1 := Nat.eq_of_beq_eq_true he1
          have he2 := Nat.le_of_ble_eq_true he2
          subst he1
          cases h
          obtain ⟨hmn, hle⟩ := cond_and hn
          have hle := Nat.le_of_ble_eq_true hle
          have hfresh : i ∉ m.us := fun h' => by rw [(memN_iff _ _).2 h'] at hnm; cases hnm
          unfold V at hv
          obtain ⟨hok, _, bs, c, hve, hcc⟩ := hv
          have hlen : (m.vs ++ [shiftV vc a n]).length = m.vs.length + 1 := by simp
          refine ⟨hmn, by simp, updR ρm (base + m.vs.length) ((ρ' i).map fun p => (p.1, p.2 + a * lenL vc.sh)) (ρ'.cap i - a), fun t => if t = m.vs.length then some i else src t, ⟨fun j hj => ?_, fun j hj => ?_, fun t ht => ?_, fun t u hu hs => ?_, fun t u j hu hs => ?_, fun t t' j ht ht' hs hs' => ?_⟩, fun j hj => ?_, ?_⟩
          · have hne : j ≠ base + m.vs.length := by omega
            simp only [updR]
            rw [if_neg hne, if_neg hne, if_neg hne]; exact hk.lo j hj
          · rw [hlen] at hj
            have hne : j ≠ base + m.vs.length := by omega
            simp only [updR]
            rw [if_neg hne, if_neg hne]; exact hk.hi j (by omega)
          · rw [hlen] at ht
            simp only [updR]
            by_cases hte : t = m.vs.length
            · rw [if_pos (by omega)]
            · rw [if_neg (by omega)]; exact hk.kn t (by omega)
          · rcases getElem?_snoc hu with ⟨h1, h2⟩ | ⟨rfl, rfl⟩
            · rw [if_neg (by omega)] at hs
              simp only [updR]
              rw [if_neg (by omega)]
              exact hk.nil t u h2 hs
            · rw [if_pos rfl] at hs; cases hs
          · rcases getElem?_snoc hu with ⟨h1, h2⟩ | ⟨rfl, rfl⟩
            · rw [if_neg (by omega)] at hs
              obtain ⟨g1, g2, a', n', v', g3, g4, g5, g6, g7⟩ := hk.row t u j h2 hs
              refine ⟨by simp [g1], g2, a', n', v', g3, g4, g5, g6, fun r b hrb => ?_⟩
              simp only [updR] at hrb ⊢
              rw [if_neg (by omega)] at hrb ⊢
              exact g7 r b hrb
            · rw [if_pos rfl] at hs; cases hs
              refine ⟨by simp, hge, a, n, vc, hvc, he2, rfl, hle, fun r b hrb => ?_⟩
              simp only [updR, ite_true] at hrb ⊢
              cases hp : ρ' i with
              | none => rw [hp] at hrb; cases hrb
              | some p =>
                obtain ⟨p1, p2⟩ := p
                rw [hp] at hrb
                simp only [Option.map_some, Option.some.injEq, Prod.mk.injEq] at hrb
                obtain ⟨rfl, rfl⟩ := hrb
                exact ⟨p2, by simp⟩
          · rw [hlen] at ht ht'
            by_cases h1 : t = m.vs.length
            · by_cases h2 : t' = m.vs.length
              · omega
              · rw [if_pos h1] at hs; cases hs
                rw [if_neg h2] at hs'
                have hu : m.vs[t']? = some m.vs[t'] := List.getElem?_eq_getElem (by omega)
                exact absurd (hk.row t' _ i hu hs').1 hfresh
            · by_cases h2 : t' = m.vs.length
              · rw [if_pos h2] at hs'; cases hs'
                rw [if_neg h1] at hs
                have hu : m.vs[t]? = some m.vs[t] := List.getElem?_eq_getElem (by omega)
                exact absurd (hk.row t _ i hu hs).1 hfresh
              · rw [if_neg h1] at hs
                rw [if_neg h2] at hs'
                exact hk.inj t t' j (by omega) (by omega) hs hs'
          · simp only [updR]
            rw [if_neg (by omega), if_neg (by omega), if_neg (by omega)]
            exact ⟨rfl, rfl, fun h => h⟩
          · unfold V
            refine ⟨hok, ?_, bs, c, hve, ?_⟩
            · show (if base + lenL m.vs = base + m.vs.length then true else _) = true
              rw [lenL_eq, if_pos rfl]
            · rcases hcc with hcc | ⟨r, b, hr, hb, hcv, hcap⟩
              · exact Or.inl hcc
              · right
                refine ⟨r, b + a * lenL vc.sh, ?_, by rw [hb]; simp, ?_, ?_⟩
                · show (if base + lenL m.vs = base + m.vs.length then _ else _) = _
                  rw [lenL_eq, if_pos rfl, hr]; rfl
                · show c = (if base + lenL m.vs = base + m.vs.length then _ else _) - 0
                  rw [lenL_eq, if_pos rfl, hcv]; rfl
                · show 0 + n.val ≤ (if base + lenL m.vs = base + m.vs.length then _ else _)
                  rw [lenL_eq, if_pos rfl]; omega
      · cases h
  | .raw u, m, m', x', v, ρm, src, h, hn, hv, hk => by
    unfold normV at h
    split at h
    · -- nil
      cases h
      unfold V at hv
      subst hv
      have hlen : (m.vs ++ [Vc.none []]).length = m.vs.length + 1 := by simp
      refine ⟨hn, by simp, updR ρm (base + m.vs.length) none 0, fun t => if t = m.vs.length then none else src t, ⟨fun j hj => ?_, fun j hj => ?_, fun t ht => ?_, fun t u hu hs => ?_, fun t u j hu hs => ?_, fun t t' j ht ht' hs hs' => ?_⟩, fun j hj => ?_, ?_⟩
      · simp only [updR]
        rw [if_neg (by omega), if_neg (by omega), if_neg (by omega)]; exact hk.lo j hj
      · rw [hlen] at hj
        simp only [updR]
        rw [if_neg (by omega), if_neg (by omega)]; exact hk.hi j (by omega)
      · rw [hlen] at ht
        simp only [updR]
        by_cases hte : t = m.vs.length
        · rw [if_pos (by omega)]
        · rw [if_neg (by omega)]; exact hk.kn t (by omega)
      · simp only [updR]
        rcases getElem?_snoc hu with ⟨h1, h2⟩ | ⟨rfl, rfl⟩
        · rw [if_neg (by omega)] at hs
          rw [if_neg (by omega)]
          exact hk.nil t u h2 hs
        · rw [if_pos rfl]; exact ⟨rfl, rfl⟩
      · rcases getElem?_snoc hu with ⟨h1, h2⟩ | ⟨rfl, rfl⟩
        · rw [if_neg (by omega)] at hs
          obtain ⟨g1, g2, a', n', v', g3, g4, g5, g6, g7⟩ := hk.row t u j h2 hs
          refine ⟨g1, g2, a', n', v', g3, g4, g5, g6, fun r b hrb => ?_⟩
          simp only [updR] at hrb ⊢
          rw [if_neg (by omega)] at hrb ⊢
          exact g7 r b hrb
        · rw [if_pos rfl] at hs; cases hs
      · rw [hlen] at ht ht'
        by_cases h1 : t = m.vs.length
        · rw [if_pos h1] at hs; cases hs
        · by_cases h2 : t' = m.vs.length
          · rw [if_pos h2] at hs'; cases hs'
          · rw [if_neg h1] at hs
            rw [if_neg h2] at hs'
            exact hk.inj t t' j (by omega) (by omega) hs hs'
      · simp only [updR]
        rw [if_neg (by omega), if_neg (by omega), if_neg (by omega)]
        exact ⟨rfl, rfl, fun h => h⟩
      · unfold V
        refine ⟨trivial, ?_, none, 0, rfl, Or.inl ⟨rfl, rfl⟩⟩
        show (if base + lenL m.vs = base + m.vs.length then true else _) = true
        rw [lenL_eq, if_pos rfl]
    · cases h
      exact ⟨hn, Nat.le_refl _, ρm, src, hk, fun _ _ => ⟨rfl, rfl, fun h => h⟩, by unfold V at hv ⊢; exact hv⟩
  | .agg cs, m, m', x', v, ρm, src, h, hn, hv, hk => by
    unfold normV at h
    split at h
    · rename_i cs' m1 hcs; cases h
      unfold V at hv
      obtain ⟨vs, rfl, hvl⟩ := hv
      obtain ⟨g1, g2, ρm', src', g3, g4, g5⟩ := normL_sound cs m m' cs' vs ρm src hcs hn hvl hk
      exact ⟨g1, g2, ρm', src', g3, g4, by unfold V; exact ⟨vs, rfl, g5⟩⟩
    · cases h
  | .tuple cs, m, m', x', v, ρm, src, h, hn, hv, hk => by
    unfold normV at h
    split at h
    · rename_i cs' m1 hcs; cases h
      unfold V at hv
      obtain ⟨vs, rfl, hvl⟩ := hv
      obtain ⟨g1, g2, ρm', src', g3, g4, g5⟩ := normL_sound cs m m' cs' vs ρm src hcs hn hvl hk
      exact ⟨g1, g2, ρm', src', g3, g4, by unfold V; exact ⟨vs, rfl, g5⟩⟩
    · cases h
  | .bad, m, m', x', v, ρm, src, h, hn, hv, hk => by simp [normV, AVal.under] at h
  | .bool b, m, m', x', v, ρm, src, h, hn, hv, hk => norm_rest (.bool b) m m' x' v ρm src (by unfold normV at h; split at h; (· rename_i hu; cases h; exact ⟨hu, rfl, rfl⟩); cases h) hn hv hk
  | .sbool b, m, m', x', v, ρm, src, h, hn, hv, hk => norm_rest (.sbool b) m m' x' v ρm src (by unfold normV at h; split at h; (· rename_i hu; cases h; exact ⟨hu, rfl, rfl⟩); cases h) hn hv hk
  | .int a b, m, m', x', v, ρm, src, h, hn, hv, hk => norm_rest (.int a b) m m' x' v ρm src (by unfold normV at h; split at h; (· rename_i hu; cases h; exact ⟨hu, rfl, rfl⟩); cases h) hn hv hk
  | .sint a b, m, m', x', v, ρm, src, h, hn, hv, hk => norm_rest (.sint a b) m m' x' v ρm src (by unfold normV at h; split at h; (· rename_i hu; cases h; exact ⟨hu, rfl, rfl⟩); cases h) hn hv hk
  | .cbool a b, m, m', x', v, ρm, src, h, hn, hv, hk => norm_rest (.cbool a b) m m' x' v ρm src (by unfold normV at h; split at h; (· rename_i hu; cases h; exact ⟨hu, rfl, rfl⟩); cases h) hn hv hk
  | .cint a b c, m, m', x', v, ρm, src, h, hn, hv, hk => norm_rest (.cint a b c) m m' x' v ρm src (by unfold normV at h; split at h; (· rename_i hu; cases h; exact ⟨hu, rfl, rfl⟩); cases h) hn hv hk
  | .flt a b, m, m', x', v, ρm, src, h, hn, hv, hk => norm_rest (.flt a b) m m' x' v ρm src (by unfold normV at h; split at h; (· rename_i hu; cases h; exact ⟨hu, rfl, rfl⟩); cases h) hn hv hk
  | .lint a b c, m, m', x', v, ρm, src, h, hn, hv, hk => norm_rest (.lint a b c) m m' x' v ρm src (by unfold normV at h; split at h; (· rename_i hu; cases h; exact ⟨hu, rfl, rfl⟩); cases h) hn hv hk
  | .ptr a b, m, m', x', v, ρm, src, h, hn, hv, hk => norm_rest (.ptr a b) m m' x' v ρm src (by unfold normV at h; split at h; (· rename_i hu; cases h; exact ⟨hu, rfl, rfl⟩); cases h) hn hv hk
  | .vptr a b c d, m, m', x', v, ρm, src, h, hn, hv, hk => norm_rest (.vptr a b c d) m m' x' v ρm src (by unfold normV at h; split at h; (· rename_i hu; cases h; exact ⟨hu, rfl, rfl⟩); cases h) hn hv hk
  | .slice a b c d, m, m', x', v, ρm, src, h, hn, hv, hk => norm_rest (.slice a b c d) m m' x' v ρm src (by unfold normV at h; split at h; (· rename_i hu; cases h; exact ⟨hu, rfl, rfl⟩); cases h) hn hv hk
  | .fn a b c, m, m', x', v, ρm, src, h, hn, hv, hk => norm_rest (.fn a b c) m m' x' v ρm src (by unfold normV at h; split at h; (· rename_i hu; cases h; exact ⟨hu, rfl, rfl⟩); cases h) hn hv hk
  | .ifc a b, m, m', x', v, ρm, src, h, hn, hv, hk => norm_rest (.ifc a b) m m' x' v ρm src (by unfold normV at h; split at h; (· rename_i hu; cases h; exact ⟨hu, rfl, rfl⟩); cases h) hn hv hk
theorem normL_sound {base : Nat} {X : St} {ρ' : Rho} : ∀ (xs : List AVal) (m m' : Nm) (xs' : List AVal) (vs : List Value) (ρm : Rho) (src : Nat → Option Nat), normV.normL base X xs m = some (xs', m') → m'.nd = true → VL ρ' xs vs → NmOk base X ρ' m ρm src →
    m.nd = true ∧ m.vs.length ≤ m'.vs.length ∧ ∃ ρm' src', NmOk base X ρ' m' ρm' src' ∧ (∀ i, i < base + m.vs.length → ρm' i = ρm i ∧ ρm'.cap i = ρm.cap i ∧ (ρm.kn i = true → ρm'.kn i = true)) ∧ VL ρm' xs' vs
  | [], m, m', xs', vs, ρm, src, h, hn, hv, hk => by
    simp only [normV.normL, Option.some.injEq, Prod.mk.injEq] at h
    obtain ⟨rfl, rfl⟩ := h
    exact ⟨hn, Nat.le_refl _, ρm, src, hk, fun _ _ => ⟨rfl, rfl, fun h => h⟩, by unfold VL at hv ⊢; exact hv⟩
  | x :: xs, m, m', xs', vs, ρm, src, h, hn, hv, hk => by
    unfold normV.normL at h
    split at h
    · rename_i c m1 hc
      split at h
      · rename_i r m2 hr; cases h
        unfold VL at hv
        obtain ⟨v, vs', rfl, hv1, hv2⟩ := hv
        -- the needs, from behind
        have hn1 : m1.nd = true := normL_nd xs m1 m' _ hr hn
        obtain ⟨g1, g2, ρ1, src1, g3, g4, g5⟩ := normV_sound x m m1 c v ρm src hc hn1 hv1 hk
        obtain ⟨e1, e2, ρ2, src2, e3, e4, e5⟩ := normL_sound xs m1 m' _ vs' ρ1 src1 hr hn hv2 g3
        refine ⟨g1, by omega, ρ2, src2, e3, fun i hi => ?_, ?_⟩
        · obtain ⟨k1, k2, k3⟩ := g4 i hi
          obtain ⟨k4, k5, k6⟩ := e4 i (by omega)
          exact ⟨k4.trans k1, k5.trans k2, fun h => k6 (k3 h)⟩
        · unfold VL
          refine ⟨v, vs', rfl, V_ext ⟨fun i p hp => ?_, fun i hk' => ?_⟩ _ _ g5, e5⟩
          · have hi : i < base + m1.vs.length := by
              rcases Nat.lt_or_ge i (base + m1.vs.length) with h' | h'
              · exact h'
              · rw [(g3.hi i h').1] at hp; cases hp
            exact ⟨(e4 i hi).1.trans hp, (e4 i hi).2.1⟩
          · have hi : i < base + m1.vs.length := by
              rcases Nat.lt_or_ge i (base + m1.vs.length) with h' | h'
              · exact h'
              · rw [(g3.hi i h').2] at hk'; cases hk'
            exact (e4 i hi).2.2 hk'
      · cases h
    · cases h
end

end
end Go.Ab

namespace Go.Ab
open Go Go.RowKit
set_option linter.unusedVariables false
section
variable {M : Addr → Prop} {w0 : World} {ρ : Rho} {S : St} {w : World}

/-- The cells of the blocks that were there. -/
theorem merge_cell {b : Bool} {d1 d2 : Dl} {i o : Nat} {x : AVal} (hi : i < S.hp.length) (hx : (S.ext (mergeD b S d1 d2)).cell i o = some x) :
    ∃ y, (S.ext (if b then d1 else d2)).cell i o = some y ∧ ∀ ρ v, V ρ y v → V ρ x v := by
  have hoff := cell_off hx
  rw [blk_ext_left _ _ hi] at hoff
  obtain ⟨y1, hy1⟩ := cell_some (S := S.ext d1) (i := i) (o := o) (by rw [blk_ext_left _ _ hi]; exact hoff)
  obtain ⟨y2, hy2⟩ := cell_some (S := S.ext d2) (i := i) (o := o) (by rw [blk_ext_left _ _ hi]; exact hoff)
  refine ⟨if b then y1 else y2, by cases b <;> simp [hy1, hy2], ?_⟩
  unfold St.cell at hx
  rw [blk_ext_left _ _ hi, Nat.ble_eq_true_of_le hoff] at hx
  simp only [St.ext, mergeD, hlookL, hlook1_mergeHv, keysH_mem, List.not_mem_nil, false_or] at hx
  by_cases hc : (hlook1 i o d1.hv).isSome = true ∨ (hlook1 i o d2.hv).isSome = true
  · rw [if_pos ⟨hc, hi⟩] at hx
    simp only [Option.some.injEq] at hx
    subst hx
    intro ρ v hv
    apply mergeV_sound
    simp only [cellD]
    have e1 : (S.ext d1).cell i o = some y1 := hy1
    have e2 : (S.ext d2).cell i o = some y2 := hy2
    simp only [St.ext] at e1 e2
    rw [e1, e2]
    cases b <;> simpa using hv
  · rw [if_neg (fun h => hc h.1)] at hx
    have n1 : hlook1 i o d1.hv = none := by
      cases hh : hlook1 i o d1.hv with
      | none => rfl
      | some z => exact absurd (Or.inl (by simp [hh])) hc
    have n2 : hlook1 i o d2.hv = none := by
      cases hh : hlook1 i o d2.hv with
      | none => rfl
      | some z => exact absurd (Or.inr (by simp [hh])) hc
    have e1 : y1 = x := by
      have := hy1
      unfold St.cell at this
      rw [blk_ext_left _ _ hi, Nat.ble_eq_true_of_le hoff] at this
      simp only [St.ext, hlookL, n1] at this
      rw [this] at hx; simpa using hx
    have e2 : y2 = x := by
      have := hy2
      unfold St.cell at this
      rw [blk_ext_left _ _ hi, Nat.ble_eq_true_of_le hoff] at this
      simp only [St.ext, hlookL, n2] at this
      rw [this] at hx; simpa using hx
    subst e1; subst e2
    intro ρ v hv
    cases b <;> simpa using hv

theorem cell_old {d d' : Dl} (h : d.hv = d'.hv) {i : Nat} (hi : i < S.hp.length) (o : Nat) : (S.ext d).cell i o = (S.ext d').cell i o := by
  unfold St.cell
  rw [blk_ext_left _ _ hi, blk_ext_left _ _ hi]
  simp only [St.ext, h]
theorem vec_old {d d' : Dl} (h : d.vv = d'.vv) {i : Nat} (hi : i < S.hp.length) : (S.ext d).vec i = (S.ext d').vec i := by
  unfold St.vec
  rw [blk_ext_left _ _ hi, blk_ext_left _ _ hi]
  simp only [St.ext, h]

theorem nth_blksOf : ∀ (l : List Vc) (t : Nat), nthB t (blksOf l) = ⟨[], false, l[t]?⟩
  | [], t => by cases t <;> rfl
  | v :: l, 0 => rfl
  | v :: l, t + 1 => by simpa [blksOf, nthB] using nth_blksOf l t
theorem len_blksOf : ∀ l : List Vc, (blksOf l).length = l.length
  | [] => rfl
  | v :: l => by simp [blksOf, len_blksOf l]

/-- What holds of the caller's memory where a call has answered. -/
structure RtOk (S : St) (M : Addr → Prop) (w0 : World) (ρ : Rho) (hv : List ((Nat × Nat) × AVal)) (vv : List (Nat × Vc)) (vs : List Vc) (w : World) : Prop where
  mem : Mem M w0 ρ (S.ext ⟨[], hv, vv, blksOf vs, [], true⟩) w
  emp : ∀ t vc, vs[t]? = some vc → vc.sh = [] → ρ (S.hp.length + t) = none
  low : ∀ i, S.hp.length ≤ i → vlook1 i vv = none

theorem mergeVs_spec {b : Bool} : ∀ (xs ys l : List Vc), mergeVs b xs ys = some l → xs.length = l.length ∧ ys.length = l.length ∧
    ∀ (t : Nat) (z : Vc), l[t]? = some z → ∃ (x y : Vc), xs[t]? = some x ∧ ys[t]? = some y ∧ okVr x y = true ∧ z = mergeVr b x y
  | [], [], l, h => by simp [mergeVs] at h; subst h; exact ⟨rfl, rfl, fun t z hz => by simp at hz⟩
  | [], y :: ys, l, h => by simp [mergeVs] at h
  | x :: xs, [], l, h => by simp [mergeVs] at h
  | x :: xs, y :: ys, l, h => by
    unfold mergeVs at h
    split at h
    · rename_i hok
      split at h
      · rename_i l' hl; cases h
        obtain ⟨h1, h2, h3⟩ := mergeVs_spec xs ys l' hl
        refine ⟨by simp [h1], by simp [h2], fun t z hz => ?_⟩
        cases t with
        | zero => simp at hz; exact ⟨x, y, rfl, rfl, hok, hz.symm⟩
        | succ t => simpa using h3 t z (by simpa using hz)
      · cases h
    · cases h

theorem mergeVr_spec {b : Bool} {x y : Vc} (h : okVr x y = true) :
    ((mergeVr b x y).sh = [] → (if b then x else y).sh = []) ∧ ((if b then x else y).sh = [] ∨ VWeak (if b then x else y) (mergeVr b x y)) := by
  cases h1 : x.sh with
  | nil =>
    cases h2 : y.sh with
    | nil => exact ⟨fun _ => by (cases b <;> simp [h1, h2]), Or.inl (by cases b <;> simp [h1, h2])⟩
    | cons d sh' =>
      have e : mergeVr b x y = ⟨d :: sh', mergeNum b (.lit 0) y.n, y.fd, y.gd, y.bd, y.wr⟩ := by simp only [mergeVr, h1, h2]
      rw [e]
      refine ⟨fun h => absurd h (by simp), ?_⟩
      cases b with
      | true => left; simpa using h1
      | false =>
        right; right
        simp only [Bool.false_eq_true, if_false]
        refine ⟨h2, by show (mergeNum false (.lit 0) y.n).val = _; rw [mergeNum_val]; rfl, fun h => h, fun k o c ρ v hv => ?_⟩
        cases c <;> simpa [Vc.mkA] using hv
  | cons c sh =>
    cases h2 : y.sh with
    | nil =>
      have e : mergeVr b x y = ⟨c :: sh, mergeNum b x.n (.lit 0), x.fd, x.gd, x.bd, x.wr⟩ := by simp only [mergeVr, h1, h2]
      rw [e]
      refine ⟨fun h => absurd h (by simp), ?_⟩
      cases b with
      | false => left; simpa using h2
      | true =>
        right; right
        simp only [if_true]
        refine ⟨h1, by show (mergeNum true x.n (.lit 0)).val = _; rw [mergeNum_val]; rfl, fun h => h, fun k o c ρ v hv => ?_⟩
        cases c <;> simpa [Vc.mkA] using hv
    | cons d sh' =>
      have he : eqSh (c :: sh) (d :: sh') = true := by simpa only [okVr, h1, h2] using h
      have e : mergeVr b x y = mergeVc b x y := by simp only [mergeVr, mergeVc, h1, h2, he]
      refine ⟨fun h => ?_, Or.inr (by rw [e]; exact mergeVc_weak b x y)⟩
      simp only [mergeVr, h1, h2, he] at h
      cases h

/-- TWO ENDS BECOME ONE. -/
theorem RtOk.merge {b : Bool} {X Y : Rt} {vs : List Vc} (hSh : ∀ i o x, hlookL i o S.hvs = some x → i < S.hp.length) (hSv : ∀ i x, vlookL i S.vvs = some x → i < S.hp.length) (hvs : mergeVs b X.vs Y.vs = some vs)
    (h : RtOk S M w0 ρ (if b then X else Y).hv (if b then X else Y).vv (if b then X else Y).vs w) : RtOk S M w0 ρ (mergeD b S X.dl Y.dl).hv (mergeD b S X.dl Y.dl).vv vs w := by
  obtain ⟨hl1, hl2, hz⟩ := mergeVs_spec _ _ _ hvs
  have hsel : (if b then X.dl else Y.dl) = ⟨[], (if b then X else Y).hv, (if b then X else Y).vv, blksOf (if b then X else Y).vs, [], true⟩ := by cases b <;> rfl
  have hm := h.mem
  rw [← hsel] at hm
  have hlen : (S.ext ⟨[], (mergeD b S X.dl Y.dl).hv, (mergeD b S X.dl Y.dl).vv, blksOf vs, [], true⟩).hp.length = S.hp.length + vs.length := by simp [St.ext, len_blksOf]
  have hlen' : (S.ext (if b then X.dl else Y.dl)).hp.length = S.hp.length + vs.length := by cases b <;> simp [St.ext, Rt.dl, len_blksOf, hl1, hl2]
  have hcell : ∀ i o x, (S.ext ⟨[], (mergeD b S X.dl Y.dl).hv, (mergeD b S X.dl Y.dl).vv, blksOf vs, [], true⟩).cell i o = some x → i < S.hp.length ∧ ∃ y, (S.ext (if b then X.dl else Y.dl)).cell i o = some y ∧ ∀ ρ v, V ρ y v → V ρ x v := by
    intro i o x hx
    have hi : i < S.hp.length := by
      rcases Nat.lt_or_ge i S.hp.length with hlt | hge
      · exact hlt
      · have hoff := cell_off hx
        have e : i = S.hp.length + (i - S.hp.length) := by omega
        rw [e, blk_ext_right, nth_blksOf] at hoff
        simp at hoff
    have hx := (cell_old (S := S) (d := mergeD b S X.dl Y.dl) (d' := ⟨[], (mergeD b S X.dl Y.dl).hv, (mergeD b S X.dl Y.dl).vv, blksOf vs, [], true⟩) rfl hi o).trans hx
    exact ⟨hi, merge_cell hi hx⟩
  have hwr : ∀ i, i < S.hp.length → ((S.ext ⟨[], (mergeD b S X.dl Y.dl).hv, (mergeD b S X.dl Y.dl).vv, blksOf vs, [], true⟩).blk i).wr = true → ((S.ext (if b then X.dl else Y.dl)).blk i).wr = true := by
    intro i hlt hi
    rw [blk_ext_left _ _ hlt] at hi ⊢; exact hi
  have hvec : ∀ i x p, (S.ext ⟨[], (mergeD b S X.dl Y.dl).hv, (mergeD b S X.dl Y.dl).vv, blksOf vs, [], true⟩).vec i = some x → ρ i = some p → ∃ y, (S.ext (if b then X.dl else Y.dl)).vec i = some y ∧ VWeak y x := by
    intro i x p hx hp
    rcases Nat.lt_or_ge i S.hp.length with hlt | hge
    · have hx := (vec_old (S := S) (d := mergeD b S X.dl Y.dl) (d' := ⟨[], (mergeD b S X.dl Y.dl).hv, (mergeD b S X.dl Y.dl).vv, blksOf vs, [], true⟩) rfl hlt).trans hx
      exact (merge_vec hx).2
    · have e : i = S.hp.length + (i - S.hp.length) := by omega
      have hnv : vlookL i S.vvs = none := by
        cases hh : vlookL i S.vvs with
        | none => rfl
        | some z => have := hSv i z hh; omega
      have hnd : vlook1 i (mergeD b S X.dl Y.dl).vv = none := by
        simp only [mergeD, vlook1_mergeVv]
        rw [if_neg (by omega)]
      have hx' : vs[i - S.hp.length]? = some x := by
        unfold St.vec at hx
        rw [e, blk_ext_right, ← e] at hx
        simp only [nth_blksOf] at hx
        split at hx
        · rename_i v hv hv'
          simp only [St.ext, vlookL, hnd, hnv] at hx
          rw [← hx]; assumption
        · cases hx
      obtain ⟨u1, u2, k1, k2, k3, rfl⟩ := hz _ _ hx'
      obtain ⟨m1, m2⟩ := mergeVr_spec (b := b) k3
      have hu : (if b then X else Y).vs[i - S.hp.length]? = some (if b then u1 else u2) := by cases b <;> simp [k1, k2]
      have hne : (if b then u1 else u2).sh ≠ [] := fun hs => by
        have := h.emp _ _ hu hs
        rw [← e] at this
        rw [this] at hp; cases hp
      refine ⟨if b then u1 else u2, ?_, m2.resolve_left hne⟩
      have hlw := h.low i hge
      unfold St.vec
      rw [e, blk_ext_right, ← e]
      have hnw : (if b then X.dl else Y.dl).nw = blksOf (if b then X else Y).vs := by rw [hsel]
      have hvv : (if b then X.dl else Y.dl).vv = (if b then X else Y).vv := by rw [hsel]
      rw [hnw, nth_blksOf, hu]
      simp only [St.ext, vlookL, hvv, hlw, hnv]
  refine ⟨⟨⟨?_, ?_, ?_, ?_, ?_, ?_, ?_, ?_, ?_, ?_, hm.hp.lt⟩, hm.fr, ⟨?_, ?_⟩⟩, ?_, ?_⟩
  · intro i o x hx
    obtain ⟨_, y, hy, hyx⟩ := hcell i o x hx
    obtain ⟨r, bb, v, k1, k2, k3⟩ := hm.hp.cell i o y hy
    exact ⟨r, bb, v, k1, k2, hyx ρ v k3⟩
  · intro i x r bb k o c hx hr hk hc
    obtain ⟨y, hy, hw⟩ := hvec i x _ hx hr
    rcases hw with ⟨h1, _⟩ | ⟨h1, h2, h3, h4⟩
    · rw [h1] at hc; simp [nthC] at hc
    · obtain ⟨v, k1, k2⟩ := hm.hp.vcell i y r bb k o c hy hr (by omega) (by rw [h1]; exact hc)
      exact ⟨v, by rw [← h1]; exact k1, h4 k o c ρ v k2⟩
  · intro i o x r bb hx hw hr
    obtain ⟨hi, y, hy, _⟩ := hcell i o x hx
    exact hm.hp.frz i o y r bb hy (hwr i hi hw) hr
  · intro i x r bb q hx hw hr hq
    obtain ⟨y, hy, hwk⟩ := hvec i x _ hx hr
    rcases hwk with ⟨_, h1⟩ | ⟨h1, h2, h3, h4⟩
    · rw [h1] at hw; cases hw
    · exact hm.hp.vfrz i y r bb q hy (h3 hw) hr (by rw [h1]; exact hq)
  · intro i x r bb hx hw hr
    obtain ⟨y, hy, hwk⟩ := hvec i x _ hx hr
    rcases hwk with ⟨_, h1⟩ | ⟨h1, h2, h3, h4⟩
    · rw [h1] at hw; cases hw
    · rw [h2]; exact hm.hp.vcap i y r bb hy (h3 hw) hr
  · intro i j r bb b' hij hw hr hr' hlv
    refine hm.hp.dis i j r bb b' hij ?_ hr hr' ?_
    · rcases wrB_iff.1 hw with ⟨o, x, hx, hw⟩ | ⟨x, hx, hw⟩
      · obtain ⟨hi, y, hy, _⟩ := hcell i o x hx
        exact wrB_iff.2 (Or.inl ⟨o, y, hy, hwr i hi hw⟩)
      · obtain ⟨y, hy, hwk⟩ := hvec i x _ hx hr
        rcases hwk with ⟨_, h1⟩ | ⟨h1, h2, h3, h4⟩
        · rw [h1] at hw; cases hw
        · exact wrB_iff.2 (Or.inr ⟨y, hy, h3 hw⟩)
    · rcases live_iff.1 hlv with ⟨x, hx⟩ | ⟨x, c, sh, hx, hs⟩
      · obtain ⟨_, y, hy, _⟩ := hcell j 0 x hx
        exact live_cell hy
      · obtain ⟨y, hy, hwk⟩ := hvec j x _ hx hr'
        rcases hwk with ⟨h1, _⟩ | ⟨h1, h2, h3, h4⟩
        · rw [h1] at hs; cases hs
        · exact live_iff.2 (Or.inr ⟨y, c, sh, hy, by rw [h1]; exact hs⟩)
  · intro i p hp
    have := hm.hp.dom i p hp
    rw [hlen]; omega
  · intro i hk
    have := hm.hp.kdm i hk
    rw [hlen]; omega
  · intro i o x hx
    rw [hlen]
    simp only [St.ext, mergeD, hlookL, hlook1_mergeHv, keysH_mem, List.not_mem_nil, false_or] at hx
    split at hx
    · rename_i v hv
      split at hv
      · rename_i hc; omega
      · cases hv
    · have := hSh i o x hx; omega
  · intro i x hx
    rw [hlen]
    simp only [St.ext, mergeD, vlookL, vlook1_mergeVv, keysV_mem, List.not_mem_nil, false_or] at hx
    split at hx
    · rename_i v hv
      split at hv
      · rename_i hc; omega
      · cases hv
    · have := hSv i x hx; omega
  · intro i o x r bb hx hw hr
    obtain ⟨hi, y, hy, _⟩ := hcell i o x hx
    exact hm.own.cell i o y r bb hy (hwr i hi hw) hr
  · intro i x r bb q hx hw hr hq
    obtain ⟨y, hy, hwk⟩ := hvec i x _ hx hr
    rcases hwk with ⟨_, h1⟩ | ⟨h1, h2, h3, h4⟩
    · rw [h1] at hw; cases hw
    · exact hm.own.vec i y r bb q hy (h3 hw) hr (by rw [h1]; exact hq)
  · intro t vc ht hs
    obtain ⟨u1, u2, k1, k2, k3, rfl⟩ := hz _ _ ht
    have := (mergeVr_spec (b := b) k3).1 hs
    exact h.emp t _ (by cases b <;> simp [k1, k2]) this
  · intro i hi
    simp only [mergeD, vlook1_mergeVv]
    rw [if_neg (by omega)]
end
end Go.Ab

namespace Go.Ab
open Go Go.RowKit
set_option linter.unusedVariables false
section
variable {M : Addr → Prop} {w0 : World} {ρ : Rho} {S : St} {w : World}

theorem vec_new {hv : List ((Nat × Nat) × AVal)} {vv : List (Nat × Vc)} {vs : List Vc} (hSv : ∀ i x, vlookL i S.vvs = some x → i < S.hp.length) {i : Nat} (hlow : vlook1 i vv = none) (hi : S.hp.length ≤ i) :
    (S.ext ⟨[], hv, vv, blksOf vs, [], true⟩).vec i = vs[i - S.hp.length]? := by
  have e : i = S.hp.length + (i - S.hp.length) := by omega
  have hnv : vlookL i S.vvs = none := by
    cases hh : vlookL i S.vvs with
    | none => rfl
    | some z => have := hSv i z hh; omega
  unfold St.vec
  rw [e, blk_ext_right, ← e]
  simp only [nth_blksOf]
  cases vs[i - S.hp.length]? with
  | none => rfl
  | some v => simp only [St.ext, vlookL, hlow, hnv]

theorem cell_new {hv : List ((Nat × Nat) × AVal)} {vv : List (Nat × Vc)} {vs : List Vc} {i o : Nat} {x : AVal} (hx : (S.ext ⟨[], hv, vv, blksOf vs, [], true⟩).cell i o = some x) : i < S.hp.length := by
  rcases Nat.lt_or_ge i S.hp.length with hlt | hge
  · exact hlt
  · have hoff := cell_off hx
    have e : i = S.hp.length + (i - S.hp.length) := by omega
    rw [e, blk_ext_right, nth_blksOf] at hoff
    simp at hoff

/-- WHERE A WAY ENDS: the caller's memory. -/
theorem leaf_mem {X : St} {ρ' ρm : Rho} {w' : World} {m : Nm} {src : Nat → Option Nat} {ahv hv : List ((Nat × Nat) × AVal)} {avv : List (Nat × Vc)} (hS : Mem M w0 ρ S w) (hX : Mem M w0 ρ' X w') (hext : ExtS S.hp.length ρ ρ')
    (hacc : Acc S X ahv avv) (ho : oldHv S.hp.length ahv = some hv) (hk : NmOk S.hp.length X ρ' m ρm src) : ExtS S.hp.length ρ ρm ∧ RtOk S M w0 ρm hv (oldVv S.hp.length avv) m.vs w' := by
  obtain ⟨ho1, ho2⟩ := oldHv_spec ho
  have hov := oldVv_spec (base := S.hp.length) avv
  have hE : Ext ρ ρm := ⟨fun i p hp => by
      have hi := hS.hp.dom i p hp
      obtain ⟨h1, h2⟩ := hext.1.at_ i p hp
      obtain ⟨k1, k2, k3⟩ := hk.lo i hi
      exact ⟨k1.trans h1, k2.trans h2⟩, fun i hi => by
      have hlt := hS.hp.kdm i hi
      exact (hk.lo i hlt).2.2.trans (hext.1.kn i hi)⟩
  have hES : ExtS S.hp.length ρ ρm := ⟨hE, fun i hi => (hk.lo i hi).1.trans (hext.2.1 i hi), fun i hi => (hk.lo i hi).2.2.trans (hext.2.2 i hi)⟩
  refine ⟨hES, ?_⟩
  have hlow : ∀ i, S.hp.length ≤ i → vlook1 i (oldVv S.hp.length avv) = none := fun i hi => by rw [hov, if_neg (by omega)]
  have hcl : ∀ {i : Nat}, i < S.hp.length → ∀ o, (S.ext ⟨[], hv, oldVv S.hp.length avv, blksOf m.vs, [], true⟩).cell i o = X.cell i o := fun hi o => hacc.cell ho1 hi o
  have hvl : ∀ {i : Nat}, i < S.hp.length → (S.ext ⟨[], hv, oldVv S.hp.length avv, blksOf m.vs, [], true⟩).vec i = X.vec i := fun hi => hacc.vec hov hi
  have hbl : ∀ {i : Nat}, i < S.hp.length → (S.ext ⟨[], hv, oldVv S.hp.length avv, blksOf m.vs, [], true⟩).blk i = X.blk i := fun hi => (blk_ext_left _ _ hi).trans (hacc.blk hi).symm
  have hvn : ∀ {i : Nat}, S.hp.length ≤ i → (S.ext ⟨[], hv, oldVv S.hp.length avv, blksOf m.vs, [], true⟩).vec i = m.vs[i - S.hp.length]? := fun {i} hi => vec_new hS.hp.vink (hlow i hi) hi
  have hag : Agr S.hp.length ρ' ρm := fun j hj => ⟨fun p hp => ⟨(hk.lo j hj).1.trans hp, (hk.lo j hj).2.1⟩, fun hk' => (hk.lo j hj).2.2.trans hk'⟩
  have hlo : ∀ {i : Nat} {p : Nat × Nat}, i < S.hp.length → ρm i = some p → ρ' i = some p := fun {i p} hi hp => (hk.lo i hi).1.symm.trans hp
  -- where a new row lies
  have hrow : ∀ {i r b : Nat}, S.hp.length ≤ i → ρm i = some (r, b) → ∃ j a n v, src (i - S.hp.length) = some j ∧ S.hp.length ≤ j ∧ i < S.hp.length + m.vs.length ∧ m.vs[i - S.hp.length]? = some (shiftV v a n) ∧ X.vec j = some v ∧ 1 ≤ lenL v.sh ∧ a + n.val ≤ v.n.val ∧
      ∃ b0, ρ' j = some (r, b0) ∧ b = b0 + a * lenL v.sh ∧ ρm.cap i = ρ'.cap j - a := by
    intro i r b hi hp
    have hlt : i < S.hp.length + m.vs.length := by
      rcases Nat.lt_or_ge i (S.hp.length + m.vs.length) with h | h
      · exact h
      · rw [(hk.hi i h).1] at hp; cases hp
    have e : S.hp.length + (i - S.hp.length) = i := by omega
    have hu : m.vs[i - S.hp.length]? = some m.vs[i - S.hp.length] := List.getElem?_eq_getElem (by omega)
    cases hs : src (i - S.hp.length) with
    | none =>
      have := (hk.nil _ _ hu hs).2
      rw [e, hp] at this; cases this
    | some j =>
      obtain ⟨_, g2, a, n, v, g3, g4, g5, g6, g7⟩ := hk.row _ _ j hu hs
      rw [e] at g7
      obtain ⟨b0, k1, k2, k3⟩ := g7 r b hp
      exact ⟨j, a, n, v, rfl, g2, hlt, by rw [hu, g5], g3, g4, g6, b0, k1, k2, k3⟩
  -- the block that stands for a block
  have hstar : ∀ {i r b : Nat}, ρm i = some (r, b) → ∃ i' b', ρ' i' = some (r, b') ∧ ((S.ext ⟨[], hv, oldVv S.hp.length avv, blksOf m.vs, [], true⟩).wrB i = true → X.wrB i' = true) ∧ ((S.ext ⟨[], hv, oldVv S.hp.length avv, blksOf m.vs, [], true⟩).live i = true → X.live i' = true) ∧
      ((i < S.hp.length ∧ i' = i) ∨ (S.hp.length ≤ i ∧ S.hp.length ≤ i' ∧ i < S.hp.length + m.vs.length ∧ src (i - S.hp.length) = some i')) := by
    intro i r b hp
    rcases Nat.lt_or_ge i S.hp.length with hi | hi
    · refine ⟨i, b, hlo hi hp, fun hw => ?_, fun hl => ?_, Or.inl ⟨hi, rfl⟩⟩
      · rcases wrB_iff.1 hw with ⟨o, x, hx, hw⟩ | ⟨x, hx, hw⟩
        · rw [hcl hi] at hx; rw [hbl hi] at hw
          exact wrB_iff.2 (Or.inl ⟨o, x, hx, hw⟩)
        · rw [hvl hi] at hx
          exact wrB_iff.2 (Or.inr ⟨x, hx, hw⟩)
      · rcases live_iff.1 hl with ⟨x, hx⟩ | ⟨x, c, sh, hx, hs⟩
        · rw [hcl hi] at hx; exact live_cell hx
        · rw [hvl hi] at hx; exact live_iff.2 (Or.inr ⟨x, c, sh, hx, hs⟩)
    · obtain ⟨j, a, n, v, q1, q2, q3, q4, q5, q6, q7, b0, q8, q9, q10⟩ := hrow hi hp
      refine ⟨j, b0, q8, fun hw => ?_, fun hl => ?_, Or.inr ⟨hi, q2, q3, q1⟩⟩
      · rcases wrB_iff.1 hw with ⟨o, x, hx, hw⟩ | ⟨x, hx, hw⟩
        · have := cell_new hx; omega
        · rw [hvn hi, q4] at hx
          cases hx
          exact wrB_iff.2 (Or.inr ⟨v, q5, hw⟩)
      · rcases live_iff.1 hl with ⟨x, hx⟩ | ⟨x, c, sh, hx, hs⟩
        · have := cell_new hx; omega
        · rw [hvn hi, q4] at hx
          cases hx
          exact live_iff.2 (Or.inr ⟨v, c, sh, q5, hs⟩)
  have hlen : (S.ext ⟨[], hv, oldVv S.hp.length avv, blksOf m.vs, [], true⟩).hp.length = S.hp.length + m.vs.length := by simp [St.ext, len_blksOf]
  refine ⟨⟨⟨?_, ?_, ?_, ?_, ?_, ?_, ?_, ?_, ?_, ?_, ?_⟩, hX.fr, ⟨?_, ?_⟩⟩, ?_, hlow⟩
  · intro i o x hx
    have hi := cell_new hx
    rw [hcl hi] at hx
    obtain ⟨r, b, v, k1, k2, k3⟩ := hX.hp.cell i o x hx
    refine ⟨r, b, v, (hk.lo i hi).1.trans k1, k2, ?_⟩
    cases hh : hlook1 i o ahv with
    | some z =>
      have hxz : x = z := by
        unfold St.cell at hx
        rw [hacc.hv, hh] at hx
        split at hx
        · simpa using hx.symm
        · cases hx
      subst hxz
      have hu := ho2 i o x (by rw [ho1, if_pos hi, hh])
      unfold okU at hu
      split at hu
      · unfold V; trivial
      · exact V_under hag _ _ hu k3
    | none =>
      have hxS : S.cell i o = some x := by
        unfold St.cell at hx ⊢
        rw [hacc.blk hi, hacc.hv, hh] at hx
        exact hx
      obtain ⟨r0, b0, v0, m1, m2, m3⟩ := hS.hp.cell i o x hxS
      exact V_ext hE _ _ (V_back (hext.known hS.hp.dom hS.hp.kdm) x v v0 m3 k3)
  · intro i vc r b k o c hx hr hkn hc
    rcases Nat.lt_or_ge i S.hp.length with hi | hi
    · rw [hvl hi] at hx
      obtain ⟨v, k1, k2⟩ := hX.hp.vcell i vc r b k o c hx (hlo hi hr) hkn hc
      exact ⟨v, k1, V_flat _ _ (by cases c <;> rfl) k2⟩
    · obtain ⟨j, a, n, v, q1, q2, q3, q4, q5, q6, q7, b0, q8, q9, q10⟩ := hrow hi hr
      rw [hvn hi, q4] at hx
      cases hx
      have hkn : k < n.val := hkn
      obtain ⟨u, k1, k2⟩ := hX.hp.vcell j v r b0 (a + k) o c q5 q8 (by omega) hc
      refine ⟨u, ?_, V_flat _ _ (by cases c <;> rfl) (by rw [shiftV_mkA]; exact k2)⟩
      have e : b + (k * lenL (shiftV v a n).sh + o) = b0 + ((a + k) * lenL v.sh + o) := by
        show b + (k * lenL v.sh + o) = _
        rw [q9, Nat.add_mul]; omega
      rw [e]; exact k1
  · intro i o x r b hx hw hr
    have hi := cell_new hx
    rw [hcl hi] at hx; rw [hbl hi] at hw
    exact hX.hp.frz i o x r b hx hw (hlo hi hr)
  · intro i vc r b q hx hw hr hq
    rcases Nat.lt_or_ge i S.hp.length with hi | hi
    · rw [hvl hi] at hx
      rw [(hk.lo i hi).2.1] at hq
      exact hX.hp.vfrz i vc r b q hx hw (hlo hi hr) hq
    · obtain ⟨j, a, n, v, q1, q2, q3, q4, q5, q6, q7, b0, q8, q9, q10⟩ := hrow hi hr
      rw [hvn hi, q4] at hx
      cases hx
      have hq : q < ρm.cap i * lenL v.sh := hq
      rw [q10, Nat.sub_mul] at hq
      have := hX.hp.vfrz j v r b0 (a * lenL v.sh + q) q5 hw q8 (by omega)
      have e : b + q = b0 + (a * lenL v.sh + q) := by omega
      rw [e]; exact this
  · intro i vc r b hx hw hr
    rcases Nat.lt_or_ge i S.hp.length with hi | hi
    · rw [hvl hi] at hx
      rw [(hk.lo i hi).2.1]
      exact hX.hp.vcap i vc r b hx hw (hlo hi hr)
    · obtain ⟨j, a, n, v, q1, q2, q3, q4, q5, q6, q7, b0, q8, q9, q10⟩ := hrow hi hr
      rw [hvn hi, q4] at hx
      cases hx
      have := hX.hp.vcap j v r b0 q5 hw q8
      rw [q10]
      show n.val ≤ _
      omega
  · intro i j r b b' hij hw hr hr' hl
    obtain ⟨i', c1, e1, e2, _, e4⟩ := hstar hr
    obtain ⟨j', c2, f1, _, f3, f4⟩ := hstar hr'
    refine hX.hp.dis i' j' r c1 c2 ?_ (e2 hw) e1 f1 (f3 hl)
    rcases e4 with ⟨h1, rfl⟩ | ⟨h1, h2, h3, h4⟩
    · rcases f4 with ⟨g1, rfl⟩ | ⟨g1, g2, g3, g4⟩
      · exact hij
      · omega
    · rcases f4 with ⟨g1, rfl⟩ | ⟨g1, g2, g3, g4⟩
      · omega
      · intro e
        subst e
        have := hk.inj _ _ i' (by omega) (by omega) h4 g4
        omega
  · intro i p hp
    rw [hlen]
    rcases Nat.lt_or_ge i (S.hp.length + m.vs.length) with h | h
    · exact h
    · rw [(hk.hi i h).1] at hp; cases hp
  · intro i hp
    rw [hlen]
    rcases Nat.lt_or_ge i (S.hp.length + m.vs.length) with h | h
    · exact h
    · rw [(hk.hi i h).2] at hp; cases hp
  · intro i o x hx
    rw [hlen]
    simp only [St.ext, hlookL] at hx
    split at hx
    · rename_i v hv'
      rw [ho1] at hv'
      split at hv'
      · omega
      · cases hv'
    · have := hS.hp.ink i o x hx; omega
  · intro i x hx
    rw [hlen]
    simp only [St.ext, vlookL] at hx
    split at hx
    · rename_i v hv'
      rw [hov] at hv'
      split at hv'
      · omega
      · cases hv'
    · have := hS.hp.vink i x hx; omega
  · intro i r b hr
    obtain ⟨i', c1, e1, _⟩ := hstar hr
    exact hX.hp.lt i' r c1 e1
  · intro i o x r b hx hw hr
    have hi := cell_new hx
    rw [hcl hi] at hx; rw [hbl hi] at hw
    exact hX.own.cell i o x r b hx hw (hlo hi hr)
  · intro i vc r b q hx hw hr hq
    rcases Nat.lt_or_ge i S.hp.length with hi | hi
    · rw [hvl hi] at hx
      rw [(hk.lo i hi).2.1] at hq
      exact hX.own.vec i vc r b q hx hw (hlo hi hr) hq
    · obtain ⟨j, a, n, v, q1, q2, q3, q4, q5, q6, q7, b0, q8, q9, q10⟩ := hrow hi hr
      rw [hvn hi, q4] at hx
      cases hx
      have hq : q < ρm.cap i * lenL v.sh := hq
      rw [q10, Nat.sub_mul] at hq
      have := hX.own.vec j v r b0 (a * lenL v.sh + q) q5 hw q8 (by omega)
      have e : b + q = b0 + (a * lenL v.sh + q) := by omega
      rw [e]; exact this
  · intro t vc ht hs
    cases hsr : src t with
    | none => exact (hk.nil t vc ht hsr).2
    | some j =>
      obtain ⟨_, _, a, n, v, _, g4, g5, _⟩ := hk.row t vc j ht hsr
      subst g5
      have hs : v.sh = [] := hs
      rw [hs] at g4; simp [lenL] at g4
end
end Go.Ab

namespace Go.Ab
open Go Go.RowKit
set_option linter.unusedVariables false
section
variable {P : Program} {N : Nat} {M : Addr → Prop} {w0 : World} {ρ : Rho} {S : St} {w : World}

theorem Mem.reRho {ρ' : Rho} (h : Mem M w0 ρ S w) (h1 : Ext ρ ρ') (h2 : Ext ρ' ρ) : Mem M w0 ρ' S w := by
  have hp : ∀ {i p}, ρ' i = some p → ρ i = some p := fun {i p} hp => (h2.at_ i p hp).1
  have hc : ∀ {i p}, ρ' i = some p → ρ.cap i = ρ'.cap i := fun {i p} hp => (h2.at_ i p hp).2
  refine ⟨⟨fun i o x hx => ?_, fun i vc r b k o c hx hr hk hcc => ?_, fun i o x r b hx hw hr => h.hp.frz i o x r b hx hw (hp hr), fun i vc r b q hx hw hr hq => ?_, fun i vc r b hx hw hr => ?_, fun i j r b b' hij hw hr hr' hl => h.hp.dis i j r b b' hij hw (hp hr) (hp hr') hl, fun i p hr => h.hp.dom i p (hp hr), fun i hr => h.hp.kdm i (h2.kn i hr), h.hp.ink, h.hp.vink, fun i r b hr => h.hp.lt i r b (hp hr)⟩, h.fr, ⟨fun i o x r b hx hw hr => h.own.cell i o x r b hx hw (hp hr), fun i vc r b q hx hw hr hq => ?_⟩⟩
  · obtain ⟨r, b, v, k1, k2, k3⟩ := h.hp.cell i o x hx
    exact ⟨r, b, v, (h1.at_ i _ k1).1, k2, V_ext h1 _ _ k3⟩
  · obtain ⟨v, k1, k2⟩ := h.hp.vcell i vc r b k o c hx (hp hr) hk hcc
    exact ⟨v, k1, V_ext h1 _ _ k2⟩
  · exact h.hp.vfrz i vc r b q hx hw (hp hr) (by rw [hc hr]; exact hq)
  · rw [← hc hr]; exact h.hp.vcap i vc r b hx hw (hp hr)
  · exact h.own.vec i vc r b q hx hw (hp hr) (by rw [hc hr]; exact hq)

theorem nm_start {X : St} {base : Nat} {ρ' : Rho} : NmOk base X ρ' ⟨[], [], true⟩ (cutR base ρ') (fun _ => none) := by
  refine ⟨fun i hi => ⟨by simp [cutR, hi], rfl, by simp [cutR, hi]⟩, fun i hi => ?_, fun t ht => by simp at ht, fun t vc h => by simp at h, fun t vc i h => by simp at h, fun t t' i h => by simp at h⟩
  have : ¬ i < base := by simpa using hi
  exact ⟨by simp [cutR, this], by simp [cutR, this]⟩

/-- Less is said of cells. -/
theorem Mem.weak {S' : St} (h : Mem M w0 ρ S w) (hc : ∀ i o x', S'.cell i o = some x' → ∃ x, S.cell i o = some x ∧ ∀ v, V ρ x v → V ρ x' v) (hb : ∀ i, (S'.blk i).wr = (S.blk i).wr) (hv : ∀ i, S'.vec i = S.vec i)
    (hl : S'.hp.length = S.hp.length) (hi : ∀ i o x, hlookL i o S'.hvs = some x → i < S'.hp.length) (hvi : ∀ i x, vlookL i S'.vvs = some x → i < S'.hp.length) : Mem M w0 ρ S' w := by
  have hw : ∀ i, S'.wrB i = true → S.wrB i = true := fun i hw => by
    rcases wrB_iff.1 hw with ⟨o, x, hx, hw⟩ | ⟨x, hx, hw⟩
    · obtain ⟨y, hy, _⟩ := hc i o x hx
      exact wrB_iff.2 (Or.inl ⟨o, y, hy, hb i ▸ hw⟩)
    · exact wrB_iff.2 (Or.inr ⟨x, hv i ▸ hx, hw⟩)
  have hlv : ∀ i, S'.live i = true → S.live i = true := fun i hw => by
    rcases live_iff.1 hw with ⟨x, hx⟩ | ⟨x, c, sh, hx, hs⟩
    · obtain ⟨y, hy, _⟩ := hc i 0 x hx
      exact live_cell hy
    · exact live_iff.2 (Or.inr ⟨x, c, sh, hv i ▸ hx, hs⟩)
  refine ⟨⟨fun i o x hx => ?_, fun i vc r b k o c hx => h.hp.vcell i vc r b k o c (hv i ▸ hx), fun i o x r b hx hw => ?_,
    fun i vc r b q hx => h.hp.vfrz i vc r b q (hv i ▸ hx), fun i vc r b hx => h.hp.vcap i vc r b (hv i ▸ hx), fun i j r b b' hij hw' h1 h2 h3 => h.hp.dis i j r b b' hij (hw i hw') h1 h2 (hlv j h3),
    fun i p hp => hl ▸ h.hp.dom i p hp, fun i hk => hl ▸ h.hp.kdm i hk, hi, hvi, h.hp.lt⟩, h.fr, ⟨fun i o x r b hx hw => ?_, fun i vc r b q hx => h.own.vec i vc r b q (hv i ▸ hx)⟩⟩
  · obtain ⟨y, hy, k⟩ := hc i o x hx
    obtain ⟨r, b, v, k1, k2, k3⟩ := h.hp.cell i o y hy
    exact ⟨r, b, v, k1, k2, k v k3⟩
  · obtain ⟨y, hy, _⟩ := hc i o x hx
    exact h.hp.frz i o y r b hy (hb i ▸ hw)
  · obtain ⟨y, hy, _⟩ := hc i o x hx
    exact h.own.cell i o y r b hy (hb i ▸ hw)

theorem hlook_guardH (n i o : Nat) : ∀ l : List ((Nat × Nat) × AVal), hlook1 i o (guardH n l) = (hlook1 i o l).map (guardV n)
  | [] => rfl
  | (k, x) :: r => by
    simp only [guardH, hlook1]
    split
    · rfl
    · exact hlook_guardH n i o r

/-- What was made in the call and is written to what was there, is not known behind it. -/
def gst (n : Nat) (X : St) (l : List ((Nat × Nat) × AVal)) : St := X.ext ⟨[], guardH n l, [], [], [], true⟩

theorem gst_vec (n : Nat) (X : St) (l : List ((Nat × Nat) × AVal)) (i : Nat) : (gst n X l).vec i = X.vec i := by
  simp [gst, St.ext, St.vec, St.blk, vlookL, vlook1]

theorem nm_guard {X : St} {n base : Nat} {l : List ((Nat × Nat) × AVal)} {ρ' ρm : Rho} {m : Nm} {src : Nat → Option Nat} (h : NmOk base X ρ' m ρm src) : NmOk base (gst n X l) ρ' m ρm src := by
  refine ⟨h.lo, h.hi, h.kn, h.nil, fun t vc i h1 h2 => ?_, h.inj⟩
  obtain ⟨a1, a2, a, k, v, a3, a4⟩ := h.row t vc i h1 h2
  exact ⟨a1, a2, a, k, v, by rw [gst_vec]; exact a3, a4⟩

theorem guard_mem {X : St} {n : Nat} {ρ' : Rho} {w' : World} {l : List ((Nat × Nat) × AVal)} {avv : List (Nat × Vc)} (h : Mem M w0 ρ' X w') (hacc : Acc S X l avv) : Mem M w0 ρ' (gst n X l) w' ∧ Acc S (gst n X l) (guardH n l) avv := by
  have hk : ∀ i o, hlookL i o (gst n X l).hvs = match hlook1 i o l with | some v => some (guardV n v) | none => hlookL i o X.hvs := fun i o => by
    simp only [gst, St.ext, hlookL, hlook_guardH]
    cases hlook1 i o l <;> rfl
  have hbk : ∀ i, (gst n X l).blk i = X.blk i := fun i => by simp [gst, St.ext, St.blk]
  refine ⟨h.weak (fun i o x' hx => ?_) (fun i => by rw [hbk]) (fun i => gst_vec _ _ _ _) (by simp [gst, St.ext]) (fun i o x hx => ?_) (fun i x hx => ?_), ?_⟩
  · unfold St.cell at hx ⊢
    rw [hbk, hk] at hx
    rw [hacc.hv] at hx ⊢
    split at hx
    · cases hl : hlook1 i o l with
      | none => rw [hl] at hx; exact ⟨x', hx, fun _ h => h⟩
      | some v =>
        rw [hl] at hx
        simp only [Option.some.injEq] at hx
        subst hx
        refine ⟨v, rfl, fun u hu => ?_⟩
        unfold guardV
        split
        · exact hu
        · unfold V; trivial
    · cases hx
  · rw [hk] at hx
    have : ∃ y, hlookL i o X.hvs = some y := by
      cases hl : hlook1 i o l with
      | none => rw [hl] at hx; exact ⟨x, hx⟩
      | some v => exact ⟨v, by rw [hacc.hv, hl]⟩
    obtain ⟨y, hy⟩ := this
    have := h.hp.ink i o y hy
    simpa [gst, St.ext] using this
  · have := h.hp.vink i x (by simpa [gst, St.ext, vlookL, vlook1] using hx)
    simpa [gst, St.ext] using this
  · obtain ⟨l', hl'⟩ := hacc.hp
    refine ⟨⟨l', by simp [gst, St.ext, hl']⟩, fun i o => ?_, fun i => by simp only [gst, St.ext, vlookL, vlook1]; exact hacc.vv i⟩
    rw [hk, hlook_guardH, hacc.hv]
    cases hlook1 i o l <;> rfl

/-- What an end says. -/
def FinP (P : Program) (fn : Func) (S : St) (M : Addr → Prop) (w0 : World) (ρ : Rho) (pn : Option (Bool × AVal)) (rt : Option Rt) (e : Ex) (ex : Exit) (a : Act) (w : World) : Prop :=
  a.defers = [] ∧ match e with
  | .panic _ => ∃ v u, ex = .panic [{ v := u, recovered := false }] ∧ pn = some (true, v) ∧ V ρ v u ∧ Mem M w0 ρ S w
  | .exit _ => False
  | _ => (ex = .normal ∨ ex = .ret) ∧ (∀ b v, pn = some (b, v) → b = false) ∧ ∃ x u ρm, rt = some x ∧ (results fn a.tmps).run P w = .ok u w ∧ ExtS S.hp.length ρ ρm ∧ V ρm x.v u ∧ RtOk S M w0 ρm x.hv x.vv x.vs w

theorem noDfs_eq {l : List (AVal × List AVal)} (h : noDfs l = true) : l = [] := by
  cases l with
  | nil => rfl
  | cons _ _ => cases h

mutual
theorem nilG_sound {ρ : Rho} {i e a : Nat} (hk : ρ.kn i = true) : ∀ (x : AVal) (u : Value), V ρ x u → V ρ (nilG i e a x) u
  | .raw v, u, h => by
    simp only [nilG]
    split
    · unfold V at h
      subst h
      unfold V
      exact ⟨trivial, hk, none, 0, rfl, Or.inl ⟨rfl, rfl⟩⟩
    · exact h
  | .agg cs, u, h => by
    unfold V at h
    obtain ⟨vs, hv, hvs⟩ := h
    simp only [nilG]; unfold V
    exact ⟨vs, hv, nilL_sound hk cs vs hvs⟩
  | .tuple cs, u, h => by
    unfold V at h
    obtain ⟨vs, hv, hvs⟩ := h
    simp only [nilG]; unfold V
    exact ⟨vs, hv, nilL_sound hk cs vs hvs⟩
  | .bad, u, h => h
  | .bool _, u, h => h
  | .sbool _, u, h => h
  | .int _ _, u, h => h
  | .sint _ _, u, h => h
  | .cbool _ _, u, h => h
  | .cint _ _ _, u, h => h
  | .flt _ _, u, h => h
  | .lint _ _ _, u, h => h
  | .ptr _ _, u, h => h
  | .vptr _ _ _ _, u, h => h
  | .vec _ _ _ _, u, h => h
  | .slice _ _ _ _, u, h => h
  | .fn _ _ _, u, h => h
  | .ifc _ _, u, h => h
theorem nilL_sound {ρ : Rho} {i e a : Nat} (hk : ρ.kn i = true) : ∀ (xs : List AVal) (us : List Value), VL ρ xs us → VL ρ (nilG.nilL i e a xs) us
  | [], us, h => by simp only [nilG.nilL]; exact h
  | x :: xs, us, h => by
    unfold VL at h
    obtain ⟨v, vs, rfl, h1, h2⟩ := h
    simp only [nilG.nilL]
    unfold VL
    exact ⟨v, vs, rfl, nilG_sound hk x v h1, nilL_sound hk xs vs h2⟩
end

theorem nilZ_sound {ρ : Rho} {z : Option (Nat × Nat × Nat)} (hz : ∀ i e a, z = some (i, e, a) → ρ.kn i = true) {x : AVal} {u : Value} (h : V ρ x u) : V ρ (nilZ z x) u := by
  cases z with
  | none => exact h
  | some p => obtain ⟨i, e, a⟩ := p; exact nilG_sound (hz i e a rfl) x u h

theorem leafT_sound {z : Option (Nat × Nat × Nat)} (hz : ∀ i e a, z = some (i, e, a) → ρ.kn i = true) {fn : Func} (hS : Mem M w0 ρ S w) {T : St} {e : Ex} {d : Dl} {ahv : List ((Nat × Nat) × AVal)} {avv : List (Nat × Vc)} {f : FR} (h : leafT P z fn.results.toList S.hp.length T e d ahv avv = some f) (hn : f.nd = true) (hacc : Acc S T ahv avv) :
    d.nd = true ∧ ∀ (ρ' : Rho) (a : Act) (w' : World) (ex : Exit), ExtS S.hp.length ρ ρ' → Rel N M w0 ρ' (T.ext d) a w' → ExR ρ' e ex → FinP P fn S M w0 ρ f.pn f.rt e ex a w' := by
  unfold leafT at h
  split at h
  · rename_i hdf
    have hdf := noDfs_eq hdf
    have hd0 : ∀ {ρ' : Rho} {a : Act} {w' : World}, Rel N M w0 ρ' (T.ext d) a w' → a.defers = [] := fun hR => by
      have := hR.df
      rw [hdf] at this
      exact this
    have ret : ∀ (e' : Ex), (match getRes P (T.ext d) fn.results.toList with
        | some vs => match normV S.hp.length (T.ext d) (nilZ z (one vs)) ⟨[], [], true⟩, oldHv S.hp.length (guardH S.hp.length (d.hv ++ ahv)) with
          | some (v, m), some hv => some (⟨none, some ⟨v, m.vs, hv, oldVv S.hp.length (d.vv ++ avv)⟩, cond d.nd m.nd false⟩ : FR)
          | _, _ => none
        | none => none) = some f → d.nd = true ∧ ∀ (ρ' : Rho) (a : Act) (w' : World), ExtS S.hp.length ρ ρ' → Rel N M w0 ρ' (T.ext d) a w' →
          (∀ b v, f.pn = some (b, v) → b = false) ∧ ∃ x u ρm, f.rt = some x ∧ (results fn a.tmps).run P w' = .ok u w' ∧ ExtS S.hp.length ρ ρm ∧ V ρm x.v u ∧ RtOk S M w0 ρm x.hv x.vv x.vs w' := by
      intro e' h
      split at h
      · rename_i vs hvs
        split at h
        · rename_i v m hv hnv ho
          cases h
          obtain ⟨h1, h2⟩ := cond_and hn
          refine ⟨h1, fun ρ' a w' hext hR => ⟨fun b v h => (by cases h), ?_⟩⟩
          obtain ⟨u, hu1, hu2⟩ := results_run hR hvs
          obtain ⟨_, _, ρm, src, g3, _, g5⟩ := normV_sound (nilZ z (one vs)) ⟨[], [], true⟩ m v u (cutR S.hp.length ρ') (fun _ => none) hnv h2 (nilZ_sound (fun i e a h => (hext.2.2 i (hS.hp.kdm i (hz i e a h))).trans (hz i e a h)) hu2) nm_start
          obtain ⟨q1, q2⟩ := guard_mem hR.mem (hacc.ext d)
          obtain ⟨k1, k2⟩ := leaf_mem hS q1 hext q2 ho (nm_guard g3)
          exact ⟨_, u, ρm, rfl, hu1, k1, g5, k2⟩
        · cases h
      · cases h
    cases e with
    | exit id => simp at h
    | normal =>
      obtain ⟨h1, h2⟩ := ret .normal h
      exact ⟨h1, fun ρ' a w' ex hext hR hx => ⟨hd0 hR, Or.inl hx, h2 ρ' a w' hext hR⟩⟩
    | ret =>
      obtain ⟨h1, h2⟩ := ret .ret h
      exact ⟨h1, fun ρ' a w' ex hext hR hx => ⟨hd0 hR, Or.inr hx, h2 ρ' a w' hext hR⟩⟩
    | panic v =>
      simp only at h
      split at h
      · rename_i hfl
        split at h
        · rename_i ho hov
          cases h
          refine ⟨hn, fun ρ' a w' ex hext hR hx => ⟨hd0 hR, ?_⟩⟩
          obtain ⟨u, hu, hex⟩ := hx
          refine ⟨v, u, hex, rfl, V_flat _ _ hfl hu, ?_⟩
          obtain ⟨q1, q2⟩ := guard_mem hR.mem (hacc.ext d)
          obtain ⟨k1, k2⟩ := leaf_mem hS q1 hext q2 ho (nm_start (base := S.hp.length) (ρ' := ρ'))
          have hm := k2.mem
          have hm' : Mem M w0 (cutR S.hp.length ρ') S w' := by
            rw [hov] at hm
            refine hm.same (fun i o => ?_) (fun i => ?_) (fun i => ?_) ?_ ?_ ?_
            · simp [St.ext, St.cell, St.blk, hlookL, hlook1, blksOf]
            · simp [St.ext, St.blk, blksOf]
            · simp [St.ext, St.vec, St.blk, vlookL, vlook1, blksOf]
            · simp [St.ext, blksOf]
            · exact hS.hp.ink
            · exact hS.hp.vink
          refine hm'.reRho ⟨fun i p hp => ?_, fun i hi => ?_⟩ k1.1
          · obtain ⟨hi, hp'⟩ := cutR_old hp
            have e : ρ i = some p := by rw [← hext.2.1 i hi]; exact hp'
            exact ⟨e, ((hext.1.at_ i p e).2).symm⟩
          · simp only [cutR, Bool.and_eq_true, decide_eq_true_eq] at hi
            rw [← hext.2.2 i hi.1]; exact hi.2
        · cases h
      · cases h
  · cases h

theorem mergeNum_ok {b : Bool} {n m : Num} (hn : b = true → n.ok) (hm : b = false → m.ok) : (mergeNum b n m).ok := by
  unfold mergeNum
  split
  · split <;> trivial
  · split
    · rename_i h
      have := Nat.eq_of_beq_eq_true h
      subst this
      cases b
      · exact hm rfl
      · exact hn rfl
    · trivial
  · trivial

theorem VecV.re {ρ : Rho} {i e e' : Nat} {n n' : Num} {v : Value} (h : VecV ρ i e 0 n v) (hn : n'.ok) (hv : n'.val = n.val) : VecV ρ i e' 0 n' v := by
  obtain ⟨_, hk, bs, c, h1, h2⟩ := h
  refine ⟨hn, hk, bs, c, by rw [hv]; exact h1, ?_⟩
  rw [hv]
  simpa using h2

theorem VecV.num {ρ : Rho} {i e a : Nat} {n n' : Num} {v : Value} (h : VecV ρ i e a n v) (hn : n'.ok) (hv : n'.val = n.val) : VecV ρ i e a n' v := by
  obtain ⟨_, hk, bs, c, h1, h2⟩ := h
  refine ⟨hn, hk, bs, c, by rw [hv]; exact h1, ?_⟩
  rw [hv]
  exact h2

mutual
theorem mergeRV_sound {ρ : Rho} {base : Nat} {b : Bool} : ∀ (x y : AVal) (v : Value), V ρ (if b then x else y) v → V ρ (mergeRV base b x y) v
  | .vec i e a n, y, v, h => by
    cases y with
    | vec i' e' a' n' =>
      simp only [mergeRV]
      split
      · rename_i hii
        have hii := Nat.eq_of_beq_eq_true hii
        subst hii
        split
        · split
          · rename_i haa
            rw [Bool.and_eq_true] at haa
            have h1 := Nat.eq_of_beq_eq_true haa.1
            have h2 := Nat.eq_of_beq_eq_true haa.2
            subst h1; subst h2
            have key : V ρ (.vec i e a (mergeNum b n n')) v := by
              unfold V
              cases b with
              | true =>
                simp only [if_true] at h
                unfold V at h
                exact h.num (mergeNum_ok (fun _ => h.1) (fun h => by cases h)) (by rw [mergeNum_val]; rfl)
              | false =>
                simp only [Bool.false_eq_true, if_false] at h
                unfold V at h
                exact h.num (mergeNum_ok (fun h => by cases h) (fun _ => h.1)) (by rw [mergeNum_val]; rfl)
            split
            · rename_i hsn
              unfold sameNum at hsn
              split at hsn
              · rw [Bool.and_eq_true] at hsn
                have h3 := Nat.eq_of_beq_eq_true hsn.2
                subst h3
                simpa using h
              · cases hsn
            · exact key
          · unfold V; trivial
        · split
          · rename_i haa
            rw [Bool.and_eq_true] at haa
            have h1 := Nat.eq_of_beq_eq_true haa.1
            have h2 := Nat.eq_of_beq_eq_true haa.2
            subst h1; subst h2
            have key : ∀ e'', V ρ (.vec i e'' 0 (mergeNum b n n')) v := fun e'' => by
              unfold V
              cases b with
              | true =>
                simp only [if_true] at h
                unfold V at h
                exact h.re (mergeNum_ok (fun _ => h.1) (fun h => by cases h)) (by rw [mergeNum_val]; rfl)
              | false =>
                simp only [Bool.false_eq_true, if_false] at h
                unfold V at h
                exact h.re (mergeNum_ok (fun h => by cases h) (fun _ => h.1)) (by rw [mergeNum_val]; rfl)
            split
            · exact key _
            · exact key _
            · split
              · exact key _
              · unfold V; trivial
          · unfold V; trivial
      · unfold V; trivial
    | _ => exact mergeV_sound b _ _ v h
  | .agg xs, y, v, h => by
    cases y with
    | agg ys =>
      simp only [mergeRV]
      split
      · rename_i hl
        have hl := Nat.eq_of_beq_eq_true hl
        have h' : ∃ vs, v = .agg ⟨vs⟩ ∧ VL ρ (if b then xs else ys) vs := by
          cases b <;> (simp only [if_true, Bool.false_eq_true, if_false] at h ⊢; unfold V at h; exact h)
        obtain ⟨vs, hv, hvs⟩ := h'
        unfold V
        exact ⟨vs, hv, mergeRL_sound xs ys vs hl hvs⟩
      · unfold V; trivial
    | _ => exact mergeV_sound b _ _ v h
  | .tuple xs, y, v, h => by
    cases y with
    | tuple ys =>
      simp only [mergeRV]
      split
      · rename_i hl
        have hl := Nat.eq_of_beq_eq_true hl
        have h' : ∃ vs, v = .tuple ⟨vs⟩ ∧ VL ρ (if b then xs else ys) vs := by
          cases b <;> (simp only [if_true, Bool.false_eq_true, if_false] at h ⊢; unfold V at h; exact h)
        obtain ⟨vs, hv, hvs⟩ := h'
        unfold V
        exact ⟨vs, hv, mergeRL_sound xs ys vs hl hvs⟩
      · unfold V; trivial
    | _ => exact mergeV_sound b _ _ v h
  | .bad, y, v, h => mergeV_sound b _ _ v h
  | .bool _, y, v, h => mergeV_sound b _ _ v h
  | .sbool _, y, v, h => mergeV_sound b _ _ v h
  | .int _ _, y, v, h => mergeV_sound b _ _ v h
  | .sint _ _, y, v, h => mergeV_sound b _ _ v h
  | .cbool _ _, y, v, h => mergeV_sound b _ _ v h
  | .cint _ _ _, y, v, h => mergeV_sound b _ _ v h
  | .flt _ _, y, v, h => mergeV_sound b _ _ v h
  | .lint _ _ _, y, v, h => mergeV_sound b _ _ v h
  | .raw _, y, v, h => mergeV_sound b _ _ v h
  | .ptr _ _, y, v, h => mergeV_sound b _ _ v h
  | .vptr _ _ _ _, y, v, h => mergeV_sound b _ _ v h
  | .slice _ _ _ _, y, v, h => mergeV_sound b _ _ v h
  | .fn _ _ _, y, v, h => mergeV_sound b _ _ v h
  | .ifc _ _, y, v, h => mergeV_sound b _ _ v h
theorem mergeRL_sound {ρ : Rho} {base : Nat} {b : Bool} : ∀ (xs ys : List AVal) (vs : List Value), xs.length = ys.length → VL ρ (if b then xs else ys) vs → VL ρ (mergeRV.mergeRL base b xs ys) vs
  | [], [], vs, _, h => by simp only [ite_self] at h; simp only [mergeRV.mergeRL]; exact h
  | [], y :: ys, vs, hl, _ => by simp at hl
  | x :: xs, [], vs, hl, _ => by simp at hl
  | x :: xs, y :: ys, vs, hl, h => by
    simp only [mergeRV.mergeRL]
    have h' : ∃ v vs', vs = v :: vs' ∧ V ρ (if b then x else y) v ∧ VL ρ (if b then xs else ys) vs' := by
      cases b <;> (simp only [if_true, Bool.false_eq_true, if_false] at h ⊢; unfold VL at h; exact h)
    obtain ⟨v, vs', rfl, h1, h2⟩ := h'
    unfold VL
    exact ⟨v, vs', rfl, mergeRV_sound x y v h1, mergeRL_sound xs ys vs' (by simpa using hl) h2⟩
end

theorem mergeF_sound {fn : Func} (hS : Mem M w0 ρ S w) {b : Bool} {l r f : FR} (h : mergeF b S l r = some f) :
    f.nd = cond b l.nd r.nd ∧ ∀ e ex a w', FinP P fn S M w0 ρ (if b then l else r).pn (if b then l else r).rt e ex a w' → FinP P fn S M w0 ρ f.pn f.rt e ex a w' := by
  unfold mergeF at h
  have key : ∀ (pn : Option (Bool × AVal)), pn = (match l.pn, r.pn with
    | none, none => none
    | some (p, v), none => some (cond b p false, v)
    | none, some (p, v) => some (cond b false p, v)
    | some (p, v), some (q, u) => some (cond b p q, mergeV b v u)) →
      (∀ v, (if b then l else r).pn = some (true, v) → ∃ v', pn = some (true, v') ∧ ∀ u, V ρ v u → V ρ v' u) ∧ ((∀ c v, (if b then l else r).pn = some (c, v) → c = false) → ∀ c v, pn = some (c, v) → c = false) := by
    intro pn hpn
    subst hpn
    cases hl : l.pn with
    | none =>
      cases hr : r.pn with
      | none =>
        cases b <;> simp [hl, hr]
      | some q =>
        obtain ⟨q, u⟩ := q
        cases b
        · refine ⟨fun v hv => ?_, fun hf c v hv => ?_⟩
          · simp only [Bool.false_eq_true, if_false, hr, Option.some.injEq, Prod.mk.injEq] at hv
            obtain ⟨rfl, rfl⟩ := hv
            exact ⟨_, rfl, fun _ h => h⟩
          · simp only [Option.some.injEq, Prod.mk.injEq] at hv
            obtain ⟨rfl, rfl⟩ := hv
            exact hf q u (by simp [hr])
        · refine ⟨fun v hv => by simp [hl] at hv, fun hf c v hv => ?_⟩
          simp only [Option.some.injEq, Prod.mk.injEq] at hv
          exact hv.1.symm
    | some p =>
      obtain ⟨p, z⟩ := p
      cases hr : r.pn with
      | none =>
        cases b
        · refine ⟨fun v hv => by simp [hr] at hv, fun hf c v hv => ?_⟩
          simp only [Option.some.injEq, Prod.mk.injEq] at hv
          exact hv.1.symm
        · refine ⟨fun v hv => ?_, fun hf c v hv => ?_⟩
          · simp only [if_true, hl, Option.some.injEq, Prod.mk.injEq] at hv
            obtain ⟨rfl, rfl⟩ := hv
            exact ⟨_, rfl, fun _ h => h⟩
          · simp only [Option.some.injEq, Prod.mk.injEq] at hv
            obtain ⟨rfl, rfl⟩ := hv
            exact hf p z (by simp [hl])
      | some q =>
        obtain ⟨q, u⟩ := q
        refine ⟨fun v hv => ?_, fun hf c v hv => ?_⟩
        · cases b
          · simp only [Bool.false_eq_true, if_false, hr, Option.some.injEq, Prod.mk.injEq] at hv
            obtain ⟨rfl, rfl⟩ := hv
            exact ⟨_, rfl, fun x h => mergeV_sound false _ _ x (by simpa using h)⟩
          · simp only [if_true, hl, Option.some.injEq, Prod.mk.injEq] at hv
            obtain ⟨rfl, rfl⟩ := hv
            exact ⟨_, rfl, fun x h => mergeV_sound true _ _ x (by simpa using h)⟩
        · simp only [Option.some.injEq, Prod.mk.injEq] at hv
          obtain ⟨rfl, _⟩ := hv
          cases b
          · exact hf q u (by simp [hr])
          · exact hf p z (by simp [hl])
  obtain ⟨kp, kn⟩ := key _ rfl
  have fin : ∀ (rt : Option Rt) (pn : Option (Bool × AVal)), ((∀ v, (if b then l else r).pn = some (true, v) → ∃ v', pn = some (true, v') ∧ ∀ u, V ρ v u → V ρ v' u) ∧ ((∀ c v, (if b then l else r).pn = some (c, v) → c = false) → ∀ c v, pn = some (c, v) → c = false)) →
      (∀ x u ρm w', (if b then l else r).rt = some x → V ρm x.v u → RtOk S M w0 ρm x.hv x.vv x.vs w' → ∃ z, rt = some z ∧ V ρm z.v u ∧ RtOk S M w0 ρm z.hv z.vv z.vs w') →
      ∀ e ex a w', FinP P fn S M w0 ρ (if b then l else r).pn (if b then l else r).rt e ex a w' → FinP P fn S M w0 ρ pn rt e ex a w' := by
    intro rt pn hp hr e ex a w' hf
    obtain ⟨hd, hf⟩ := hf
    refine ⟨hd, ?_⟩
    have fin2 : ((ex = .normal ∨ ex = .ret) ∧ (∀ b' v, (if b then l else r).pn = some (b', v) → b' = false) ∧ ∃ x u ρm, (if b then l else r).rt = some x ∧ (results fn a.tmps).run P w' = .ok u w' ∧ ExtS S.hp.length ρ ρm ∧ V ρm x.v u ∧ RtOk S M w0 ρm x.hv x.vv x.vs w') →
        ((ex = .normal ∨ ex = .ret) ∧ (∀ b v, pn = some (b, v) → b = false) ∧ ∃ x u ρm, rt = some x ∧ (results fn a.tmps).run P w' = .ok u w' ∧ ExtS S.hp.length ρ ρm ∧ V ρm x.v u ∧ RtOk S M w0 ρm x.hv x.vv x.vs w') := by
      rintro ⟨h1, h2, x, u, ρm, h3, h4, h5, h6, h7⟩
      obtain ⟨z, z1, z2, z3⟩ := hr x u ρm w' h3 h6 h7
      exact ⟨h1, hp.2 h2, z, u, ρm, z1, h4, h5, z2, z3⟩
    cases e with
    | exit id => exact hf
    | normal => exact fin2 hf
    | ret => exact fin2 hf
    | panic v =>
      obtain ⟨v, u, h1, h2, h3, h4⟩ := hf
      obtain ⟨v', k1, k2⟩ := hp.1 v h2
      exact ⟨v', u, h1, k1, k2 u h3, h4⟩
  dsimp only at h
  split at h
  · rename_i hl hr
    cases h
    refine ⟨ndc_eq _ _ _, fin _ _ ⟨kp, kn⟩ (fun x u ρm w' hx => ?_)⟩
    cases b <;> simp [hl, hr] at hx
  · rename_i x0 hl hr
    cases h
    refine ⟨ndc_eq _ _ _, fin _ _ ⟨kp, kn⟩ (fun x u ρm w' hx h1 h2 => ?_)⟩
    cases b
    · simp [hr] at hx
    · simp [hl] at hx; subst hx; exact ⟨_, rfl, h1, h2⟩
  · rename_i x0 hl hr
    cases h
    refine ⟨ndc_eq _ _ _, fin _ _ ⟨kp, kn⟩ (fun x u ρm w' hx h1 h2 => ?_)⟩
    cases b
    · simp [hr] at hx; subst hx; exact ⟨_, rfl, h1, h2⟩
    · simp [hl] at hx
  · rename_i x0 y0 hl hr
    split at h
    · rename_i vs hvs
      cases h
      refine ⟨ndc_eq _ _ _, fin _ _ ⟨kp, kn⟩ (fun x u ρm w' hx h1 h2 => ?_)⟩
      have hxe : x = if b then x0 else y0 := by
        cases b
        · simp only [Bool.false_eq_true, if_false, hr, Option.some.injEq] at hx ⊢; exact hx.symm
        · simp only [if_true, hl, Option.some.injEq] at hx ⊢; exact hx.symm
      subst hxe
      refine ⟨_, rfl, mergeRV_sound _ _ _ ?_, RtOk.merge hS.hp.ink hS.hp.vink hvs h2⟩
      cases b <;> simpa using h1
    · cases h

theorem orStuckF_some {o : Option FR} (h : (orStuckF o).nd = true) : ∃ f, o = some f := by
  cases o with
  | none => cases h
  | some f => exact ⟨f, rfl⟩

/-- THE ENDS OF ALL WAYS. -/
theorem finT_sound {z : Option (Nat × Nat × Nat)} (hz : ∀ i e a, z = some (i, e, a) → ρ.kn i = true) {fn : Func} (hS : Mem M w0 ρ S w) : ∀ (t : Tr) (T : St) (ahv : List ((Nat × Nat) × AVal)) (avv : List (Nat × Vc)) (f : FR), finT (leafT P z fn.results.toList S.hp.length) S T ahv avv t = some f → f.nd = true → Acc S T ahv avv →
    t.need = true ∧ ∀ (ρ' : Rho) (a : Act) (w' : World) (ex : Exit), ExtS S.hp.length ρ ρ' → Rel N M w0 ρ' (t.out T).2 a w' → ExR ρ' (t.out T).1 ex → FinP P fn S M w0 ρ f.pn f.rt (t.out T).1 ex a w'
  | .leaf e d, T, ahv, avv, f, h, hn, hacc => leafT_sound hz hS h hn hacc
  | .node d b l r, T, ahv, avv, f, h, hn, hacc => by
    unfold finT at h
    split at h
    · rename_i f' hf
      cases h
      obtain ⟨h1, h2⟩ := cond_and hn
      obtain ⟨m1, m2⟩ := mergeF_sound (P := P) (fn := fn) hS hf
      rw [m1] at h2
      cases b with
      | true =>
        obtain ⟨fl, hl⟩ := orStuckF_some (o := finT (leafT P z fn.results.toList S.hp.length) S (T.ext d) (d.hv ++ ahv) (d.vv ++ avv) l) h2
        rw [hl] at m2 h2
        obtain ⟨k1, k2⟩ := finT_sound hz hS l _ _ _ fl hl h2 (hacc.ext d)
        refine ⟨by simp only [Tr.need, h1]; exact k1, fun ρ' a w' ex hext hR hx => ?_⟩
        exact m2 _ _ _ _ (k2 ρ' a w' ex hext (by simpa [Tr.out] using hR) (by simpa [Tr.out] using hx))
      | false =>
        obtain ⟨fl, hl⟩ := orStuckF_some (o := finT (leafT P z fn.results.toList S.hp.length) S (T.ext d) (d.hv ++ ahv) (d.vv ++ avv) r) h2
        rw [hl] at m2 h2
        obtain ⟨k1, k2⟩ := finT_sound hz hS r _ _ _ fl hl h2 (hacc.ext d)
        refine ⟨by simp only [Tr.need, h1]; exact k1, fun ρ' a w' ex hext hR hx => ?_⟩
        exact m2 _ _ _ _ (k2 ρ' a w' ex hext (by simpa [Tr.out] using hR) (by simpa [Tr.out] using hx))
    · cases h
end
end Go.Ab

namespace Go.Ab
open Go Go.RowKit
set_option linter.unusedVariables false
section
variable {P : Program} {N : Nat} {M : Addr → Prop} {w0 : World} {ρ : Rho} {S : St} {w : World}

theorem lenL_len {α : Type} : ∀ l : List α, lenL l = l.length
  | [] => rfl
  | _ :: l => by simp [lenL, lenL_len l]

/-- Where a body begins. -/
theorem start_rel {n : Nat} {args : List AVal} {vs : List Value} (hM : Mem M w0 ρ S w) (hv : VL ρ args vs) (hn : args.length ≤ n) :
    Rel n M w0 ρ ((S.start n args).ext Dl.nil) { tmps := ⟨vs⟩ ++ Array.replicate (n - (⟨vs⟩ : Array Value).size) undef, defers := [] } w := by
  have hl := VL_length _ _ hv
  have hsz : (⟨vs⟩ : Array Value).size = args.length := by simpa using hl
  apply Rel.nil
  refine ⟨fun t => ?_, ?_, rfl, hM.same (fun i o => rfl) (fun i => rfl) (fun i => rfl) rfl hM.hp.ink hM.hp.vink⟩
  · have hVL : VL ρ (args ++ undefs (n - args.length)) (vs ++ List.replicate (n - args.length) undef) := VL_append _ _ _ _ hv (undefs_VL ρ _)
    have hget : (S.start n args).get t = nth t (args ++ undefs (n - args.length)) := by
      show nth t (args ++ undefs (Nat.sub n (lenL args))) = _
      rw [lenL_len]; rfl
    rw [hget]
    have harr : ((⟨vs⟩ : Array Value) ++ Array.replicate (n - (⟨vs⟩ : Array Value).size) undef).getD t undef = (vs ++ List.replicate (n - args.length) undef)[t]?.getD undef := by
      rw [Array.getD_eq_getD_getElem?, hsz, ← Array.getElem?_toList]
      simp
    rw [harr]
    by_cases ht : t < (args ++ undefs (n - args.length)).length
    · obtain ⟨v, h1, h2⟩ := VL_nth _ _ hVL t ht
      rw [h1]; exact h2
    · rw [nth_out _ _ (by omega)]; unfold V; trivial
  · simp [hsz]; omega

theorem acc_start (n : Nat) (args : List AVal) : Acc S (S.start n args) [] [] := ⟨⟨[], by simp [St.start]⟩, fun i o => by simp [hlook1, St.start], fun i => by simp [vlook1, St.start]⟩

/-- What an end says of the answer. -/
theorem res_of_fin {fn : Func} {f : FR} {out : Out} (ho : outOf f = some out) {e : Ex} {ex : Exit} {a : Act} {w' : World} (h : FinP P fn S M w0 ρ f.pn f.rt e ex a w') : bodyPost P fn (Res M w0 ρ S out) ex a w' := by
  obtain ⟨hd, h⟩ := h
  have ret : ((ex = .normal ∨ ex = .ret) ∧ (∀ b v, f.pn = some (b, v) → b = false) ∧ ∃ x u ρm, f.rt = some x ∧ (results fn a.tmps).run P w' = .ok u w' ∧ ExtS S.hp.length ρ ρm ∧ V ρm x.v u ∧ RtOk S M w0 ρm x.hv x.vv x.vs w') → bodyPost P fn (Res M w0 ρ S out) ex a w' := by
    rintro ⟨h1, h2, x, u, ρm, h3, h4, h5, h6, h7⟩
    unfold outOf at ho
    rw [h3] at ho
    cases ho
    have post : a.defers = [] ∧ ∃ v, (results fn a.tmps).run P w' = .ok v w' ∧ Res M w0 ρ S ⟨x.v, x.hv, x.vv, blksOf x.vs, f.nd, f.pn⟩ (.returned v) w' := ⟨hd, u, h4, h2, ρm, h5, h6, h7.mem⟩
    rcases h1 with rfl | rfl
    · exact post
    · exact post
  cases e with
  | exit id => exact h.elim
  | normal => exact ret h
  | ret => exact ret h
  | panic v0 =>
    obtain ⟨v, u, rfl, h2, h3, h4⟩ := h
    refine ⟨hd, v, u, ?_, rfl, h3, h4⟩
    unfold outOf at ho
    cases hr : f.rt with
    | some x => rw [hr] at ho; cases ho; exact h2
    | none =>
      rw [hr] at ho
      simp only [h2] at ho
      cases ho
      rfl

/-- WHAT THE EVALUATOR SAYS OF A FUNCTION IS SO. -/
theorem inl_sat {Γ : List (Nat × Ctr)} (hΓ : ∀ f c, lookC f Γ = some c → Sat P f c) (hmo : P.follows .mixedOrders = true) {f : FuncId} {fn : Func} (hf : P.funcs[f]? = some fn)
    (hcall : ∀ (args : Array Value) (w : World), (callFunc f args).run P w = .ok (.enter f args) w) (fuel : Nat) : Sat P f (inl P Γ fuel fn) := by
  have key : SatC P f (inl P Γ fuel fn) → Sat P f (inl P Γ fuel fn) := fun h => h
  refine key ⟨hcall, fun args S out hfn hnd M w0 ρ w vs hM hv => ?_⟩
  have he : evBody P Γ fuel fn args S = some out := hfn
  unfold evBody at he
  split at he
  · rename_i body hbody
    split at he
    · rename_i hn
      have hn := Nat.le_of_ble_eq_true hn
      rw [lenL_len] at hn
      split at he
      · rename_i t ht
        split at he
        · rename_i fr hfr
          have hnf : fr.nd = true := by
            unfold outOf at he
            split at he
            · cases he; exact hnd
            · split at he
              · cases he; exact hnd
              · cases he
          obtain ⟨hneed, hfin⟩ := finT_sound (z := none) (fun _ _ _ h => nomatch h) (P := P) (N := fn.ntmps) (fn := fn) hM t _ [] [] fr hfr hnf (acc_start _ _)
          refine calls_of_wp hf hbody ?_
          refine (ev_sound (n0 := S.hp.length) hΓ hmo fuel body _ _ t ht hneed (Nat.le_refl _) ρ _ w _ (start_rel hM hv hn) ?_).1
          intro ρ' a' w' e hext hx hr'
          exact res_of_fin he (hfin ρ' a' w' e hext hr' hx)
        · cases he
      · cases he
    · cases he
  · cases he
theorem zOf_kn {ρ : Rho} {args : List AVal} {vs : List Value} {z : Nat × Nat × Nat} (h : zOf args = some z) (hv : VL ρ args vs) {i e a : Nat} (hz : some z = some (i, e, a)) : ρ.kn i = true := by
  unfold zOf at h
  split at h
  · cases h; cases hz
    unfold VL at hv
    obtain ⟨v, vs', rfl, h1, h2⟩ := hv
    unfold V at h1
    obtain ⟨us, rfl, h3⟩ := h1
    unfold VL at h3
    obtain ⟨v', us', rfl, h4, h5⟩ := h3
    unfold V at h4
    exact h4.2.1
  · cases h

/-- The same, of a function that hands back a row that it has been given. -/
theorem inlZ_sat {Γ : List (Nat × Ctr)} (hΓ : ∀ f c, lookC f Γ = some c → Sat P f c) (hmo : P.follows .mixedOrders = true) {f : FuncId} {fn : Func} (hf : P.funcs[f]? = some fn)
    (hcall : ∀ (args : Array Value) (w : World), (callFunc f args).run P w = .ok (.enter f args) w) (fuel : Nat) : Sat P f (inlZ P Γ fuel fn) := by
  have key : SatC P f (inlZ P Γ fuel fn) → Sat P f (inlZ P Γ fuel fn) := fun h => h
  refine key ⟨hcall, fun args S out hfn hnd M w0 ρ w vs hM hv => ?_⟩
  have he : evBodyZ P Γ fuel fn args S = some out := hfn
  unfold evBodyZ at he
  split at he
  · rename_i body hbody
    split at he
    · rename_i hn
      have hn := Nat.le_of_ble_eq_true hn
      rw [lenL_len] at hn
      split at he
      · rename_i z hz
        split at he
        · rename_i t ht
          split at he
          · rename_i fr hfr
            have hnf : fr.nd = true := by
              unfold outOf at he
              split at he
              · cases he; exact hnd
              · split at he
                · cases he; exact hnd
                · cases he
            obtain ⟨hneed, hfin⟩ := finT_sound (z := some z) (fun i e a h => zOf_kn hz hv h) (P := P) (N := fn.ntmps) (fn := fn) hM t _ [] [] fr hfr hnf (acc_start _ _)
            refine calls_of_wp hf hbody ?_
            refine (ev_sound (n0 := S.hp.length) hΓ hmo fuel body _ _ t ht hneed (Nat.le_refl _) ρ _ w _ (start_rel hM hv hn) ?_).1
            intro ρ' a' w' e hext hx hr'
            exact res_of_fin he (hfin ρ' a' w' e hext hr' hx)
          · cases he
        · cases he
      · cases he
    · cases he
  · cases he
end
end Go.Ab

namespace Go.Ab
open Go Go.RowKit
set_option linter.unusedVariables false
section
variable {P : Program}

def noRho : Rho := ⟨fun _ => none, fun _ => 0, fun _ => false⟩
/-- No memory. -/
def St0 : St := ⟨[], [], [], [], [], []⟩

theorem mem_nil (w : World) : Mem NoM w noRho St0 w := by
  have hc : ∀ i o x, ¬ St0.cell i o = some x := fun i o x h => by
    unfold St.cell at h
    have e : (St0.blk i).cells.length = 0 := by unfold St.blk St0; cases i <;> rfl
    rw [e] at h
    simp [Nat.ble] at h
  have hr : ∀ {i : Nat} {p : Nat × Nat}, noRho i = some p → False := fun h => by simp [noRho] at h
  refine ⟨⟨fun i o x h => (hc i o x h).elim, fun i vc r b k o c h hr' => (hr hr').elim, fun i o x r b h => (hc i o x h).elim, fun i vc r b q h hw hr' => (hr hr').elim, fun i vc r b h hw hr' => (hr hr').elim, fun i j r b b' _ _ hr' => (hr hr').elim, fun i p hr' => (hr hr').elim, fun i h => by simp [noRho] at h, fun i o x h => by simp [St0, hlookL] at h, fun i x h => by simp [St0, vlookL] at h, fun i r b hr' => (hr hr').elim⟩, Fr.refl _ _, ⟨fun i o x r b h => (hc i o x h).elim, fun i vc r b q h hw hr' => (hr hr').elim⟩⟩

/-- Contracts, one by one. -/
def Good (P : Program) (Γ : List (Nat × Ctr)) : Prop := ∀ f c, lookC f Γ = some c → Sat P f c

theorem good_nil (P : Program) : Good P [] := fun f c h => by simp [lookC] at h
theorem good_cons {Γ : List (Nat × Ctr)} {f : Nat} {c : Ctr} (h : Sat P f c) (hΓ : Good P Γ) : Good P ((f, c) :: Γ) := fun g d hg => by
  unfold lookC at hg
  split at hg
  · rename_i hb
    have := Nat.eq_of_beq_eq_true hb
    subst this; cases hg; exact h
  · exact hΓ g d hg

/-- What a law answers, where it needs nothing more. -/
def lawB : Option Out → Option Bool
  | some o => match o.v with
    | .sbool b => some (match o.pn with | none => cond o.nd b false | some (p, _) => cond o.nd (cond p false b) false)
    | .bool b => some (match o.pn with | none => cond o.nd b false | some (p, _) => cond o.nd (cond p false b) false)
    | _ => none
  | none => none

theorem law_any {Γ : List (Nat × Ctr)} (hΓ : Good P Γ) (hm : P.follows .mixedOrders = true) {f : FuncId} {fn : Func} (hf : P.funcs[f]? = some fn)
    (hcall : ∀ (args : Array Value) (w : World), (callFunc f args).run P w = .ok (.enter f args) w) {fuel : Nat} {args : List AVal} {S : St} {B : Bool} (he : lawB (evBody P Γ fuel fn args S) = some B) (hb : B = true)
    {ρ : Rho} {vs : List Value} {w : World} (hM : Mem NoM w ρ S w) (hv : VL ρ args vs) : Calls P f ⟨vs⟩ w fun e w' => e = .returned (.bool true) ∧ Below w.heap.size w w' := by
  subst hb
  have hs : SatC P f (inl P Γ fuel fn) := inl_sat hΓ hm hf hcall fuel
  cases ho : evBody P Γ fuel fn args S with
  | none => rw [ho] at he; cases he
  | some out =>
    rw [ho] at he
    have key : out.nd = true ∧ (∀ v, out.pn ≠ some (true, v)) ∧ (out.v = .sbool true ∨ out.v = .bool true) := by
      simp only [lawB] at he
      split at he
      · rename_i b hv'
        simp only [Option.some.injEq] at he
        split at he
        · rename_i hp
          obtain ⟨h1, h2⟩ := cond_and he
          subst h2
          exact ⟨h1, fun v h => by rw [hp] at h; (cases h), Or.inl hv'⟩
        · rename_i p z hp
          obtain ⟨h1, h2⟩ := cond_and he
          cases p with
          | true => cases h2
          | false =>
            have h2 : b = true := h2
            subst h2
            exact ⟨h1, fun v h => by rw [hp] at h; simp at h, Or.inl hv'⟩
      · rename_i b hv'
        simp only [Option.some.injEq] at he
        split at he
        · rename_i hp
          obtain ⟨h1, h2⟩ := cond_and he
          subst h2
          exact ⟨h1, fun v h => by rw [hp] at h; (cases h), Or.inr hv'⟩
        · rename_i p z hp
          obtain ⟨h1, h2⟩ := cond_and he
          cases p with
          | true => cases h2
          | false =>
            have h2 : b = true := h2
            subst h2
            exact ⟨h1, fun v h => by rw [hp] at h; simp at h, Or.inr hv'⟩
      · cases he
    obtain ⟨h1, h2, h3⟩ := key
    refine (hs.sat args S out ho h1 NoM w ρ w vs hM hv).mono ?_
    intro e w' hr
    cases e with
    | outgrown => exact hr.elim
    | panicked ch =>
      obtain ⟨v, u, hp, _⟩ := hr
      exact (h2 v hp).elim
    | returned u =>
      obtain ⟨_, ρ', _, hu, hm'⟩ := hr
      refine ⟨?_, Fr.below hm'.fr⟩
      rcases h3 with h3 | h3
      · rw [h3] at hu; unfold V at hu; rw [hu]
      · rw [h3] at hu; unfold V at hu; rw [hu]

/-- The same without memory. -/
theorem law_of {Γ : List (Nat × Ctr)} (hΓ : Good P Γ) (hm : P.follows .mixedOrders = true) {f : FuncId} {fn : Func} (hf : P.funcs[f]? = some fn)
    (hcall : ∀ (args : Array Value) (w : World), (callFunc f args).run P w = .ok (.enter f args) w) {fuel : Nat} {args : List AVal} {B : Bool} (he : lawB (evBody P Γ fuel fn args St0) = some B) (hb : B = true)
    {vs : List Value} (hv : VL noRho args vs) (w : World) : Calls P f ⟨vs⟩ w fun e w' => e = .returned (.bool true) ∧ Below w.heap.size w w' :=
  law_any hΓ hm hf hcall he hb (mem_nil w) hv

theorem VL_flat' {ρ ρ' : Rho} : ∀ (xs : List AVal) (vs : List Value), AVal.flat.flatL xs = true → VL ρ xs vs → VL ρ' xs vs
  | [], vs, _, h => by unfold VL at *; exact h
  | x :: xs, vs, hf, h => by
    unfold AVal.flat.flatL at hf
    split at hf
    · rename_i hx
      unfold VL at h ⊢
      obtain ⟨v, vs', h1, h2, h3⟩ := h
      exact ⟨v, vs', h1, V_flat x v hx h2, VL_flat' xs vs' hf h3⟩
    · cases hf

/-- A contract over numbers: what the function answers where there is no memory. -/
theorem sat_flat {Γ : List (Nat × Ctr)} (hΓ : Good P Γ) (hm : P.follows .mixedOrders = true) {f : FuncId} {fn : Func} {c : Ctr} (hf : P.funcs[f]? = some fn)
    (hcall : ∀ (args : Array Value) (w : World), (callFunc f args).run P w = .ok (.enter f args) w)
    (h : ∀ args S out, c.fn args S = some out → out.nd = true → (∃ ρ vs, VL ρ args vs) → AVal.flat.flatL args = true ∧ ∃ fuel v0, evBody P Γ fuel fn args St0 = some ⟨v0, [], [], [], true, none⟩ ∧ v0.flat = true ∧ out = ⟨out.v, [], [], [], true, none⟩ ∧ ∀ ρ u, V ρ v0 u → V ρ out.v u) (hx : c.x = none) : Sat P f c := by
  unfold Sat
  rw [hx]
  refine ⟨hcall, fun args S out hfn hnd M w0 ρ w vs hM hv => ?_⟩
  obtain ⟨hfl, fuel, v0, he, hf0, hout, hsay⟩ := h args S out hfn hnd ⟨ρ, vs, hv⟩
  have hs : SatC P f (inl P Γ fuel fn) := inl_sat hΓ hm hf hcall fuel
  refine (hs.sat args St0 _ he rfl NoM w noRho w vs (mem_nil w) (VL_flat' _ _ hfl hv)).mono ?_
  intro e w' hr
  cases e with
  | outgrown => exact hr.elim
  | panicked ch =>
    obtain ⟨v, u, hp, _⟩ := hr
    cases hp
  | returned u =>
    obtain ⟨_, ρ', _, hu, hm'⟩ := hr
    rw [hout]
    exact ⟨fun b v h => (by cases h), ρ, ExtS.refl _ _, hsay ρ u (V_flat _ _ hf0 hu), (hM.quiet hm'.fr).put_nil⟩

/-- A function without a body. -/
def extC (k : Xk) : Ctr := ⟨fun _ _ => none, some k⟩

theorem sat_ext {f : FuncId} {fn : Func} (k : Xk) (hf : P.funcs[f]? = some fn) (hname : (fn.name == "runtime.NumGoroutine") = false) (hb : fn.body.isNone = true) (hn : Extern.findNext fn = none) (he : Extern.find fn = some (extFn k)) : Sat P f (extC k) := by
  show ∀ (args : Array Value) (w : World), (callFunc f args).run P w = ((extFn k args).run P w).andThen fun v w' => .ok (.value v) w'
  intro args w
  exact run_callFunc_extern hf hname hb hn he args w

theorem V_wf {ρ : Rho} {k : FloatKind} {b : Nat} {u : Value} (h : V ρ (.flt k b) u) : wfW k b := by
  unfold V at h
  obtain ⟨_, _, _, h, _⟩ := h
  exact h
end
end Go.Ab

namespace Go.Ab
open Go Go.RowKit
set_option linter.unusedVariables false
section
variable {P : Program}
/-! lists of floats -/
def decF : List AVal → Option (List Nat)
  | [] => some []
  | .flt .f32 a :: r => match decF r with | some l => some (a :: l) | none => none
  | _ :: _ => none

def encF : List Nat → List AVal
  | [] => []
  | a :: r => .flt .f32 a :: encF r

theorem decF_spec : ∀ (l : List AVal) (ns : List Nat), decF l = some ns → l = encF ns
  | [], ns, h => by simp [decF] at h; subst h; rfl
  | x :: r, ns, h => by
    unfold decF at h
    split at h
    · rename_i heq; simp at heq
    · rename_i a r' heq
      simp only [List.cons.injEq] at heq
      obtain ⟨rfl, rfl⟩ := heq
      split at h
      · rename_i l hl; cases h
        rw [decF_spec r l hl]; rfl
      · cases h
    · cases h

/-- So many floats. -/
def decN (n : Nat) (l : List AVal) : Option (List Nat) := match decF l with
  | some ns => match Nat.beq ns.length n with | true => some ns | false => none
  | none => none

theorem decN_spec {n : Nat} {l : List AVal} {ns : List Nat} (h : decN n l = some ns) : l = encF ns ∧ ns.length = n := by
  unfold decN at h
  split at h
  · rename_i ns' hd
    split at h
    · rename_i hb; cases h
      exact ⟨decF_spec l _ hd, Nat.eq_of_beq_eq_true hb⟩
    · cases h
  · cases h

theorem len4 {l : List Nat} (h : l.length = 4) : ∃ a b c d, l = [a, b, c, d] := by
  match l, h with
  | [a, b, c, d], _ => exact ⟨a, b, c, d, rfl⟩
theorem len6 {l : List Nat} (h : l.length = 6) : ∃ a b c d e f, l = [a, b, c, d, e, f] := by
  match l, h with
  | [a, b, c, d, e, f], _ => exact ⟨a, b, c, d, e, f, rfl⟩
theorem len7 {l : List Nat} (h : l.length = 7) : ∃ a b c d e f g, l = [a, b, c, d, e, f, g] := by
  match l, h with
  | [a, b, c, d, e, f, g], _ => exact ⟨a, b, c, d, e, f, g, rfl⟩
theorem len18 {l : List Nat} (h : l.length = 18) : ∃ a0 a1 a2 a3 a4 a5 b0 b1 b2 b3 b4 b5 c0 c1 c2 c3 c4 c5, l = [a0, a1, a2, a3, a4, a5, b0, b1, b2, b3, b4, b5, c0, c1, c2, c3, c4, c5] := by
  match l, h with
  | [a0, a1, a2, a3, a4, a5, b0, b1, b2, b3, b4, b5, c0, c1, c2, c3, c4, c5], _ => exact ⟨a0, a1, a2, a3, a4, a5, b0, b1, b2, b3, b4, b5, c0, c1, c2, c3, c4, c5, rfl⟩

theorem VL_wf {ρ : Rho} : ∀ (ns : List Nat) (vs : List Value), VL ρ (encF ns) vs → ∀ n ∈ ns, wfW .f32 n
  | [], _, _, n, hn => by simp at hn
  | a :: r, _, h, n, hn => by
    unfold encF VL at h
    obtain ⟨v, vs', rfl, h1, h2⟩ := h
    rcases List.mem_cons.1 hn with rfl | hn
    · exact V_wf h1
    · exact VL_wf r vs' h2 n hn

/-! arguments -/
theorem enc_of_floats {ρ : Rho} : ∀ (vs : List Value), (∀ v ∈ vs, ∃ b, v = .float .f32 b ∧ wfW .f32 b) → ∃ ns, ns.length = vs.length ∧ VL ρ (encF ns) vs
  | [], _ => ⟨[], rfl, by simp [encF, VL]⟩
  | v :: vs, h => by
    obtain ⟨b, rfl, hb⟩ := h v (by simp)
    obtain ⟨ns, h1, h2⟩ := enc_of_floats vs (fun v hv => h v (by simp [hv]))
    refine ⟨b :: ns, by simp [h1], ?_⟩
    unfold encF VL
    exact ⟨_, vs, rfl, by unfold V; exact ⟨b, rfl, sameW.refl _ _, hb, hb⟩, h2⟩

/-- A struct or an array of floats, opened. -/
theorem open_floats {W : World} {r : Reach} {base n : Nat} {t f : TypeId} {v : Value} (hagg : (match P.underlying t with | some (.struct _) | some (.array _ _) => true | _ => false) = true)
    (hct : P.cellTypes P.depth t = some (List.replicate n f)) (hn : P.cellsOf t = n) (hf : P.underlying f = some (.float .f32)) (h : Value.okWide P W r base t v) :
    ∃ ns vs, ns.length = n ∧ v = .agg ⟨vs⟩ ∧ VL noRho (encF ns) vs := by
  unfold Value.okWide at h
  have h' : ∃ cs, v = .agg cs ∧ cs.size = P.cellsOf t ∧ Row.okWide P W r base t cs := by
    cases hu : P.underlying t with
    | none => rw [hu] at hagg; cases hagg
    | some d => rw [hu] at hagg h; cases d <;> first | exact h | cases hagg
  obtain ⟨cs, rfl, hsz, ts, hts, _, hcells⟩ := h'
  rw [hct] at hts; cases hts
  obtain ⟨vs⟩ := cs
  have hlen : vs.length = n := by simpa [hn] using hsz
  obtain ⟨ns, h1, h2⟩ := enc_of_floats (ρ := noRho) vs (fun v hv => by
    obtain ⟨i, hi, he⟩ := List.mem_iff_getElem.1 hv
    obtain ⟨u, hu, hok⟩ := hcells i v (by simp [hi, he])
    have hu' : u = f := by
      rw [List.length_replicate] at hu
      have := List.mem_of_getElem? hu
      exact (List.mem_replicate.1 this).2
    subst hu'
    unfold Cell.okWide at hok
    rw [hf] at hok
    cases v <;> simp [Cell.ok, hf] at hok
    obtain ⟨rfl, hb⟩ := hok
    exact ⟨_, rfl, hb⟩)
  exact ⟨ns, vs, by omega, rfl, h2⟩

theorem agg_V {ρ : Rho} {xs : List AVal} {vs : List Value} (h : VL ρ xs vs) : V ρ (.agg xs) (.agg ⟨vs⟩) := by
  unfold V; exact ⟨vs, rfl, h⟩
theorem flt_V {ρ : Rho} (k : FloatKind) {b : Nat} (hb : wfW k b) : V ρ (.flt k b) (.float k b) := by
  unfold V; exact ⟨b, rfl, sameW.refl _ _, hb, hb⟩
theorem sint_V {ρ : Rho} (k : IntKind) (n : Int) : V ρ (.sint k n) (.int k n) := by unfold V; rfl
theorem VL_nil {ρ : Rho} : VL ρ [] [] := by simp [VL]
theorem VL_cons {ρ : Rho} {x : AVal} {v : Value} {xs : List AVal} {vs : List Value} (h : V ρ x v) (hs : VL ρ xs vs) : VL ρ (x :: xs) (v :: vs) := by
  unfold VL; exact ⟨v, vs, rfl, h, hs⟩

/-- A condition that is met. -/
theorem cbool_say {ρ : Rho} {c b : Bool} {u : Value} (hc : c = true) (h : V ρ (.cbool c b) u) : V ρ (.sbool b) u := by
  unfold V at h ⊢
  obtain ⟨b', rfl, hb⟩ := h
  rw [hb hc]
theorem cint_say {ρ : Rho} {c : Bool} {k : IntKind} {n : Int} {u : Value} (hc : c = true) (h : V ρ (.cint c k n) u) : V ρ (.sint k n) u := by
  unfold V at h ⊢
  obtain ⟨b', rfl, hb⟩ := h
  rw [hb hc]
theorem encF_flat : ∀ ns : List Nat, AVal.flat.flatL (encF ns) = true
  | [] => rfl
  | a :: ns => by
    unfold encF AVal.flat.flatL
    simp only [AVal.flat, encF_flat ns]

/-- One block that is read. -/
def St1 (l : List AVal) : St := ⟨[], [], [⟨l, false, none⟩], [], [], []⟩

theorem cellsAt_get {S : St} {i : Nat} : ∀ (n o : Nat) (l : List AVal), S.cellsAt i o n = some l → l.length = n ∧ ∀ (q : Nat) (x : AVal), l[q]? = some x → S.cell i (o + q) = some x
  | 0, o, l, h => by simp [St.cellsAt] at h; subst h; exact ⟨rfl, fun q x hx => by simp at hx⟩
  | n + 1, o, l, h => by
    unfold St.cellsAt at h
    split at h
    · rename_i v hv
      split at h
      · rename_i r hr; cases h
        obtain ⟨h1, h2⟩ := cellsAt_get n (o + 1) r hr
        refine ⟨by simp [h1], fun q x hx => ?_⟩
        cases q with
        | zero => simp at hx; subst hx; exact hv
        | succ q =>
          have := h2 q x (by simpa using hx)
          have e : o + (q + 1) = o + 1 + q := by omega
          rw [e]; exact this
      · cases h
    · cases h

theorem flatL_at : ∀ (l : List AVal) (q : Nat) (x : AVal), AVal.flat.flatL l = true → l[q]? = some x → x.flat = true
  | [], q, x, _, h => by simp at h
  | c :: l, q, x, hf, h => by
    unfold AVal.flat.flatL at hf
    split at hf
    · rename_i hc
      cases q with
      | zero => simp at h; subst h; exact hc
      | succ q => exact flatL_at l q x hf (by simpa using h)
    · cases hf

theorem st1_cell {l : List AVal} {i o : Nat} {x : AVal} (h : (St1 l).cell i o = some x) : i = 0 ∧ l[o]? = some x := by
  have hoff := cell_off h
  cases i with
  | zero =>
    have hoff : o < l.length := hoff
    unfold St.cell at h
    have e : ((St1 l).blk 0).cells = l := rfl
    rw [e, Nat.ble_eq_true_of_le hoff] at h
    simp only [St1, hlookL, Option.some.injEq] at h
    exact ⟨rfl, by rw [← h]; exact (nth_get l o hoff)⟩
  | succ i =>
    exfalso
    have e : ((St1 l).blk (i + 1)).cells.length = 0 := by unfold St.blk St1; simp only [nthB]; rfl
    omega

theorem view_mem {M : Addr → Prop} {w0 : World} {ρ : Rho} {S : St} {w : World} (hM : Mem M w0 ρ S w) {i o n : Nat} {l : List AVal} (hc : S.cellsAt i o n = some l) (hn : 1 ≤ n) (hfl : AVal.flat.flatL l = true) {v : Value} (hv : V ρ (.ptr i o) v) :
    ∃ ρ1, Mem NoM w ρ1 (St1 l) w ∧ V ρ1 (.ptr 0 0) v := by
  obtain ⟨hl, hget⟩ := cellsAt_get n o l hc
  unfold V at hv
  obtain ⟨r, b, hr, hve⟩ := hv
  have hlt := hM.hp.lt i r b hr
  have hwb : ∀ j, ((St1 l).blk j).wr = false := fun j => by
    cases j with
    | zero => rfl
    | succ j => unfold St.blk St1; simp only [nthB]
  have hvn : ∀ j vc, ¬ (St1 l).vec j = some vc := fun j vc h => by
    obtain ⟨u, hu⟩ := vec_blk h
    cases j with
    | zero => cases hu
    | succ j => unfold St.blk St1 at hu; simp only [nthB] at hu; cases hu
  refine ⟨⟨fun j => if j = 0 then some (r, b + o) else none, fun _ => 0, fun _ => false⟩, ⟨⟨fun j q x hx => ?_, fun j vc _ _ _ _ _ h => (hvn j vc h).elim, fun j q x r b _ hw => ?_, fun j vc _ _ _ h => (hvn j vc h).elim, fun j vc _ _ h => (hvn j vc h).elim, fun j k r b b' _ hw => ?_, fun j p hp => ?_, fun j h => by (cases h), fun j q x h => by (simp [St1, hlookL] at h), fun j x h => by (simp [St1, vlookL] at h), fun j r' b' hp => ?_⟩, Fr.refl _ _, ⟨fun j q x r b _ hw => ?_, fun j vc _ _ _ h => (hvn j vc h).elim⟩⟩, ?_⟩
  · obtain ⟨rfl, hq⟩ := st1_cell hx
    obtain ⟨r', b', u, k1, k2, k3⟩ := hM.hp.cell i (o + q) x (hget q x hq)
    rw [hr] at k1
    cases k1
    exact ⟨r, b + o, u, rfl, by rw [Nat.add_assoc]; exact k2, V_flat _ _ (flatL_at l q x hfl hq) k3⟩
  · rw [hwb j] at hw; cases hw
  · rcases wrB_iff.1 hw with ⟨q, x, hx, hw⟩ | ⟨vc, hx, _⟩
    · rw [hwb j] at hw; cases hw
    · exact (hvn j vc hx).elim
  · dsimp only at hp
    split at hp
    · rename_i hj; subst hj; show 0 < ([_] : List Blk).length; simp
    · cases hp
  · dsimp only at hp
    split at hp
    · cases hp; exact hlt
    · cases hp
  · rw [hwb j] at hw; cases hw
  · unfold V
    exact ⟨r, b + o, rfl, hve⟩

/-- A contract over what a pointer points to. -/
theorem sat_view {n : Nat} {Γ : List (Nat × Ctr)} (hΓ : Good P Γ) (hm : P.follows .mixedOrders = true) {f : FuncId} {fn : Func} {c : Ctr} (hf : P.funcs[f]? = some fn)
    (hcall : ∀ (args : Array Value) (w : World), (callFunc f args).run P w = .ok (.enter f args) w)
    (h : ∀ args S out, c.fn args S = some out → out.nd = true → ∃ i o l, args = [.ptr i o] ∧ S.cellsAt i o n = some l ∧ AVal.flat.flatL l = true ∧ ∃ fuel v0, evBody P Γ fuel fn [.ptr 0 0] (St1 l) = some ⟨v0, [], [], [], true, none⟩ ∧ v0.flat = true ∧ out = ⟨out.v, [], [], [], true, none⟩ ∧ ∀ ρ u, V ρ v0 u → V ρ out.v u) (hx : c.x = none) (hn1 : 1 ≤ n := by decide) : Sat P f c := by
  unfold Sat
  rw [hx]
  refine ⟨hcall, fun args S out hfn hnd M w0 ρ w vs hM hv => ?_⟩
  obtain ⟨i, o, l, rfl, hl, hfl, fuel, v0, he, hf0, hout, hsay⟩ := h args S out hfn hnd
  have hs : SatC P f (inl P Γ fuel fn) := inl_sat hΓ hm hf hcall fuel
  unfold VL at hv
  obtain ⟨v, vs', rfl, hv1, hv2⟩ := hv
  obtain ⟨ρ1, hM1, hv3⟩ := view_mem hM hl hn1 hfl hv1
  have hvl : VL ρ1 [.ptr 0 0] (v :: vs') := by
    unfold VL at hv2 ⊢
    subst hv2
    exact ⟨v, [], rfl, hv3, by unfold VL; rfl⟩
  refine (hs.sat [.ptr 0 0] (St1 l) _ he rfl NoM w ρ1 w _ hM1 hvl).mono ?_
  intro e w' hr
  cases e with
  | outgrown => exact hr.elim
  | panicked ch =>
    obtain ⟨v, u, hp, _⟩ := hr
    cases hp
  | returned u =>
    obtain ⟨_, ρ', _, hu, hm'⟩ := hr
    rw [hout]
    exact ⟨fun b v h => (by cases h), ρ, ExtS.refl _ _, hsay ρ u (V_flat _ _ hf0 hu), (hM.quiet hm'.fr).put_nil⟩
end
end Go.Ab

namespace Go.Ab
open Go

/-! ### FLOATS BY THEIR WORDS -/
theorem cmp_lt {a b : Int} (h : a < b) : compare a b = .lt := by
  show compareOfLessAndEq a b = _
  unfold compareOfLessAndEq; rw [if_pos h]
theorem cmp_eq {a b : Int} (h : a = b) : compare a b = .eq := by
  show compareOfLessAndEq a b = _
  unfold compareOfLessAndEq; rw [if_neg (by omega), if_pos h]
theorem cmp_gt {a b : Int} (h : b < a) : compare a b = .gt := by
  show compareOfLessAndEq a b = _
  unfold compareOfLessAndEq; rw [if_neg (by omega), if_neg (by omega)]
section
variable (f : Ieee.Format)

/-- The place of a word on the line. -/
def key (x : Nat) : Int := if x / f.signWeight % 2 = 1 then -((x % f.signWeight : Nat) : Int) else ((x % f.signWeight : Nat) : Int)

/-- The size that a rung stands for, in units of the least place. -/
def mg (r : Nat) : Nat := if r < f.binade then r else (f.binade + r % f.binade) * 2 ^ (r / f.binade - 1)

theorem binade_pos : 0 < f.binade := Nat.two_pow_pos _

theorem mg_lt {r s : Nat} (h : r < s) : mg f r < mg f s := by
  have hB := binade_pos f
  unfold mg
  by_cases hr : r < f.binade
  · rw [if_pos hr]
    by_cases hs : s < f.binade
    · rw [if_pos hs]; exact h
    · rw [if_neg hs]
      have h1 : 1 ≤ 2 ^ (s / f.binade - 1) := Nat.one_le_two_pow
      calc r < f.binade := hr
        _ ≤ f.binade + s % f.binade := Nat.le_add_right _ _
        _ = (f.binade + s % f.binade) * 1 := by omega
        _ ≤ (f.binade + s % f.binade) * 2 ^ (s / f.binade - 1) := Nat.mul_le_mul_left _ h1
  · have hs : ¬ s < f.binade := by omega
    rw [if_neg hr, if_neg hs]
    have hq1 : 1 ≤ r / f.binade := (Nat.one_le_div_iff hB).2 (by omega)
    have hqle : r / f.binade ≤ s / f.binade := Nat.div_le_div_right (by omega)
    by_cases hq : r / f.binade = s / f.binade
    · rw [hq]
      have e1 := Nat.div_add_mod r f.binade
      have e2 := Nat.div_add_mod s f.binade
      rw [hq] at e1
      exact Nat.mul_lt_mul_of_pos_right (by omega) (Nat.two_pow_pos _)
    · have hlt : r / f.binade + 1 ≤ s / f.binade := by omega
      have hm : r % f.binade < f.binade := Nat.mod_lt _ hB
      calc (f.binade + r % f.binade) * 2 ^ (r / f.binade - 1) < (f.binade + f.binade) * 2 ^ (r / f.binade - 1) := Nat.mul_lt_mul_of_pos_right (by omega) (Nat.two_pow_pos _)
        _ = f.binade * 2 ^ (r / f.binade) := by
          have : r / f.binade = (r / f.binade - 1) + 1 := by omega
          rw [this, Nat.pow_succ]
          have e : r / f.binade - 1 + 1 - 1 = r / f.binade - 1 := by omega
          rw [e, ← Nat.two_mul, Nat.mul_assoc, Nat.mul_left_comm, Nat.mul_comm 2 (2 ^ _)]
        _ ≤ f.binade * 2 ^ (s / f.binade - 1) := Nat.mul_le_mul_left _ (Nat.pow_le_pow_right (by omega) (by omega))
        _ ≤ (f.binade + s % f.binade) * 2 ^ (s / f.binade - 1) := Nat.mul_le_mul_right _ (Nat.le_add_right _ _)

theorem mg_le {r s : Nat} (h : r ≤ s) : mg f r ≤ mg f s := by
  rcases Nat.lt_or_ge r s with h1 | h1
  · exact Nat.le_of_lt (mg_lt f h1)
  · have : r = s := by omega
    rw [this]; exact Nat.le_refl _

theorem mg_zero : mg f 0 = 0 := by unfold mg; rw [if_pos (binade_pos f)]

end

section
variable (k : FloatKind)

theorem inf_binade : k.format.binade < k.format.infRung := by cases k <;> decide
theorem inf_sign : k.format.infRung < k.format.signWeight := by cases k <;> decide

/-- A word that is a number. -/
theorem read_number {x : Nat} (h : x % k.format.signWeight < k.format.infRung) :
    ∃ (m : Nat) (p : Nat), k.format.read x = .number (x / k.format.signWeight % 2 == 1) m (k.format.leastPlace + p) ∧ m * 2 ^ p = mg k.format (x % k.format.signWeight) := by
  unfold Ieee.Format.read
  simp only
  by_cases h1 : x % k.format.signWeight < k.format.binade
  · simp only [h1, if_true]
    exact ⟨x % k.format.signWeight, 0, by simp, by unfold mg; rw [if_pos h1]; simp⟩
  · simp only [h1, if_false, h, if_true]
    exact ⟨_, _, rfl, by unfold mg; rw [if_neg h1]⟩

theorem read_inf {x : Nat} (h : x % k.format.signWeight = k.format.infRung) : k.format.read x = .infinity (x / k.format.signWeight % 2 == 1) := by
  have hB := inf_binade k
  unfold Ieee.Format.read
  simp only [h]
  rw [if_neg (by omega), if_neg (by omega), if_pos trivial]

theorem nan_iff (x : Nat) : isNaNW k x = decide (k.format.infRung < x % k.format.signWeight) := by
  rcases Nat.lt_trichotomy (x % k.format.signWeight) k.format.infRung with h | h | h
  · obtain ⟨m, p, hr, _⟩ := read_number k h
    unfold isNaNW; rw [hr]
    simp [Ieee.Datum.isNaN]; omega
  · unfold isNaNW; rw [read_inf k h]
    simp [Ieee.Datum.isNaN]; omega
  · have hB := inf_binade k
    unfold isNaNW Ieee.Format.read
    simp only
    rw [if_neg (by omega), if_neg (by omega), if_neg (by omega)]
    simp [Ieee.Datum.isNaN, h]

theorem nanB_iff (x : Nat) : nanB k x = decide (k.format.infRung < x % k.format.signWeight) := by rw [nanB_eq]; exact nan_iff k x

theorem compare_mul (a b : Int) (c : Nat) (hc : 0 < c) : compare (a * c) (b * c) = compare a b := by
  have hc' : (0 : Int) < c := by omega
  rcases Int.lt_trichotomy a b with h | h | h
  · rw [cmp_lt h, cmp_lt (Int.mul_lt_mul_of_pos_right h hc')]
  · subst h; rw [cmp_eq rfl, cmp_eq rfl]
  · rw [cmp_gt h, cmp_gt (Int.mul_lt_mul_of_pos_right h hc')]

theorem signed_mul (s : Bool) (m p c : Nat) : Ieee.signed s m p * (2 ^ c : Nat) = Ieee.signed s m (p + c) := by
  unfold Ieee.signed
  cases s <;> simp [Nat.shiftLeft_eq, Nat.pow_add, Int.mul_assoc, Int.neg_mul]

/-- Of two numbers: their sizes. -/
theorem order_numbers {s t : Bool} {m n p q : Nat} {b : Int} : (Ieee.Datum.number s m (b + p)).order (.number t n (b + q)) = some (compare (Ieee.signed s m p) (Ieee.signed t n q)) := by
  unfold Ieee.Datum.order
  simp only [Option.some.injEq]
  by_cases h : p ≤ q
  · have e1 : (b + (p : Int) - min (b + p) (b + q)).toNat = 0 := by omega
    have e2 : (b + (q : Int) - min (b + p) (b + q)).toNat = q - p := by omega
    rw [e1, e2, ← compare_mul _ _ (2 ^ p) (Nat.two_pow_pos _), signed_mul, signed_mul]
    have : q - p + p = q := by omega
    rw [this, Nat.zero_add]
  · have e1 : (b + (p : Int) - min (b + p) (b + q)).toNat = p - q := by omega
    have e2 : (b + (q : Int) - min (b + p) (b + q)).toNat = 0 := by omega
    rw [e1, e2, ← compare_mul _ _ (2 ^ q) (Nat.two_pow_pos _), signed_mul, signed_mul]
    have : p - q + q = p := by omega
    rw [this, Nat.zero_add]

/-- The size that a word stands for, signed. -/
def sz (f : Ieee.Format) (x : Nat) : Int := if x / f.signWeight % 2 = 1 then -((mg f (x % f.signWeight) : Nat) : Int) else ((mg f (x % f.signWeight) : Nat) : Int)

theorem signed_sz {x m p : Nat} (h : m * 2 ^ p = mg k.format (x % k.format.signWeight)) : Ieee.signed (x / k.format.signWeight % 2 == 1) m p = sz k.format x := by
  unfold Ieee.signed sz
  rw [Nat.shiftLeft_eq, h]
  by_cases hs : x / k.format.signWeight % 2 = 1 <;> simp [hs]

theorem sz_lt_iff (x y : Nat) : sz k.format x < sz k.format y ↔ key k.format x < key k.format y := by
  have key1 : ∀ r s, mg k.format r < mg k.format s ↔ r < s := fun r s => ⟨fun h => by
    rcases Nat.lt_or_ge r s with h1 | h1
    · exact h1
    · have := mg_le k.format h1; omega, mg_lt k.format⟩
  have h0 : mg k.format 0 = 0 := mg_zero _
  unfold sz key
  generalize x % k.format.signWeight = r
  generalize y % k.format.signWeight = s
  have hrs := key1 r s
  have hsr := key1 s r
  have hr0 := key1 0 r
  have hs0 := key1 0 s
  rw [h0] at hr0 hs0
  split <;> split <;> omega

theorem sz_eq_iff (x y : Nat) : sz k.format x = sz k.format y ↔ key k.format x = key k.format y := by
  have h1 := sz_lt_iff k x y
  have h2 := sz_lt_iff k y x
  omega

theorem compare_congr {a b c d : Int} (h1 : a < b ↔ c < d) (h2 : a = b ↔ c = d) : compare a b = compare c d := by
  rcases Int.lt_trichotomy a b with h | h | h
  · rw [cmp_lt h, cmp_lt (h1.1 h)]
  · rw [cmp_eq h, cmp_eq (h2.1 h)]
  · have : d < c := by omega
    rw [cmp_gt h, cmp_gt this]

theorem ord_key {x y : Nat} (hx : nanB k x = false) (hy : nanB k y = false) : k.format.order x y = some (compare (key k.format x) (key k.format y)) := by
  rw [nanB_iff] at hx hy
  simp only [decide_eq_false_iff_not, Nat.not_lt] at hx hy
  have hlt := inf_sign k
  unfold Ieee.Format.order
  rcases Nat.lt_or_ge (x % k.format.signWeight) k.format.infRung with h1 | h1
  · obtain ⟨m, p, e1, e2⟩ := read_number k h1
    rcases Nat.lt_or_ge (y % k.format.signWeight) k.format.infRung with h2 | h2
    · obtain ⟨n, q, e3, e4⟩ := read_number k h2
      rw [e1, e3, order_numbers, signed_sz k e2, signed_sz k e4]
      exact congrArg some (compare_congr (sz_lt_iff k x y) (sz_eq_iff k x y))
    · have h2 : y % k.format.signWeight = k.format.infRung := by omega
      rw [e1, read_inf k h2]
      simp only [Ieee.Datum.order, Option.some.injEq]
      unfold key
      by_cases hs : y / k.format.signWeight % 2 = 1
      · simp only [hs, beq_self_eq_true, if_true]
        symm; refine cmp_gt ?_
        split <;> omega
      · have : (y / k.format.signWeight % 2 == 1) = false := by simp [hs]
        simp only [this, hs, Bool.false_eq_true, if_false]
        symm; refine cmp_lt ?_
        split <;> omega
  · have h1 : x % k.format.signWeight = k.format.infRung := by omega
    rw [read_inf k h1]
    rcases Nat.lt_or_ge (y % k.format.signWeight) k.format.infRung with h2 | h2
    · obtain ⟨n, q, e3, e4⟩ := read_number k h2
      rw [e3]
      simp only [Ieee.Datum.order, Option.some.injEq]
      unfold key
      by_cases hs : x / k.format.signWeight % 2 = 1
      · simp only [hs, beq_self_eq_true, if_true]
        symm; refine cmp_lt ?_
        split <;> omega
      · have : (x / k.format.signWeight % 2 == 1) = false := by simp [hs]
        simp only [this, hs, Bool.false_eq_true, if_false]
        symm; refine cmp_gt ?_
        split <;> omega
    · have h2 : y % k.format.signWeight = k.format.infRung := by omega
      rw [read_inf k h2]
      simp only [Ieee.Datum.order, Option.some.injEq]
      have hB := inf_binade k
      unfold key
      by_cases hs : x / k.format.signWeight % 2 = 1 <;> by_cases ht : y / k.format.signWeight % 2 = 1
      · simp only [hs, ht, h1, h2, beq_self_eq_true, if_true]
        rw [cmp_eq rfl]; decide
      · have h4 : (y / k.format.signWeight % 2 == 1) = false := by simp [ht]
        simp only [hs, ht, h4, beq_self_eq_true, if_true, if_false, h1, h2]
        rw [cmp_lt (a := -((k.format.infRung : Nat) : Int)) (by omega)]; decide
      · have h4 : (x / k.format.signWeight % 2 == 1) = false := by simp [hs]
        simp only [hs, ht, h4, beq_self_eq_true, if_true, if_false, h1, h2]
        rw [cmp_gt (b := -((k.format.infRung : Nat) : Int)) (by omega)]; decide
      · have h3 : (x / k.format.signWeight % 2 == 1) = false := by simp [hs]
        have h4 : (y / k.format.signWeight % 2 == 1) = false := by simp [ht]
        simp only [hs, ht, h3, h4, if_false, h1, h2]
        rw [cmp_eq rfl]; decide

theorem ord_nan {x y : Nat} (h : nanB k x = true ∨ nanB k y = true) : k.format.order x y = none := by
  rw [nanB_eq] at h
  rcases h with h | h
  · exact order_nan_left _ h
  · exact order_nan_right _ h

theorem flt_key {x y : Nat} (hx : nanB k x = false) (hy : nanB k y = false) : fltB k x y = decide (key k.format x < key k.format y) := by
  rw [fltB_eq]; unfold fltImpl; rw [ord_key k hx hy]
  rcases Int.lt_trichotomy (key k.format x) (key k.format y) with h | h | h
  · rw [cmp_lt h]; simp [h]
  · rw [cmp_eq h]; simp [h]
  · rw [cmp_gt h]; simp; omega
theorem feq_key {x y : Nat} (hx : nanB k x = false) (hy : nanB k y = false) : feqB k x y = decide (key k.format x = key k.format y) := by
  rw [feqB_eq]; unfold feqImpl; rw [ord_key k hx hy]
  rcases Int.lt_trichotomy (key k.format x) (key k.format y) with h | h | h
  · rw [cmp_lt h]; simp; omega
  · rw [cmp_eq h]; simp [h]
  · rw [cmp_gt h]; simp; omega
theorem fle_key {x y : Nat} (hx : nanB k x = false) (hy : nanB k y = false) : fleB k x y = decide (key k.format x ≤ key k.format y) := by
  unfold fleB; rw [flt_key k hx hy, feq_key k hx hy]
  rw [← Bool.decide_or]
  congr 1
  simp only [eq_iff_iff]; omega
theorem flt_nan {x y : Nat} (h : nanB k x = true ∨ nanB k y = true) : fltB k x y = false := by
  rw [fltB_eq]; unfold fltImpl; rw [ord_nan k h]; rfl
theorem feq_nan {x y : Nat} (h : nanB k x = true ∨ nanB k y = true) : feqB k x y = false := by
  rw [feqB_eq]; unfold feqImpl; rw [ord_nan k h]; rfl
theorem fle_nan {x y : Nat} (h : nanB k x = true ∨ nanB k y = true) : fleB k x y = false := by
  unfold fleB; rw [flt_nan k h, feq_nan k h]; rfl

theorem feq_self (x : Nat) : feqB k x x = !nanB k x := by
  cases h : nanB k x with
  | true => rw [feq_nan k (Or.inl h)]; rfl
  | false => rw [feq_key k h h]; simp

/-- One is less, or the other is at most as great. -/
theorem flt_not_fle {x y : Nat} (hx : nanB k x = false) (hy : nanB k y = false) : fltB k x y = !fleB k y x := by
  rw [flt_key k hx hy, fle_key k hy hx]
  by_cases h : key k.format x < key k.format y
  · simp [h]
  · simp [h]; omega
end

/-! ### single words -/
theorem key32 {x : Nat} (h : x < 4294967296) : key Ieee.single x = if x < 2147483648 then (x : Int) else 2147483648 - (x : Int) := by
  have hs : Ieee.single.signWeight = 2147483648 := rfl
  unfold key
  rw [hs]
  by_cases hx : x < 2147483648
  · have : x / 2147483648 = 0 := Nat.div_eq_of_lt hx
    rw [this, Nat.mod_eq_of_lt hx]; simp [hx]
  · have e1 : x / 2147483648 = 1 := by omega
    have e2 : x % 2147483648 = x - 2147483648 := by omega
    rw [e1, e2]; simp [hx]; omega

theorem nan32 (x : Nat) : nanB .f32 x = decide (2139095040 < x % 2147483648) := nanB_iff .f32 x

/-- Finite. -/
def finF (a : Nat) : Bool := decide (a % 2147483648 < 2139095040)

theorem fin_sub (a : Nat) : feqB .f32 (fop .sub .f32 a a) 0 = finF a := by
  have hinf : Ieee.single.infRung = 2139095040 := rfl
  have hsw : Ieee.single.signWeight = 2147483648 := rfl
  unfold finF
  rcases Nat.lt_or_ge (a % 2147483648) 2139095040 with h | h
  · obtain ⟨m, p, hr, _⟩ := read_number .f32 (x := a) h
    have : fop .sub .f32 a a = 0 := by
      rw [fop_eq]; unfold fopImpl floatBits Ieee.Format.sub
      rw [hr]
      have hs : Ieee.signed (a / 2147483648 % 2 == 1) m 0 + Ieee.signed (!(a / 2147483648 % 2 == 1)) m 0 = 0 := by
        unfold Ieee.signed; cases (a / 2147483648 % 2 == 1) <;> simp <;> omega
      show ((Ieee.Datum.sum (.number (a / 2147483648 % 2 == 1) m _) (.number (!(a / 2147483648 % 2 == 1)) m _)).map _).getD _ = 0
      simp only [Ieee.Datum.sum, Int.min_self, Int.sub_self, Int.toNat_zero, hs, if_true, Int.natAbs_zero, Option.map_some, Option.getD_some]
      cases (a / 2147483648 % 2 == 1) <;> rfl
    rw [this]
    have h0 : nanB .f32 0 = false := by rw [nan32]; decide
    rw [feq_self, h0]; simp [h]
  · have : nanB .f32 (fop .sub .f32 a a) = true := by
      rw [fop_eq]; unfold fopImpl
      have hn : floatBits .sub .f32 a a = none := by
        rcases Nat.lt_or_ge 2139095040 (a % 2147483648) with h1 | h1
        · exact floatBits_nan_left _ (by rw [← nanB_eq, nan32]; simpa using h1)
        · have h2 : a % 2147483648 = 2139095040 := by omega
          have hr := read_inf .f32 (x := a) h2
          unfold floatBits Ieee.Format.sub
          rw [hr]
          simp only [Ieee.Datum.opposite, Ieee.Datum.sum]
          cases (a / FloatKind.f32.format.signWeight % 2 == 1) <;> rfl
      rw [hn]; rw [nanB_eq]; exact nanW_isNaN .f32
    rw [feq_nan .f32 (Or.inl this)]
    symm; simp; omega

theorem fin_between {a : Nat} (hw : wfW .f32 a) : cond (fleB .f32 4286578687 a) (fleB .f32 a 2139095039) false = finF a := by
  have hw : a < 4294967296 := hw
  have n1 : nanB .f32 4286578687 = false := by rw [nan32]; decide
  have n2 : nanB .f32 2139095039 = false := by rw [nan32]; decide
  have k1 : key FloatKind.f32.format 4286578687 = -2139095039 := by rw [show FloatKind.f32.format = Ieee.single from rfl, key32 (by decide)]; decide
  have k2 : key FloatKind.f32.format 2139095039 = 2139095039 := by rw [show FloatKind.f32.format = Ieee.single from rfl, key32 (by decide)]; decide
  unfold finF
  cases hn : nanB .f32 a with
  | true =>
    rw [fle_nan .f32 (Or.inr hn)]
    rw [nan32] at hn
    have := of_decide_eq_true hn
    symm; simp; omega
  | false =>
    rw [fle_key .f32 n1 hn, fle_key .f32 hn n2, k1, k2, show FloatKind.f32.format = Ieee.single from rfl, key32 hw]
    rw [nan32] at hn
    have := of_decide_eq_false hn
    by_cases hx : a < 2147483648
    · simp only [hx, if_true]
      have e : a % 2147483648 = a := Nat.mod_eq_of_lt hx
      rw [e] at this ⊢
      have : decide ((-2139095039 : Int) ≤ (a : Int)) = true := by simp
      rw [this]; simp only [cond_true]
      congr 1; simp only [eq_iff_iff]; omega
    · simp only [hx, if_false]
      have e : a % 2147483648 = a - 2147483648 := by omega
      rw [e] at this ⊢
      by_cases hy : a - 2147483648 < 2139095040
      · have h1 : decide ((-2139095039 : Int) ≤ 2147483648 - (a : Int)) = true := by simp; omega
        rw [h1]; simp only [cond_true]
        have h2 : decide (2147483648 - (a : Int) ≤ 2139095039) = true := by simp; omega
        rw [h2]; simp [hy]
      · have h1 : decide ((-2139095039 : Int) ≤ 2147483648 - (a : Int)) = false := by simp; omega
        rw [h1]; simp [hy]

/-- An amount. -/
def amtF (a : Nat) : Bool := decide (a < 2139095040)

theorem amt_spec {a : Nat} (hw : wfW .f32 a) : cond (finF a) (cond (fltB .f32 0 a) true (Int.ofNat a == 0)) false = amtF a := by
  have hw : a < 4294967296 := hw
  have n0 : nanB .f32 0 = false := by rw [nan32]; decide
  unfold finF amtF
  by_cases hx : a < 2147483648
  · have e : a % 2147483648 = a := Nat.mod_eq_of_lt hx
    rw [e]
    by_cases hf : a < 2139095040
    · have hn : nanB .f32 a = false := by rw [nan32, e]; simp; omega
      rw [flt_key .f32 n0 hn, show FloatKind.f32.format = Ieee.single from rfl, key32 hw, key32 (by decide)]
      simp only [hx, hf, decide_true, cond_true, if_true]
      by_cases h0 : a = 0
      · subst h0; rfl
      · have : (0 : Int) < (a : Int) := by omega
        simp; omega
    · simp [hf]
  · have e : a % 2147483648 = a - 2147483648 := by omega
    rw [e]
    have hf : ¬ a < 2139095040 := by omega
    simp only [hf, decide_false]
    by_cases hy : a - 2147483648 < 2139095040
    · have hn : nanB .f32 a = false := by rw [nan32, e]; simp; omega
      rw [flt_key .f32 n0 hn, show FloatKind.f32.format = Ieee.single from rfl, key32 hw, key32 (by decide)]
      simp only [hx, hy, decide_true, cond_true, if_false]
      have h1 : ¬ ((if 0 < 2147483648 then ((0 : Nat) : Int) else 2147483648 - ((0 : Nat) : Int)) < 2147483648 - (a : Int)) := by simp; omega
      simp only [h1, decide_false, cond_false]
      simp; omega
    · simp [hy]

theorem amt_cond (a : Nat) : cond (finF a) (cond (fltB .f32 0 a) true (!nanB .f32 a && true)) true = true := by
  unfold finF
  by_cases h : a % 2147483648 < 2139095040
  · have hn : nanB .f32 a = false := by rw [nan32]; simp; omega
    simp [h, hn]
  · simp [h]
end Go.Ab

namespace Go.Ab
open Go Go.RowKit
set_option linter.unusedVariables false
section
variable {P : Program}

def ctr1 (g : Nat → AVal) : Ctr := ⟨fun args _ => match args with | [.flt .f32 a] => some ⟨g a, [], [], [], true, none⟩ | _ => none, none⟩
def ctr2 (g : Nat → Nat → AVal) : Ctr := ⟨fun args _ => match args with | [.flt .f32 a, .flt .f32 b] => some ⟨g a b, [], [], [], true, none⟩ | _ => none, none⟩
def ctrD2 (g : Nat → Nat → AVal) : Ctr := ⟨fun args _ => match args with | [.flt .f64 a, .flt .f64 b] => some ⟨g a b, [], [], [], true, none⟩ | _ => none, none⟩
def ctr3 (g : Nat → Nat → Nat → AVal) : Ctr := ⟨fun args _ => match args with | [.flt .f32 a, .flt .f32 b, .flt .f32 c] => some ⟨g a b c, [], [], [], true, none⟩ | _ => none, none⟩

theorem sat1 {Γ : List (Nat × Ctr)} (hΓ : Good P Γ) (hm : P.follows .mixedOrders = true) {f : FuncId} {fn : Func} (hf : P.funcs[f]? = some fn)
    (hcall : ∀ (args : Array Value) (w : World), (callFunc f args).run P w = .ok (.enter f args) w) {g : Nat → AVal} (fuel : Nat) (g0 : Nat → AVal)
    (he : ∀ a, evBody P Γ fuel fn [.flt .f32 a] St0 = some ⟨g0 a, [], [], [], true, none⟩) (h : ∀ a, wfW .f32 a → ∀ ρ u, V ρ (g0 a) u → V ρ (g a) u) (hfl : ∀ a, (g0 a).flat = true := by intros; rfl) : Sat P f (ctr1 g) :=
  sat_flat hΓ hm hf hcall (fun args S out hfn hn hv => by
    obtain ⟨ρ, vs, hv⟩ := hv
    simp only [ctr1] at hfn
    split at hfn
    · rename_i a
      cases hfn
      unfold VL at hv
      obtain ⟨_, _, _, h1, hv⟩ := hv
      exact ⟨rfl, fuel, g0 a, he a, hfl a, rfl, h a (V_wf h1)⟩
    · cases hfn) rfl

theorem sat2 {Γ : List (Nat × Ctr)} (hΓ : Good P Γ) (hm : P.follows .mixedOrders = true) {f : FuncId} {fn : Func} (hf : P.funcs[f]? = some fn)
    (hcall : ∀ (args : Array Value) (w : World), (callFunc f args).run P w = .ok (.enter f args) w) {g : Nat → Nat → AVal} (fuel : Nat) (g0 : Nat → Nat → AVal)
    (he : ∀ a b, evBody P Γ fuel fn [.flt .f32 a, .flt .f32 b] St0 = some ⟨g0 a b, [], [], [], true, none⟩) (h : ∀ a b, wfW .f32 a → wfW .f32 b → ∀ ρ u, V ρ (g0 a b) u → V ρ (g a b) u) (hfl : ∀ a b, (g0 a b).flat = true := by intros; rfl) : Sat P f (ctr2 g) :=
  sat_flat hΓ hm hf hcall (fun args S out hfn hn hv => by
    obtain ⟨ρ, vs, hv⟩ := hv
    simp only [ctr2] at hfn
    split at hfn
    · rename_i a b
      cases hfn
      unfold VL at hv
      obtain ⟨_, _, _, h1, hv⟩ := hv
      unfold VL at hv
      obtain ⟨_, _, _, h2, hv⟩ := hv
      exact ⟨rfl, fuel, g0 a b, he a b, hfl a b, rfl, h a b (V_wf h1) (V_wf h2)⟩
    · cases hfn) rfl

theorem satD2 {Γ : List (Nat × Ctr)} (hΓ : Good P Γ) (hm : P.follows .mixedOrders = true) {f : FuncId} {fn : Func} (hf : P.funcs[f]? = some fn)
    (hcall : ∀ (args : Array Value) (w : World), (callFunc f args).run P w = .ok (.enter f args) w) {g : Nat → Nat → AVal} (fuel : Nat) (g0 : Nat → Nat → AVal)
    (he : ∀ a b, evBody P Γ fuel fn [.flt .f64 a, .flt .f64 b] St0 = some ⟨g0 a b, [], [], [], true, none⟩) (h : ∀ a b, wfW .f64 a → wfW .f64 b → ∀ ρ u, V ρ (g0 a b) u → V ρ (g a b) u) (hfl : ∀ a b, (g0 a b).flat = true := by intros; rfl) : Sat P f (ctrD2 g) :=
  sat_flat hΓ hm hf hcall (fun args S out hfn hn hv => by
    obtain ⟨ρ, vs, hv⟩ := hv
    simp only [ctrD2] at hfn
    split at hfn
    · rename_i a b
      cases hfn
      unfold VL at hv
      obtain ⟨_, _, _, h1, hv⟩ := hv
      unfold VL at hv
      obtain ⟨_, _, _, h2, hv⟩ := hv
      exact ⟨rfl, fuel, g0 a b, he a b, hfl a b, rfl, h a b (V_wf h1) (V_wf h2)⟩
    · cases hfn) rfl

theorem sat3 {Γ : List (Nat × Ctr)} (hΓ : Good P Γ) (hm : P.follows .mixedOrders = true) {f : FuncId} {fn : Func} (hf : P.funcs[f]? = some fn)
    (hcall : ∀ (args : Array Value) (w : World), (callFunc f args).run P w = .ok (.enter f args) w) {g : Nat → Nat → Nat → AVal} (fuel : Nat) (g0 : Nat → Nat → Nat → AVal)
    (he : ∀ a b c, evBody P Γ fuel fn [.flt .f32 a, .flt .f32 b, .flt .f32 c] St0 = some ⟨g0 a b c, [], [], [], true, none⟩) (h : ∀ a b c, wfW .f32 a → wfW .f32 b → wfW .f32 c → ∀ ρ u, V ρ (g0 a b c) u → V ρ (g a b c) u) (hfl : ∀ a b c, (g0 a b c).flat = true := by intros; rfl) : Sat P f (ctr3 g) :=
  sat_flat hΓ hm hf hcall (fun args S out hfn hn hv => by
    obtain ⟨ρ, vs, hv⟩ := hv
    simp only [ctr3] at hfn
    split at hfn
    · rename_i a b c
      cases hfn
      unfold VL at hv
      obtain ⟨_, _, _, h1, hv⟩ := hv
      unfold VL at hv
      obtain ⟨_, _, _, h2, hv⟩ := hv
      unfold VL at hv
      obtain ⟨_, _, _, h3, hv⟩ := hv
      exact ⟨rfl, fuel, g0 a b c, he a b c, hfl a b c, rfl, h a b c (V_wf h1) (V_wf h2) (V_wf h3)⟩
    · cases hfn) rfl

/-- A number is the same as itself. -/
theorem same_self (k : FloatKind) (a z o : Nat) : (cond (cond (!feqB k a a) true (!feqB k a a)) (cond (!feqB k a a) (!feqB k a a) false) (cond (cond (feqB k a z) (feqB k a z) false) (fltB k z (fop .quo k o a) == fltB k z (fop .quo k o a)) (feqB k a a))) = true := by
  cases feqB k a a <;> cases feqB k a z <;> simp

/-- The law's way of naming 'the same number' of two words of double. -/
noncomputable def same64 (a b : Nat) : Bool := cond (cond (!feqB .f64 a a) true (!feqB .f64 b b)) (cond (!feqB .f64 a a) (!feqB .f64 b b) false) (cond (cond (feqB .f64 a 0) (feqB .f64 b 0) false) (fltB .f64 0 (fop .quo .f64 4607182418800017408 a) == fltB .f64 0 (fop .quo .f64 4607182418800017408 b)) (feqB .f64 a b))
theorem same64_self (a : Nat) : same64 a a = true := same_self .f64 a _ _
end
end Go.Ab

namespace Go.Ab
open Go

theorem wide_rung {x : Nat} {s : Bool} {m : Nat} {e : Int} (h : FloatKind.f32.format.read x = .number s m e) :
    ∃ rung, rung < 2047 * 2 ^ 52 ∧ FloatKind.f64.encode (.number s m e) = Ieee.double.word s rung := by
  obtain ⟨hm, he1, he2⟩ := single_number h
  have hb : Ieee.double.binade = 2 ^ 52 := rfl
  have hi : Ieee.double.infRung = 2047 * 2 ^ 52 := rfl
  have hl : Ieee.double.leastPlace = -1074 := rfl
  have hf : Ieee.double.fractionBits = 52 := rfl
  show ∃ rung, rung < 2047 * 2 ^ 52 ∧ Ieee.double.nearest s m e = Ieee.double.word s rung
  unfold Ieee.Format.nearest
  split
  · exact ⟨0, by decide, rfl⟩
  · rename_i hm0
    have hlog : m.log2 < 24 := (Nat.log2_lt hm0).2 hm
    have hlo : 2 ^ m.log2 ≤ m := Nat.log2_self_le hm0
    have hhi : m < 2 ^ (m.log2 + 1) := Nat.lt_log2_self
    simp only [hl, hf, hb, hi]
    have elast : max (e + (m.log2 : Int) - ((52 : Nat) : Int)) (-1074) = e + (m.log2 : Int) - 52 := by omega
    rw [elast]
    have e1 : (e - (e + (m.log2 : Int) - 52)).toNat = 52 - m.log2 := by omega
    have e2 : (e + (m.log2 : Int) - 52 - e).toNat = 0 := by omega
    rw [e1, e2]
    have ecut : Ieee.Toward.even.cut s (m <<< (52 - m.log2)) 0 = m <<< (52 - m.log2) := by
      simp [Ieee.Toward.cut, Nat.mod_one]
    rw [ecut, Nat.shiftLeft_eq]
    have hk : m * 2 ^ (52 - m.log2) < 2 ^ 53 := by
      calc m * 2 ^ (52 - m.log2) < 2 ^ (m.log2 + 1) * 2 ^ (52 - m.log2) := Nat.mul_lt_mul_of_pos_right hhi (Nat.two_pow_pos _)
        _ = 2 ^ 53 := by rw [← Nat.pow_add]; congr 1; omega
    have hq : (e + (m.log2 : Int) - 52 - -1074).toNat ≤ 1149 := by omega
    have hq2 : (e + (m.log2 : Int) - 52 - -1074).toNat * 2 ^ 52 ≤ 1149 * 2 ^ 52 := Nat.mul_le_mul_right _ hq
    exact ⟨_, Nat.lt_of_le_of_lt (Nat.min_le_left _ _) (by omega), rfl⟩

theorem wide_word {x : Nat} (h : finF x = true) : ∃ rung, rung < 2047 * 2 ^ 52 ∧ wide x = Ieee.double.word (x / 2147483648 % 2 == 1) rung := by
  unfold finF at h
  have h := of_decide_eq_true h
  obtain ⟨m, p, hr, _⟩ := read_number .f32 (x := x) h
  obtain ⟨rung, h1, h2⟩ := wide_rung hr
  refine ⟨rung, h1, ?_⟩
  rw [wide_eq]; unfold wideImpl floatToFloatBits FloatKind.decode
  rw [if_neg (by decide), hr]
  simp only [wide_finite hr]
  exact h2

theorem wide_nan {a : Nat} : cond (finF a) (!nanB .f64 (wide a) && true) true = true := by
  cases h : finF a with
  | false => rfl
  | true =>
    obtain ⟨rung, h1, h2⟩ := wide_word h
    have hs : FloatKind.f64.format.signWeight = 2 ^ 63 := rfl
    have hi : FloatKind.f64.format.infRung = 2047 * 2 ^ 52 := rfl
    have e1 : Ieee.double.word (a / 2147483648 % 2 == 1) rung % 2 ^ 63 = rung := by
      have hs : Ieee.double.signWeight = 2 ^ 63 := rfl
      unfold Ieee.Format.word; rw [hs]; cases (a / 2147483648 % 2 == 1) <;> simp <;> omega
    have : nanB .f64 (wide a) = false := by
      rw [nanB_iff, h2, hs, hi, e1]; simp; omega
    rw [this]; rfl

theorem wrap_pos (n : Nat) (h : n < 2 ^ 63) : IntKind.i64.wrap (Int.ofNat n) = (n : Int) := by
  unfold IntKind.wrap
  have e1 : (2 ^ IntKind.i64.bits : Int) = 18446744073709551616 := by decide
  have e2 : (2 ^ (IntKind.i64.bits - 1) : Int) = 9223372036854775808 := by decide
  have e3 : IntKind.i64.signed = true := rfl
  rw [e1, e2, e3]
  have : (Int.ofNat n) % 18446744073709551616 = n := by
    show (n : Int) % _ = _
    omega
  simp only [this]
  split
  · rename_i h1; simp at h1; omega
  · rfl
theorem wrap_neg (n : Nat) (h : n < 2 ^ 63) : IntKind.i64.wrap (Int.ofNat (2 ^ 63 + n)) = (n : Int) - 9223372036854775808 := by
  unfold IntKind.wrap
  have e1 : (2 ^ IntKind.i64.bits : Int) = 18446744073709551616 := by decide
  have e2 : (2 ^ (IntKind.i64.bits - 1) : Int) = 9223372036854775808 := by decide
  have e3 : IntKind.i64.signed = true := rfl
  rw [e1, e2, e3]
  have : (Int.ofNat (2 ^ 63 + n)) % 18446744073709551616 = 9223372036854775808 + n := by
    show ((2 ^ 63 + n : Nat) : Int) % _ = _
    omega
  simp only [this]
  split
  · omega
  · rename_i h1; simp at h1; omega

theorem wide_neg {a : Nat} (hw : wfW .f32 a) : cond (finF a) (!decide (IntKind.i64.wrap (Int.ofNat (wide a)) < 0)) false = amtF a := by
  have hw : a < 4294967296 := hw
  cases h : finF a with
  | false =>
    unfold finF at h; unfold amtF
    have := of_decide_eq_false h
    symm; simp; omega
  | true =>
    obtain ⟨rung, h1, h2⟩ := wide_word h
    unfold finF at h; unfold amtF
    have h := of_decide_eq_true h
    have hs : Ieee.double.signWeight = 2 ^ 63 := rfl
    rw [h2]
    unfold Ieee.Format.word; rw [hs]
    by_cases hx : a < 2147483648
    · have e : a / 2147483648 = 0 := Nat.div_eq_of_lt hx
      rw [e]
      have : a < 2139095040 := by omega
      have hr := wrap_pos rung (by omega)
      simp only [this, decide_true, cond_true]
      simp only [Nat.zero_mod, if_false, hr, beq_iff_eq, Nat.zero_ne_one]
      simp
    · have e : a / 2147483648 = 1 := by omega
      rw [e]
      have : ¬ a < 2139095040 := by omega
      have hr := wrap_neg rung (by omega)
      simp only [this, decide_false, cond_true]
      have e2 : (if (1 % 2 == 1) = true then 2 ^ 63 + rung else rung) = 2 ^ 63 + rung := by simp
      first | rw [e2] | simp only [Nat.one_mod, beq_self_eq_true, if_true]
      rw [hr]; simp; omega
end Go.Ab

namespace Go.Ab
open Go
theorem lit32 {a : Nat} (h : (Lit.float .f32 a).wf = true) : wfW .f32 a := by
  have := of_decide_eq_true (show decide (a < 2 ^ 32) = true from h)
  show a < _
  exact this
theorem neq_self (b : Bool) : cond (b != b) false true = true := by cases b <;> rfl
theorem neq_self2 {a b : Bool} (h : a = b) : cond (a != b) false true = true := by subst h; exact neq_self a
end Go.Ab

namespace Go.Ab
open Go
noncomputable def nbF (a : Nat) : Int := cond (!feqB .f32 a a) 2143289344 (Int.ofNat a)
theorem nb_cond (a : Nat) : cond (!feqB .f32 a a) true (!nanB .f32 a) = true := by
  rw [feq_self]; cases nanB .f32 a <;> rfl
theorem same_cond (a b : Nat) : cond (cond (!feqB .f32 a a) true (!feqB .f32 b b)) true (!nanB .f32 a && !nanB .f32 b) = true := by
  rw [feq_self, feq_self]; cases nanB .f32 a <;> cases nanB .f32 b <;> rfl
theorem same_spec (a b : Nat) : cond (cond (!feqB .f32 a a) true (!feqB .f32 b b)) (cond (!feqB .f32 a a) (!feqB .f32 b b) false) (Int.ofNat a == Int.ofNat b) = (nbF a == nbF b) := by
  have key : ∀ x, nanB .f32 x = false → ¬ Int.ofNat x = 2143289344 := by
    intro x hx h
    rw [nan32] at hx
    have := of_decide_eq_false hx
    have h : (x : Int) = 2143289344 := h
    omega
  unfold nbF
  rw [feq_self, feq_self]
  cases ha : nanB .f32 a <;> cases hb : nanB .f32 b
  · simp
  · have := key a ha
    simp only [Bool.not_false, Bool.not_true, cond_true, cond_false]
    symm; simpa using this
  · have := key b hb
    simp only [Bool.not_false, Bool.not_true, cond_true, cond_false]
    symm; simpa using fun h => this h.symm
  · simp
/-- Kilos. -/
def kilF (a : Nat) : Bool := decide (a ≤ 1092616192)
theorem fle_ten {a : Nat} (h : amtF a = true) : fleB .f32 a 1092616192 = kilF a ∧ fltB .f32 1092616192 a = !kilF a := by
  have h := of_decide_eq_true (show decide (a < 2139095040) = true from h)
  have hn : nanB .f32 a = false := by rw [nan32]; simp; omega
  have n1 : nanB .f32 1092616192 = false := by rw [nan32]; decide
  rw [fle_key .f32 hn n1, flt_key .f32 n1 hn, show FloatKind.f32.format = Ieee.single from rfl, key32 (by omega), key32 (by decide)]
  have hx : a < 2147483648 := by omega
  simp only [hx, if_true]
  unfold kilF
  constructor
  · simp; omega
  · by_cases h2 : a ≤ 1092616192
    · simp [h2]; omega
    · simp [h2]; omega
theorem kil_amt (a : Nat) (h : amtF a = false) : kilF a = false := by
  have := of_decide_eq_false (show decide (a < 2139095040) = false from h)
  unfold kilF; simp; omega
theorem kil_impl (a : Nat) : cond (amtF a) (fleB .f32 a 1092616192) false = kilF a := by
  cases h : amtF a with
  | false => rw [kil_amt a h]; rfl
  | true => rw [(fle_ten h).1]; rfl
/-- As the model asks it. -/
theorem kil_spec (a : Nat) (x : Bool) : cond (!amtF a) true (cond (fltB .f32 1092616192 a) true x) = cond (!kilF a) true x := by
  cases h : amtF a with
  | false => rw [kil_amt a h]; rfl
  | true => rw [(fle_ten h).2]; cases kilF a <;> rfl
end Go.Ab

namespace Go.Ab
open Go
noncomputable def btwF (h : Nat) : Bool := cond (fleB .f32 3262119936 h) (fleB .f32 h 1153138688) false
noncomputable def okL (w h f : Nat) (x : Bool) : Bool := cond (cond (!kilF w) true (cond (!kilF f) true (!btwF h))) false x
noncomputable def okS (w h f : Nat) (x : Bool) : Bool := cond (cond (!amtF w) true (cond (fltB .f32 1092616192 w) true (cond (!amtF f) true (cond (fltB .f32 1092616192 f) true (cond (fleB .f32 3262119936 h) (!fleB .f32 h 1153138688) (!false)))))) false x
theorem okS_eq (w h f : Nat) (x : Bool) : okS w h f x = okL w h f x := by
  have e : cond (fleB .f32 3262119936 h) (!fleB .f32 h 1153138688) (!false) = !btwF h := by unfold btwF; cases fleB .f32 3262119936 h <;> rfl
  unfold okS okL; rw [e, kil_spec w, kil_spec f]
noncomputable def validI : List Nat → Bool
  | [a0, a1, a2, a3, a4, a5, b0, b1, b2, b3, b4, b5, c0, c1, c2, c3, c4, c5] => okL a0 b0 c0 (okL a1 b1 c1 (okL a2 b2 c2 (okL a3 b3 c3 (okL a4 b4 c4 (okL a5 b5 c5 true)))))
  | _ => false
noncomputable def validS : List Nat → Bool
  | [a0, a1, a2, a3, a4, a5, b0, b1, b2, b3, b4, b5, c0, c1, c2, c3, c4, c5] => okS a0 b0 c0 (okS a1 b1 c1 (okS a2 b2 c2 (okS a3 b3 c3 (okS a4 b4 c4 (okS a5 b5 c5 true)))))
  | _ => false
theorem validS_eq (ns : List Nat) : validS ns = validI ns := by
  unfold validS validI
  split
  · simp only [okS_eq]
  · rfl
/-- Whether a log is valid, its text shut. -/
theorem vOp_ex : ∃ f, f = validI := ⟨_, rfl⟩
noncomputable def vOp : List Nat → Bool := Classical.choose vOp_ex
theorem vOp_eq : vOp = validI := Classical.choose_spec vOp_ex

def ctrW (g : List Nat → AVal) : Ctr := ⟨fun args _ => match args with | [.agg l] => (match decN 18 l with | some ns => some ⟨g ns, [], [], [], true, none⟩ | none => none) | _ => none, none⟩
def ctrWp (g : List Nat → AVal) : Ctr := ⟨fun args S => match args with | [.ptr i o] => (match S.cellsAt i o 18 with | some l => (match decN 18 l with | some ns => some ⟨g ns, [], [], [], true, none⟩ | none => none) | none => none) | _ => none, none⟩
section
variable {P : Program}
theorem satW {Γ : List (Nat × Ctr)} (hΓ : Good P Γ) (hm : P.follows .mixedOrders = true) {f : FuncId} {fn : Func} (hf : P.funcs[f]? = some fn)
    (hcall : ∀ (args : Array Value) (w : World), (callFunc f args).run P w = .ok (.enter f args) w) {g : List Nat → AVal} (fuel : Nat) (g0 : List Nat → AVal)
    (he : ∀ ns, ns.length = 18 → evBody P Γ fuel fn [.agg (encF ns)] St0 = some ⟨g0 ns, [], [], [], true, none⟩) (h : ∀ ns, ns.length = 18 → ∀ ρ u, V ρ (g0 ns) u → V ρ (g ns) u) (hfl : ∀ ns, (g0 ns).flat = true := by intros; rfl) : Sat P f (ctrW g) :=
  sat_flat hΓ hm hf hcall (fun args S out hfn hn hv => by
    simp only [ctrW] at hfn
    split at hfn
    · split at hfn
      · rename_i ns hd
        cases hfn
        obtain ⟨rfl, hl⟩ := decN_spec hd
        exact ⟨by simp only [AVal.flat.flatL, AVal.flat, encF_flat], fuel, g0 ns, he ns hl, hfl ns, rfl, h ns hl⟩
      · cases hfn
    · cases hfn) rfl
theorem satWp {Γ : List (Nat × Ctr)} (hΓ : Good P Γ) (hm : P.follows .mixedOrders = true) {f : FuncId} {fn : Func} (hf : P.funcs[f]? = some fn)
    (hcall : ∀ (args : Array Value) (w : World), (callFunc f args).run P w = .ok (.enter f args) w) {g : List Nat → AVal} (fuel : Nat) (g0 : List Nat → AVal)
    (he : ∀ ns, ns.length = 18 → evBody P Γ fuel fn [.ptr 0 0] (St1 (encF ns)) = some ⟨g0 ns, [], [], [], true, none⟩) (h : ∀ ns, ns.length = 18 → ∀ ρ u, V ρ (g0 ns) u → V ρ (g ns) u) (hfl : ∀ ns, (g0 ns).flat = true := by intros; rfl) : Sat P f (ctrWp g) :=
  sat_view (n := 18) hΓ hm hf hcall (fun args S out hfn hn => by
    simp only [ctrWp] at hfn
    split at hfn
    · rename_i i o
      split at hfn
      · rename_i l hl
        split at hfn
        · rename_i ns hd
          cases hfn
          obtain ⟨rfl, hlen⟩ := decN_spec hd
          exact ⟨i, o, encF ns, rfl, hl, encF_flat ns, fuel, g0 ns, he ns hlen, hfl ns, rfl, h ns hlen⟩
        · cases hfn
      · cases hfn
    · cases hfn) rfl
end
end Go.Ab

namespace Go.Ab
open Go
theorem sO_ex : ∃ f, f = same64 := ⟨_, rfl⟩
noncomputable def sO : Nat → Nat → Bool := Classical.choose sO_ex
theorem sO_eq : sO = same64 := Classical.choose_spec sO_ex
theorem sO_self (a : Nat) : sO a a = true := by rw [sO_eq]; exact same64_self a
/-- Two floats and a code, as a law asks them. -/
noncomputable def askF (x y : Nat) (c d : Int) : Bool := cond (cond (!sO (wide x) (wide y)) true (c != d)) false true
theorem askF_self (x : Nat) (c : Int) : askF x x c c = true := by unfold askF; rw [sO_self]; simp
end Go.Ab

namespace Go.Ab
open Go
noncomputable def eqRow : List Nat → List Nat → Bool
  | x :: xs, y :: ys => cond (!sO (wide x) (wide y)) false (eqRow xs ys)
  | _, _ => true
theorem eqRow_self : ∀ xs, eqRow xs xs = true
  | [] => rfl
  | x :: xs => by unfold eqRow; rw [sO_self, eqRow_self xs]; rfl
/-- Two logs, as a law asks them. -/
noncomputable def eqLog (a b c a' b' c' : List Nat) : Bool := cond (!eqRow a a') false (cond (!eqRow b b') false (cond (!eqRow c c') false true))
theorem eqLog_self (a b c : List Nat) : eqLog a b c a b c = true := by unfold eqLog; rw [eqRow_self, eqRow_self, eqRow_self]; rfl
/-- Two logs and a code. -/
noncomputable def askL (e : Bool) (c d : Int) : Bool := cond (cond (!e) true (c != d)) false true
theorem askL_self {e : Bool} (h : e = true) (c : Int) : askL e c c = true := by subst h; unfold askL; simp
def sum6 (a b c d e f : Nat) (add : Nat → Nat → Nat) : Nat := add (add (add (add (add a b) c) d) e) f
end Go.Ab

namespace Go.Ab
open Go
/-- held between two bounds -/
noncomputable def heldI (a lo hi : Nat) : Nat := cond (fltB .f32 a lo) lo (cond (fltB .f32 hi a) hi a)
theorem hO_ex : ∃ f, f = heldI := ⟨_, rfl⟩
noncomputable def hO : Nat → Nat → Nat → Nat := Classical.choose hO_ex
theorem hO_eq : hO = heldI := Classical.choose_spec hO_ex
/-- the mass of a layer -/
noncomputable def massI (w f : Nat) : Nat := fop .add .f32 (fop .add .f32 (fop .mul .f32 w 1082130432) (fop .mul .f32 f 1073741824)) 1048576000
theorem mO_ex : ∃ f, f = massI := ⟨_, rfl⟩
noncomputable def mO : Nat → Nat → Nat := Classical.choose mO_ex
theorem mO_eq : mO = massI := Classical.choose_spec mO_ex
/-- a share -/
noncomputable def shI (a : Nat) : Bool := cond (amtF a) (fleB .f32 a 1065353216) false
theorem shO_ex : ∃ f, f = shI := ⟨_, rfl⟩
noncomputable def shO : Nat → Bool := Classical.choose shO_ex
theorem shO_eq : shO = shI := Classical.choose_spec shO_ex
end Go.Ab

namespace Go.Ab
open Go
noncomputable def wAt (o : Option AVal) (i : Nat) : Nat := match o with
  | some (.tuple (.agg cs :: _)) => (match nth i cs with | .flt _ w => w | _ => 0)
  | _ => 0
noncomputable def wT (o : Option AVal) (i : Nat) : Nat := match o with
  | some (.tuple cs) => (match nth i cs with | .flt _ w => w | _ => 0)
  | _ => 0
noncomputable def iT (o : Option AVal) (i : Nat) : Int := match o with
  | some (.tuple cs) => (match nth i cs with | .sint _ w => w | .int _ w => w | _ => 0)
  | _ => 0
noncomputable def oV (o : Option Out) : Option AVal := match o with | some o => some o.v | none => none
noncomputable def logQ (R R' : Option AVal) : Bool := eqLog [wAt R 0, wAt R 1, wAt R 2, wAt R 3, wAt R 4, wAt R 5] [wAt R 6, wAt R 7, wAt R 8, wAt R 9, wAt R 10, wAt R 11] [wAt R 12, wAt R 13, wAt R 14, wAt R 15, wAt R 16, wAt R 17] [wAt R' 0, wAt R' 1, wAt R' 2, wAt R' 3, wAt R' 4, wAt R' 5] [wAt R' 6, wAt R' 7, wAt R' 8, wAt R' 9, wAt R' 10, wAt R' 11] [wAt R' 12, wAt R' 13, wAt R' 14, wAt R' 15, wAt R' 16, wAt R' 17]
theorem logQ_self (R : Option AVal) : logQ R R = true := eqLog_self _ _ _
/-- A log, a float and a code, as a law asks them. -/
noncomputable def askW (R R' : Option AVal) : Bool := cond (cond (!logQ R R') true (cond (!sO (wide (wT R 1)) (wide (wT R' 1))) true (iT R 2 != iT R' 2))) false true
theorem askW_self (R : Option AVal) : askW R R = true := by unfold askW; rw [logQ_self, sO_self]; simp
theorem askW_of {R R' : Option AVal} (h : R = R') : askW R R' = true := by subst h; exact askW_self R
/-- A log, two floats and a code. -/
noncomputable def askW2 (R R' : Option AVal) : Bool := cond (cond (!logQ R R') true (cond (!sO (wide (wT R 1)) (wide (wT R' 1))) true (cond (!sO (wide (wT R 2)) (wide (wT R' 2))) true (iT R 3 != iT R' 3)))) false true
theorem askW2_self (R : Option AVal) : askW2 R R = true := by unfold askW2; rw [logQ_self, sO_self, sO_self]; simp
/-- A log, three floats and a code. -/
noncomputable def askW3 (R R' : Option AVal) : Bool := cond (cond (!logQ R R') true (cond (!sO (wide (wT R 1)) (wide (wT R' 1))) true (cond (!sO (wide (wT R 2)) (wide (wT R' 2))) true (cond (!sO (wide (wT R 3)) (wide (wT R' 3))) true (iT R 4 != iT R' 4))))) false true
theorem askW3_self (R : Option AVal) : askW3 R R = true := by unfold askW3; rw [logQ_self, sO_self, sO_self, sO_self]; simp
end Go.Ab

namespace Go.Ab
open Go Go.RowKit
set_option linter.unusedVariables false
/-! ### Arguments of several kinds -/
/-- The cells of an element of a shape. -/
def encC (fd : Nat → Nat) (gd : Nat → Int) (bd : Nat → Bool) : Nat → List CK → List AVal
  | _, [] => []
  | o, .f32 :: r => .flt .f32 (fd o) :: encC fd gd bd (o + 1) r
  | o, .int t :: r => .sint t (gd o) :: encC fd gd bd (o + 1) r
  | o, .bool :: r => .sbool (bd o) :: encC fd gd bd (o + 1) r

def ckT (P : Program) (t : TypeId) : Option CK :=
  match P.underlying t with
  | some (.float .f32) => some .f32
  | some (.int k) => some (.int k)
  | some .bool => some .bool
  | _ => none

def ckTs (P : Program) : List TypeId → Option (List CK)
  | [] => some []
  | t :: r => match ckT P t, ckTs P r with
    | some c, some l => some (c :: l)
    | _, _ => none

def wV : Value → Nat | .float _ b => b | _ => 0
def gV : Value → Int | .int _ n => n | _ => 0
def bV : Value → Bool | .bool b => b | _ => false

theorem enc_of_cells {P : Program} {ρ : Rho} (fd : Nat → Nat) (gd : Nat → Int) (bd : Nat → Bool) : ∀ (ts : List TypeId) (sh : List CK) (vs : List Value) (o : Nat), ckTs P ts = some sh → vs.length = ts.length →
    (∀ (i : Nat) (v : Value) (t : TypeId), vs[i]? = some v → ts[i]? = some t → fd (o + i) = wV v ∧ gd (o + i) = gV v ∧ bd (o + i) = bV v ∧ ∀ c, ckT P t = some c → match c with | .f32 => ∃ b, v = .float .f32 b ∧ wfW .f32 b | .int k => ∃ n, v = .int k n | .bool => ∃ b, v = .bool b) →
    VL ρ (encC fd gd bd o sh) vs
  | [], sh, vs, o, h, hl, _ => by
    simp only [ckTs, Option.some.injEq] at h
    subst h
    cases vs with
    | nil => simp [encC, VL]
    | cons v vs => simp at hl
  | t :: ts, sh, vs, o, h, hl, hc => by
    unfold ckTs at h
    split at h
    · rename_i c l h1 h2
      cases h
      cases vs with
      | nil => simp at hl
      | cons v vs =>
        obtain ⟨e1, e2, e3, hk⟩ := hc 0 v t rfl rfl
        have hk := hk c h1
        have IH := enc_of_cells (P := P) (ρ := ρ) fd gd bd ts l vs (o + 1) h2 (by simpa using hl) (fun i v t hv ht => by
          have := hc (i + 1) v t (by simpa using hv) (by simpa using ht)
          have e : o + (i + 1) = o + 1 + i := by omega
          rw [e] at this
          exact this)
        cases c with
        | f32 =>
          obtain ⟨b, rfl, hb⟩ := hk
          show VL ρ (.flt .f32 (fd o) :: encC fd gd bd (o + 1) l) _
          unfold VL
          have e1 : fd o = b := e1
          exact ⟨_, vs, rfl, by rw [e1]; unfold V; exact ⟨b, rfl, sameW.refl _ _, hb, hb⟩, IH⟩
        | int k =>
          obtain ⟨n, rfl⟩ := hk
          show VL ρ (.sint k (gd o) :: encC fd gd bd (o + 1) l) _
          unfold VL
          have e2 : gd o = n := e2
          exact ⟨_, vs, rfl, by rw [e2]; unfold V; rfl, IH⟩
        | bool =>
          obtain ⟨b, rfl⟩ := hk
          show VL ρ (.sbool (bd o) :: encC fd gd bd (o + 1) l) _
          unfold VL
          have e3 : bd o = b := e3
          exact ⟨_, vs, rfl, by rw [e3]; unfold V; rfl, IH⟩
    · cases h

/-- A struct or an array of such cells, opened. -/
theorem open_cells {P : Program} {W : World} {r : Reach} {base : Nat} {t : TypeId} {v : Value} {ts : List TypeId} {sh : List CK} (hagg : (match P.underlying t with | some (.struct _) | some (.array _ _) => true | _ => false) = true)
    (hct : P.cellTypes P.depth t = some ts) (hn : P.cellsOf t = ts.length) (hk : ckTs P ts = some sh) (h : Value.okWide P W r base t v) :
    ∃ fd gd bd vs, v = .agg ⟨vs⟩ ∧ VL noRho (encC fd gd bd 0 sh) vs := by
  unfold Value.okWide at h
  have h' : ∃ cs, v = .agg cs ∧ cs.size = P.cellsOf t ∧ Row.okWide P W r base t cs := by
    cases hu : P.underlying t with
    | none => rw [hu] at hagg; cases hagg
    | some d => rw [hu] at hagg h; cases d <;> first | exact h | cases hagg
  obtain ⟨cs, rfl, hsz, ts', hts, _, hcells⟩ := h'
  rw [hct] at hts; cases hts
  obtain ⟨vs⟩ := cs
  have hlen : vs.length = ts.length := by simpa [hn] using hsz
  refine ⟨fun i => wV (vs[i]?.getD undef), fun i => gV (vs[i]?.getD undef), fun i => bV (vs[i]?.getD undef), vs, rfl, enc_of_cells (P := P) _ _ _ ts sh vs 0 hk hlen (fun i v t hv ht => ?_)⟩
  refine ⟨by simp [hv], by simp [hv], by simp [hv], fun c hc => ?_⟩
  obtain ⟨u, hu, hok⟩ := hcells i v (by simpa using hv)
  have hut : u = t := by
    have hlt : i < ts.length := by
      rcases Nat.lt_or_ge i ts.length with h | h
      · exact h
      · rw [List.getElem?_eq_none h] at ht; cases ht
    rw [Nat.mod_eq_of_lt hlt, ht] at hu; cases hu; rfl
  subst hut
  unfold ckT at hc
  unfold Cell.okWide at hok
  split at hc
  · rename_i hf
    cases hc
    rw [hf] at hok
    cases v <;> simp [Cell.ok, hf] at hok
    obtain ⟨rfl, hb⟩ := hok
    exact ⟨_, rfl, hb⟩
  · rename_i k hf
    cases hc
    rw [hf] at hok
    cases v <;> simp [Cell.ok, hf] at hok
    obtain ⟨rfl, hb⟩ := hok
    exact ⟨_, rfl⟩
  · rename_i hf
    cases hc
    rw [hf] at hok
    cases v <;> simp [Cell.ok, hf] at hok
    exact ⟨_, rfl⟩
  · cases hc

theorem VL_hd {ρ : Rho} {k : FloatKind} {a : Nat} {r : List AVal} {vs : List Value} (h : VL ρ (.flt k a :: r) vs) : wfW k a := by
  unfold VL at h
  obtain ⟨v, vs', rfl, h1, h2⟩ := h
  exact V_wf h1
theorem VL_tl {ρ : Rho} {x : AVal} {r : List AVal} {vs : List Value} (h : VL ρ (x :: r) vs) : ∃ vs', VL ρ r vs' := by
  unfold VL at h
  obtain ⟨v, vs', rfl, h1, h2⟩ := h
  exact ⟨vs', h2⟩
/-- A float and a code. -/
noncomputable def askT (R R' : Option AVal) : Bool := cond (cond (!sO (wide (wT R 0)) (wide (wT R' 0))) true (iT R 1 != iT R' 1)) false true
theorem askT_self (R : Option AVal) : askT R R = true := by unfold askT; rw [sO_self]; simp
theorem askT_of {R R' : Option AVal} (h : R = R') : askT R R' = true := by subst h; exact askT_self R
end Go.Ab
