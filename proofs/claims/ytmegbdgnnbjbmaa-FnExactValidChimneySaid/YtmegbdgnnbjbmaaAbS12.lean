import Derived.Test.YtmegbdgnnbjbmaaAbS10
import Derived.Orders
namespace Go.Ab
open Go Go.RowKit
set_option linter.unusedVariables false

/-! ### 10. A region that draws its order -/
def putE (E : Nat → AVal) (dst : Option Nat) (v : AVal) : Nat → AVal := fun t => if dst = some t then v else E t

def envN : (Nat → AVal) → List (Option Nat) → List AVal → Nat → AVal
  | E, d :: ds, v :: vs => envN (putE E d v) ds vs
  | E, _, _ => E

/-- The same memory. -/
structure AlkM (S S' : St) : Prop where
  hp : S'.hp = S.hp
  hv : ∀ i o, hlookL i o S'.hvs = hlookL i o S.hvs
  vv : ∀ i, vlookL i S'.vvs = vlookL i S.vvs

theorem AlkM.refl (S : St) : AlkM S S := ⟨rfl, fun _ _ => rfl, fun _ => rfl⟩
theorem AlkM.trans {A B C : St} (h : AlkM A B) (k : AlkM B C) : AlkM A C := ⟨k.hp.trans h.hp, fun i o => (k.hv i o).trans (h.hv i o), fun i => (k.vv i).trans (h.vv i)⟩
theorem AlkM.symm {A B : St} (h : AlkM A B) : AlkM B A := ⟨h.hp.symm, fun i o => (h.hv i o).symm, fun i => (h.vv i).symm⟩

theorem AlkM.mem {M : Addr → Prop} {w0 : World} {ρ : Rho} {S S' : St} {w : World} (h : Mem M w0 ρ S w) (k : AlkM S S') : Mem M w0 ρ S' w :=
  h.same (fun i o => by unfold St.cell St.blk; rw [k.hp, k.hv]) (fun i => by unfold St.blk; rw [k.hp]) (fun i => by unfold St.vec St.blk; rw [k.hp, k.vv]) (by rw [k.hp])
    (fun i o x hx => by rw [k.hv] at hx; rw [k.hp]; exact h.hp.ink i o x hx) (fun i x hx => by rw [k.vv] at hx; rw [k.hp]; exact h.hp.vink i x hx)

theorem AlkM.put {A B : St} (h : AlkM A B) (hv : List ((Nat × Nat) × AVal)) (vv : List (Nat × Vc)) (nw : List Blk) : AlkM (A.put hv vv nw) (B.put hv vv nw) :=
  ⟨by simp [St.put, St.ext, h.hp], fun i o => by simp only [St.put, St.ext, hlookL, h.hv], fun i => by simp only [St.put, St.ext, vlookL, h.vv]⟩

theorem alkM_put (S : St) (d : Dl) (dst : Option Nat) (v : AVal) (hv : List ((Nat × Nat) × AVal)) (vv : List (Nat × Vc)) (nw : List Blk) (nd : Bool) : AlkM ((S.ext d).put hv vv nw) (S.ext (d.put dst v hv vv nw nd)) :=
  ⟨blk_put .., fun i o => hlookL_put .., fun i => vlookL_put ..⟩

theorem alkM_nil (S : St) : AlkM S (S.put [] [] []) := ⟨by simp [St.put, St.ext], fun i o => by simp [St.put, St.ext, hlookL, hlook1], fun i => by simp [St.put, St.ext, vlookL, vlook1]⟩

theorem alkM_one (S : St) (t : Nat) (b : AVal) : AlkM S (S.ext (Dl.one t b)) :=
  ⟨by simp [Dl.one, St.ext], fun i o => by simp [Dl.one, St.ext, hlookL, hlook1], fun i => by simp [Dl.one, St.ext, vlookL, vlook1]⟩

/-! a state in which less is known, and nothing may be written -/
theorem guardL_len (n : Nat) : ∀ l : List AVal, (guardL n l).length = l.length
  | [] => rfl
  | x :: r => by simp [guardL, guardL_len n r]
theorem guardL_nth (n : Nat) : ∀ (l : List AVal) (o : Nat), o < l.length → nth o (guardL n l) = guardV n (nth o l)
  | [], o, h => by simp at h
  | x :: r, 0, _ => rfl
  | x :: r, o + 1, h => guardL_nth n r o (by simpa using h)
theorem guardH_look (n i o : Nat) : ∀ l : List ((Nat × Nat) × AVal), hlook1 i o (guardH n l) = (hlook1 i o l).map (guardV n)
  | [] => rfl
  | (k, x) :: r => by
    simp only [guardH, hlook1]
    split
    · rfl
    · exact guardH_look n i o r
theorem guardHs_look (n i o : Nat) : ∀ l : List (List ((Nat × Nat) × AVal)), hlookL i o (guardHs n l) = (hlookL i o l).map (guardV n)
  | [] => rfl
  | l :: r => by
    simp only [guardHs, hlookL, guardH_look]
    cases hlook1 i o l with
    | some v => rfl
    | none => exact guardHs_look n i o r

theorem dropB_get (n : Nat) (ks : List Nat) : ∀ (l : List Blk) (k i : Nat), (nthB i (dropB n ks k l)).wr = false ∧ ((nthB i (dropB n ks k l)).cells = [] ∨ (nthB i (dropB n ks k l)).cells = guardL n (nthB i l).cells) ∧
    ((k + i) ∈ ks → nthB i (dropB n ks k l) = ⟨[], false, none⟩) ∧
    ∀ v, (nthB i (dropB n ks k l)).vc = some v → (nthB i (dropB n ks k l)).cells = guardL n (nthB i l).cells ∧ v.wr = false ∧ ∃ u, (nthB i l).vc = some u ∧ v = ⟨u.sh, u.n, u.fd, u.gd, u.bd, false⟩
  | [], k, i => by cases i <;> simp [dropB, nthB, guardL]
  | b :: r, k, 0 => by
    simp only [dropB, nthB]
    split
    · simp
    · rename_i hm
      refine ⟨rfl, Or.inr rfl, fun hk => ?_, fun v hv => ⟨rfl, ?_⟩⟩
      · have := (memN_iff k ks).2 (by simpa using hk)
        rw [this] at hm; cases hm
      · simp only at hv
        split at hv
        · rename_i u hu; cases hv; exact ⟨rfl, u, hu, rfl⟩
        · cases hv
  | b :: r, k, i + 1 => by
    simp only [dropB, nthB]
    have := dropB_get n ks r (k + 1) i
    have e : k + 1 + i = k + (i + 1) := by omega
    rw [e] at this; exact this

theorem dropB_len (n : Nat) (ks : List Nat) : ∀ (l : List Blk) (k : Nat), (dropB n ks k l).length = l.length
  | [], k => rfl
  | b :: r, k => by simp [dropB, dropB_len n ks r]

theorem guardO_look (n t : Nat) : ∀ l : List (Nat × AVal), look1 t (guardO n l) = (look1 t l).map (guardV n)
  | [] => rfl
  | (k, x) :: r => by
    simp only [guardO, look1]
    split
    · rfl
    · exact guardO_look n t r
theorem guardOs_look (n t : Nat) : ∀ l : List (List (Nat × AVal)), lookL t (guardOs n l) = (lookL t l).map (guardV n)
  | [] => rfl
  | l :: r => by
    simp only [guardOs, lookL, guardO_look]
    cases look1 t l with
    | some v => rfl
    | none => exact guardOs_look n t r
theorem guardL_all (n : Nat) : ∀ (l : List AVal) (o : Nat), nth o (guardL n l) = guardV n (nth o l)
  | [], o => by cases o <;> rfl
  | x :: r, 0 => rfl
  | x :: r, o + 1 => guardL_all n r o
theorem over_get (S H : St) (ks : List Nat) (t : Nat) : (S.over H ks).get t = guardV H.hp.length (S.get t) := by
  show (match lookL t (guardOs H.hp.length S.ovs) with | some v => v | none => nth t (guardL H.hp.length S.fr)) = _
  rw [guardOs_look, guardL_all]
  unfold St.get
  cases lookL t S.ovs <;> rfl

theorem vlook1_roV (i : Nat) : ∀ l : List (Nat × Vc), vlook1 i (roV l) = (vlook1 i l).map fun u => ⟨u.sh, u.n, u.fd, u.gd, u.bd, false⟩
  | [] => rfl
  | (k, v) :: r => by
    simp only [roV, vlook1]
    split
    · rfl
    · exact vlook1_roV i r
theorem vlookL_roVs (i : Nat) : ∀ l : List (List (Nat × Vc)), vlookL i (roVs l) = (vlookL i l).map fun u => ⟨u.sh, u.n, u.fd, u.gd, u.bd, false⟩
  | [] => rfl
  | l :: r => by
    simp only [roVs, vlookL, vlook1_roV]
    cases vlook1 i l with
    | some v => rfl
    | none => exact vlookL_roVs i r

theorem over_cell {S H : St} {ks : List Nat} {i o : Nat} {x : AVal} (h : (S.over H ks).cell i o = some x) : i ∉ ks ∧ ∃ y, H.cell i o = some y ∧ x = guardV H.hp.length y := by
  have hd := dropB_get H.hp.length ks H.hp 0 i
  unfold St.cell at h ⊢
  have hb : (S.over H ks).blk i = nthB i (dropB H.hp.length ks 0 H.hp) := rfl
  have hh : (S.over H ks).hvs = guardHs H.hp.length H.hvs := rfl
  rw [hb, hh, guardHs_look] at h
  have hne : i ∉ ks := fun hk => by
    rw [hd.2.2.1 (by simpa using hk)] at h
    have e : Nat.ble (o + 1) ([] : List AVal).length = false := rfl
    rw [e] at h; cases h
  refine ⟨hne, ?_⟩
  rcases hd.2.1 with h1 | h1
  · rw [h1] at h
    have e : Nat.ble (o + 1) ([] : List AVal).length = false := rfl
    rw [e] at h; cases h
  · rw [h1, guardL_len] at h
    have hbl : H.blk i = nthB i H.hp := rfl
    rw [hbl]
    split at h
    · rename_i hle
      have hlt := Nat.le_of_ble_eq_true hle
      try (rw [hle]; simp only)
      rw [guardL_nth _ _ _ hlt] at h
      cases hk : hlookL i o H.hvs with
      | some y => rw [hk] at h; simp only [Option.map_some, Option.some.injEq] at h; exact ⟨y, rfl, h.symm⟩
      | none => rw [hk] at h; simp only [Option.map_none, Option.some.injEq] at h; exact ⟨_, rfl, h.symm⟩
    · cases h

theorem over_vec {S H : St} {ks : List Nat} {i : Nat} {x : Vc} (h : (S.over H ks).vec i = some x) : x.wr = false ∧ i ∉ ks ∧ ∃ u, H.vec i = some u ∧ u.sh = x.sh ∧ u.n = x.n ∧ ∀ k o c, u.mkA k o c = x.mkA k o c := by
  have hd := dropB_get H.hp.length ks H.hp 0 i
  unfold St.vec at h ⊢
  have hb : (S.over H ks).blk i = nthB i (dropB H.hp.length ks 0 H.hp) := rfl
  have hvv : (S.over H ks).vvs = roVs H.vvs := rfl
  rw [hb] at h
  split at h
  · rename_i v hcs hvc
    obtain ⟨h1, h2, u, h3, h4⟩ := hd.2.2.2 v hvc
    have hne : i ∉ ks := fun hk => by rw [hd.2.2.1 (by simpa using hk)] at hvc; cases hvc
    have hcs' : (H.blk i).cells = [] := by
      show (nthB i H.hp).cells = []
      rw [h1] at hcs
      have := guardL_len H.hp.length (nthB i H.hp).cells
      rw [hcs] at this
      exact List.eq_nil_of_length_eq_zero this.symm
    have hvc' : (H.blk i).vc = some u := h3
    rw [hvv, vlookL_roVs] at h
    rw [hcs', hvc']
    cases hl : vlookL i H.vvs with
    | some y =>
      rw [hl] at h
      simp only [Option.map_some, Option.some.injEq] at h
      subst h
      exact ⟨rfl, hne, y, rfl, rfl, rfl, fun k o c => by cases c <;> rfl⟩
    | none =>
      rw [hl] at h
      simp only [Option.map_none, Option.some.injEq] at h
      subst h; subst h4
      exact ⟨rfl, hne, u, rfl, rfl, rfl, fun k o c => by cases c <;> rfl⟩
  · cases h

/-- Below a number of blocks alone. -/
def cutR (n : Nat) (ρ : Rho) : Rho := ⟨fun i => if i < n then ρ i else none, ρ.cap, fun i => decide (i < n) && ρ.kn i⟩

theorem cutR_old {n i : Nat} {ρ : Rho} {p : Nat × Nat} (h : (cutR n ρ) i = some p) : i < n ∧ ρ i = some p := by
  simp only [cutR] at h
  split at h
  · rename_i hi; exact ⟨hi, h⟩
  · cases h
theorem cutR_agr (n : Nat) (ρ : Rho) : Agr n ρ (cutR n ρ) := fun i hi => ⟨fun p hp => ⟨by simp only [cutR]; rw [if_pos hi]; exact hp, rfl⟩, fun hk => by simp only [cutR, hi, decide_true, Bool.true_and]; exact hk⟩

/-- What is not known can't hurt: 'X' is the memory, of which 'H' is a part but for the blocks 'ks'. -/
theorem Mem.over {M : Addr → Prop} {w0 : World} {ρ : Rho} {S H X : St} {w : World} {ks : List Nat} (h : Mem M w0 ρ X w) (hl : H.hp.length ≤ X.hp.length)
    (hc : ∀ i o x, H.cell i o = some x → i ∉ ks → X.cell i o = some x)
    (hv : ∀ i x, H.vec i = some x → i ∉ ks → X.vec i = some x)
    (hink : ∀ i o x, hlookL i o H.hvs = some x → i < H.hp.length) (hvink : ∀ i x, vlookL i H.vvs = some x → i < H.hp.length) : Mem NoM w (cutR H.hp.length ρ) (S.over H ks) w := by
  have hlen : (S.over H ks).hp.length = H.hp.length := dropB_len _ ks H.hp 0
  have hvk : ∀ (x : Vc) k o c v, V ρ (x.mkA k o c) v → V (cutR H.hp.length ρ) (x.mkA k o c) v := fun x k o c v hx => V_flat _ _ (by cases c <;> rfl) hx
  refine ⟨⟨fun i o x hx => ?_, fun i vc r b k o c hx hr hk hcc => ?_, fun i o x r b hx hw => ?_, fun i vc r b q hx hw => ?_, fun i vc r b hx hw => ?_, fun i j r b b' hij hw => ?_, fun i p hp => ?_, fun i hk => ?_, fun i o x hx => ?_, fun i x hx => ?_, fun i r b hr => h.hp.lt i r b (cutR_old hr).2⟩, Fr.refl _ _, ⟨fun i o x r b hx hw => ?_, fun i vc r b q hx hw => ?_⟩⟩
  · obtain ⟨h2, y, h1, rfl⟩ := over_cell hx
    have hi := cell_lt h1
    obtain ⟨r, b, v, k1, k2, k3⟩ := h.hp.cell i o y (hc i o y h1 h2)
    obtain ⟨g1, _⟩ := (cutR_agr H.hp.length ρ i hi).1 _ k1
    refine ⟨r, b, v, g1, k2, ?_⟩
    unfold guardV
    split
    · rename_i hu; exact V_under (cutR_agr _ ρ) y v hu k3
    · unfold V; trivial
  · obtain ⟨_, h2, u, h3, h4, h5, h6⟩ := over_vec hx
    obtain ⟨v, k1, k2⟩ := h.hp.vcell i u r b k o c (hv i u h3 h2) (cutR_old hr).2 (by rw [h5]; exact hk) (by rw [h4]; exact hcc)
    exact ⟨v, by rw [← h4]; exact k1, by rw [← h6]; exact hvk u k o c v k2⟩
  · have hb : (S.over H ks).blk i = nthB i (dropB H.hp.length ks 0 H.hp) := rfl
    rw [hb, (dropB_get H.hp.length ks H.hp 0 i).1] at hw; cases hw
  · rw [(over_vec hx).1] at hw; cases hw
  · rw [(over_vec hx).1] at hw; cases hw
  · rcases wrB_iff.1 hw with ⟨o, x, hx, hw⟩ | ⟨x, hx, hw⟩
    · have hb : (S.over H ks).blk i = nthB i (dropB H.hp.length ks 0 H.hp) := rfl
      rw [hb, (dropB_get H.hp.length ks H.hp 0 i).1] at hw; cases hw
    · rw [(over_vec hx).1] at hw; cases hw
  · rw [hlen]; exact (cutR_old hp).1
  · rw [hlen]
    simp only [cutR, Bool.and_eq_true, decide_eq_true_eq] at hk
    exact hk.1
  · rw [hlen]
    have hh : (S.over H ks).hvs = guardHs H.hp.length H.hvs := rfl
    rw [hh, guardHs_look] at hx
    cases hl' : hlookL i o H.hvs with
    | some y => exact hink i o y hl'
    | none => rw [hl'] at hx; cases hx
  · rw [hlen]
    have hvv : (S.over H ks).vvs = roVs H.vvs := rfl
    rw [hvv, vlookL_roVs] at hx
    cases hl' : vlookL i H.vvs with
    | some y => exact hvink i y hl'
    | none => rw [hl'] at hx; cases hx
  · have hb : (S.over H ks).blk i = nthB i (dropB H.hp.length ks 0 H.hp) := rfl
    rw [hb, (dropB_get H.hp.length ks H.hp 0 i).1] at hw; cases hw
  · rw [(over_vec hx).1] at hw; cases hw

theorem guardOf_split {all : List Oper} {S : St} {g : Option (Nat × Bool)} {t : Nat} {b : Bool} (h : guardOf all S g = .split t b) : S.get t = .sbool b := by
  unfold guardOf at h
  split at h
  · cases h
  · split at h
    · cases h
    · rename_i t' _
      split at h
      · split at h <;> cases h
      · rename_i b' hv
        simp only [Gd.split.injEq] at h
        obtain ⟨rfl, rfl⟩ := h
        exact hv
      · cases h
      · cases h


/-- A run in the text's order: what each operation yields, and which one is loud. -/
inductive RunD (P : Program) (Γ : List (Nat × Ctr)) (N : Nat) (all : List Oper) (anc : List (List Nat)) (li : Nat) (ks : List Nat) (H : St) : Nat → List Oper → St → (Nat → AVal) → List AVal → Option Out → Prop
  | nil (i : Nat) (m : St) (E : Nat → AVal) : RunD P Γ N all anc li ks H i [] m E [] none
  | no {i : Nat} {o : Oper} {rest : List Oper} {m : St} {E : Nat → AVal} {vs : List AVal} {lo : Option Out} (Si : St) (hh : AlkM m Si) (he : ∀ t ρ u, V ρ (E t) u → V ρ (Si.get t) u)
      (hg : guardOf all Si o.guard = .no) (hd : okDst N o.dst = true) (hr : RunD P Γ N all anc li ks H (i + 1) rest m (putE E o.dst (.raw undef)) vs lo) : RunD P Γ N all anc li ks H i (o :: rest) m E (.raw undef :: vs) lo
  | loud {i : Nat} {o : Oper} {rest : List Oper} {m : St} {E : Nat → AVal} {vs : List AVal} {out : Out} (Si : St) (hh : AlkM m Si) (he : ∀ t ρ u, V ρ (E t) u → V ρ (Si.get t) u) (hi : i = li)
      (hg : guardOf all Si o.guard = .yes) (hop : evOp P Γ Si o.op = some out) (hpn : out.pn = none) (hk : killsOk ks out = true) (hnd : out.nd = true) (hd : okDst N o.dst = true)
      (hr : RunD P Γ N all anc li ks H (i + 1) rest (m.put out.hv out.vv out.nw) (putE E o.dst out.v) vs none) : RunD P Γ N all anc li ks H i (o :: rest) m E (out.v :: vs) (some out)
  | ord {i : Nat} {o : Oper} {rest : List Oper} {m : St} {E : Nat → AVal} {vs : List AVal} {lo : Option Out} {out : Out} (Si : St) (hh : AlkM m Si) (he : ∀ t ρ u, V ρ (E t) u → V ρ (Si.get t) u) (hi : i ≠ li)
      (hc : li ∈ (anc[i]?).getD [] ∨ i ∈ (anc[li]?).getD [])
      (hg : guardOf all Si o.guard = .yes) (hop : evOp P Γ Si o.op = some out) (hq : out.quiet = true) (hnd : out.nd = true) (hd : okDst N o.dst = true)
      (hr : RunD P Γ N all anc li ks H (i + 1) rest m (putE E o.dst out.v) vs lo) : RunD P Γ N all anc li ks H i (o :: rest) m E (out.v :: vs) lo
  | free {i : Nat} {o : Oper} {rest : List Oper} {m : St} {E : Nat → AVal} {vs : List AVal} {lo : Option Out} {out : Out} (Si : St) (hh : AlkM m Si) (he : ∀ t ρ u, V ρ (E t) u → V ρ (Si.get t) u) (hi : i ≠ li)
      (hg : guardOf all Si o.guard = .yes) (hop : evOp P Γ (Si.over H ks) o.op = some out) (hq : out.quiet = true) (hu : out.v.under H.hp.length = true) (hnd : out.nd = true) (hd : okDst N o.dst = true)
      (hr : RunD P Γ N all anc li ks H (i + 1) rest m (putE E o.dst out.v) vs lo) : RunD P Γ N all anc li ks H i (o :: rest) m E (out.v :: vs) lo

/-- The memory in the end. -/
def memOf (m : St) : Option Out → St
  | none => m
  | some out => m.put out.hv out.vv out.nw

theorem memOf_len (m : St) (lo : Option Out) : m.hp.length ≤ (memOf m lo).hp.length := by cases lo <;> simp [memOf, St.put, St.ext]

theorem quiet_nil {out : Out} (h : out.quiet = true) : out.hv = [] ∧ out.vv = [] ∧ out.nw = [] ∧ out.pn = none := by
  unfold Out.quiet at h
  split at h
  · rename_i h1 h2 h3 h4; exact ⟨h1, h2, h3, h4⟩
  · cases h

section
variable {P : Program} {N : Nat}

theorem evDr_need {Γ : List (Nat × Ctr)} {all : List Oper} {anc : List (List Nat)} {li : Nat} {ks : List Nat} {H : St} : ∀ (n i : Nat) (rest : List Oper) (S : St) (d : Dl) (t : Tr), evDr P Γ N all anc li ks H n i rest S d = some t → t.need = true → d.nd = true
  | 0, _, _, _, _, _, h, _ => by simp [evDr] at h
  | n + 1, i, [], S, d, t, h, hn => by simp [evDr] at h; subst h; exact hn
  | n + 1, i, o :: rest, S, d, t, h, hn => by
    simp only [evDr] at h
    split at h
    · cases h
    · split at h
      · cases h
      · exact (cond_and (evDr_need n _ rest S _ t h hn)).1
      · cases h; exact (mkNode_need _ _ _ _ _ hn).1
      · split at h
        · split at h
          · split at h
            · exact (cond_and (evDr_need n _ rest S _ t h hn)).1
            · cases h
          · cases h
        · split at h
          · split at h
            · split at h
              · exact (cond_and (evDr_need n _ rest S _ t h hn)).1
              · cases h
            · cases h
          · split at h
            · split at h
              · exact (cond_and (evDr_need n _ rest S _ t h hn)).1
              · cases h
            · cases h

theorem evDr_run {Γ : List (Nat × Ctr)} {all : List Oper} {anc : List (List Nat)} {li : Nat} {ks : List Nat} {H : St} {M : Addr → Prop} {w0 : World} : ∀ (n i : Nat) (rest : List Oper) (S : St) (d : Dl) (t : Tr) (E : Nat → AVal) (m : St),
    evDr P Γ N all anc li ks H n i rest S d = some t → t.need = true → AlkM m (S.ext d) → (∀ t ρ u, V ρ (E t) u → V ρ ((S.ext d).get t) u) →
    (t.out S).1 = .normal ∧ ∃ vs lo, RunD P Γ N all anc li ks H i rest m E vs lo ∧
      ∀ ρ a w, (∀ t, V ρ (envN E (rest.map (·.dst)) vs t) (a.tmps.getD t undef)) → a.tmps.size = N → DfV ρ (S.ext d).dfs a.defers → Mem M w0 ρ (memOf m lo) w → Rel N M w0 ρ (t.out S).2 a w
  | 0, _, _, _, _, _, _, _, h, _, _, _ => by simp [evDr] at h
  | n + 1, i, [], S, d, t, E, m, h, hn, hh, he => by
    simp [evDr] at h; subst h
    exact ⟨rfl, [], none, .nil i m E, fun ρ a w hv hs hd hm => ⟨fun t => he t ρ _ (hv t), hs, hd, AlkM.mem hm hh⟩⟩
  | n + 1, i, o :: rest, S, d, t, E, m, h, hn, hh, he => by
    simp only [evDr] at h
    have hput : ∀ v hv vv nw nd t' ρ u, V ρ (putE E o.dst v t') u → V ρ ((S.ext (d.put o.dst v hv vv nw nd)).get t') u := by
      intro v hv vv nw nd t' ρ u hvv
      rw [get_put]
      unfold putE at hvv
      split
      · rename_i hc; rw [if_pos hc] at hvv; exact hvv
      · rename_i hc; rw [if_neg hc] at hvv; exact he t' ρ u hvv
    have hdfs : ∀ v hv vv nw nd, (S.ext (d.put o.dst v hv vv nw nd)).dfs = (S.ext d).dfs := fun v hv vv nw nd => by simp [St.ext, Dl.put]
    have halk : ∀ v nd, AlkM m (S.ext (d.put o.dst v [] [] [] nd)) := fun v nd => hh.trans ((alkM_nil _).trans (alkM_put S d o.dst v [] [] [] nd))
    split at h
    · cases h
    · rename_i hdst
      simp only [Bool.and_eq_true] at hdst
      split at h
      · cases h
      · rename_i hg
        obtain ⟨h0, vs, lo, h1, h2⟩ := evDr_run n _ rest S _ t (putE E o.dst (.raw undef)) m h hn (halk _ _) (hput _ _ _ _ _)
        exact ⟨h0, .raw undef :: vs, lo, .no (S.ext d) hh he hg hdst.1 h1, fun ρ a w hv hs hd hm => h2 ρ a w hv hs (by rw [hdfs]; exact hd) hm⟩
      · rename_i s b hg
        have hsb : (S.ext d).get s = .sbool b := guardOf_split hg
        cases h
        have hw := mkNode_weak (N := N) (M := M) (w0 := w0) S d b (orStuck (evDr P Γ N all anc li ks H n i (o :: rest) (S.ext d) (Dl.one s (.bool true)))) (orStuck (evDr P Γ N all anc li ks H n i (o :: rest) (S.ext d) (Dl.one s (.bool false))))
        have hnb := (mkNode_need _ _ _ _ _ hn).2
        have hE : ∀ t ρ u, V ρ (E t) u → V ρ (((S.ext d).ext (Dl.one s (.bool b))).get t) u := by
          intro t ρ u hv
          rw [get_ext]
          simp only [Dl.one, look1]
          cases hb : Nat.beq t s with
          | true =>
            have := Nat.eq_of_beq_eq_true hb
            subst this
            have := he t ρ u hv
            rw [hsb] at this
            unfold V at this ⊢; exact this
          | false => exact he t ρ u hv
        have hdf1 : ∀ b : Bool, ((S.ext d).ext (Dl.one s (.bool b))).dfs = (S.ext d).dfs := fun b => by simp [St.ext, Dl.one]
        cases b with
        | true =>
          obtain ⟨l, hl, hle, hln⟩ := orStuck_need (by simpa using hnb)
          obtain ⟨h0, vs, lo, h1, h2⟩ := evDr_run n i (o :: rest) (S.ext d) _ l E m hl hln (hh.trans (alkM_one _ s _)) hE
          refine ⟨?_, vs, lo, h1, fun ρ a w hv hs hd hm => hw.2 _ _ _ (by simpa [hle] using h2 ρ a w hv hs (by rw [hdf1]; exact hd) hm)⟩
          rw [hw.1]; simpa [hle] using h0
        | false =>
          obtain ⟨l, hl, hle, hln⟩ := orStuck_need (by simpa using hnb)
          obtain ⟨h0, vs, lo, h1, h2⟩ := evDr_run n i (o :: rest) (S.ext d) _ l E m hl hln (hh.trans (alkM_one _ s _)) hE
          refine ⟨?_, vs, lo, h1, fun ρ a w hv hs hd hm => hw.2 _ _ _ (by simpa [hle] using h2 ρ a w hv hs (by rw [hdf1]; exact hd) hm)⟩
          rw [hw.1]; simpa [hle] using h0
      · rename_i hg
        split at h
        · -- the loud one
          rename_i hil
          have hil := Nat.eq_of_beq_eq_true hil
          split at h
          · rename_i out hout
            split at h
            · rename_i hpn hkk
              have hnd := (cond_and (evDr_need n _ rest S _ t h hn)).2
              have hgt : ∀ {i' : Nat} {rest' : List Oper} {m' : St} {E' : Nat → AVal} {vs' : List AVal} {lo' : Option Out}, li < i' → RunD P Γ N all anc li ks H i' rest' m' E' vs' lo' → lo' = none := by
                intro i' rest' m' E' vs' lo' hlt hr
                induction hr with
                | nil => rfl
                | no Si _ _ _ _ _ ih => exact ih (by omega)
                | loud Si _ _ hi _ _ _ _ _ _ _ _ => omega
                | ord Si _ _ _ _ _ _ _ _ _ _ ih => exact ih (by omega)
                | free Si _ _ _ _ _ _ _ _ _ _ ih => exact ih (by omega)
              obtain ⟨h0, vs, lo, h1, h2⟩ := evDr_run n _ rest S _ t (putE E o.dst out.v) (m.put out.hv out.vv out.nw) h hn ((hh.put out.hv out.vv out.nw).trans (alkM_put ..)) (hput _ _ _ _ _)
              have hlo := hgt (by omega) h1
              subst hlo
              exact ⟨h0, out.v :: vs, some out, .loud (S.ext d) hh he hil hg hout hpn hkk hnd hdst.1 h1, fun ρ a w hv hs hd hm => h2 ρ a w hv hs (by rw [hdfs]; exact hd) hm⟩
            · cases h
          · cases h
        · rename_i hil
          have hne : i ≠ li := fun e => by subst e; simp at hil
          split at h
          · rename_i hc
            simp only [Bool.or_eq_true] at hc
            split at h
            · rename_i out hout
              split at h
              · rename_i hq
                have hnd := (cond_and (evDr_need n _ rest S _ t h hn)).2
                obtain ⟨h0, vs, lo, h1, h2⟩ := evDr_run n _ rest S _ t (putE E o.dst out.v) m h hn (halk _ _) (hput _ _ _ _ _)
                exact ⟨h0, out.v :: vs, lo, .ord (S.ext d) hh he hne (hc.imp (memN_iff _ _).1 (memN_iff _ _).1) hg hout hq hnd hdst.1 h1, fun ρ a w hv hs hd hm => h2 ρ a w hv hs (by rw [hdfs]; exact hd) hm⟩
              · cases h
            · cases h
          · split at h
            · rename_i out hout
              split at h
              · rename_i hq
                simp only [Bool.and_eq_true] at hq
                have hnd := (cond_and (evDr_need n _ rest S _ t h hn)).2
                obtain ⟨h0, vs, lo, h1, h2⟩ := evDr_run n _ rest S _ t (putE E o.dst out.v) m h hn (halk _ _) (hput _ _ _ _ _)
                exact ⟨h0, out.v :: vs, lo, .free (S.ext d) hh he hne hg hout hq.1 hq.2 hnd hdst.1 h1, fun ρ a w hv hs hd hm => h2 ρ a w hv hs (by rw [hdfs]; exact hd) hm⟩
              · cases h
            · cases h
end

theorem envN_keep : ∀ (ds : List (Option Nat)) (vs : List AVal) (E : Nat → AVal) (t : Nat), (∀ k : Nat, ds[k]? ≠ some (some t)) → envN E ds vs t = E t
  | [], _, _, _, _ => by simp [envN]
  | _ :: _, [], _, _, _ => by simp [envN]
  | d :: ds, v :: vs, E, t, h => by
    simp only [envN]
    rw [envN_keep ds vs _ t (fun k => by simpa using h (k + 1))]
    unfold putE
    rw [if_neg (fun e => h 0 (by simp [e]))]

theorem envN_at : ∀ (ds : List (Option Nat)) (vs : List AVal) (E : Nat → AVal) (t k : Nat) (v : AVal), ds[k]? = some (some t) → vs[k]? = some v → (∀ m : Nat, m ≠ k → ds[m]? ≠ some (some t)) → envN E ds vs t = v
  | [], _, _, _, _, _, h, _, _ => by simp at h
  | _ :: _, [], _, _, _, _, _, h, _ => by simp at h
  | d :: ds, u :: vs, E, t, k, v, h1, h2, h3 => by
    simp only [envN]
    cases k with
    | zero =>
      simp at h1 h2
      rw [envN_keep ds vs _ t (fun m => by simpa using h3 (m + 1) (by omega))]
      unfold putE; rw [if_pos h1]; exact h2
    | succ k =>
      exact envN_at ds vs _ t k v (by simpa using h1) (by simpa using h2) (fun m hm => by simpa using h3 (m + 1) (by omega))


theorem RunD.len {P : Program} {N : Nat} {Γ : List (Nat × Ctr)} {all : List Oper} {anc : List (List Nat)} {li : Nat} {ks : List Nat} {H : St} {i : Nat} {rest : List Oper} {m : St} {E : Nat → AVal} {vs : List AVal} {lo : Option Out}
    (h : RunD P Γ N all anc li ks H i rest m E vs lo) : vs.length = rest.length := by
  induction h with
  | nil => rfl
  | no Si _ _ _ _ _ ih => simp [ih]
  | loud Si _ _ _ _ _ _ _ _ _ _ ih => simp [ih]
  | ord Si _ _ _ _ _ _ _ _ _ _ ih => simp [ih]
  | free Si _ _ _ _ _ _ _ _ _ _ ih => simp [ih]

/-- What is said of the j-th operation. -/
structure StepD (P : Program) (Γ : List (Nat × Ctr)) (N : Nat) (all : List Oper) (anc : List (List Nat)) (li : Nat) (ks : List Nat) (H mm : St) (lo : Option Out) (j : Nat) (o : Oper) (v : AVal) (Si : St) : Prop where
  dst : okDst N o.dst = true
  how : (guardOf all Si o.guard = .no ∧ v = .raw undef ∧ (j = li → lo = none)) ∨
    (guardOf all Si o.guard = .yes ∧ j = li ∧ AlkM mm Si ∧ ∃ out, lo = some out ∧ evOp P Γ Si o.op = some out ∧ out.pn = none ∧ killsOk ks out = true ∧ out.nd = true ∧ v = out.v) ∨
    (guardOf all Si o.guard = .yes ∧ j ≠ li ∧ AlkM (if j ≤ li then mm else memOf mm lo) Si ∧ (li ∈ (anc[j]?).getD [] ∨ j ∈ (anc[li]?).getD []) ∧ ∃ out, evOp P Γ Si o.op = some out ∧ out.quiet = true ∧ out.nd = true ∧ v = out.v) ∨
    (guardOf all Si o.guard = .yes ∧ j ≠ li ∧ ∃ out, evOp P Γ (Si.over H ks) o.op = some out ∧ out.quiet = true ∧ out.v.under H.hp.length = true ∧ out.nd = true ∧ v = out.v)

theorem RunD.none_after {P : Program} {N : Nat} {Γ : List (Nat × Ctr)} {all : List Oper} {anc : List (List Nat)} {li : Nat} {ks : List Nat} {H : St} {i' : Nat} {rest' : List Oper} {m' : St} {E' : Nat → AVal} {vs' : List AVal} {lo' : Option Out}
    (hr : RunD P Γ N all anc li ks H i' rest' m' E' vs' lo') (hlt : li < i') : lo' = none := by
  induction hr with
  | nil => rfl
  | no Si _ _ _ _ _ ih => exact ih (by omega)
  | loud Si _ _ hi _ _ _ _ _ _ _ _ => omega
  | ord Si _ _ _ _ _ _ _ _ _ _ ih => exact ih (by omega)
  | free Si _ _ _ _ _ _ _ _ _ _ ih => exact ih (by omega)

theorem RunD.at {P : Program} {N : Nat} {Γ : List (Nat × Ctr)} {all : List Oper} {anc : List (List Nat)} {li : Nat} {ks : List Nat} {H : St} {i : Nat} {rest : List Oper} {m : St} {E : Nat → AVal} {vs : List AVal} {lo : Option Out}
    (h : RunD P Γ N all anc li ks H i rest m E vs lo) : ∀ (k : Nat) (o : Oper), rest[k]? = some o →
    ∃ v Si, vs[k]? = some v ∧ (∀ t ρ u, V ρ (envN E ((rest.map (·.dst)).take k) (vs.take k) t) u → V ρ (Si.get t) u) ∧ StepD P Γ N all anc li ks H m lo (i + k) o v Si := by
  induction h with
  | nil => intro k o hk; simp at hk
  | @no i o rest m E vs lo Si hh he hg hd hr ih =>
    intro k o' hk
    cases k with
    | zero =>
      simp at hk; subst hk
      exact ⟨_, Si, rfl, by simpa [envN] using he, hd, Or.inl ⟨hg, rfl, fun hj => hr.none_after (by omega)⟩⟩
    | succ k =>
      obtain ⟨v', Si', h1, h2, h3⟩ := ih k o' (by simpa using hk)
      have e : i + (k + 1) = i + 1 + k := by omega
      rw [e]
      exact ⟨v', Si', by simpa using h1, by simpa [envN] using h2, h3⟩
  | @loud i o rest m E vs out Si hh he hi hg hop hpn hk0 hnd hd hr ih =>
    intro k o' hk
    cases k with
    | zero =>
      simp at hk; subst hk
      exact ⟨_, Si, rfl, by simpa [envN] using he, hd, Or.inr (Or.inl ⟨hg, hi, hh, out, rfl, hop, hpn, hk0, hnd, rfl⟩)⟩
    | succ k =>
      obtain ⟨v', Si', h1, h2, h3⟩ := ih k o' (by simpa using hk)
      have e : i + (k + 1) = i + 1 + k := by omega
      rw [e]
      refine ⟨v', Si', by simpa using h1, by simpa [envN] using h2, h3.dst, ?_⟩
      rcases h3.how with ⟨g1, g2, g3⟩ | ⟨g1, g2, _⟩ | ⟨g1, g2, g3, g4⟩ | g
      · exact Or.inl ⟨g1, g2, fun hj => by omega⟩
      · omega
      · refine Or.inr (Or.inr (Or.inl ⟨g1, g2, ?_, g4⟩))
        have hn : ¬ (i + 1 + k ≤ li) := by omega
        rw [if_neg hn] at g3 ⊢
        exact g3
      · exact Or.inr (Or.inr (Or.inr g))
  | @ord i o rest m E vs lo out Si hh he hi hc hg hop hq hnd hd hr ih =>
    intro k o' hk
    cases k with
    | zero =>
      simp at hk; subst hk
      refine ⟨_, Si, rfl, by simpa [envN] using he, hd, Or.inr (Or.inr (Or.inl ⟨hg, hi, ?_, hc, out, hop, hq, hnd, rfl⟩))⟩
      split
      · exact hh
      · rename_i hle
        have : lo = none := hr.none_after (by omega)
        subst this; exact hh
    | succ k =>
      obtain ⟨v', Si', h1, h2, h3⟩ := ih k o' (by simpa using hk)
      have e : i + (k + 1) = i + 1 + k := by omega
      rw [e]
      exact ⟨v', Si', by simpa using h1, by simpa [envN] using h2, h3⟩
  | @free i o rest m E vs lo out Si hh he hi hg hop hq hu hnd hd hr ih =>
    intro k o' hk
    cases k with
    | zero =>
      simp at hk; subst hk
      exact ⟨_, Si, rfl, by simpa [envN] using he, hd, Or.inr (Or.inr (Or.inr ⟨hg, hi, out, hop, hq, hu, hnd, rfl⟩))⟩
    | succ k =>
      obtain ⟨v', Si', h1, h2, h3⟩ := ih k o' (by simpa using hk)
      have e : i + (k + 1) = i + 1 + k := by omega
      rw [e]
      exact ⟨v', Si', by simpa using h1, by simpa [envN] using h2, h3⟩


def rowOf (acc : List (List Nat)) (o : Oper) : List Nat := (o.after.toList.filter (fun e => Region.binds .any e)).foldl (fun l e => e.on :: ((acc[e.on]?).getD [] ++ l)) []

theorem rowOf_mem (acc : List (List Nat)) (m : Nat) : ∀ (es : List Edge) (l : List Nat), m ∈ es.foldl (fun l e => e.on :: ((acc[e.on]?).getD [] ++ l)) l → m ∈ l ∨ ∃ e ∈ es, m = e.on ∨ m ∈ (acc[e.on]?).getD []
  | [], l, h => Or.inl h
  | e :: es, l, h => by
    rcases rowOf_mem acc m es _ h with h | ⟨e', he', h⟩
    · simp only [List.mem_cons, List.mem_append] at h
      rcases h with h | h | h
      · exact Or.inr ⟨e, by simp, Or.inl h⟩
      · exact Or.inr ⟨e, by simp, Or.inr h⟩
      · exact Or.inl h
    · exact Or.inr ⟨e', by simp [he'], h⟩

theorem ancs_spec : ∀ (r : List Oper) (acc : List (List Nat)), ∃ tl, ancs r acc = acc ++ tl ∧ ∀ k o, r[k]? = some o → tl[k]? = some (rowOf (acc ++ tl.take k) o)
  | [], acc => ⟨[], by simp [ancs], fun k o h => by simp at h⟩
  | o :: r, acc => by
    obtain ⟨tl, h1, h2⟩ := ancs_spec r (acc ++ [rowOf acc o])
    refine ⟨rowOf acc o :: tl, ?_, fun k o' hk => ?_⟩
    · show ancs r (acc ++ [rowOf acc o]) = _
      rw [h1]; simp
    · cases k with
      | zero => simp at hk; subst hk; simp
      | succ k =>
        have := h2 k o' (by simpa using hk)
        simpa using this

theorem ancs_mem {all : List Oper} {j m : Nat} {o : Oper} (ho : all[j]? = some o) (hm : m ∈ ((ancs all [])[j]?).getD []) :
    ∃ e ∈ o.after.toList, Region.binds .any e = true ∧ (m = e.on ∨ m ∈ ((ancs all [])[e.on]?).getD []) := by
  obtain ⟨tl, h1, h2⟩ := ancs_spec all []
  simp only [List.nil_append] at h1 h2
  rw [h1] at hm ⊢
  rw [h2 j o ho] at hm
  simp only [Option.getD_some] at hm
  rcases rowOf_mem _ m _ _ hm with h | ⟨e, he, h⟩
  · simp at h
  · obtain ⟨he1, he2⟩ := List.mem_filter.1 he
    refine ⟨e, he1, he2, h.imp id (fun h => ?_)⟩
    rw [List.getElem?_take] at h
    split at h
    · exact h
    · simp at h

theorem sameT_iff (t u : Option Nat) : sameT t u = true ↔ ∃ x, t = some x ∧ u = some x := by
  cases t with
  | none => cases u <;> simp [sameT]
  | some t =>
    cases u with
    | none => simp [sameT]
    | some u =>
      constructor
      · intro h; exact ⟨t, rfl, by rw [Nat.eq_of_beq_eq_true h]⟩
      · rintro ⟨x, h1, h2⟩; cases h1; cases h2; simp [sameT]

theorem drawRow_spec {all : List Oper} {anc : List (List Nat)} {o : Oper} {i : Nat} : ∀ (r : List Oper) (j : Nat), drawRow all anc o i r j = true → ∀ k u, r[k]? = some u →
    (∀ x, ¬ (o.dst = some x ∧ u.dst = some x)) ∧ ((∃ x, o.dst = some x ∧ x ∈ looks all u) ∨ (∃ x, u.dst = some x ∧ x ∈ looks all o) → i ∈ (anc[j + k]?).getD [])
  | [], j, _, k, u, hk => by simp at hk
  | v :: r, j, h, k, u, hk => by
    simp only [drawRow, Bool.and_eq_true] at h
    obtain ⟨⟨h1, h2⟩, h3⟩ := h
    cases k with
    | zero =>
      simp at hk; subst hk
      refine ⟨fun x hx => ?_, fun hx => ?_⟩
      · have : sameT o.dst v.dst = true := (sameT_iff _ _).2 ⟨x, hx.1, hx.2⟩
        simp [this] at h1
      · rw [Nat.add_zero]
        have hm : (memT o.dst (looks all v) || memT v.dst (looks all o)) = true := by
          simp only [Bool.or_eq_true]
          rcases hx with ⟨x, hx1, hx2⟩ | ⟨x, hx1, hx2⟩
          · left; rw [hx1]; exact (memN_iff _ _).2 hx2
          · right; rw [hx1]; exact (memN_iff _ _).2 hx2
        rw [hm] at h2
        simp only [Bool.not_true, Bool.false_or] at h2
        exact (memN_iff _ _).1 h2
    | succ k =>
      have := drawRow_spec r (j + 1) h3 k u (by simpa using hk)
      have e : j + (k + 1) = j + 1 + k := by omega
      rw [e]; exact this

theorem drawRows_spec {all : List Oper} {anc : List (List Nat)} : ∀ (r : List Oper) (i : Nat), drawRows all anc r i = true → ∀ k o, r[k]? = some o →
    (∀ e ∈ o.after.toList, Region.binds .any e = true → e.on < i + k) ∧
    ∀ l u, k < l → r[l]? = some u → (∀ x, ¬ (o.dst = some x ∧ u.dst = some x)) ∧ ((∃ x, o.dst = some x ∧ x ∈ looks all u) ∨ (∃ x, u.dst = some x ∧ x ∈ looks all o) → i + k ∈ (anc[i + l]?).getD [])
  | [], i, _, k, o, hk => by simp at hk
  | v :: r, i, h, k, o, hk => by
    simp only [drawRows, Bool.and_eq_true] at h
    obtain ⟨⟨h1, h2⟩, h3⟩ := h
    cases k with
    | zero =>
      simp at hk; subst hk
      refine ⟨fun e he hb => ?_, fun l u hl hu => ?_⟩
      · have := List.all_eq_true.1 h2 e he
        rw [hb] at this
        simp only [Bool.not_true, Bool.false_or] at this
        have := Nat.le_of_ble_eq_true this
        omega
      · cases l with
        | zero => omega
        | succ l =>
          have := drawRow_spec r (i + 1) h1 l u (by simpa using hu)
          have e : i + (l + 1) = i + 1 + l := by omega
          rw [e]; exact this
    | succ k =>
      obtain ⟨k1, k2⟩ := drawRows_spec r (i + 1) h3 k o (by simpa using hk)
      refine ⟨fun e he hb => by have := k1 e he hb; omega, fun l u hl hu => ?_⟩
      cases l with
      | zero => omega
      | succ l =>
        have := k2 l u (by omega) (by simpa using hu)
        have e1 : i + (k + 1) = i + 1 + k := by omega
        have e2 : i + (l + 1) = i + 1 + l := by omega
        rw [e1, e2]; exact this

/-- What holds while the region's operations come up in some order. -/
structure Inv (N : Nat) (M : Addr → Prop) (w0 : World) (all : List Oper) (li : Nat) (H : St) (lo : Option Out) (E0 : Nat → AVal) (vs : List AVal) (D : List (AVal × List AVal)) (ρ0 : Rho) (listed : Array Bool) (a : Act) (w : World) (ρ : Rho) : Prop where
  ext : ExtS H.hp.length ρ0 ρ
  sz : a.tmps.size = N
  df : DfV ρ D a.defers
  mem : Mem M w0 ρ (if listed[li]? = some true then memOf H lo else H) w
  ls : listed.size = all.length
  slot : ∀ t, (∃ (j : Nat) (o : Oper) (v : AVal), all[j]? = some o ∧ o.dst = some t ∧ vs[j]? = some v ∧ listed[j]? = some true ∧ V ρ v (a.tmps.getD t undef)) ∨
    ((∀ (j : Nat) (o : Oper), all[j]? = some o → o.dst = some t → listed[j]? = some false) ∧ V ρ (E0 t) (a.tmps.getD t undef))
  shut : ∀ (j : Nat) (o : Oper), all[j]? = some o → listed[j]? = some true → ∀ e ∈ o.after.toList, Region.binds .any e = true → listed[e.on]? = some true

theorem anc_listed {all : List Oper} (hd : drawOk all = true) {listed : Array Bool} (hls : listed.size = all.length)
    (shut : ∀ (j : Nat) (o : Oper), all[j]? = some o → listed[j]? = some true → ∀ e ∈ o.after.toList, Region.binds .any e = true → listed[e.on]? = some true) :
    ∀ (j : Nat) (o : Oper), all[j]? = some o → (∀ e ∈ o.after.toList, Region.binds .any e = true → listed[e.on]? = some true) → ∀ m, m ∈ ((ancs all [])[j]?).getD [] → listed[m]? = some true := by
  intro j
  induction j using Nat.strongRecOn with
  | _ j ih =>
    intro o ho hpre m hm
    obtain ⟨e, he, hb, h⟩ := ancs_mem ho hm
    have hl := hpre e he hb
    rcases h with rfl | h
    · exact hl
    · have hlt := (drawRows_spec all 0 hd j o ho).1 e he hb
      have hlt' : e.on < all.length := by
        have := (Array.getElem?_eq_some_iff.1 hl).1
        omega
      exact ih e.on (by omega) all[e.on] (List.getElem?_eq_getElem hlt') (shut e.on _ (List.getElem?_eq_getElem hlt') hl) m h


theorem looks_guard {all : List Oper} {o : Oper} {j : Nat} {want : Bool} {t : Nat} (h1 : o.guard = some (j, want)) (h2 : slotOf all j = some t) : t ∈ looks all o := by
  simp [looks, h1, h2]
theorem tmpsOf_mem : ∀ (xs : List Operand) (t : Nat), .tmp t ∈ xs → t ∈ tmpsOf xs
  | [], t, h => by simp at h
  | .tmp u :: r, t, h => by
    simp only [tmpsOf, List.mem_cons, Operand.tmp.injEq] at h ⊢
    exact h.imp id (tmpsOf_mem r t)
  | .const _ :: r, t, h => by simp only [tmpsOf, List.mem_cons, reduceCtorEq, false_or] at h ⊢; exact tmpsOf_mem r t h
  | .global _ :: r, t, h => by simp only [tmpsOf, List.mem_cons, reduceCtorEq, false_or] at h ⊢; exact tmpsOf_mem r t h
  | .func _ :: r, t, h => by simp only [tmpsOf, List.mem_cons, reduceCtorEq, false_or] at h ⊢; exact tmpsOf_mem r t h
theorem looks_opd {all : List Oper} {o : Oper} {t : Nat} (h : .tmp t ∈ o.op.operands.toList) : t ∈ looks all o := by
  unfold looks
  exact List.mem_append_right _ (tmpsOf_mem _ t h)

theorem getElem_listed {listed : Array Bool} {i n : Nat} (hl : listed.size = n) (hi : i < n) : listed[i]? = some true ∨ listed[i]? = some false := by
  have : listed[i]? = some listed[i] := Array.getElem?_eq_getElem (by omega)
  rw [this]
  cases listed[i] <;> simp


theorem hlook1_mem {i o : Nat} {x : AVal} : ∀ {l : List ((Nat × Nat) × AVal)}, hlook1 i o l = some x → ∃ e ∈ l, e.1.1 = i
  | [], h => by simp [hlook1] at h
  | (k, v) :: r, h => by
    simp only [hlook1] at h
    split at h
    · rename_i hb
      simp only [Bool.and_eq_true] at hb
      exact ⟨(k, v), by simp, (Nat.eq_of_beq_eq_true hb.1).symm⟩
    · obtain ⟨e, h1, h2⟩ := hlook1_mem h
      exact ⟨e, by simp [h1], h2⟩
theorem vlook1_mem {i : Nat} {x : Vc} : ∀ {l : List (Nat × Vc)}, vlook1 i l = some x → ∃ e ∈ l, e.1 = i
  | [], h => by simp [vlook1] at h
  | (k, v) :: r, h => by
    simp only [vlook1] at h
    split at h
    · rename_i hb
      exact ⟨(k, v), by simp, (Nat.eq_of_beq_eq_true hb).symm⟩
    · obtain ⟨e, h1, h2⟩ := vlook1_mem h
      exact ⟨e, by simp [h1], h2⟩

theorem put_old_cell {H : St} {hv : List ((Nat × Nat) × AVal)} {vv : List (Nat × Vc)} {nw : List Blk} {i o : Nat} (hi : i < H.hp.length) (hk : hlook1 i o hv = none) : (H.put hv vv nw).cell i o = H.cell i o := by
  unfold St.cell
  have hb : (H.put hv vv nw).blk i = H.blk i := nthB_append_left _ _ _ hi
  rw [hb]
  simp only [St.put, St.ext, hlookL, hk]
theorem put_old_vec {H : St} {hv : List ((Nat × Nat) × AVal)} {vv : List (Nat × Vc)} {nw : List Blk} {i : Nat} (hi : i < H.hp.length) (hk : vlook1 i vv = none) : (H.put hv vv nw).vec i = H.vec i := by
  unfold St.vec
  have hb : (H.put hv vv nw).blk i = H.blk i := nthB_append_left _ _ _ hi
  rw [hb]
  simp only [St.put, St.ext, vlookL, hk]

/-- From either memory one comes to what a free operation may look at. -/
theorem mem_over {M : Addr → Prop} {w0 : World} {ρ : Rho} {S H : St} {w : World} {ks : List Nat} {lo : Option Out} (hks : ∀ out, lo = some out → killsOk ks out = true) (hH : (∀ i o x, hlookL i o H.hvs = some x → i < H.hp.length) ∧ ∀ i x, vlookL i H.vvs = some x → i < H.hp.length) (b : Prop) [Decidable b]
    (h : Mem M w0 ρ (if b then memOf H lo else H) w) : Mem NoM w (cutR H.hp.length ρ) (S.over H ks) w := by
  have h0 : Mem M w0 ρ H w → Mem NoM w (cutR H.hp.length ρ) (S.over H ks) w := fun h => h.over (Nat.le_refl _) (fun i o x hx _ => hx) (fun i x hx _ => hx) hH.1 hH.2
  split at h
  · cases lo with
    | none => exact h0 h
    | some out =>
      have hk := hks out rfl
      unfold killsOk at hk
      simp only [Bool.and_eq_true] at hk
      refine Mem.over (X := memOf H (some out)) h (by simp [memOf, St.put, St.ext]) (fun i o x hx hne => ?_) (fun i x hx hne => ?_) hH.1 hH.2
      · show (H.put out.hv out.vv out.nw).cell i o = some x
        rw [put_old_cell (cell_lt hx)]
        · exact hx
        · cases hl : hlook1 i o out.hv with
          | none => rfl
          | some y =>
            obtain ⟨e, he, rfl⟩ := hlook1_mem hl
            exact absurd ((memN_iff _ _).1 (List.all_eq_true.1 hk.1 e he)) hne
      · show (H.put out.hv out.vv out.nw).vec i = some x
        rw [put_old_vec (vec_lt hx)]
        · exact hx
        · cases hl : vlook1 i out.vv with
          | none => rfl
          | some y =>
            obtain ⟨e, he, rfl⟩ := vlook1_mem hl
            exact absurd ((memN_iff _ _).1 (List.all_eq_true.1 hk.2 e he)) hne
  · exact h0 h

/-- EVERY ORDER SERVES. -/
theorem wpAny_of_inv {P : Program} {N : Nat} {Γ : List (Nat × Ctr)} (hΓ : ∀ f c, lookC f Γ = some c → Sat P f c) {all : List Oper} (hd : drawOk all = true) {M : Addr → Prop} {w0 : World} {H : St} {li : Nat} {ks : List Nat} {lo : Option Out} {E0 : Nat → AVal} {vs : List AVal} {D : List (AVal × List AVal)} {ρ0 : Rho}
    {Q : Exit → Act → World → Prop} (hrun : RunD P Γ N all (ancs all []) li ks H 0 all H E0 vs lo) (hH : (∀ i o x, hlookL i o H.hvs = some x → i < H.hp.length) ∧ ∀ i x, vlookL i H.vvs = some x → i < H.hp.length)
    (hQ : ∀ ρ a w, ExtS H.hp.length ρ0 ρ → (∀ t, V ρ (envN E0 (all.map (·.dst)) vs t) (a.tmps.getD t undef)) → a.tmps.size = N → DfV ρ D a.defers → Mem M w0 ρ (memOf H lo) w → Q .normal a w) :
    ∀ (fuel : Nat) (listed : Array Bool) (a : Act) (w : World) (ρ : Rho), Inv N M w0 all li H lo E0 vs D ρ0 listed a w ρ → listed.toList.count false = fuel → wpAny P .any all.toArray Q fuel listed a w := by
  have hlen := hrun.len
  -- the loud one is one of them
  have hlo : ∀ out, lo = some out → li < all.length ∧ killsOk ks out = true := by
    intro out hout
    have key : ∀ {i : Nat} {rest : List Oper} {m : St} {E : Nat → AVal} {vs : List AVal} {lo : Option Out}, RunD P Γ N all (ancs all []) li ks H i rest m E vs lo → ∀ out, lo = some out → li < i + rest.length ∧ killsOk ks out = true := by
      intro i rest m E vs lo hr
      induction hr with
      | nil => intro out h; cases h
      | no Si _ _ _ _ _ ih => intro out h; have := ih out h; simp only [List.length_cons]; exact ⟨by omega, this.2⟩
      | loud Si _ _ hi _ _ _ hk _ _ _ _ => intro out h; cases h; simp only [List.length_cons]; exact ⟨by omega, hk⟩
      | ord Si _ _ _ _ _ _ _ _ _ _ ih => intro out h; have := ih out h; simp only [List.length_cons]; exact ⟨by omega, this.2⟩
      | free Si _ _ _ _ _ _ _ _ _ _ ih => intro out h; have := ih out h; simp only [List.length_cons]; exact ⟨by omega, this.2⟩
    have := key hrun out hout
    exact ⟨by omega, this.2⟩
  -- two operations write two slots
  have huniq : ∀ (j k : Nat) (o u : Oper) (t : Nat), all[j]? = some o → all[k]? = some u → o.dst = some t → u.dst = some t → j = k := by
    intro j k o u t hj hk ho hu
    rcases Nat.lt_trichotomy j k with h | h | h
    · exact absurd ⟨ho, hu⟩ (((drawRows_spec all 0 hd j o hj).2 k u h hk).1 t)
    · exact h
    · exact absurd ⟨hu, ho⟩ (((drawRows_spec all 0 hd k u hk).2 j o h hj).1 t)
  have hdsts : ∀ (i k : Nat) (t : Nat), ((all.map (·.dst)).take i)[k]? = some (some t) ↔ k < i ∧ ∃ o, all[k]? = some o ∧ o.dst = some t := by
    intro i k t
    rw [List.getElem?_take]
    split
    · rename_i h
      simp only [List.getElem?_map, Option.map_eq_some_iff, h, true_and]
    · rename_i h; simp [h]
  -- all are listed where none is ready
  have hfin : ∀ (listed : Array Bool) (a : Act) (w : World) (ρ : Rho), Inv N M w0 all li H lo E0 vs D ρ0 listed a w ρ → (∀ i, i < all.length → listed[i]? = some true) → Q .normal a w := by
    intro listed a w ρ hI hall
    have hmem : Mem M w0 ρ (memOf H lo) w := by
      have hm := hI.mem
      cases hl : lo with
      | none =>
        rw [hl] at hm
        simp only [memOf, ite_self] at hm ⊢; exact hm
      | some out =>
        rw [hall li (hlo out hl).1, hl] at hm
        simpa using hm
    refine hQ ρ a w hI.ext (fun t => ?_) hI.sz hI.df hmem
    rcases hI.slot t with ⟨j, o, v, hj, ho, hv, _, hV⟩ | ⟨hno, hV⟩
    · have e : envN E0 (all.map (·.dst)) vs t = v := by
        refine envN_at _ _ _ _ j v (by simp [hj, ho]) hv (fun m hm hc => ?_)
        simp only [List.getElem?_map, Option.map_eq_some_iff] at hc
        obtain ⟨u, hu, hut⟩ := hc
        exact hm (huniq m j u o t hu hj hut ho)
      rw [e]; exact hV
    · have e : envN E0 (all.map (·.dst)) vs t = E0 t := by
        refine envN_keep _ _ _ _ (fun k hc => ?_)
        simp only [List.getElem?_map, Option.map_eq_some_iff] at hc
        obtain ⟨u, hu, hut⟩ := hc
        have := hno k u hu hut
        rw [hall k (List.getElem?_eq_some_iff.1 hu).1] at this; cases this
      rw [e]; exact hV
  have hnone : ∀ (listed : Array Bool), listed.size = all.length → Region.ready .any all.toArray listed = [] → ∀ i, i < all.length → listed[i]? = some true := by
    intro listed hls hr i
    induction i using Nat.strongRecOn with
    | _ i ih =>
      intro hi
      rcases getElem_listed hls hi with h | h
      · exact h
      · exfalso
        have : i ∈ Region.ready .any all.toArray listed := by
          refine mem_ready.2 ⟨by rw [Array.getD_eq_getD_getElem?, h]; rfl, all[i], by simp [hi], fun e he hb => ?_⟩
          have hlt := (drawRows_spec all 0 hd i all[i] (List.getElem?_eq_getElem hi)).1 e (by simpa using he) hb
          rw [Array.getD_eq_getD_getElem?, ih e.on (by omega) (by omega)]; rfl
        rw [hr] at this; cases this
  intro fuel
  induction fuel with
  | zero =>
    intro listed a w ρ hI hc
    have hall : ∀ i, i < all.length → listed[i]? = some true := by
      intro i hi
      rcases getElem_listed hI.ls hi with h | h
      · exact h
      · exfalso
        have hm : false ∈ listed.toList := by
          rw [Array.mem_toList_iff]
          obtain ⟨hlt, he⟩ := Array.getElem?_eq_some_iff.1 h
          rw [← he]; exact Array.getElem_mem hlt
        have := List.count_pos_iff.2 hm
        omega
    refine ⟨?_, hfin listed a w ρ hI hall⟩
    rw [List.eq_nil_iff_forall_not_mem]
    intro j hj
    obtain ⟨h1, o, h2, _⟩ := mem_ready.1 hj
    have hlt : j < all.length := by
      have := (Array.getElem?_eq_some_iff.1 h2).1
      simpa using this
    rw [Array.getD_eq_getD_getElem?, hall j hlt] at h1
    cases h1
  | succ fuel ihf =>
    intro listed a w ρ hI hc
    refine ⟨fun hr => hfin listed a w ρ hI (hnone listed hI.ls hr), fun i hi => ?_⟩
    obtain ⟨hun, o, hoa, hpre⟩ := mem_ready.1 hi
    have ho : all[i]? = some o := by simpa using hoa
    have hilt : i < all.length := (List.getElem?_eq_some_iff.1 ho).1
    have hif : listed[i]? = some false := by
      rcases getElem_listed hI.ls hilt with h | h
      · rw [Array.getD_eq_getD_getElem?, h] at hun; cases hun
      · exact h
    have hpre' : ∀ e ∈ o.after.toList, Region.binds .any e = true → listed[e.on]? = some true := by
      intro e he hb
      have := hpre e (by simpa using he) hb
      rw [Array.getD_eq_getD_getElem?] at this
      cases hl : listed[e.on]? with
      | none => rw [hl] at this; simp at this
      | some b => rw [hl] at this; simp at this; rw [this]
    obtain ⟨v, Si, hvi, hget, hstep⟩ := hrun.at i o ho
    rw [Nat.zero_add] at hstep
    have hdst := hstep.dst
    have hancI := anc_listed hd hI.ls hI.shut i o ho hpre'
    -- what the operation looks at is as it was in the text's order
    have hlook : ∀ t, t ∈ looks all o → V ρ (Si.get t) (a.tmps.getD t undef) := by
      intro t ht
      apply hget
      rcases hI.slot t with ⟨j, u, x, hj, hu, hx, hjl, hV⟩ | ⟨hno, hV⟩
      · have hji : j < i := by
          rcases Nat.lt_trichotomy j i with h | h | h
          · exact h
          · subst h; rw [hif] at hjl; cases hjl
          · exfalso
            have := ((drawRows_spec all 0 hd i o ho).2 j u h hj).2 (Or.inr ⟨t, hu, ht⟩)
            simp only [Nat.zero_add] at this
            have := anc_listed hd hI.ls hI.shut j u hj (hI.shut j u hj hjl) i this
            rw [hif] at this; cases this
        have e : envN E0 ((all.map (·.dst)).take i) (vs.take i) t = x := by
          refine envN_at _ _ _ _ j x ((hdsts i j t).2 ⟨hji, u, hj, hu⟩) (by rw [List.getElem?_take, if_pos hji]; exact hx) (fun m hm hcm => ?_)
          obtain ⟨_, u', hu', hut⟩ := (hdsts i m t).1 hcm
          exact hm (huniq m j u' u t hu' hj hut hu)
        rw [e]; exact hV
      · have e : envN E0 ((all.map (·.dst)).take i) (vs.take i) t = E0 t := by
          refine envN_keep _ _ _ _ (fun k hck => ?_)
          obtain ⟨hki, u, hu, hut⟩ := (hdsts i k t).1 hck
          have := ((drawRows_spec all 0 hd k u hu).2 i o hki ho).2 (Or.inl ⟨t, hut, ht⟩)
          simp only [Nat.zero_add] at this
          have h1 := hancI k this
          rw [hno k u hu hut] at h1; cases h1
        rw [e]; exact hV
    have hset : ∀ j, (listed.setIfInBounds i true)[j]? = if j = i then some true else listed[j]? := by
      intro j
      by_cases hji : j = i
      · subst hji; rw [if_pos rfl, Array.getElem?_setIfInBounds_self_of_lt (by rw [hI.ls]; exact hilt)]
      · rw [if_neg hji, Array.getElem?_setIfInBounds_ne (Ne.symm hji)]
    -- the next state
    have hnext : ∀ (x : Value) (w' : World) (ρ' : Rho), ExtS H.hp.length ρ ρ' → V ρ' v x → Mem M w0 ρ' (if (listed.setIfInBounds i true)[li]? = some true then memOf H lo else H) w' → wpAny P .any all.toArray Q fuel (listed.setIfInBounds i true) (a.put o.dst x) w' := by
      intro x w' ρ' hext hx hm
      refine ihf _ _ _ ρ' ⟨hI.ext.trans hext, ?_, ?_, hm, by simp [hI.ls], fun t => ?_, fun j u hj hjl e he hb => ?_⟩ ?_
      · rw [act_put_sz]; exact hI.sz
      · rw [act_put_df]; exact DfV_ext hext.1 _ _ hI.df
      · by_cases hti : o.dst = some t
        · left
          refine ⟨i, o, v, ho, hti, hvi, by rw [hset, if_pos rfl], ?_⟩
          rw [hti]
          have hs : t < N := by
            have := hdst; rw [hti] at this; exact Nat.le_of_ble_eq_true this
          have : (a.tmps.setIfInBounds t x).getD t undef = x := by simp [Array.getD_eq_getD_getElem?, hI.sz, hs]
          show V ρ' v ((a.tmps.setIfInBounds t x).getD t undef)
          rw [this]; exact hx
        · have hsame : (a.put o.dst x).tmps.getD t undef = a.tmps.getD t undef := by
            cases hdo : o.dst with
            | none => rfl
            | some s =>
              have hne : s ≠ t := fun e => hti (by rw [hdo, e])
              show (a.tmps.setIfInBounds s x).getD t undef = _
              simp [Array.getD_eq_getD_getElem?, Array.getElem?_setIfInBounds_ne hne]
          rw [hsame]
          rcases hI.slot t with ⟨j, u, y, hj, hu, hy, hjl, hV⟩ | ⟨hno, hV⟩
          · left
            refine ⟨j, u, y, hj, hu, hy, ?_, V_ext hext.1 _ _ hV⟩
            rw [hset]; split
            · rfl
            · exact hjl
          · right
            refine ⟨fun j u hj hu => ?_, V_ext hext.1 _ _ hV⟩
            rw [hset]
            have hji : j ≠ i := fun e => by
              subst e
              rw [ho] at hj; cases hj
              exact hti hu
            rw [if_neg hji]; exact hno j u hj hu
      · rw [hset] at hjl ⊢
        split
        · rfl
        · split at hjl
          · rename_i hji; subst hji
            rw [ho] at hj; cases hj
            exact hpre' e he hb
          · exact hI.shut j u hj hjl e he hb
      · rw [Array.toList_setIfInBounds, List.count_set (by simpa [hI.ls] using hilt)]
        have : listed.toList[i]'(by simpa [hI.ls] using hilt) = false := by
          have h2 := hif
          rw [Array.getElem?_eq_getElem (by rw [hI.ls]; exact hilt)] at h2
          simpa using h2
        rw [this, hc]; simp
    unfold wpOp
    have hoa' : all.toArray[i]? = some o := hoa
    rw [hoa']
    simp only
    have hgs := guardOf_sound (ρ := ρ) (S := Si) (a := a) (all := all) (o := o) (fun j want t hj ht => hlook t (looks_guard hj ht))
    have hopd : ∀ (T : St), (∀ t, T.get t = Si.get t) → ∀ x ∈ o.op.operands.toList, V ρ (opd T x) (a.eval x) := fun T hT x hx => opd_of ρ T a x (fun t ht => by subst ht; rw [hT]; exact hlook t (looks_opd hx))
    -- a quiet one leaves the memory that there is
    have hstay : i ≠ li → ∀ {X : St}, Mem M w0 ρ X w → True := fun _ _ _ => trivial
    have hli : i ≠ li → ((listed.setIfInBounds i true)[li]? = some true ↔ listed[li]? = some true) := fun hne => by
      rw [hset, if_neg (Ne.symm hne)]
    rcases hstep.how with ⟨hg, rfl, hnl⟩ | ⟨hg, hil, halk, out, hlo', hop, hpn, hk, hnd, rfl⟩ | ⟨hg, hne, halk, hor, out, hop, hq, hnd, rfl⟩ | ⟨hg, hne, out, hop, hq, hu, hnd, rfl⟩
    · -- it is passed over
      rw [if_neg (by rw [hgs.2.1 hg]; simp)]
      refine hnext undef w ρ (ExtS.refl _ _) (by unfold V; rfl) ?_
      by_cases hil : i = li
      · have hln := hnl hil
        have hm := hI.mem
        rw [hln] at hm ⊢
        simp only [memOf, ite_self] at hm ⊢; exact hm
      · simp only [hli hil]; exact hI.mem
    · -- the loud one
      rw [if_pos (hgs.1 hg)]
      left
      subst hil
      have hm := hI.mem
      rw [hif] at hm
      simp only [Option.some.injEq, Bool.false_eq_true, if_false] at hm
      have hok := evOp_sound (o := o) hΓ hop (AlkM.mem hm halk) (hopd Si (fun _ => rfl))
      refine hok hnd _ _ (fun u w' ρ' hext _ hvu hm' => ?_) (fun v u w' hp _ _ => by rw [hpn] at hp; cases hp)
      refine hnext u w' ρ' (hext.mono (by rw [halk.hp]; exact Nat.le_refl _)) hvu ?_
      rw [hset, if_pos rfl, if_pos rfl, hlo']
      exact AlkM.mem hm' (halk.symm.put _ _ _)
    · -- one that comes ahead of it, or behind it
      rw [if_pos (hgs.1 hg)]
      left
      obtain ⟨q1, q2, q3, q4⟩ := quiet_nil hq
      have hcur : (if i ≤ li then H else memOf H lo) = (if listed[li]? = some true then memOf H lo else H) ∨ True := Or.inr trivial
      have hsame : AlkM (if listed[li]? = some true then memOf H lo else H) Si := by
        rcases hor with hor | hor
        · -- behind it
          have hl := hancI li hor
          rw [if_pos hl]
          have hlt : ¬ i ≤ li := by
            obtain ⟨tl, t1, t2⟩ := ancs_spec all []
            intro hle
            have hlt' : ∀ m, m ∈ ((ancs all [])[i]?).getD [] → m < i := by
              have key : ∀ (i : Nat) (o : Oper), all[i]? = some o → ∀ m, m ∈ ((ancs all [])[i]?).getD [] → m < i := by
                intro i
                induction i using Nat.strongRecOn with
                | _ i ih =>
                  intro o ho m hm
                  obtain ⟨e, he, hb, h⟩ := ancs_mem ho hm
                  have hlt := (drawRows_spec all 0 hd i o ho).1 e he hb
                  simp only [Nat.zero_add] at hlt
                  rcases h with rfl | h
                  · exact hlt
                  · have hil' : i < all.length := (List.getElem?_eq_some_iff.1 ho).1
                    have := ih e.on hlt all[e.on] (List.getElem?_eq_getElem (by omega)) m h
                    omega
              exact key i o ho
            have := hlt' li hor
            omega
          rw [if_neg hlt] at halk
          exact halk
        · -- ahead of it
          have hlif : listed[li]? ≠ some true := fun hl => by
            obtain ⟨ol, hol⟩ : ∃ ol, all[li]? = some ol := by
              have := (Array.getElem?_eq_some_iff.1 hl).1
              exact ⟨_, List.getElem?_eq_getElem (by rw [hI.ls] at this; exact this)⟩
            have := anc_listed hd hI.ls hI.shut li ol hol (hI.shut li ol hol hl) i hor
            rw [hif] at this; cases this
          rw [if_neg hlif]
          have hle : i ≤ li := by
            have key : ∀ (i : Nat) (o : Oper), all[i]? = some o → ∀ m, m ∈ ((ancs all [])[i]?).getD [] → m < i := by
              intro i
              induction i using Nat.strongRecOn with
              | _ i ih =>
                intro o ho m hm
                obtain ⟨e, he, hb, h⟩ := ancs_mem ho hm
                have hlt := (drawRows_spec all 0 hd i o ho).1 e he hb
                simp only [Nat.zero_add] at hlt
                rcases h with rfl | h
                · exact hlt
                · have hil' : i < all.length := (List.getElem?_eq_some_iff.1 ho).1
                  have := ih e.on hlt all[e.on] (List.getElem?_eq_getElem (by omega)) m h
                  omega
            by_cases hll : li < all.length
            · have := key li all[li] (List.getElem?_eq_getElem hll) i hor
              omega
            · omega
          rw [if_pos hle] at halk
          exact halk
      have hok := evOp_sound (o := o) hΓ hop (AlkM.mem hI.mem hsame) (hopd Si (fun _ => rfl))
      refine hok hnd _ _ (fun u w' ρ' hext _ hvu hm' => ?_) (fun v u w' hp _ _ => by rw [q4] at hp; cases hp)
      refine hnext u w' ρ' (hext.mono (by rw [hsame.hp]; split; exact memOf_len _ _; exact Nat.le_refl _)) hvu ?_
      simp only [hli hne]
      rw [q1, q2, q3] at hm'
      exact AlkM.mem hm' ((alkM_nil Si).symm.trans hsame.symm)
    · -- a free one
      rw [if_pos (hgs.1 hg)]
      left
      obtain ⟨q1, q2, q3, q4⟩ := quiet_nil hq
      have hmo : Mem NoM w (cutR H.hp.length ρ) (Si.over H ks) w := mem_over (fun out h => (hlo out h).2) hH _ hI.mem
      have hok := evOp_sound (o := o) hΓ hop hmo (fun x hx => opd_of _ _ a x (fun t ht => by
        subst ht
        rw [over_get]
        unfold guardV
        split
        · rename_i hu'; exact V_under (cutR_agr _ ρ) _ _ hu' (hlook t (looks_opd hx))
        · unfold V; trivial))
      refine hok hnd _ _ (fun u w' ρ' hext _ hvu hm' => ?_) (fun v u w' hp _ _ => by rw [q4] at hp; cases hp)
      have hol : (Si.over H ks).hp.length = H.hp.length := dropB_len _ ks H.hp 0
      refine hnext u w' ρ (ExtS.refl _ _) (V_under (fun j hj => ⟨fun p hp => ?_, fun hk' => ?_⟩) _ _ hu hvu) ?_
      · have h1 := hext.2.1 j (by rw [hol]; exact hj)
        rw [hp] at h1
        obtain ⟨_, h2⟩ := cutR_old h1.symm
        exact ⟨h2, (hext.1.at_ j p h1.symm).2.symm⟩
      · have h1 := hext.2.2 j (by rw [hol]; exact hj)
        rw [h1] at hk'
        simp only [cutR, Bool.and_eq_true] at hk'
        exact hk'.2
      · simp only [hli hne]
        exact hI.mem.quiet hm'.fr

/-- A region that draws its order: proved below. -/
theorem draw_sound {P : Program} (hm : P.follows .mixedOrders = true) {N : Nat} {M : Addr → Prop} {w0 : World} {Γ : List (Nat × Ctr)} (hΓ : ∀ f c, lookC f Γ = some c → Sat P f c)
    {all : List Oper} {id : Nat} {S : St} {d : Dl} {t : Tr} {ρ : Rho} {a : Act} {w : World} {n0 : Nat} (hn0 : n0 ≤ (S.ext d).hp.length) {Q : Exit → Act → World → Prop} (he : evDraw P Γ N all S d = some t) (hn : t.need = true) (hR : Rel N M w0 ρ (S.ext d) a w)
    (hQ : ∀ ρ' a' w' e, ExtS n0 ρ ρ' → ExR ρ' (t.out S).1 e → Rel N M w0 ρ' (t.out S).2 a' w' → Q e a' w') : (Code.region id all.toArray true).wp P Q a w := by
  refine wp_region_any hm ?_
  unfold evDraw at he
  split at he
  · rename_i hd
    split at he
    rename_i li ks _
    obtain ⟨h0, vs, lo, hrun, hout⟩ := evDr_run (M := M) (w0 := w0) 300 0 all S d t (fun t => (S.ext d).get t) (S.ext d) he hn (AlkM.refl _) (fun _ _ _ h => h)
    have hcnt : (Array.replicate all.toArray.size false).toList.count false = all.toArray.size := by simp
    refine wpAny_of_inv hΓ hd (ρ0 := ρ) (D := (S.ext d).dfs) hrun ⟨hR.mem.hp.ink, hR.mem.hp.vink⟩ (fun ρ' a' w' hext hv hs hdf hmem => hQ ρ' a' w' .normal (hext.mono hn0) (by rw [h0]; rfl) (hout ρ' a' w' hv hs hdf hmem)) _ _ _ _ ρ ?_ hcnt
    refine ⟨ExtS.refl _ _, hR.sz, hR.df, ?_, by simp, fun t => Or.inr ⟨fun j o hj _ => ?_, hR.fr t⟩, fun j o hj hl => ?_⟩
    · have : ¬ ((Array.replicate all.toArray.size false)[li]? = some true) := by
        intro h
        rw [Array.getElem?_replicate] at h
        split at h <;> cases h
      rw [if_neg this]
      exact hR.mem.quiet (Fr.drew w)
    · have := (List.getElem?_eq_some_iff.1 hj).1
      simp [this]
    · exfalso
      have := (List.getElem?_eq_some_iff.1 hj).1
      simp [this] at hl
  · cases he

theorem evDraw_need {P : Program} {N : Nat} {Γ : List (Nat × Ctr)} {ops : List Oper} {S : St} {d : Dl} {t : Tr} (h : evDraw P Γ N ops S d = some t) (hn : t.need = true) : d.nd = true := by
  unfold evDraw at h
  split at h
  · split at h
    exact evDr_need 300 0 ops S d t h hn
  · cases h

/-! ### 8. Code -/
theorem bindT_out {N : Nat} {M : Addr → Prop} {w0 : World} {f : St → Dl → Option Tr} (hf : ∀ S d t, f S d = some t → t.need = true → d.nd = true) : ∀ (t1 : Tr) (S : St) (t : Tr), bindT S t1 f = some t → t.need = true →
    t1.need = true ∧ (((t1.out S).1 = .normal ∧ ∃ S' d' t', S.hp.length ≤ S'.hp.length ∧ (t1.out S).2 = S'.ext d' ∧ f S' d' = some t' ∧ t'.need = true ∧ Weak N M w0 (t'.out S') (t.out S)) ∨
    ((t1.out S).1 ≠ .normal ∧ Weak N M w0 (t1.out S) (t.out S)))
  | .leaf e d, S, t, h, hn => by
    cases e with
    | normal => exact ⟨hf S d t h hn, Or.inl ⟨rfl, S, d, t, Nat.le_refl _, rfl, h, hn, Weak.refl _⟩⟩
    | exit id => simp only [bindT, Option.some.injEq] at h; subst h; exact ⟨hn, Or.inr ⟨by simp [Tr.out], Weak.refl _⟩⟩
    | ret => simp only [bindT, Option.some.injEq] at h; subst h; exact ⟨hn, Or.inr ⟨by simp [Tr.out], Weak.refl _⟩⟩
    | panic v => simp only [bindT, Option.some.injEq] at h; subst h; exact ⟨hn, Or.inr ⟨by simp [Tr.out], Weak.refl _⟩⟩
  | .node d b l r, S, t, h, hn => by
    simp only [bindT, Option.some.injEq] at h
    subst h
    have hw := mkNode_weak (N := N) (M := M) (w0 := w0) S d b (orStuck (bindT (S.ext d) l f)) (orStuck (bindT (S.ext d) r f))
    obtain ⟨hd, hnb⟩ := mkNode_need _ _ _ _ _ hn
    simp only [Tr.out, Tr.need]
    cases b with
    | true =>
      obtain ⟨l', hl, hle, hln⟩ := orStuck_need (by simpa using hnb)
      simp only [if_true] at hw ⊢
      rw [hle] at hw
      obtain ⟨g0, g⟩ := bindT_out (N := N) (M := M) (w0 := w0) hf l (S.ext d) l' hl hln
      refine ⟨by rw [hd]; simpa using g0, ?_⟩
      rcases g with ⟨h1, S', d', t', h0, h2, h3, h4, h5⟩ | ⟨h1, h2⟩
      · exact Or.inl ⟨h1, S', d', t', Nat.le_trans (by simp [St.ext]) h0, h2, h3, h4, h5.trans (by rw [hle]; exact hw)⟩
      · exact Or.inr ⟨h1, h2.trans (by rw [hle]; exact hw)⟩
    | false =>
      obtain ⟨l', hl, hle, hln⟩ := orStuck_need (by simpa using hnb)
      simp only [Bool.false_eq_true, if_false] at hw ⊢
      rw [hle] at hw
      obtain ⟨g0, g⟩ := bindT_out (N := N) (M := M) (w0 := w0) hf r (S.ext d) l' hl hln
      refine ⟨by rw [hd]; simpa using g0, ?_⟩
      rcases g with ⟨h1, S', d', t', h0, h2, h3, h4, h5⟩ | ⟨h1, h2⟩
      · exact Or.inl ⟨h1, S', d', t', Nat.le_trans (by simp [St.ext]) h0, h2, h3, h4, h5.trans (by rw [hle]; exact hw)⟩
      · exact Or.inr ⟨h1, h2.trans (by rw [hle]; exact hw)⟩
end Go.Ab
