import Derived.Test.YtbblhkjkokbheaaGb
import Derived.Orders
import Derived.Scope
namespace Go.Ab
open Go Go.RowKit
set_option linter.unusedVariables false

/-! ### 10. A region that draws its order -/
def putE (E : Nat → AVal) (dst : Option Nat) (v : AVal) : Nat → AVal := fun t => if dst = some t then v else E t

def envN : (Nat → AVal) → List (Option Nat) → List AVal → Nat → AVal
  | E, d :: ds, v :: vs => envN (putE E d v) ds vs
  | E, _, _ => E

/-- The same memory. -/
structure AlkM (S S' : St) : Prop where
  hp : S'.hp = S.hp
  hv : ∀ i o, hlookL i o S'.hvs = hlookL i o S.hvs
  vv : ∀ i, vlookL i S'.vvs = vlookL i S.vvs

theorem AlkM.refl (S : St) : AlkM S S := ⟨rfl, fun _ _ => rfl, fun _ => rfl⟩
theorem AlkM.trans {A B C : St} (h : AlkM A B) (k : AlkM B C) : AlkM A C := ⟨k.hp.trans h.hp, fun i o => (k.hv i o).trans (h.hv i o), fun i => (k.vv i).trans (h.vv i)⟩
theorem AlkM.symm {A B : St} (h : AlkM A B) : AlkM B A := ⟨h.hp.symm, fun i o => (h.hv i o).symm, fun i => (h.vv i).symm⟩

theorem AlkM.mem {M : Addr → Prop} {w0 : World} {ρ : Rho} {S S' : St} {w : World} (h : Mem M w0 ρ S w) (k : AlkM S S') : Mem M w0 ρ S' w :=
  h.same (fun i o => by unfold St.cell St.blk; rw [k.hp, k.hv]) (fun i => by unfold St.blk; rw [k.hp]) (fun i => by unfold St.vec St.blk; rw [k.hp, k.vv]) (by rw [k.hp])
    (fun i o x hx => by rw [k.hv] at hx; rw [k.hp]; exact h.hp.ink i o x hx) (fun i x hx => by rw [k.vv] at hx; rw [k.hp]; exact h.hp.vink i x hx)

theorem AlkM.put {A B : St} (h : AlkM A B) (hv : List ((Nat × Nat) × AVal)) (vv : List (Nat × Vc)) (nw : List Blk) : AlkM (A.put hv vv nw) (B.put hv vv nw) :=
  ⟨by simp [St.put, St.ext, h.hp], fun i o => by simp only [St.put, St.ext, hlookL, h.hv], fun i => by simp only [St.put, St.ext, vlookL, h.vv]⟩

theorem alkM_put (S : St) (d : Dl) (dst : Option Nat) (v : AVal) (hv : List ((Nat × Nat) × AVal)) (vv : List (Nat × Vc)) (nw : List Blk) (nd : Bool) : AlkM ((S.ext d).put hv vv nw) (S.ext (d.put dst v hv vv nw nd)) :=
  ⟨blk_put .., fun i o => hlookL_put .., fun i => vlookL_put ..⟩

theorem alkM_nil (S : St) : AlkM S (S.put [] [] []) := ⟨by simp [St.put, St.ext], fun i o => by simp [St.put, St.ext, hlookL, hlook1], fun i => by simp [St.put, St.ext, vlookL, vlook1]⟩

theorem alkM_one (S : St) (t : Nat) (b : AVal) : AlkM S (S.ext (Dl.one t b)) :=
  ⟨by simp [Dl.one, St.ext], fun i o => by simp [Dl.one, St.ext, hlookL, hlook1], fun i => by simp [Dl.one, St.ext, vlookL, vlook1]⟩

/-! a state in which less is known, and nothing may be written -/
theorem guardL_len (n : Nat) : ∀ l : List AVal, (guardL n l).length = l.length
  | [] => rfl
  | x :: r => by simp [guardL, guardL_len n r]
theorem guardL_nth (n : Nat) : ∀ (l : List AVal) (o : Nat), o < l.length → nth o (guardL n l) = guardV n (nth o l)
  | [], o, h => by simp at h
  | x :: r, 0, _ => rfl
  | x :: r, o + 1, h => guardL_nth n r o (by simpa using h)
theorem guardH_look (n i o : Nat) : ∀ l : List ((Nat × Nat) × AVal), hlook1 i o (guardH n l) = (hlook1 i o l).map (guardV n)
  | [] => rfl
  | (k, x) :: r => by
    simp only [guardH, hlook1]
    split
    · rfl
    · exact guardH_look n i o r
theorem guardHs_look (n i o : Nat) : ∀ l : List (List ((Nat × Nat) × AVal)), hlookL i o (guardHs n l) = (hlookL i o l).map (guardV n)
  | [] => rfl
  | l :: r => by
    simp only [guardHs, hlookL, guardH_look]
    cases hlook1 i o l with
    | some v => rfl
    | none => exact guardHs_look n i o r

theorem dropB_get (n : Nat) (ks : List Nat) : ∀ (l : List Blk) (k i : Nat), (nthB i (dropB n ks k l)).wr = false ∧ ((nthB i (dropB n ks k l)).cells = [] ∨ (nthB i (dropB n ks k l)).cells = guardL n (nthB i l).cells) ∧
    ((k + i) ∈ ks → nthB i (dropB n ks k l) = ⟨[], false, none⟩) ∧
    ∀ v, (nthB i (dropB n ks k l)).vc = some v → (nthB i (dropB n ks k l)).cells = guardL n (nthB i l).cells ∧ v.wr = false ∧ ∃ u, (nthB i l).vc = some u ∧ v = ⟨u.sh, u.n, u.fd, u.gd, u.bd, false⟩
  | [], k, i => by cases i <;> simp [dropB, nthB, guardL]
  | b :: r, k, 0 => by
    simp only [dropB, nthB]
    split
    · simp
    · rename_i hm
      refine ⟨rfl, Or.inr rfl, fun hk => ?_, fun v hv => ⟨rfl, ?_⟩⟩
      · have := (memN_iff k ks).2 (by simpa using hk)
        rw [this] at hm; cases hm
      · simp only at hv
        split at hv
        · rename_i u hu; cases hv; exact ⟨rfl, u, hu, rfl⟩
        · cases hv
  | b :: r, k, i + 1 => by
    simp only [dropB, nthB]
    have := dropB_get n ks r (k + 1) i
    have e : k + 1 + i = k + (i + 1) := by omega
    rw [e] at this; exact this

theorem dropB_len (n : Nat) (ks : List Nat) : ∀ (l : List Blk) (k : Nat), (dropB n ks k l).length = l.length
  | [], k => rfl
  | b :: r, k => by simp [dropB, dropB_len n ks r]

theorem guardO_look (n t : Nat) : ∀ l : List (Nat × AVal), look1 t (guardO n l) = (look1 t l).map (guardA n)
  | [] => rfl
  | (k, x) :: r => by
    simp only [guardO, look1]
    split
    · rfl
    · exact guardO_look n t r
theorem guardOs_look (n t : Nat) : ∀ l : List (List (Nat × AVal)), lookL t (guardOs n l) = (lookL t l).map (guardA n)
  | [] => rfl
  | l :: r => by
    simp only [guardOs, lookL, guardO_look]
    cases look1 t l with
    | some v => rfl
    | none => exact guardOs_look n t r
theorem guardL_all (n : Nat) : ∀ (l : List AVal) (o : Nat), nth o (guardA.guardAL n l) = guardA n (nth o l)
  | [], o => by cases o <;> rfl
  | x :: r, 0 => rfl
  | x :: r, o + 1 => guardL_all n r o
theorem V_guardV {m : Nat} {ρ ρ' : Rho} (h : Agr m ρ ρ') (x : AVal) (v : Value) (k : V ρ x v) : V ρ' (guardV m x) v := by
  unfold guardV
  split
  · rename_i hu; exact V_under h x v hu k
  · unfold V; trivial
mutual
theorem V_guardA {m : Nat} {ρ ρ' : Rho} (h : Agr m ρ ρ') : ∀ (x : AVal) (v : Value), V ρ x v → V ρ' (guardA m x) v
  | .agg cs, v, k => by
    unfold V at k
    obtain ⟨us, rfl, hl⟩ := k
    show V ρ' (.agg (guardA.guardAL m cs)) _
    unfold V
    exact ⟨us, rfl, VL_guardA h cs us hl⟩
  | .tuple cs, v, k => by
    unfold V at k
    obtain ⟨us, rfl, hl⟩ := k
    show V ρ' (.tuple (guardA.guardAL m cs)) _
    unfold V
    exact ⟨us, rfl, VL_guardA h cs us hl⟩
  | .bad, v, k => V_guardV h _ v k
  | .bool _, v, k => V_guardV h _ v k
  | .sbool _, v, k => V_guardV h _ v k
  | .int _ _, v, k => V_guardV h _ v k
  | .sint _ _, v, k => V_guardV h _ v k
  | .cbool _ _, v, k => V_guardV h _ v k
  | .cint _ _ _, v, k => V_guardV h _ v k
  | .flt _ _, v, k => V_guardV h _ v k
  | .lint _ _ _, v, k => V_guardV h _ v k
  | .ptr _ _, v, k => V_guardV h _ v k
  | .vptr _ _ _ _, v, k => V_guardV h _ v k
  | .slice _ _ _ _, v, k => V_guardV h _ v k
  | .vec _ _ _ _, v, k => V_guardV h _ v k
  | .raw _, v, k => V_guardV h _ v k
  | .fn _ _ _, v, k => V_guardV h _ v k
  | .ifc _ _, v, k => V_guardV h _ v k
theorem VL_guardA {m : Nat} {ρ ρ' : Rho} (h : Agr m ρ ρ') : ∀ (xs : List AVal) (vs : List Value), VL ρ xs vs → VL ρ' (guardA.guardAL m xs) vs
  | [], vs, k => by
    unfold VL at k
    show VL ρ' [] vs
    unfold VL
    exact k
  | x :: xs, vs, k => by
    unfold VL at k
    obtain ⟨v, vs', rfl, h1, h2⟩ := k
    show VL ρ' (guardA m x :: guardA.guardAL m xs) _
    unfold VL
    exact ⟨v, vs', rfl, V_guardA h x v h1, VL_guardA h xs vs' h2⟩
end
theorem over_get (S H : St) (ks : List Nat) (t : Nat) : (S.over H ks).get t = guardA H.hp.length (S.get t) := by
  show (match lookL t (guardOs H.hp.length S.ovs) with | some v => v | none => nth t (guardA.guardAL H.hp.length S.fr)) = _
  rw [guardOs_look, guardL_all]
  unfold St.get
  cases lookL t S.ovs <;> rfl

theorem vlook1_roV (i : Nat) : ∀ l : List (Nat × Vc), vlook1 i (roV l) = (vlook1 i l).map fun u => ⟨u.sh, u.n, u.fd, u.gd, u.bd, false⟩
  | [] => rfl
  | (k, v) :: r => by
    simp only [roV, vlook1]
    split
    · rfl
    · exact vlook1_roV i r
theorem vlookL_roVs (i : Nat) : ∀ l : List (List (Nat × Vc)), vlookL i (roVs l) = (vlookL i l).map fun u => ⟨u.sh, u.n, u.fd, u.gd, u.bd, false⟩
  | [] => rfl
  | l :: r => by
    simp only [roVs, vlookL, vlook1_roV]
    cases vlook1 i l with
    | some v => rfl
    | none => exact vlookL_roVs i r

theorem over_cell {S H : St} {ks : List Nat} {i o : Nat} {x : AVal} (h : (S.over H ks).cell i o = some x) : i ∉ ks ∧ ∃ y, H.cell i o = some y ∧ x = guardV H.hp.length y := by
  have hd := dropB_get H.hp.length ks H.hp 0 i
  unfold St.cell at h ⊢
  have hb : (S.over H ks).blk i = nthB i (dropB H.hp.length ks 0 H.hp) := rfl
  have hh : (S.over H ks).hvs = guardHs H.hp.length H.hvs := rfl
  rw [hb, hh, guardHs_look] at h
  have hne : i ∉ ks := fun hk => by
    rw [hd.2.2.1 (by simpa using hk)] at h
    have e : Nat.ble (o + 1) ([] : List AVal).length = false := rfl
    rw [e] at h; cases h
  refine ⟨hne, ?_⟩
  rcases hd.2.1 with h1 | h1
  · rw [h1] at h
    have e : Nat.ble (o + 1) ([] : List AVal).length = false := rfl
    rw [e] at h; cases h
  · rw [h1, guardL_len] at h
    have hbl : H.blk i = nthB i H.hp := rfl
    rw [hbl]
    split at h
    · rename_i hle
      have hlt := Nat.le_of_ble_eq_true hle
      try (rw [hle]; simp only)
      rw [guardL_nth _ _ _ hlt] at h
      cases hk : hlookL i o H.hvs with
      | some y => rw [hk] at h; simp only [Option.map_some, Option.some.injEq] at h; exact ⟨y, rfl, h.symm⟩
      | none => rw [hk] at h; simp only [Option.map_none, Option.some.injEq] at h; exact ⟨_, rfl, h.symm⟩
    · cases h

theorem over_vec {S H : St} {ks : List Nat} {i : Nat} {x : Vc} (h : (S.over H ks).vec i = some x) : x.wr = false ∧ i ∉ ks ∧ ∃ u, H.vec i = some u ∧ u.sh = x.sh ∧ u.n = x.n ∧ ∀ k o c, u.mkA k o c = x.mkA k o c := by
  have hd := dropB_get H.hp.length ks H.hp 0 i
  unfold St.vec at h ⊢
  have hb : (S.over H ks).blk i = nthB i (dropB H.hp.length ks 0 H.hp) := rfl
  have hvv : (S.over H ks).vvs = roVs H.vvs := rfl
  rw [hb] at h
  split at h
  · rename_i v hcs hvc
    obtain ⟨h1, h2, u, h3, h4⟩ := hd.2.2.2 v hvc
    have hne : i ∉ ks := fun hk => by rw [hd.2.2.1 (by simpa using hk)] at hvc; cases hvc
    have hcs' : (H.blk i).cells = [] := by
      show (nthB i H.hp).cells = []
      rw [h1] at hcs
      have := guardL_len H.hp.length (nthB i H.hp).cells
      rw [hcs] at this
      exact List.eq_nil_of_length_eq_zero this.symm
    have hvc' : (H.blk i).vc = some u := h3
    rw [hvv, vlookL_roVs] at h
    rw [hcs', hvc']
    cases hl : vlookL i H.vvs with
    | some y =>
      rw [hl] at h
      simp only [Option.map_some, Option.some.injEq] at h
      subst h
      exact ⟨rfl, hne, y, rfl, rfl, rfl, fun k o c => by cases c <;> rfl⟩
    | none =>
      rw [hl] at h
      simp only [Option.map_none, Option.some.injEq] at h
      subst h; subst h4
      exact ⟨rfl, hne, u, rfl, rfl, rfl, fun k o c => by cases c <;> rfl⟩
  · cases h

/-- Below a number of blocks alone. -/
def cutR (n : Nat) (ρ : Rho) : Rho := ⟨fun i => if i < n then ρ i else none, ρ.cap, fun i => decide (i < n) && ρ.kn i⟩

theorem cutR_old {n i : Nat} {ρ : Rho} {p : Nat × Nat} (h : (cutR n ρ) i = some p) : i < n ∧ ρ i = some p := by
  simp only [cutR] at h
  split at h
  · rename_i hi; exact ⟨hi, h⟩
  · cases h
theorem cutR_agr (n : Nat) (ρ : Rho) : Agr n ρ (cutR n ρ) := fun i hi => ⟨fun p hp => ⟨by simp only [cutR]; rw [if_pos hi]; exact hp, rfl⟩, fun hk => by simp only [cutR, hi, decide_true, Bool.true_and]; exact hk⟩

/-- What is not known can't hurt: 'X' is the memory, of which 'H' is a part but for the blocks 'ks'. -/
theorem Mem.over {M : Addr → Prop} {w0 : World} {ρ : Rho} {S H X : St} {w : World} {ks : List Nat} (h : Mem M w0 ρ X w) (hl : H.hp.length ≤ X.hp.length)
    (hc : ∀ i o x, H.cell i o = some x → i ∉ ks → X.cell i o = some x)
    (hv : ∀ i x, H.vec i = some x → i ∉ ks → X.vec i = some x)
    (hink : ∀ i o x, hlookL i o H.hvs = some x → i < H.hp.length) (hvink : ∀ i x, vlookL i H.vvs = some x → i < H.hp.length) : Mem NoM w (cutR H.hp.length ρ) (S.over H ks) w := by
  have hlen : (S.over H ks).hp.length = H.hp.length := dropB_len _ ks H.hp 0
  have hvk : ∀ (x : Vc) k o c v, V ρ (x.mkA k o c) v → V (cutR H.hp.length ρ) (x.mkA k o c) v := fun x k o c v hx => V_flat _ _ (by cases c <;> rfl) hx
  refine ⟨⟨fun i o x hx => ?_, fun i vc r b k o c hx hr hk hcc => ?_, fun i o x r b hx hw => ?_, fun i vc r b q hx hw => ?_, fun i vc r b hx hw => ?_, fun i j r b b' hij hw => ?_, fun i p hp => ?_, fun i hk => ?_, fun i o x hx => ?_, fun i x hx => ?_, fun i r b hr => h.hp.lt i r b (cutR_old hr).2⟩, Fr.refl _ _, ⟨fun i o x r b hx hw => ?_, fun i vc r b q hx hw => ?_⟩⟩
  · obtain ⟨h2, y, h1, rfl⟩ := over_cell hx
    have hi := cell_lt h1
    obtain ⟨r, b, v, k1, k2, k3⟩ := h.hp.cell i o y (hc i o y h1 h2)
    obtain ⟨g1, _⟩ := (cutR_agr H.hp.length ρ i hi).1 _ k1
    refine ⟨r, b, v, g1, k2, ?_⟩
    unfold guardV
    split
    · rename_i hu; exact V_under (cutR_agr _ ρ) y v hu k3
    · unfold V; trivial
  · obtain ⟨_, h2, u, h3, h4, h5, h6⟩ := over_vec hx
    obtain ⟨v, k1, k2⟩ := h.hp.vcell i u r b k o c (hv i u h3 h2) (cutR_old hr).2 (by rw [h5]; exact hk) (by rw [h4]; exact hcc)
    exact ⟨v, by rw [← h4]; exact k1, by rw [← h6]; exact hvk u k o c v k2⟩
  · have hb : (S.over H ks).blk i = nthB i (dropB H.hp.length ks 0 H.hp) := rfl
    rw [hb, (dropB_get H.hp.length ks H.hp 0 i).1] at hw; cases hw
  · rw [(over_vec hx).1] at hw; cases hw
  · rw [(over_vec hx).1] at hw; cases hw
  · rcases wrB_iff.1 hw with ⟨o, x, hx, hw⟩ | ⟨x, hx, hw⟩
    · have hb : (S.over H ks).blk i = nthB i (dropB H.hp.length ks 0 H.hp) := rfl
      rw [hb, (dropB_get H.hp.length ks H.hp 0 i).1] at hw; cases hw
    · rw [(over_vec hx).1] at hw; cases hw
  · rw [hlen]; exact (cutR_old hp).1
  · rw [hlen]
    simp only [cutR, Bool.and_eq_true, decide_eq_true_eq] at hk
    exact hk.1
  · rw [hlen]
    have hh : (S.over H ks).hvs = guardHs H.hp.length H.hvs := rfl
    rw [hh, guardHs_look] at hx
    cases hl' : hlookL i o H.hvs with
    | some y => exact hink i o y hl'
    | none => rw [hl'] at hx; cases hx
  · rw [hlen]
    have hvv : (S.over H ks).vvs = roVs H.vvs := rfl
    rw [hvv, vlookL_roVs] at hx
    cases hl' : vlookL i H.vvs with
    | some y => exact hvink i y hl'
    | none => rw [hl'] at hx; cases hx
  · have hb : (S.over H ks).blk i = nthB i (dropB H.hp.length ks 0 H.hp) := rfl
    rw [hb, (dropB_get H.hp.length ks H.hp 0 i).1] at hw; cases hw
  · rw [(over_vec hx).1] at hw; cases hw

theorem guardOf_split {all : List Oper} {S : St} {g : Option (Nat × Bool)} {t : Nat} {b : Bool} (h : guardOf all S g = .split t b) : S.get t = .sbool b := by
  unfold guardOf at h
  split at h
  · cases h
  · split at h
    · cases h
    · rename_i t' _
      split at h
      · split at h <;> cases h
      · rename_i b' hv
        simp only [Gd.split.injEq] at h
        obtain ⟨rfl, rfl⟩ := h
        exact hv
      · cases h
      · cases h


/-- A run in the text's order: what each operation yields, and which ones are loud. -/
inductive RunD (P : Program) (Γ : List (Nat × Ctr)) (N : Nat) (all : List Oper) (anc : List (List Nat)) (ls : List Nat) (ks : List (Nat × List Nat)) (H : St) : Nat → List Oper → St → (Nat → AVal) → List AVal → List (Nat × Out) → Prop
  | nil (i : Nat) (m : St) (E : Nat → AVal) : RunD P Γ N all anc ls ks H i [] m E [] []
  | no {i : Nat} {o : Oper} {rest : List Oper} {m : St} {E : Nat → AVal} {vs : List AVal} {lo : List (Nat × Out)} (Si : St) (hh : AlkM m Si) (he : ∀ t ρ u, V ρ (E t) u → V ρ (Si.get t) u)
      (hg : guardOf all Si o.guard = .no) (hd : okDst N o.dst = true) (hr : RunD P Γ N all anc ls ks H (i + 1) rest m (putE E o.dst (.raw undef)) vs lo) : RunD P Γ N all anc ls ks H i (o :: rest) m E (.raw undef :: vs) lo
  | loud {i : Nat} {o : Oper} {rest : List Oper} {m : St} {E : Nat → AVal} {vs : List AVal} {lo : List (Nat × Out)} {out : Out} (Si : St) (hh : AlkM m Si) (he : ∀ t ρ u, V ρ (E t) u → V ρ (Si.get t) u) (hi : i ∈ ls)
      (hc : ∀ l ∈ ls, l = i ∨ l ∈ (anc[i]?).getD [] ∨ i ∈ (anc[l]?).getD [])
      (hg : guardOf all Si o.guard = .yes) (hop : evOp P Γ Si o.op = some out) (hpn : out.pn = none) (hk : killsOk (kOf i ks) out = true) (hnd : out.nd = true) (hd : okDst N o.dst = true)
      (hr : RunD P Γ N all anc ls ks H (i + 1) rest (m.put out.hv out.vv out.nw) (putE E o.dst out.v) vs lo) : RunD P Γ N all anc ls ks H i (o :: rest) m E (out.v :: vs) ((i, out) :: lo)
  | ord {i : Nat} {o : Oper} {rest : List Oper} {m : St} {E : Nat → AVal} {vs : List AVal} {lo : List (Nat × Out)} {out : Out} (Si : St) (hh : AlkM m Si) (he : ∀ t ρ u, V ρ (E t) u → V ρ (Si.get t) u) (hi : i ∉ ls)
      (hc : ∀ l ∈ ls, l = i ∨ l ∈ (anc[i]?).getD [] ∨ i ∈ (anc[l]?).getD [])
      (hg : guardOf all Si o.guard = .yes) (hop : evOp P Γ Si o.op = some out) (hq : out.quiet = true) (hnd : out.nd = true) (hd : okDst N o.dst = true)
      (hr : RunD P Γ N all anc ls ks H (i + 1) rest m (putE E o.dst out.v) vs lo) : RunD P Γ N all anc ls ks H i (o :: rest) m E (out.v :: vs) lo
  | free {i : Nat} {o : Oper} {rest : List Oper} {m : St} {E : Nat → AVal} {vs : List AVal} {lo : List (Nat × Out)} {out : Out} (Si : St) (hh : AlkM m Si) (he : ∀ t ρ u, V ρ (E t) u → V ρ (Si.get t) u) (hi : i ∉ ls)
      (hg : guardOf all Si o.guard = .yes) (hop : evOp P Γ (Si.over H (kNot anc i ks)) o.op = some out) (hq : out.quiet = true) (hu : out.v.under H.hp.length = true) (hnd : out.nd = true) (hd : okDst N o.dst = true)
      (hr : RunD P Γ N all anc ls ks H (i + 1) rest m (putE E o.dst out.v) vs lo) : RunD P Γ N all anc ls ks H i (o :: rest) m E (out.v :: vs) lo

/-- The memory behind some loud ones. -/
def memL (m : St) : List (Nat × Out) → St
  | [] => m
  | p :: r => memL (m.put p.2.hv p.2.vv p.2.nw) r

theorem memL_len : ∀ (lo : List (Nat × Out)) (m : St), m.hp.length ≤ (memL m lo).hp.length
  | [], m => Nat.le_refl _
  | p :: r, m => Nat.le_trans (by simp [St.put, St.ext]) (memL_len r _)
theorem memL_app : ∀ (a b : List (Nat × Out)) (m : St), memL m (a ++ b) = memL (memL m a) b
  | [], b, m => rfl
  | p :: a, b, m => memL_app a b _

theorem quiet_nil {out : Out} (h : out.quiet = true) : out.hv = [] ∧ out.vv = [] ∧ out.nw = [] ∧ out.pn = none := by
  unfold Out.quiet at h
  split at h
  · rename_i h1 h2 h3 h4; exact ⟨h1, h2, h3, h4⟩
  · cases h

section
variable {P : Program} {N : Nat}

theorem evDr_need {Γ : List (Nat × Ctr)} {all : List Oper} {anc : List (List Nat)} {ls : List Nat} {ks : List (Nat × List Nat)} {H : St} : ∀ (n i : Nat) (rest : List Oper) (S : St) (d : Dl) (t : Tr), evDr P Γ N all anc ls ks H n i rest S d = some t → t.need = true → d.nd = true
  | 0, _, _, _, _, _, h, _ => by simp [evDr] at h
  | n + 1, i, [], S, d, t, h, hn => by simp [evDr] at h; subst h; exact hn
  | n + 1, i, o :: rest, S, d, t, h, hn => by
    simp only [evDr] at h
    split at h
    · cases h
    · split at h
      · cases h
      · have hk := evDr_need n _ rest S _ t h hn; exact (andN_and (b := true) hk).1
      · cases h; exact (mkNode_need _ _ _ _ _ hn).1
      · split at h
        · split at h
          · split at h
            · split at h
              · exact (andN_and (evDr_need n _ rest S _ t h hn)).1
              · cases h
            · split at h
              · exact (andN_and (evDr_need n _ rest S _ t h hn)).1
              · cases h
          · cases h
        · split at h
          · cases h
          · split at h
            · split at h
              · exact (andN_and (evDr_need n _ rest S _ t h hn)).1
              · cases h
            · cases h

theorem cmpOk_spec {anc : List (List Nat)} {ls : List Nat} {i : Nat} (h : cmpOk anc ls i = true) : ∀ l ∈ ls, l = i ∨ l ∈ (anc[i]?).getD [] ∨ i ∈ (anc[l]?).getD [] := by
  intro l hl
  have := List.all_eq_true.1 h l hl
  simp only [Bool.or_eq_true] at this
  rcases this with h | h | h
  · exact Or.inl (Nat.eq_of_beq_eq_true h)
  · exact Or.inr (Or.inl ((memN_iff _ _).1 h))
  · exact Or.inr (Or.inr ((memN_iff _ _).1 h))

theorem evDr_run {Γ : List (Nat × Ctr)} {all : List Oper} {anc : List (List Nat)} {ls : List Nat} {ks : List (Nat × List Nat)} {H : St} {M : Addr → Prop} {w0 : World} : ∀ (n i : Nat) (rest : List Oper) (S : St) (d : Dl) (t : Tr) (E : Nat → AVal) (m : St),
    evDr P Γ N all anc ls ks H n i rest S d = some t → t.need = true → AlkM m (S.ext d) → (∀ t ρ u, V ρ (E t) u → V ρ ((S.ext d).get t) u) →
    (t.out S).1 = .normal ∧ ∃ vs lo, RunD P Γ N all anc ls ks H i rest m E vs lo ∧
      ∀ ρ a w, (∀ t, V ρ (envN E (rest.map (·.dst)) vs t) (a.tmps.getD t undef)) → a.tmps.size = N → DfV ρ (S.ext d).dfs a.defers → Mem M w0 ρ (memL m lo) w → Rel N M w0 ρ (t.out S).2 a w
  | 0, _, _, _, _, _, _, _, h, _, _, _ => by simp [evDr] at h
  | n + 1, i, [], S, d, t, E, m, h, hn, hh, he => by
    simp [evDr] at h; subst h
    exact ⟨rfl, [], [], .nil i m E, fun ρ a w hv hs hd hm => ⟨fun t => he t ρ _ (hv t), hs, hd, AlkM.mem hm hh⟩⟩
  | n + 1, i, o :: rest, S, d, t, E, m, h, hn, hh, he => by
    simp only [evDr] at h
    have hput : ∀ v hv vv nw nd t' ρ u, V ρ (putE E o.dst v t') u → V ρ ((S.ext (d.put o.dst v hv vv nw nd)).get t') u := by
      intro v hv vv nw nd t' ρ u hvv
      rw [get_put]
      unfold putE at hvv
      split
      · rename_i hc; rw [if_pos hc] at hvv; exact hvv
      · rename_i hc; rw [if_neg hc] at hvv; exact he t' ρ u hvv
    have hdfs : ∀ v hv vv nw nd, (S.ext (d.put o.dst v hv vv nw nd)).dfs = (S.ext d).dfs := fun v hv vv nw nd => by simp [St.ext, Dl.put]
    have halk : ∀ v nd, AlkM m (S.ext (d.put o.dst v [] [] [] nd)) := fun v nd => hh.trans ((alkM_nil _).trans (alkM_put S d o.dst v [] [] [] nd))
    split at h
    · cases h
    · rename_i hdst
      simp only [Bool.and_eq_true] at hdst
      split at h
      · cases h
      · rename_i hg
        obtain ⟨h0, vs, lo, h1, h2⟩ := evDr_run n _ rest S _ t (putE E o.dst (.raw undef)) m h hn (halk _ _) (hput _ _ _ _ _)
        exact ⟨h0, .raw undef :: vs, lo, .no (S.ext d) hh he hg hdst.1 h1, fun ρ a w hv hs hd hm => h2 ρ a w hv hs (by rw [hdfs]; exact hd) hm⟩
      · rename_i s b hg
        have hsb : (S.ext d).get s = .sbool b := guardOf_split hg
        cases h
        have hw := mkNode_weak (N := N) (M := M) (w0 := w0) S d b (orStuck (evDr P Γ N all anc ls ks H n i (o :: rest) (S.ext d) (Dl.one s (.bool true)))) (orStuck (evDr P Γ N all anc ls ks H n i (o :: rest) (S.ext d) (Dl.one s (.bool false))))
        have hnb := (mkNode_need _ _ _ _ _ hn).2
        have hE : ∀ t ρ u, V ρ (E t) u → V ρ (((S.ext d).ext (Dl.one s (.bool b))).get t) u := by
          intro t ρ u hv
          rw [get_ext]
          simp only [Dl.one, look1]
          cases hb : Nat.beq t s with
          | true =>
            have := Nat.eq_of_beq_eq_true hb
            subst this
            have := he t ρ u hv
            rw [hsb] at this
            unfold V at this ⊢; exact this
          | false => exact he t ρ u hv
        have hdf1 : ∀ b : Bool, ((S.ext d).ext (Dl.one s (.bool b))).dfs = (S.ext d).dfs := fun b => by simp [St.ext, Dl.one]
        cases b with
        | true =>
          obtain ⟨l, hl, hle, hln⟩ := orStuck_need (by simpa using hnb)
          obtain ⟨h0, vs, lo, h1, h2⟩ := evDr_run n i (o :: rest) (S.ext d) _ l E m hl hln (hh.trans (alkM_one _ s _)) hE
          refine ⟨?_, vs, lo, h1, fun ρ a w hv hs hd hm => hw.2 _ _ _ (by simpa [hle] using h2 ρ a w hv hs (by rw [hdf1]; exact hd) hm)⟩
          rw [hw.1]; simpa [hle] using h0
        | false =>
          obtain ⟨l, hl, hle, hln⟩ := orStuck_need (by simpa using hnb)
          obtain ⟨h0, vs, lo, h1, h2⟩ := evDr_run n i (o :: rest) (S.ext d) _ l E m hl hln (hh.trans (alkM_one _ s _)) hE
          refine ⟨?_, vs, lo, h1, fun ρ a w hv hs hd hm => hw.2 _ _ _ (by simpa [hle] using h2 ρ a w hv hs (by rw [hdf1]; exact hd) hm)⟩
          rw [hw.1]; simpa [hle] using h0
      · rename_i hg
        split at h
        · rename_i hcm
          have hcm := cmpOk_spec hcm
          split at h
          · rename_i out hout
            split at h
            · -- a loud one
              rename_i hil
              have hil := (memN_iff _ _).1 hil
              split at h
              · rename_i hpn hkk
                have hnd := (andN_and (evDr_need n _ rest S _ t h hn)).2
                obtain ⟨h0, vs, lo, h1, h2⟩ := evDr_run n _ rest S _ t (putE E o.dst out.v) (m.put out.hv out.vv out.nw) h hn ((hh.put out.hv out.vv out.nw).trans (alkM_put ..)) (hput _ _ _ _ _)
                exact ⟨h0, out.v :: vs, (i, out) :: lo, .loud (S.ext d) hh he hil hcm hg hout hpn hkk hnd hdst.1 h1, fun ρ a w hv hs hd hm => h2 ρ a w hv hs (by rw [hdfs]; exact hd) hm⟩
              · cases h
            · rename_i hil
              have hne : i ∉ ls := fun e => by rw [(memN_iff _ _).2 e] at hil; cases hil
              split at h
              · rename_i hq
                have hnd := (andN_and (evDr_need n _ rest S _ t h hn)).2
                obtain ⟨h0, vs, lo, h1, h2⟩ := evDr_run n _ rest S _ t (putE E o.dst out.v) m h hn (halk _ _) (hput _ _ _ _ _)
                exact ⟨h0, out.v :: vs, lo, .ord (S.ext d) hh he hne hcm hg hout hq hnd hdst.1 h1, fun ρ a w hv hs hd hm => h2 ρ a w hv hs (by rw [hdfs]; exact hd) hm⟩
              · cases h
          · cases h
        · split at h
          · cases h
          · rename_i hil
            have hne : i ∉ ls := fun e => by rw [(memN_iff _ _).2 e] at hil; cases hil
            split at h
            · rename_i out hout
              split at h
              · rename_i hq
                simp only [Bool.and_eq_true] at hq
                have hnd := (andN_and (evDr_need n _ rest S _ t h hn)).2
                obtain ⟨h0, vs, lo, h1, h2⟩ := evDr_run n _ rest S _ t (putE E o.dst out.v) m h hn (halk _ _) (hput _ _ _ _ _)
                exact ⟨h0, out.v :: vs, lo, .free (S.ext d) hh he hne hg hout hq.1 hq.2 hnd hdst.1 h1, fun ρ a w hv hs hd hm => h2 ρ a w hv hs (by rw [hdfs]; exact hd) hm⟩
              · cases h
            · cases h
end

theorem envN_keep : ∀ (ds : List (Option Nat)) (vs : List AVal) (E : Nat → AVal) (t : Nat), (∀ k : Nat, ds[k]? ≠ some (some t)) → envN E ds vs t = E t
  | [], _, _, _, _ => by simp [envN]
  | _ :: _, [], _, _, _ => by simp [envN]
  | d :: ds, v :: vs, E, t, h => by
    simp only [envN]
    rw [envN_keep ds vs _ t (fun k => by simpa using h (k + 1))]
    unfold putE
    rw [if_neg (fun e => h 0 (by simp [e]))]

theorem envN_at : ∀ (ds : List (Option Nat)) (vs : List AVal) (E : Nat → AVal) (t k : Nat) (v : AVal), ds[k]? = some (some t) → vs[k]? = some v → (∀ m : Nat, m ≠ k → ds[m]? ≠ some (some t)) → envN E ds vs t = v
  | [], _, _, _, _, _, h, _, _ => by simp at h
  | _ :: _, [], _, _, _, _, _, h, _ => by simp at h
  | d :: ds, u :: vs, E, t, k, v, h1, h2, h3 => by
    simp only [envN]
    cases k with
    | zero =>
      simp at h1 h2
      rw [envN_keep ds vs _ t (fun m => by simpa using h3 (m + 1) (by omega))]
      unfold putE; rw [if_pos h1]; exact h2
    | succ k =>
      exact envN_at ds vs _ t k v (by simpa using h1) (by simpa using h2) (fun m hm => by simpa using h3 (m + 1) (by omega))


theorem RunD.len {P : Program} {N : Nat} {Γ : List (Nat × Ctr)} {all : List Oper} {anc : List (List Nat)} {ls : List Nat} {ks : List (Nat × List Nat)} {H : St} {i : Nat} {rest : List Oper} {m : St} {E : Nat → AVal} {vs : List AVal} {lo : List (Nat × Out)}
    (h : RunD P Γ N all anc ls ks H i rest m E vs lo) : vs.length = rest.length := by
  induction h with
  | nil => rfl
  | no Si _ _ _ _ _ ih => simp [ih]
  | loud Si _ _ _ _ _ _ _ _ _ _ _ ih => simp [ih]
  | ord Si _ _ _ _ _ _ _ _ _ _ ih => simp [ih]
  | free Si _ _ _ _ _ _ _ _ _ _ ih => simp [ih]

/-- Where the loud ones lie, and what they write. -/
theorem RunD.louds {P : Program} {N : Nat} {Γ : List (Nat × Ctr)} {all : List Oper} {anc : List (List Nat)} {ls : List Nat} {ks : List (Nat × List Nat)} {H : St} {i : Nat} {rest : List Oper} {m : St} {E : Nat → AVal} {vs : List AVal} {lo : List (Nat × Out)}
    (h : RunD P Γ N all anc ls ks H i rest m E vs lo) : (∀ p ∈ lo, i ≤ p.1 ∧ p.1 < i + rest.length ∧ p.1 ∈ ls ∧ killsOk (kOf p.1 ks) p.2 = true) ∧ lo.Pairwise (fun p q => p.1 < q.1) := by
  induction h with
  | nil => exact ⟨fun p hp => by simp at hp, .nil⟩
  | no Si _ _ _ _ _ ih => exact ⟨fun p hp => by obtain ⟨h1, h2, h3⟩ := ih.1 p hp; simp only [List.length_cons]; exact ⟨by omega, by omega, h3⟩, ih.2⟩
  | loud Si _ _ hi _ _ _ _ hk _ _ _ ih =>
    refine ⟨fun p hp => ?_, List.pairwise_cons.2 ⟨fun q hq => ?_, ih.2⟩⟩
    · rcases List.mem_cons.1 hp with rfl | hp
      · simp only [List.length_cons]; exact ⟨Nat.le_refl _, by omega, hi, hk⟩
      · obtain ⟨h1, h2, h3⟩ := ih.1 p hp; simp only [List.length_cons]; exact ⟨by omega, by omega, h3⟩
    · have := (ih.1 q hq).1
      show _ < q.1
      omega
  | ord Si _ _ _ _ _ _ _ _ _ _ ih => exact ⟨fun p hp => by obtain ⟨h1, h2, h3⟩ := ih.1 p hp; simp only [List.length_cons]; exact ⟨by omega, by omega, h3⟩, ih.2⟩
  | free Si _ _ _ _ _ _ _ _ _ _ ih => exact ⟨fun p hp => by obtain ⟨h1, h2, h3⟩ := ih.1 p hp; simp only [List.length_cons]; exact ⟨by omega, by omega, h3⟩, ih.2⟩

/-- The loud ones ahead of the j-th in the text. -/
def upTo (lo : List (Nat × Out)) (j : Nat) : List (Nat × Out) := lo.filter fun p => decide (p.1 < j)

theorem upTo_nil {lo : List (Nat × Out)} {i : Nat} (h : ∀ p ∈ lo, i ≤ p.1) : upTo lo i = [] := by
  unfold upTo
  refine List.filter_eq_nil_iff.2 fun p hp => ?_
  have := h p hp
  simp; omega

/-- What is said of the j-th operation. -/
structure StepD (P : Program) (Γ : List (Nat × Ctr)) (N : Nat) (all : List Oper) (anc : List (List Nat)) (ls : List Nat) (ks : List (Nat × List Nat)) (H mm : St) (lo : List (Nat × Out)) (j : Nat) (o : Oper) (v : AVal) (Si : St) : Prop where
  dst : okDst N o.dst = true
  how : (guardOf all Si o.guard = .no ∧ v = .raw undef ∧ (∀ p ∈ lo, p.1 ≠ j)) ∨
    (guardOf all Si o.guard = .yes ∧ j ∈ ls ∧ AlkM (memL mm (upTo lo j)) Si ∧ (∀ l ∈ ls, l = j ∨ l ∈ (anc[j]?).getD [] ∨ j ∈ (anc[l]?).getD []) ∧ ∃ out, (j, out) ∈ lo ∧ evOp P Γ Si o.op = some out ∧ out.pn = none ∧ killsOk (kOf j ks) out = true ∧ out.nd = true ∧ v = out.v) ∨
    (guardOf all Si o.guard = .yes ∧ j ∉ ls ∧ AlkM (memL mm (upTo lo j)) Si ∧ (∀ l ∈ ls, l = j ∨ l ∈ (anc[j]?).getD [] ∨ j ∈ (anc[l]?).getD []) ∧ ∃ out, evOp P Γ Si o.op = some out ∧ out.quiet = true ∧ out.nd = true ∧ v = out.v) ∨
    (guardOf all Si o.guard = .yes ∧ j ∉ ls ∧ ∃ out, evOp P Γ (Si.over H (kNot anc j ks)) o.op = some out ∧ out.quiet = true ∧ out.v.under H.hp.length = true ∧ out.nd = true ∧ v = out.v)

theorem RunD.at {P : Program} {N : Nat} {Γ : List (Nat × Ctr)} {all : List Oper} {anc : List (List Nat)} {ls : List Nat} {ks : List (Nat × List Nat)} {H : St} {i : Nat} {rest : List Oper} {m : St} {E : Nat → AVal} {vs : List AVal} {lo : List (Nat × Out)}
    (h : RunD P Γ N all anc ls ks H i rest m E vs lo) : ∀ (k : Nat) (o : Oper), rest[k]? = some o →
    ∃ v Si, vs[k]? = some v ∧ (∀ t ρ u, V ρ (envN E ((rest.map (·.dst)).take k) (vs.take k) t) u → V ρ (Si.get t) u) ∧ StepD P Γ N all anc ls ks H m lo (i + k) o v Si := by
  induction h with
  | nil => intro k o hk; simp at hk
  | @no i o rest m E vs lo Si hh he hg hd hr ih =>
    intro k o' hk
    cases k with
    | zero =>
      simp at hk; subst hk
      exact ⟨_, Si, rfl, by simpa [envN] using he, hd, Or.inl ⟨hg, rfl, fun p hp => by have := (hr.louds.1 p hp).1; omega⟩⟩
    | succ k =>
      obtain ⟨v', Si', h1, h2, h3⟩ := ih k o' (by simpa using hk)
      have e : i + (k + 1) = i + 1 + k := by omega
      rw [e]
      exact ⟨v', Si', by simpa using h1, by simpa [envN] using h2, h3⟩
  | @loud i o rest m E vs lo out Si hh he hi hc hg hop hpn hk0 hnd hd hr ih =>
    intro k o' hk
    cases k with
    | zero =>
      simp at hk; subst hk
      refine ⟨_, Si, rfl, by simpa [envN] using he, hd, Or.inr (Or.inl ⟨hg, hi, ?_, hc, out, by simp, hop, hpn, hk0, hnd, rfl⟩)⟩
      rw [upTo_nil]
      · exact hh
      · intro p hp
        rcases List.mem_cons.1 hp with rfl | hp
        · exact Nat.le_refl _
        · have := (hr.louds.1 p hp).1; omega
    | succ k =>
      obtain ⟨v', Si', h1, h2, h3⟩ := ih k o' (by simpa using hk)
      have e : i + (k + 1) = i + 1 + k := by omega
      rw [e]
      have hup : upTo ((i, out) :: lo) (i + 1 + k) = (i, out) :: upTo lo (i + 1 + k) := by
        unfold upTo
        rw [List.filter_cons_of_pos]
        simp; omega
      refine ⟨v', Si', by simpa using h1, by simpa [envN] using h2, h3.dst, ?_⟩
      rcases h3.how with ⟨g1, g2, g3⟩ | ⟨g1, g2, g3, g4, out', g5, g6⟩ | ⟨g1, g2, g3, g4⟩ | g
      · refine Or.inl ⟨g1, g2, fun p hp => ?_⟩
        rcases List.mem_cons.1 hp with rfl | hp
        · show i ≠ _; omega
        · exact g3 p hp
      · exact Or.inr (Or.inl ⟨g1, g2, by rw [hup]; exact g3, g4, out', List.mem_cons_of_mem _ g5, g6⟩)
      · exact Or.inr (Or.inr (Or.inl ⟨g1, g2, by rw [hup]; exact g3, g4⟩))
      · exact Or.inr (Or.inr (Or.inr g))
  | @ord i o rest m E vs lo out Si hh he hi hc hg hop hq hnd hd hr ih =>
    intro k o' hk
    cases k with
    | zero =>
      simp at hk; subst hk
      refine ⟨_, Si, rfl, by simpa [envN] using he, hd, Or.inr (Or.inr (Or.inl ⟨hg, hi, ?_, hc, out, hop, hq, hnd, rfl⟩))⟩
      rw [upTo_nil]
      · exact hh
      · intro p hp
        have := (hr.louds.1 p hp).1; omega
    | succ k =>
      obtain ⟨v', Si', h1, h2, h3⟩ := ih k o' (by simpa using hk)
      have e : i + (k + 1) = i + 1 + k := by omega
      rw [e]
      exact ⟨v', Si', by simpa using h1, by simpa [envN] using h2, h3⟩
  | @free i o rest m E vs lo out Si hh he hi hg hop hq hu hnd hd hr ih =>
    intro k o' hk
    cases k with
    | zero =>
      simp at hk; subst hk
      exact ⟨_, Si, rfl, by simpa [envN] using he, hd, Or.inr (Or.inr (Or.inr ⟨hg, hi, out, hop, hq, hu, hnd, rfl⟩))⟩
    | succ k =>
      obtain ⟨v', Si', h1, h2, h3⟩ := ih k o' (by simpa using hk)
      have e : i + (k + 1) = i + 1 + k := by omega
      rw [e]
      exact ⟨v', Si', by simpa using h1, by simpa [envN] using h2, h3⟩


def rowOf (acc : List (List Nat)) (o : Oper) : List Nat := (o.after.toList.filter (fun e => Region.binds .any e)).foldl (fun l e => addN e.on (uniN ((acc[e.on]?).getD []) l)) []

theorem addN_mem {x m : Nat} {l : List Nat} (h : m ∈ addN x l) : m = x ∨ m ∈ l := by
  unfold addN at h
  split at h
  · exact Or.inr h
  · exact (List.mem_cons.1 h)
theorem uniN_mem {m : Nat} : ∀ (r l : List Nat), m ∈ uniN r l → m ∈ r ∨ m ∈ l
  | [], l, h => Or.inr h
  | x :: r, l, h => by
    rcases uniN_mem r (addN x l) h with h | h
    · exact Or.inl (List.mem_cons_of_mem _ h)
    · rcases addN_mem h with h | h
      · exact Or.inl (by simp [h])
      · exact Or.inr h

theorem rowOf_mem (acc : List (List Nat)) (m : Nat) : ∀ (es : List Edge) (l : List Nat), m ∈ es.foldl (fun l e => addN e.on (uniN ((acc[e.on]?).getD []) l)) l → m ∈ l ∨ ∃ e ∈ es, m = e.on ∨ m ∈ (acc[e.on]?).getD []
  | [], l, h => Or.inl h
  | e :: es, l, h => by
    rcases rowOf_mem acc m es _ h with h | ⟨e', he', h⟩
    · rcases addN_mem h with h | h
      · exact Or.inr ⟨e, by simp, Or.inl h⟩
      · rcases uniN_mem _ _ h with h | h
        · exact Or.inr ⟨e, by simp, Or.inr h⟩
        · exact Or.inl h
    · exact Or.inr ⟨e', by simp [he'], h⟩

theorem ancs_spec : ∀ (r : List Oper) (acc : List (List Nat)), ∃ tl, ancs r acc = acc ++ tl ∧ ∀ k o, r[k]? = some o → tl[k]? = some (rowOf (acc ++ tl.take k) o)
  | [], acc => ⟨[], by simp [ancs], fun k o h => by simp at h⟩
  | o :: r, acc => by
    obtain ⟨tl, h1, h2⟩ := ancs_spec r (acc ++ [rowOf acc o])
    refine ⟨rowOf acc o :: tl, ?_, fun k o' hk => ?_⟩
    · show ancs r (acc ++ [rowOf acc o]) = _
      rw [h1]; simp
    · cases k with
      | zero => simp at hk; subst hk; simp
      | succ k =>
        have := h2 k o' (by simpa using hk)
        simpa using this

theorem ancs_mem {all : List Oper} {j m : Nat} {o : Oper} (ho : all[j]? = some o) (hm : m ∈ ((ancs all [])[j]?).getD []) :
    ∃ e ∈ o.after.toList, Region.binds .any e = true ∧ (m = e.on ∨ m ∈ ((ancs all [])[e.on]?).getD []) := by
  obtain ⟨tl, h1, h2⟩ := ancs_spec all []
  simp only [List.nil_append] at h1 h2
  rw [h1] at hm ⊢
  rw [h2 j o ho] at hm
  simp only [Option.getD_some] at hm
  rcases rowOf_mem _ m _ _ hm with h | ⟨e, he, h⟩
  · simp at h
  · obtain ⟨he1, he2⟩ := List.mem_filter.1 he
    refine ⟨e, he1, he2, h.imp id (fun h => ?_)⟩
    rw [List.getElem?_take] at h
    split at h
    · exact h
    · simp at h

theorem sameT_iff (t u : Option Nat) : sameT t u = true ↔ ∃ x, t = some x ∧ u = some x := by
  cases t with
  | none => cases u <;> simp [sameT]
  | some t =>
    cases u with
    | none => simp [sameT]
    | some u =>
      constructor
      · intro h; exact ⟨t, rfl, by rw [Nat.eq_of_beq_eq_true h]⟩
      · rintro ⟨x, h1, h2⟩; cases h1; cases h2; simp [sameT]

theorem drawRow_spec {all : List Oper} {anc : List (List Nat)} {o : Oper} {i : Nat} : ∀ (r : List Oper) (j : Nat), drawRow all anc o i r j = true → ∀ k u, r[k]? = some u →
    (∀ x, ¬ (o.dst = some x ∧ u.dst = some x)) ∧ ((∃ x, o.dst = some x ∧ x ∈ looks all u) ∨ (∃ x, u.dst = some x ∧ x ∈ looks all o) → i ∈ (anc[j + k]?).getD [])
  | [], j, _, k, u, hk => by simp at hk
  | v :: r, j, h, k, u, hk => by
    simp only [drawRow, Bool.and_eq_true] at h
    obtain ⟨⟨h1, h2⟩, h3⟩ := h
    cases k with
    | zero =>
      simp at hk; subst hk
      refine ⟨fun x hx => ?_, fun hx => ?_⟩
      · have : sameT o.dst v.dst = true := (sameT_iff _ _).2 ⟨x, hx.1, hx.2⟩
        simp [this] at h1
      · rw [Nat.add_zero]
        have hm : (memT o.dst (looks all v) || memT v.dst (looks all o)) = true := by
          simp only [Bool.or_eq_true]
          rcases hx with ⟨x, hx1, hx2⟩ | ⟨x, hx1, hx2⟩
          · left; rw [hx1]; exact (memN_iff _ _).2 hx2
          · right; rw [hx1]; exact (memN_iff _ _).2 hx2
        rw [hm] at h2
        simp only [Bool.not_true, Bool.false_or] at h2
        exact (memN_iff _ _).1 h2
    | succ k =>
      have := drawRow_spec r (j + 1) h3 k u (by simpa using hk)
      have e : j + (k + 1) = j + 1 + k := by omega
      rw [e]; exact this

theorem drawRows_spec {all : List Oper} {anc : List (List Nat)} : ∀ (r : List Oper) (i : Nat), drawRows all anc r i = true → ∀ k o, r[k]? = some o →
    (∀ e ∈ o.after.toList, Region.binds .any e = true → e.on < i + k) ∧
    ∀ l u, k < l → r[l]? = some u → (∀ x, ¬ (o.dst = some x ∧ u.dst = some x)) ∧ ((∃ x, o.dst = some x ∧ x ∈ looks all u) ∨ (∃ x, u.dst = some x ∧ x ∈ looks all o) → i + k ∈ (anc[i + l]?).getD [])
  | [], i, _, k, o, hk => by simp at hk
  | v :: r, i, h, k, o, hk => by
    simp only [drawRows, Bool.and_eq_true] at h
    obtain ⟨⟨h1, h2⟩, h3⟩ := h
    cases k with
    | zero =>
      simp at hk; subst hk
      refine ⟨fun e he hb => ?_, fun l u hl hu => ?_⟩
      · have := List.all_eq_true.1 h2 e he
        rw [hb] at this
        simp only [Bool.not_true, Bool.false_or] at this
        have := Nat.le_of_ble_eq_true this
        omega
      · cases l with
        | zero => omega
        | succ l =>
          have := drawRow_spec r (i + 1) h1 l u (by simpa using hu)
          have e : i + (l + 1) = i + 1 + l := by omega
          rw [e]; exact this
    | succ k =>
      obtain ⟨k1, k2⟩ := drawRows_spec r (i + 1) h3 k o (by simpa using hk)
      refine ⟨fun e he hb => by have := k1 e he hb; omega, fun l u hl hu => ?_⟩
      cases l with
      | zero => omega
      | succ l =>
        have := k2 l u (by omega) (by simpa using hu)
        have e1 : i + (k + 1) = i + 1 + k := by omega
        have e2 : i + (l + 1) = i + 1 + l := by omega
        rw [e1, e2]; exact this

/-- What holds while the region's operations come up in some order. -/
structure Inv (N : Nat) (M : Addr → Prop) (w0 : World) (all : List Oper) (H : St) (lo : List (Nat × Out)) (E0 : Nat → AVal) (vs : List AVal) (D : List (AVal × List AVal)) (ρ0 : Rho) (listed : Array Bool) (a : Act) (w : World) (ρ : Rho) : Prop where
  ext : ExtS H.hp.length ρ0 ρ
  sz : a.tmps.size = N
  df : DfV ρ D a.defers
  mem : Mem M w0 ρ (memL H (lo.filter fun p => decide (listed[p.1]? = some true))) w
  ls : listed.size = all.length
  slot : ∀ t, (∃ (j : Nat) (o : Oper) (v : AVal), all[j]? = some o ∧ o.dst = some t ∧ vs[j]? = some v ∧ listed[j]? = some true ∧ V ρ v (a.tmps.getD t undef)) ∨
    ((∀ (j : Nat) (o : Oper), all[j]? = some o → o.dst = some t → listed[j]? = some false) ∧ V ρ (E0 t) (a.tmps.getD t undef))
  shut : ∀ (j : Nat) (o : Oper), all[j]? = some o → listed[j]? = some true → ∀ e ∈ o.after.toList, Region.binds .any e = true → listed[e.on]? = some true

theorem anc_listed {all : List Oper} (hd : drawOk all = true) {listed : Array Bool} (hls : listed.size = all.length)
    (shut : ∀ (j : Nat) (o : Oper), all[j]? = some o → listed[j]? = some true → ∀ e ∈ o.after.toList, Region.binds .any e = true → listed[e.on]? = some true) :
    ∀ (j : Nat) (o : Oper), all[j]? = some o → (∀ e ∈ o.after.toList, Region.binds .any e = true → listed[e.on]? = some true) → ∀ m, m ∈ ((ancs all [])[j]?).getD [] → listed[m]? = some true := by
  intro j
  induction j using Nat.strongRecOn with
  | _ j ih =>
    intro o ho hpre m hm
    obtain ⟨e, he, hb, h⟩ := ancs_mem ho hm
    have hl := hpre e he hb
    rcases h with rfl | h
    · exact hl
    · have hlt := (drawRows_spec all 0 hd j o ho).1 e he hb
      have hlt' : e.on < all.length := by
        have := (Array.getElem?_eq_some_iff.1 hl).1
        omega
      exact ih e.on (by omega) all[e.on] (List.getElem?_eq_getElem hlt') (shut e.on _ (List.getElem?_eq_getElem hlt') hl) m h


theorem looks_guard {all : List Oper} {o : Oper} {j : Nat} {want : Bool} {t : Nat} (h1 : o.guard = some (j, want)) (h2 : slotOf all j = some t) : t ∈ looks all o := by
  simp [looks, h1, h2]
theorem tmpsOf_mem : ∀ (xs : List Operand) (t : Nat), .tmp t ∈ xs → t ∈ tmpsOf xs
  | [], t, h => by simp at h
  | .tmp u :: r, t, h => by
    simp only [tmpsOf, List.mem_cons, Operand.tmp.injEq] at h ⊢
    exact h.imp id (tmpsOf_mem r t)
  | .const _ :: r, t, h => by simp only [tmpsOf, List.mem_cons, reduceCtorEq, false_or] at h ⊢; exact tmpsOf_mem r t h
  | .global _ :: r, t, h => by simp only [tmpsOf, List.mem_cons, reduceCtorEq, false_or] at h ⊢; exact tmpsOf_mem r t h
  | .func _ :: r, t, h => by simp only [tmpsOf, List.mem_cons, reduceCtorEq, false_or] at h ⊢; exact tmpsOf_mem r t h
theorem looks_opd {all : List Oper} {o : Oper} {t : Nat} (h : .tmp t ∈ o.op.operands.toList) : t ∈ looks all o := by
  unfold looks
  exact List.mem_append_right _ (tmpsOf_mem _ t h)

theorem getElem_listed {listed : Array Bool} {i n : Nat} (hl : listed.size = n) (hi : i < n) : listed[i]? = some true ∨ listed[i]? = some false := by
  have : listed[i]? = some listed[i] := Array.getElem?_eq_getElem (by omega)
  rw [this]
  cases listed[i] <;> simp


theorem hlook1_mem {i o : Nat} {x : AVal} : ∀ {l : List ((Nat × Nat) × AVal)}, hlook1 i o l = some x → ∃ e ∈ l, e.1.1 = i
  | [], h => by simp [hlook1] at h
  | (k, v) :: r, h => by
    simp only [hlook1] at h
    split at h
    · rename_i hb
      simp only [Bool.and_eq_true] at hb
      exact ⟨(k, v), by simp, (Nat.eq_of_beq_eq_true hb.1).symm⟩
    · obtain ⟨e, h1, h2⟩ := hlook1_mem h
      exact ⟨e, by simp [h1], h2⟩
theorem vlook1_mem {i : Nat} {x : Vc} : ∀ {l : List (Nat × Vc)}, vlook1 i l = some x → ∃ e ∈ l, e.1 = i
  | [], h => by simp [vlook1] at h
  | (k, v) :: r, h => by
    simp only [vlook1] at h
    split at h
    · rename_i hb
      exact ⟨(k, v), by simp, (Nat.eq_of_beq_eq_true hb).symm⟩
    · obtain ⟨e, h1, h2⟩ := vlook1_mem h
      exact ⟨e, by simp [h1], h2⟩

theorem put_old_cell {H : St} {hv : List ((Nat × Nat) × AVal)} {vv : List (Nat × Vc)} {nw : List Blk} {i o : Nat} (hi : i < H.hp.length) (hk : hlook1 i o hv = none) : (H.put hv vv nw).cell i o = H.cell i o := by
  unfold St.cell
  have hb : (H.put hv vv nw).blk i = H.blk i := nthB_append_left _ _ _ hi
  rw [hb]
  simp only [St.put, St.ext, hlookL, hk]
theorem put_old_vec {H : St} {hv : List ((Nat × Nat) × AVal)} {vv : List (Nat × Vc)} {nw : List Blk} {i : Nat} (hi : i < H.hp.length) (hk : vlook1 i vv = none) : (H.put hv vv nw).vec i = H.vec i := by
  unfold St.vec
  have hb : (H.put hv vv nw).blk i = H.blk i := nthB_append_left _ _ _ hi
  rw [hb]
  simp only [St.put, St.ext, vlookL, hk]

/-- What of a memory is as it was, but for some blocks. -/
structure Keeps (H X : St) (ks : List Nat) : Prop where
  le : H.hp.length ≤ X.hp.length
  c : ∀ i o x, H.cell i o = some x → i ∉ ks → X.cell i o = some x
  v : ∀ i x, H.vec i = some x → i ∉ ks → X.vec i = some x

theorem Keeps.put {H X : St} {ks : List Nat} (h : Keeps H X ks) {out : Out} (hk : killsOk ks out = true) : Keeps H (X.put out.hv out.vv out.nw) ks := by
  unfold killsOk at hk
  simp only [Bool.and_eq_true] at hk
  refine ⟨Nat.le_trans h.le (by simp [St.put, St.ext]), fun i o x hx hne => ?_, fun i x hx hne => ?_⟩
  · have hx' := h.c i o x hx hne
    rw [put_old_cell (cell_lt hx')]
    · exact hx'
    · cases hl : hlook1 i o out.hv with
      | none => rfl
      | some y =>
        obtain ⟨e, he, rfl⟩ := hlook1_mem hl
        exact absurd ((memN_iff _ _).1 (List.all_eq_true.1 hk.1 e he)) hne
  · have hx' := h.v i x hx hne
    rw [put_old_vec (vec_lt hx')]
    · exact hx'
    · cases hl : vlook1 i out.vv with
      | none => rfl
      | some y =>
        obtain ⟨e, he, rfl⟩ := vlook1_mem hl
        exact absurd ((memN_iff _ _).1 (List.all_eq_true.1 hk.2 e he)) hne

theorem Keeps.memL {H : St} {ks : List Nat} : ∀ (l : List (Nat × Out)) (X : St), Keeps H X ks → (∀ p ∈ l, killsOk ks p.2 = true) → Keeps H (memL X l) ks
  | [], X, h, _ => h
  | p :: r, X, h, hk => Keeps.memL r _ (h.put (hk p (by simp))) (fun q hq => hk q (by simp [hq]))

/-- From each memory one comes to what a free operation may look at. -/
theorem mem_over {M : Addr → Prop} {w0 : World} {ρ : Rho} {S H : St} {w : World} {ks : List Nat} {l : List (Nat × Out)} (hks : ∀ p ∈ l, killsOk ks p.2 = true) (hH : (∀ i o x, hlookL i o H.hvs = some x → i < H.hp.length) ∧ ∀ i x, vlookL i H.vvs = some x → i < H.hp.length)
    (h : Mem M w0 ρ (memL H l) w) : Mem NoM w (cutR H.hp.length ρ) (S.over H ks) w := by
  have hkp := Keeps.memL (H := H) l H ⟨Nat.le_refl _, fun _ _ _ h _ => h, fun _ _ h _ => h⟩ hks
  exact Mem.over h hkp.le hkp.c hkp.v hH.1 hH.2

theorem filter_upTo {lo : List (Nat × Out)} {i : Nat} {out : Out} (hp : lo.Pairwise (fun p q => p.1 < q.1)) (hm : (i, out) ∈ lo) : (lo.filter fun p => decide (p.1 ≤ i)) = upTo lo i ++ [(i, out)] := by
  induction lo with
  | nil => simp at hm
  | cons p r ih =>
    rw [List.pairwise_cons] at hp
    rcases List.mem_cons.1 hm with rfl | hm
    · have h1 : r.filter (fun p => decide (p.1 ≤ i)) = [] := List.filter_eq_nil_iff.2 fun q hq => by have := hp.1 q hq; simp only [decide_eq_true_eq]; omega
      have h2 : upTo ((i, out) :: r) i = [] := upTo_nil fun q hq => by
        rcases List.mem_cons.1 hq with rfl | hq
        · exact Nat.le_refl _
        · have := hp.1 q hq
          exact Nat.le_of_lt this
      rw [h2, List.filter_cons_of_pos (by simp), h1]; rfl
    · have hlt := hp.1 _ hm
      have hlt : p.1 < i := hlt
      unfold upTo at ih ⊢
      rw [List.filter_cons_of_pos (by simp; omega), List.filter_cons_of_pos (by simp; omega), ih hp.2 hm]
      rfl

theorem killsOk_mono {ks ks' : List Nat} {out : Out} (hs : ∀ k ∈ ks, k ∈ ks') (h : killsOk ks out = true) : killsOk ks' out = true := by
  unfold killsOk at h ⊢
  simp only [Bool.and_eq_true, List.all_eq_true] at h ⊢
  exact ⟨fun e he => (memN_iff _ _).2 (hs _ ((memN_iff _ _).1 (h.1 e he))), fun e he => (memN_iff _ _).2 (hs _ ((memN_iff _ _).1 (h.2 e he)))⟩

theorem kOf_sub {anc : List (List Nat)} {i l : Nat} (hn : i ∉ (anc[l]?).getD []) : ∀ (ks : List (Nat × List Nat)), ∀ k ∈ kOf l ks, k ∈ kNot anc i ks
  | [], k, hk => by simp [kOf] at hk
  | p :: r, k, hk => by
    unfold kOf at hk
    unfold kNot
    split at hk
    · rename_i hb
      have := Nat.eq_of_beq_eq_true hb
      rw [this]
      split
      · rename_i hm; exact absurd ((memN_iff _ _).1 hm) hn
      · exact List.mem_append.2 (Or.inl hk)
    · split
      · exact kOf_sub hn r k hk
      · exact List.mem_append.2 (Or.inr (kOf_sub hn r k hk))

theorem killsOk_not {anc : List (List Nat)} {i l : Nat} {ks : List (Nat × List Nat)} {out : Out} (hn : i ∉ (anc[l]?).getD []) (h : killsOk (kOf l ks) out = true) : killsOk (kNot anc i ks) out = true := killsOk_mono (kOf_sub hn ks) h

/-- EVERY ORDER SERVES. -/
theorem wpAny_of_inv {P : Program} {N : Nat} {Γ : List (Nat × Ctr)} (hΓ : ∀ f c, lookC f Γ = some c → Sat P f c) {all : List Oper} (hd : drawOk all = true) {M : Addr → Prop} {w0 : World} {H : St} {ls : List Nat} {ks : List (Nat × List Nat)} {lo : List (Nat × Out)} {E0 : Nat → AVal} {vs : List AVal} {D : List (AVal × List AVal)} {ρ0 : Rho}
    {Q : Exit → Act → World → Prop} (hrun : RunD P Γ N all (ancs all []) ls ks H 0 all H E0 vs lo) (hH : (∀ i o x, hlookL i o H.hvs = some x → i < H.hp.length) ∧ ∀ i x, vlookL i H.vvs = some x → i < H.hp.length)
    (hQ : ∀ ρ a w, ExtS H.hp.length ρ0 ρ → (∀ t, V ρ (envN E0 (all.map (·.dst)) vs t) (a.tmps.getD t undef)) → a.tmps.size = N → DfV ρ D a.defers → Mem M w0 ρ (memL H lo) w → Q .normal a w) :
    ∀ (fuel : Nat) (listed : Array Bool) (a : Act) (w : World) (ρ : Rho), Inv N M w0 all H lo E0 vs D ρ0 listed a w ρ → listed.toList.count false = fuel → wpAny P .any all.toArray Q fuel listed a w := by
  have hlen := hrun.len
  obtain ⟨hlo, hpw⟩ := hrun.louds
  have hanclt : ∀ (i m : Nat), i < all.length → m ∈ ((ancs all [])[i]?).getD [] → m < i := by
    have key : ∀ (i : Nat) (o : Oper), all[i]? = some o → ∀ m, m ∈ ((ancs all [])[i]?).getD [] → m < i := by
      intro i
      induction i using Nat.strongRecOn with
      | _ i ih =>
        intro o ho m hm
        obtain ⟨e, he, hb, h⟩ := ancs_mem ho hm
        have hlt := (drawRows_spec all 0 hd i o ho).1 e he hb
        simp only [Nat.zero_add] at hlt
        rcases h with rfl | h
        · exact hlt
        · have hil' : i < all.length := (List.getElem?_eq_some_iff.1 ho).1
          have := ih e.on hlt all[e.on] (List.getElem?_eq_getElem (by omega)) m h
          omega
    exact fun i m hi hm => key i all[i] (List.getElem?_eq_getElem hi) m hm
  -- two operations write two slots
  have huniq : ∀ (j k : Nat) (o u : Oper) (t : Nat), all[j]? = some o → all[k]? = some u → o.dst = some t → u.dst = some t → j = k := by
    intro j k o u t hj hk ho hu
    rcases Nat.lt_trichotomy j k with h | h | h
    · exact absurd ⟨ho, hu⟩ (((drawRows_spec all 0 hd j o hj).2 k u h hk).1 t)
    · exact h
    · exact absurd ⟨hu, ho⟩ (((drawRows_spec all 0 hd k u hk).2 j o h hj).1 t)
  have hdsts : ∀ (i k : Nat) (t : Nat), ((all.map (·.dst)).take i)[k]? = some (some t) ↔ k < i ∧ ∃ o, all[k]? = some o ∧ o.dst = some t := by
    intro i k t
    rw [List.getElem?_take]
    split
    · rename_i h
      simp only [List.getElem?_map, Option.map_eq_some_iff, h, true_and]
    · rename_i h; simp [h]
  -- all are listed where none is ready
  have hfin : ∀ (listed : Array Bool) (a : Act) (w : World) (ρ : Rho), Inv N M w0 all H lo E0 vs D ρ0 listed a w ρ → (∀ i, i < all.length → listed[i]? = some true) → Q .normal a w := by
    intro listed a w ρ hI hall
    have hmem : Mem M w0 ρ (memL H lo) w := by
      have hm := hI.mem
      rw [List.filter_eq_self.2 (fun p hp => by have := (hlo p hp).2.1; rw [hall p.1 (by omega)]; rfl)] at hm
      exact hm
    refine hQ ρ a w hI.ext (fun t => ?_) hI.sz hI.df hmem
    rcases hI.slot t with ⟨j, o, v, hj, ho, hv, _, hV⟩ | ⟨hno, hV⟩
    · have e : envN E0 (all.map (·.dst)) vs t = v := by
        refine envN_at _ _ _ _ j v (by simp [hj, ho]) hv (fun m hm hc => ?_)
        simp only [List.getElem?_map, Option.map_eq_some_iff] at hc
        obtain ⟨u, hu, hut⟩ := hc
        exact hm (huniq m j u o t hu hj hut ho)
      rw [e]; exact hV
    · have e : envN E0 (all.map (·.dst)) vs t = E0 t := by
        refine envN_keep _ _ _ _ (fun k hc => ?_)
        simp only [List.getElem?_map, Option.map_eq_some_iff] at hc
        obtain ⟨u, hu, hut⟩ := hc
        have := hno k u hu hut
        rw [hall k (List.getElem?_eq_some_iff.1 hu).1] at this; cases this
      rw [e]; exact hV
  have hnone : ∀ (listed : Array Bool), listed.size = all.length → Region.ready .any all.toArray listed = [] → ∀ i, i < all.length → listed[i]? = some true := by
    intro listed hls hr i
    induction i using Nat.strongRecOn with
    | _ i ih =>
      intro hi
      rcases getElem_listed hls hi with h | h
      · exact h
      · exfalso
        have : i ∈ Region.ready .any all.toArray listed := by
          refine mem_ready.2 ⟨by rw [Array.getD_eq_getD_getElem?, h]; rfl, all[i], by simp [hi], fun e he hb => ?_⟩
          have hlt := (drawRows_spec all 0 hd i all[i] (List.getElem?_eq_getElem hi)).1 e (by simpa using he) hb
          rw [Array.getD_eq_getD_getElem?, ih e.on (by omega) (by omega)]; rfl
        rw [hr] at this; cases this
  intro fuel
  induction fuel with
  | zero =>
    intro listed a w ρ hI hc
    have hall : ∀ i, i < all.length → listed[i]? = some true := by
      intro i hi
      rcases getElem_listed hI.ls hi with h | h
      · exact h
      · exfalso
        have hm : false ∈ listed.toList := by
          rw [Array.mem_toList_iff]
          obtain ⟨hlt, he⟩ := Array.getElem?_eq_some_iff.1 h
          rw [← he]; exact Array.getElem_mem hlt
        have := List.count_pos_iff.2 hm
        omega
    refine ⟨?_, hfin listed a w ρ hI hall⟩
    rw [List.eq_nil_iff_forall_not_mem]
    intro j hj
    obtain ⟨h1, o, h2, _⟩ := mem_ready.1 hj
    have hlt : j < all.length := by
      have := (Array.getElem?_eq_some_iff.1 h2).1
      simpa using this
    rw [Array.getD_eq_getD_getElem?, hall j hlt] at h1
    cases h1
  | succ fuel ihf =>
    intro listed a w ρ hI hc
    refine ⟨fun hr => hfin listed a w ρ hI (hnone listed hI.ls hr), fun i hi => ?_⟩
    obtain ⟨hun, o, hoa, hpre⟩ := mem_ready.1 hi
    have ho : all[i]? = some o := by simpa using hoa
    have hilt : i < all.length := (List.getElem?_eq_some_iff.1 ho).1
    have hif : listed[i]? = some false := by
      rcases getElem_listed hI.ls hilt with h | h
      · rw [Array.getD_eq_getD_getElem?, h] at hun; cases hun
      · exact h
    have hpre' : ∀ e ∈ o.after.toList, Region.binds .any e = true → listed[e.on]? = some true := by
      intro e he hb
      have := hpre e (by simpa using he) hb
      rw [Array.getD_eq_getD_getElem?] at this
      cases hl : listed[e.on]? with
      | none => rw [hl] at this; simp at this
      | some b => rw [hl] at this; simp at this; rw [this]
    obtain ⟨v, Si, hvi, hget, hstep⟩ := hrun.at i o ho
    rw [Nat.zero_add] at hstep
    have hdst := hstep.dst
    have hancI := anc_listed hd hI.ls hI.shut i o ho hpre'
    -- what the operation looks at is as it was in the text's order
    have hlook : ∀ t, t ∈ looks all o → V ρ (Si.get t) (a.tmps.getD t undef) := by
      intro t ht
      apply hget
      rcases hI.slot t with ⟨j, u, x, hj, hu, hx, hjl, hV⟩ | ⟨hno, hV⟩
      · have hji : j < i := by
          rcases Nat.lt_trichotomy j i with h | h | h
          · exact h
          · subst h; rw [hif] at hjl; cases hjl
          · exfalso
            have := ((drawRows_spec all 0 hd i o ho).2 j u h hj).2 (Or.inr ⟨t, hu, ht⟩)
            simp only [Nat.zero_add] at this
            have := anc_listed hd hI.ls hI.shut j u hj (hI.shut j u hj hjl) i this
            rw [hif] at this; cases this
        have e : envN E0 ((all.map (·.dst)).take i) (vs.take i) t = x := by
          refine envN_at _ _ _ _ j x ((hdsts i j t).2 ⟨hji, u, hj, hu⟩) (by rw [List.getElem?_take, if_pos hji]; exact hx) (fun m hm hcm => ?_)
          obtain ⟨_, u', hu', hut⟩ := (hdsts i m t).1 hcm
          exact hm (huniq m j u' u t hu' hj hut hu)
        rw [e]; exact hV
      · have e : envN E0 ((all.map (·.dst)).take i) (vs.take i) t = E0 t := by
          refine envN_keep _ _ _ _ (fun k hck => ?_)
          obtain ⟨hki, u, hu, hut⟩ := (hdsts i k t).1 hck
          have := ((drawRows_spec all 0 hd k u hu).2 i o hki ho).2 (Or.inl ⟨t, hut, ht⟩)
          simp only [Nat.zero_add] at this
          have h1 := hancI k this
          rw [hno k u hu hut] at h1; cases h1
        rw [e]; exact hV
    have hset : ∀ j, (listed.setIfInBounds i true)[j]? = if j = i then some true else listed[j]? := by
      intro j
      by_cases hji : j = i
      · subst hji; rw [if_pos rfl, Array.getElem?_setIfInBounds_self_of_lt (by rw [hI.ls]; exact hilt)]
      · rw [if_neg hji, Array.getElem?_setIfInBounds_ne (Ne.symm hji)]
    -- the next state
    have hnext : ∀ (x : Value) (w' : World) (ρ' : Rho), ExtS H.hp.length ρ ρ' → V ρ' v x → Mem M w0 ρ' (memL H (lo.filter fun p => decide ((listed.setIfInBounds i true)[p.1]? = some true))) w' → wpAny P .any all.toArray Q fuel (listed.setIfInBounds i true) (a.put o.dst x) w' := by
      intro x w' ρ' hext hx hm
      refine ihf _ _ _ ρ' ⟨hI.ext.trans hext, ?_, ?_, hm, by simp [hI.ls], fun t => ?_, fun j u hj hjl e he hb => ?_⟩ ?_
      · rw [act_put_sz]; exact hI.sz
      · rw [act_put_df]; exact DfV_ext hext.1 _ _ hI.df
      · by_cases hti : o.dst = some t
        · left
          refine ⟨i, o, v, ho, hti, hvi, by rw [hset, if_pos rfl], ?_⟩
          rw [hti]
          have hs : t < N := by
            have := hdst; rw [hti] at this; exact Nat.le_of_ble_eq_true this
          have : (a.tmps.setIfInBounds t x).getD t undef = x := by simp [Array.getD_eq_getD_getElem?, hI.sz, hs]
          show V ρ' v ((a.tmps.setIfInBounds t x).getD t undef)
          rw [this]; exact hx
        · have hsame : (a.put o.dst x).tmps.getD t undef = a.tmps.getD t undef := by
            cases hdo : o.dst with
            | none => rfl
            | some s =>
              have hne : s ≠ t := fun e => hti (by rw [hdo, e])
              show (a.tmps.setIfInBounds s x).getD t undef = _
              simp [Array.getD_eq_getD_getElem?, Array.getElem?_setIfInBounds_ne hne]
          rw [hsame]
          rcases hI.slot t with ⟨j, u, y, hj, hu, hy, hjl, hV⟩ | ⟨hno, hV⟩
          · left
            refine ⟨j, u, y, hj, hu, hy, ?_, V_ext hext.1 _ _ hV⟩
            rw [hset]; split
            · rfl
            · exact hjl
          · right
            refine ⟨fun j u hj hu => ?_, V_ext hext.1 _ _ hV⟩
            rw [hset]
            have hji : j ≠ i := fun e => by
              subst e
              rw [ho] at hj; cases hj
              exact hti hu
            rw [if_neg hji]; exact hno j u hj hu
      · rw [hset] at hjl ⊢
        split
        · rfl
        · split at hjl
          · rename_i hji; subst hji
            rw [ho] at hj; cases hj
            exact hpre' e he hb
          · exact hI.shut j u hj hjl e he hb
      · rw [Array.toList_setIfInBounds, List.count_set (by simpa [hI.ls] using hilt)]
        have : listed.toList[i]'(by simpa [hI.ls] using hilt) = false := by
          have h2 := hif
          rw [Array.getElem?_eq_getElem (by rw [hI.ls]; exact hilt)] at h2
          simpa using h2
        rw [this, hc]; simp
    unfold wpOp
    have hoa' : all.toArray[i]? = some o := hoa
    rw [hoa']
    simp only
    have hgs := guardOf_sound (ρ := ρ) (S := Si) (a := a) (all := all) (o := o) (fun j want t hj ht => hlook t (looks_guard hj ht))
    have hopd : ∀ (T : St), (∀ t, T.get t = Si.get t) → ∀ x ∈ o.op.operands.toList, V ρ (opd T x) (a.eval x) := fun T hT x hx => opd_of ρ T a x (fun t ht => by subst ht; rw [hT]; exact hlook t (looks_opd hx))
    -- a quiet one leaves the memory that there is
    have hstay : (∀ p ∈ lo, p.1 ≠ i) → (lo.filter fun p => decide ((listed.setIfInBounds i true)[p.1]? = some true)) = (lo.filter fun p => decide (listed[p.1]? = some true)) := fun hne => by
      refine List.filter_congr fun p hp => ?_
      rw [hset, if_neg (hne p hp)]
    have hls : i ∉ ls → ∀ p ∈ lo, p.1 ≠ i := fun hi p hp e => hi (e ▸ (hlo p hp).2.2.1)
    -- where each loud one comes surely ahead or behind, the memory is that of the text's order
    have hcur : (∀ l ∈ ls, l = i ∨ l ∈ ((ancs all [])[i]?).getD [] ∨ i ∈ ((ancs all [])[l]?).getD []) → (lo.filter fun p => decide (listed[p.1]? = some true)) = upTo lo i := fun hc => by
      refine List.filter_congr fun p hp => ?_
      obtain ⟨_, hpl, hpls, _⟩ := hlo p hp
      rcases hc p.1 hpls with e | h | h
      · rw [e, hif]; simp
      · rw [hancI p.1 h]
        have := hanclt i p.1 hilt h
        simp [this]
      · have hlt := hanclt p.1 i (by omega) h
        have hnl : listed[p.1]? ≠ some true := fun hl => by
          have := anc_listed hd hI.ls hI.shut p.1 all[p.1] (List.getElem?_eq_getElem (by omega)) (hI.shut p.1 _ (List.getElem?_eq_getElem (by omega)) hl) i h
          rw [hif] at this; cases this
        have e1 : decide (listed[p.1]? = some true) = false := decide_eq_false hnl
        have e2 : decide (p.1 < i) = false := decide_eq_false (by omega)
        rw [e1, e2]
    rcases hstep.how with ⟨hg, rfl, hnl⟩ | ⟨hg, hil, halk, hc', out, hlo', hop, hpn, hk, hnd, rfl⟩ | ⟨hg, hne, halk, hc', out, hop, hq, hnd, rfl⟩ | ⟨hg, hne, out, hop, hq, hu, hnd, rfl⟩
    · -- it is passed over
      rw [if_neg (by rw [hgs.2.1 hg]; simp)]
      refine hnext undef w ρ (ExtS.refl _ _) (by unfold V; rfl) ?_
      rw [hstay hnl]
      exact hI.mem
    · -- a loud one
      rw [if_pos (hgs.1 hg)]
      left
      have hm := hI.mem
      rw [hcur hc'] at hm
      have hok := evOp_sound (o := o) hΓ hop (AlkM.mem hm halk) (hopd Si (fun _ => rfl))
      refine hok hnd _ _ (fun u w' ρ' hext _ hvu hm' => ?_) (fun v u w' hp _ _ => by rw [hpn] at hp; cases hp)
      refine hnext u w' ρ' (hext.mono (by rw [halk.hp]; exact memL_len _ _)) hvu ?_
      have e : (lo.filter fun p => decide ((listed.setIfInBounds i true)[p.1]? = some true)) = upTo lo i ++ [(i, out)] := by
        rw [← filter_upTo hpw hlo']
        refine List.filter_congr fun p hp => ?_
        rw [hset]
        by_cases he : p.1 = i
        · rw [if_pos he]; simp [he]
        · rw [if_neg he]
          have h2 : (p ∈ lo.filter fun p => decide (listed[p.1]? = some true)) ↔ p ∈ upTo lo i := by rw [hcur hc']
          unfold upTo at h2
          simp only [List.mem_filter, hp, true_and, decide_eq_true_eq] at h2
          rw [decide_eq_decide, h2]
          omega
      rw [e, memL_app]
      exact AlkM.mem hm' (halk.symm.put _ _ _)
    · -- one that comes ahead of the loud ones, or behind them
      rw [if_pos (hgs.1 hg)]
      left
      obtain ⟨q1, q2, q3, q4⟩ := quiet_nil hq
      have hm := hI.mem
      rw [hcur hc'] at hm
      have hok := evOp_sound (o := o) hΓ hop (AlkM.mem hm halk) (hopd Si (fun _ => rfl))
      refine hok hnd _ _ (fun u w' ρ' hext _ hvu hm' => ?_) (fun v u w' hp _ _ => by rw [q4] at hp; cases hp)
      refine hnext u w' ρ' (hext.mono (by rw [halk.hp]; exact memL_len _ _)) hvu ?_
      rw [hstay (hls hne), hcur hc']
      rw [q1, q2, q3] at hm'
      exact AlkM.mem hm' ((alkM_nil Si).symm.trans halk.symm)
    · -- a free one
      rw [if_pos (hgs.1 hg)]
      left
      obtain ⟨q1, q2, q3, q4⟩ := quiet_nil hq
      have hmo : Mem NoM w (cutR H.hp.length ρ) (Si.over H (kNot (ancs all []) i ks)) w := mem_over (fun p hp => by
        obtain ⟨hp1, hp2⟩ := List.mem_filter.1 hp
        obtain ⟨_, hpl, _, hpk⟩ := hlo p hp1
        have hpl' : p.1 < all.length := by omega
        have hp2 := of_decide_eq_true hp2
        refine killsOk_not (fun hm => ?_) hpk
        have h1 := anc_listed hd hI.ls hI.shut p.1 all[p.1] (List.getElem?_eq_getElem hpl') (hI.shut p.1 _ (List.getElem?_eq_getElem hpl') hp2) i hm
        rw [hif] at h1; cases h1) hH hI.mem
      have hok := evOp_sound (o := o) hΓ hop hmo (fun x hx => opd_of _ _ a x (fun t ht => by
        subst ht
        rw [over_get]
        exact V_guardA (cutR_agr _ ρ) _ _ (hlook t (looks_opd hx))))
      refine hok hnd _ _ (fun u w' ρ' hext _ hvu hm' => ?_) (fun v u w' hp _ _ => by rw [q4] at hp; cases hp)
      have hol : (Si.over H (kNot (ancs all []) i ks)).hp.length = H.hp.length := dropB_len _ (kNot (ancs all []) i ks) H.hp 0
      refine hnext u w' ρ (ExtS.refl _ _) (V_under (fun j hj => ⟨fun p hp => ?_, fun hk' => ?_⟩) _ _ hu hvu) ?_
      · have h1 := hext.2.1 j (by rw [hol]; exact hj)
        rw [hp] at h1
        obtain ⟨_, h2⟩ := cutR_old h1.symm
        exact ⟨h2, (hext.1.at_ j p h1.symm).2.symm⟩
      · have h1 := hext.2.2 j (by rw [hol]; exact hj)
        rw [h1] at hk'
        simp only [cutR, Bool.and_eq_true] at hk'
        exact hk'.2
      · rw [hstay (hls hne)]
        exact hI.mem.quiet hm'.fr
end Go.Ab

namespace Go.Ab
open Go Go.RowKit
set_option linter.unusedVariables false

/-! ### 10b. New blocks that are in no order with the operations beside them -/
theorem isAl_iff {pds : List Pd} {i : Nat} : isAl pds i = true ↔ ∃ p ∈ pds, p.ia = i := by
  induction pds with
  | nil => simp [isAl]
  | cons p r ih =>
    simp only [isAl, Bool.or_eq_true, ih, List.mem_cons, exists_eq_or_imp]
    exact or_congr ⟨fun h => Nat.eq_of_beq_eq_true h, fun h => h ▸ Nat.beq_refl _⟩ Iff.rfl
theorem isAl_not {pds : List Pd} {i : Nat} (h : isAl pds i = false) : ∀ p ∈ pds, p.ia ≠ i := fun p hp e => by
  rw [isAl_iff.2 ⟨p, hp, e⟩] at h; cases h
theorem findP_some {i : Nat} {p : Pd} : ∀ {pds : List Pd}, findP pds i = some p → p ∈ pds ∧ p.is = i
  | [], h => by simp [findP] at h
  | q :: r, h => by
    simp only [findP] at h
    split at h
    · rename_i e; cases h; exact ⟨by simp, Nat.eq_of_beq_eq_true e⟩
    · exact ⟨List.mem_cons_of_mem _ (findP_some h).1, (findP_some h).2⟩
theorem findP_none {i : Nat} : ∀ {pds : List Pd}, findP pds i = none → ∀ p ∈ pds, p.is ≠ i
  | [], _, p, hp => by simp at hp
  | q :: r, h, p, hp => by
    simp only [findP] at h
    split at h
    · cases h
    · rename_i e
      rcases List.mem_cons.1 hp with rfl | hp
      · intro e'; rw [e'] at e; rw [Nat.beq_refl] at e; cases e
      · exact findP_none h p hp
structure AlI (P : Program) (all al : List Oper) (N : Nat) (pds : List Pd) (p : Pd) : Prop where
  op : ∃ o, all[p.ia]? = some o ∧ o.op = .alloc p.T ∧ o.dst = some p.t ∧ o.guard = none
  lt : p.t < N
  anc : p.ia ∈ ((ancs al [])[p.is]?).getD []
  nal : isAl pds p.is = false
  il : p.is < all.length
  zero : ∃ z, tzero P p.T = some z
  sd : ∀ o, all[p.is]? = some o → o.dst = none
theorem alOk_spec {P : Program} {all al : List Oper} {N : Nat} {pds : List Pd} {p : Pd} (h : alOk P all (ancs al []) N pds p = true) : AlI P all al N pds p := by
  unfold alOk at h
  simp only [Bool.and_eq_true] at h
  obtain ⟨⟨⟨⟨⟨⟨h1, h2⟩, h3⟩, h4⟩, h5⟩, h6⟩, h7⟩ := h
  refine ⟨?_, Nat.le_of_ble_eq_true h2, (memN_iff _ _).1 h3, by simpa using h4, Nat.le_of_ble_eq_true h5, (by cases hz : tzero P p.T with | some z => exact ⟨z, rfl⟩ | none => rw [hz] at h6; cases h6), fun o ho => (by rw [ho] at h7; cases hd : o.dst with | none => rfl | some t => simp only [hd] at h7; cases h7)⟩
  split at h1
  · rename_i o ho
    simp only [Bool.and_eq_true] at h1
    obtain ⟨⟨g1, g2⟩, g3⟩ := h1
    refine ⟨o, ho, ?_, ?_, ?_⟩
    · split at g1
      · rename_i T hT; rw [hT, Nat.eq_of_beq_eq_true g1]
      · cases g1
    · split at g2
      · rename_i t ht; rw [ht, Nat.eq_of_beq_eq_true g2]
      · cases g2
    · split at g3
      · rename_i hg; exact hg
      · cases g3
  · cases h1
theorem alsOk_spec {P : Program} {all al : List Oper} {N : Nat} {pds : List Pd} : ∀ {l : List Pd}, alsOk P all (ancs al []) N pds l = true → (∀ p ∈ l, AlI P all al N pds p) ∧ ∀ p ∈ l, ∀ q ∈ l, p = q ∨ (p.ia ≠ q.ia ∧ p.is ≠ q.is)
  | [], _ => ⟨fun p hp => by simp at hp, fun p hp => by simp at hp⟩
  | x :: r, h => by
    simp only [alsOk, Bool.and_eq_true] at h
    obtain ⟨⟨h1, h2⟩, h3⟩ := h
    obtain ⟨k1, k2⟩ := alsOk_spec h3
    have hx : ∀ q ∈ r, x.ia ≠ q.ia ∧ x.is ≠ q.is := fun q hq => by
      have := List.all_eq_true.1 h2 q hq
      simp only [Bool.and_eq_true, Bool.not_eq_true'] at this
      exact ⟨fun e => (by rw [e, Nat.beq_refl] at this; cases this.1), fun e => (by rw [e, Nat.beq_refl] at this; cases this.2)⟩
    refine ⟨fun p hp => ?_, fun p hp q hq => ?_⟩
    · rcases List.mem_cons.1 hp with rfl | hp
      · exact alOk_spec h1
      · exact k1 p hp
    · rcases List.mem_cons.1 hp with e1 | hp2
      · rcases List.mem_cons.1 hq with e2 | hq2
        · left; rw [e1, e2]
        · rw [e1]; exact Or.inr (hx q hq2)
      · rcases List.mem_cons.1 hq with e2 | hq2
        · rw [e2]; exact Or.inr ⟨Ne.symm (hx p hp2).1, Ne.symm (hx p hp2).2⟩
        · exact k2 p hp2 q hq2
section
variable {P : Program} {N : Nat} {Γ : List (Nat × Ctr)} {M : Addr → Prop} {w0 : World}
/-- One operation, with blocks that lie aside. -/
theorem stepA (hΓ : ∀ f c, lookC f Γ = some c → Sat P f c) {S : St} {d : Dl} {o : Oper} {a : Act} {w : World} {ρ : Rho} {out : Out} (hR : Rel N M w0 ρ (S.ext d) a w) (he : evOp P Γ (S.ext d) o.op = some out) (hnd : out.nd = true) (hpn : out.pn = none) (hck : okN (S.ext d) out = true) (hdst : okDst N o.dst = true)
    {A : Nat → Prop} (hlt : ∀ r, A r → r < w.heap.size) (hcl : Clear A ρ) {next : Act → World → Prop} {Q : Exit → Act → World → Prop}
    (hn : ∀ u w' ρ', ExtS (S.ext d).hp.length ρ ρ' → Rel N M w0 ρ' (S.ext (d.put o.dst out.v out.hv out.vv out.nw out.nd)) (a.put o.dst u) w' → Clear A ρ' → (∀ r, A r → w'.heap[r]? = w.heap[r]?) → next (a.put o.dst u) w') : o.wp P a w next Q := by
  have hok := evOp_sound (o := o) hΓ he hR.mem.here (fun x _ => opd_of _ _ a x (fun t _ => hR.fr t))
  refine hok hnd _ _ (fun u w' ρ' hext _ hvu hm => ?_) (fun v u w' hp _ _ => by rw [hpn] at hp; cases hp)
  obtain ⟨ρ'', e1, e2, e3, e4⟩ := hR.mem.dropA hm hext hlt hcl hvu hck
  refine hn u w' ρ'' e1 ⟨fun t => fr_put hR.fr hR.sz hdst e1.1 e2 t, by rw [act_put_sz]; exact hR.sz, ?_, AlkM.mem (hR.mem.lift e3) (alkM_put ..)⟩ e4 (fun r hA => e3.aside (hlt r hA) (fun i p hp e => hcl i p hp (e ▸ hA)))
  rw [act_put_df]
  have : (S.ext (d.put o.dst out.v out.hv out.vv out.nw out.nd)).dfs = (S.ext d).dfs := by simp [St.ext, Dl.put]
  rw [this]
  exact DfV_ext e1.1 _ _ hR.df

end

theorem vops_get {pds : List Pd} : ∀ (l : List Oper) (i k : Nat), (vops pds i l)[k]? = (l[k]?).map fun o => ⟨vopD pds (i + k) o.dst, o.op, o.type, o.pos, o.after, o.guard⟩
  | [], i, k => by simp [vops]
  | o :: r, i, 0 => by simp [vops]
  | o :: r, i, k + 1 => by
    have := vops_get (pds := pds) r (i + 1) k
    simp only [vops, List.getElem?_cons_succ, this]
    rw [show i + 1 + k = i + (k + 1) by omega]
theorem vops_len {pds : List Pd} : ∀ (l : List Oper) (i : Nat), (vops pds i l).length = l.length
  | [], i => rfl
  | o :: r, i => by simp [vops, vops_len r (i + 1)]

/-- A run in the text's order, the new blocks made at the stores into them. -/
inductive RunE (P : Program) (Γ : List (Nat × Ctr)) (N : Nat) (anc : List (List Nat)) (ls : List Nat) (ks : List Nat) (H : St) (pds : List Pd) : Nat → List Oper → St → (Nat → AVal) → List AVal → List (Nat × Out) → Prop
  | nil (i : Nat) (m : St) (E : Nat → AVal) : RunE P Γ N anc ls ks H pds i [] m E [] []
  | al {i : Nat} {o : Oper} {rest : List Oper} {m : St} {E : Nat → AVal} {vs : List AVal} {lo : List (Nat × Out)} (hi : isAl pds i = true) (hg : o.guard = none) (ho : o.dst = none)
      (hr : RunE P Γ N anc ls ks H pds (i + 1) rest m (putE E o.dst .bad) vs lo) : RunE P Γ N anc ls ks H pds i (o :: rest) m E (.bad :: vs) lo
  | st {i : Nat} {o : Oper} {rest : List Oper} {m : St} {E : Nat → AVal} {vs : List AVal} {lo : List (Nat × Out)} {p : Pd} {oa os : Out} (Si S1 : St) (hh : AlkM m Si) (he : ∀ t ρ u, V ρ (E t) u → V ρ (Si.get t) u) (hni : isAl pds i = false) (hf : findP pds i = some p) (hi : i ∈ ls)
      (hc : ∀ l ∈ ls, l = i ∨ l ∈ (anc[i]?).getD [] ∨ i ∈ (anc[l]?).getD []) (hg : o.guard = none) (hoa : evOp P Γ Si (.alloc p.T) = some oa) (hh1 : AlkM (Si.put oa.hv oa.vv oa.nw) S1) (he1 : ∀ t, S1.get t = if p.t = t then oa.v else Si.get t)
      (hos : evOp P Γ S1 o.op = some os) (hpn : os.pn = none) (hnw : os.nw = []) (hok : okN S1 os = true) (hk : killsOk ks ⟨oa.v, os.hv, os.vv, oa.nw, os.nd, none⟩ = true) (hnd : os.nd = true) (hd : okDst N o.dst = true)
      (hr : RunE P Γ N anc ls ks H pds (i + 1) rest (m.put os.hv os.vv oa.nw) (putE E o.dst oa.v) vs lo) : RunE P Γ N anc ls ks H pds i (o :: rest) m E (oa.v :: vs) ((i, ⟨oa.v, os.hv, os.vv, oa.nw, os.nd, none⟩) :: lo)
  | loud {i : Nat} {o : Oper} {rest : List Oper} {m : St} {E : Nat → AVal} {vs : List AVal} {lo : List (Nat × Out)} {out : Out} (Si : St) (hh : AlkM m Si) (he : ∀ t ρ u, V ρ (E t) u → V ρ (Si.get t) u) (hni : isAl pds i = false) (hf : findP pds i = none) (hi : i ∈ ls)
      (hc : ∀ l ∈ ls, l = i ∨ l ∈ (anc[i]?).getD [] ∨ i ∈ (anc[l]?).getD [])
      (hg : o.guard = none) (hop : evOp P Γ Si o.op = some out) (hpn : out.pn = none) (hok : okN Si out = true) (hk : killsOk ks out = true) (hnd : out.nd = true) (hd : okDst N o.dst = true)
      (hr : RunE P Γ N anc ls ks H pds (i + 1) rest (m.put out.hv out.vv out.nw) (putE E o.dst out.v) vs lo) : RunE P Γ N anc ls ks H pds i (o :: rest) m E (out.v :: vs) ((i, out) :: lo)
  | ord {i : Nat} {o : Oper} {rest : List Oper} {m : St} {E : Nat → AVal} {vs : List AVal} {lo : List (Nat × Out)} {out : Out} (Si : St) (hh : AlkM m Si) (he : ∀ t ρ u, V ρ (E t) u → V ρ (Si.get t) u) (hni : isAl pds i = false) (hf : findP pds i = none) (hi : i ∉ ls)
      (hc : ∀ l ∈ ls, l = i ∨ l ∈ (anc[i]?).getD [] ∨ i ∈ (anc[l]?).getD [])
      (hg : o.guard = none) (hop : evOp P Γ Si o.op = some out) (hpn : out.pn = none) (hok : okN Si out = true) (hq : out.quiet = true) (hnd : out.nd = true) (hd : okDst N o.dst = true)
      (hr : RunE P Γ N anc ls ks H pds (i + 1) rest m (putE E o.dst out.v) vs lo) : RunE P Γ N anc ls ks H pds i (o :: rest) m E (out.v :: vs) lo
  | free {i : Nat} {o : Oper} {rest : List Oper} {m : St} {E : Nat → AVal} {vs : List AVal} {lo : List (Nat × Out)} {out : Out} (Si : St) (hh : AlkM m Si) (he : ∀ t ρ u, V ρ (E t) u → V ρ (Si.get t) u) (hni : isAl pds i = false) (hf : findP pds i = none) (hi : i ∉ ls)
      (hg : o.guard = none) (hop : evOp P Γ (Si.over H ks) o.op = some out) (hq : out.quiet = true) (hu : out.v.under H.hp.length = true) (hnd : out.nd = true) (hd : okDst N o.dst = true)
      (hr : RunE P Γ N anc ls ks H pds (i + 1) rest m (putE E o.dst out.v) vs lo) : RunE P Γ N anc ls ks H pds i (o :: rest) m E (out.v :: vs) lo
section
variable {P : Program} {N : Nat} {Γ : List (Nat × Ctr)} {anc : List (List Nat)} {ls ks : List Nat} {H : St} {pds : List Pd}
theorem evDe_need : ∀ (rest : List Oper) (i : Nat) (S : St) (d d' : Dl), evDe P Γ N anc ls ks H pds i rest S d = some d' → d'.nd = true → d.nd = true
  | [], i, S, d, d', h, hn => by simp only [evDe] at h; cases h; exact hn
  | o :: rest, i, S, d, d', h, hn => by
    simp only [evDe] at h
    split at h
    · split at h
      · exact evDe_need rest _ S d d' h hn
      · split at h
        · split at h
          · split at h
            · split at h
              · exact (andN_and (evDe_need rest _ S _ d' h hn)).1
              · cases h
            · cases h
          · cases h
        · split at h
          · split at h
            · split at h
              · split at h
                · split at h
                  · exact (andN_and (evDe_need rest _ S _ d' h hn)).1
                  · cases h
                · split at h
                  · exact (andN_and (evDe_need rest _ S _ d' h hn)).1
                  · cases h
              · cases h
            · cases h
          · split at h
            · cases h
            · split at h
              · split at h
                · exact (andN_and (evDe_need rest _ S _ d' h hn)).1
                · cases h
              · cases h
    · cases h
theorem evDe_run {M : Addr → Prop} {w0 : World} : ∀ (rest : List Oper) (i : Nat) (S : St) (d d' : Dl) (E : Nat → AVal) (m : St), (∀ k o, rest[k]? = some o → isAl pds (i + k) = true → o.dst = none) →
    evDe P Γ N anc ls ks H pds i rest S d = some d' → d'.nd = true → AlkM m (S.ext d) → (∀ t ρ u, V ρ (E t) u → V ρ ((S.ext d).get t) u) →
    ∃ vs lo, RunE P Γ N anc ls ks H pds i rest m E vs lo ∧
      ∀ ρ a w, (∀ t, V ρ (envN E (rest.map (·.dst)) vs t) (a.tmps.getD t undef)) → a.tmps.size = N → DfV ρ (S.ext d).dfs a.defers → Mem M w0 ρ (memL m lo) w → Rel N M w0 ρ (S.ext d') a w
  | [], i, S, d, d', E, m, _, h, hn, hh, he => by
    simp only [evDe] at h; cases h
    exact ⟨[], [], .nil i m E, fun ρ a w hv hs hd hm => ⟨fun t => he t ρ _ (hv t), hs, hd, AlkM.mem hm hh⟩⟩
  | o :: rest, i, S, d, d', E, m, hA, h, hn, hh, he => by
    simp only [evDe] at h
    have hA' : ∀ k o', rest[k]? = some o' → isAl pds (i + 1 + k) = true → o'.dst = none := fun k o' hk hi => hA (k + 1) o' (by simpa using hk) (by rw [show i + (k + 1) = i + 1 + k by omega]; exact hi)
    have hput : ∀ v hv vv nw nd t' ρ u, V ρ (putE E o.dst v t') u → V ρ ((S.ext (d.put o.dst v hv vv nw nd)).get t') u := by
      intro v hv vv nw nd t' ρ u hvv
      rw [get_put]
      unfold putE at hvv
      split
      · rename_i hc; rw [if_pos hc] at hvv; exact hvv
      · rename_i hc; rw [if_neg hc] at hvv; exact he t' ρ u hvv
    have hdfs : ∀ v hv vv nw nd, (S.ext (d.put o.dst v hv vv nw nd)).dfs = (S.ext d).dfs := fun v hv vv nw nd => by simp [St.ext, Dl.put]
    have halk : ∀ v nd, AlkM m (S.ext (d.put o.dst v [] [] [] nd)) := fun v nd => hh.trans ((alkM_nil _).trans (alkM_put S d o.dst v [] [] [] nd))
    split at h
    · rename_i hg hck
      simp only [Bool.and_eq_true] at hck
      split at h
      · rename_i hi
        have ho : o.dst = none := hA 0 o rfl hi
        obtain ⟨vs, lo, h1, h2⟩ := evDe_run rest (i + 1) S d d' (putE E o.dst .bad) m hA' h hn hh (fun t ρ u hv => by rw [ho] at hv; exact he t ρ u (by simpa [putE] using hv))
        exact ⟨.bad :: vs, lo, .al hi hg ho h1, fun ρ a w hv hs hd hm => h2 ρ a w hv hs hd hm⟩
      · rename_i hi
        split at h
        · rename_i p hf
          split at h
          · rename_i oa hcl hoa
            simp only [Bool.and_eq_true] at hcl
            split at h
            · rename_i os hos
              split at h
              · rename_i hpn hnw hok
                simp only [Bool.and_eq_true] at hok
                have hnd := (andN_and (evDe_need rest _ S _ d' h hn)).2
                obtain ⟨vs, lo, h1, h2⟩ := evDe_run rest (i + 1) S _ d' (putE E o.dst oa.v) (m.put os.hv os.vv oa.nw) hA' h hn ((hh.put os.hv os.vv oa.nw).trans (alkM_put ..)) (hput _ _ _ _ _)
                exact ⟨oa.v :: vs, _ :: lo, .st (S.ext d) _ hh he hi hf ((memN_iff _ _).1 hcl.2) (cmpOk_spec hcl.1) hg hoa (alkM_put ..) (fun t => by rw [get_put]; simp only [Option.some.injEq]) hos hpn hnw hok.1 hok.2 hnd hck.1 h1, fun ρ a w hv hs hd hm => h2 ρ a w hv hs (by rw [hdfs]; exact hd) hm⟩
              · cases h
            · cases h
          · cases h
        · rename_i hf
          split at h
          · rename_i hcm
            have hcm := cmpOk_spec hcm
            split at h
            · rename_i out hout
              split at h
              · rename_i hpn hok
                split at h
                · rename_i hil
                  split at h
                  · rename_i hkk
                    have hnd := (andN_and (evDe_need rest _ S _ d' h hn)).2
                    obtain ⟨vs, lo, h1, h2⟩ := evDe_run rest (i + 1) S _ d' (putE E o.dst out.v) (m.put out.hv out.vv out.nw) hA' h hn ((hh.put out.hv out.vv out.nw).trans (alkM_put ..)) (hput _ _ _ _ _)
                    exact ⟨out.v :: vs, (i, out) :: lo, .loud (S.ext d) hh he hi hf ((memN_iff _ _).1 hil) hcm hg hout hpn hok hkk hnd hck.1 h1, fun ρ a w hv hs hd hm => h2 ρ a w hv hs (by rw [hdfs]; exact hd) hm⟩
                  · cases h
                · rename_i hil
                  have hne : i ∉ ls := fun e => by rw [(memN_iff _ _).2 e] at hil; cases hil
                  split at h
                  · rename_i hq
                    have hnd := (andN_and (evDe_need rest _ S _ d' h hn)).2
                    obtain ⟨vs, lo, h1, h2⟩ := evDe_run rest (i + 1) S _ d' (putE E o.dst out.v) m hA' h hn (halk _ _) (hput _ _ _ _ _)
                    exact ⟨out.v :: vs, lo, .ord (S.ext d) hh he hi hf hne hcm hg hout hpn hok hq hnd hck.1 h1, fun ρ a w hv hs hd hm => h2 ρ a w hv hs (by rw [hdfs]; exact hd) hm⟩
                  · cases h
              · cases h
            · cases h
          · split at h
            · cases h
            · rename_i hil
              have hne : i ∉ ls := fun e => by rw [(memN_iff _ _).2 e] at hil; cases hil
              split at h
              · rename_i out hout
                split at h
                · rename_i hq
                  simp only [Bool.and_eq_true] at hq
                  have hnd := (andN_and (evDe_need rest _ S _ d' h hn)).2
                  obtain ⟨vs, lo, h1, h2⟩ := evDe_run rest (i + 1) S _ d' (putE E o.dst out.v) m hA' h hn (halk _ _) (hput _ _ _ _ _)
                  exact ⟨out.v :: vs, lo, .free (S.ext d) hh he hi hf hne hg hout hq.1 hq.2 hnd hck.1 h1, fun ρ a w hv hs hd hm => h2 ρ a w hv hs (by rw [hdfs]; exact hd) hm⟩
                · cases h
              · cases h
    · cases h
theorem RunE.len {i : Nat} {rest : List Oper} {m : St} {E : Nat → AVal} {vs : List AVal} {lo : List (Nat × Out)} (h : RunE P Γ N anc ls ks H pds i rest m E vs lo) : vs.length = rest.length := by
  induction h with
  | nil => rfl
  | al _ _ _ _ ih => simp [ih]
  | st Si S1 _ _ _ _ _ _ _ _ _ _ _ _ _ _ _ _ _ _ ih => simp [ih]
  | loud Si _ _ _ _ _ _ _ _ _ _ _ _ _ _ ih => simp [ih]
  | ord Si _ _ _ _ _ _ _ _ _ _ _ _ _ _ ih => simp [ih]
  | free Si _ _ _ _ _ _ _ _ _ _ _ _ ih => simp [ih]
theorem RunE.louds {i : Nat} {rest : List Oper} {m : St} {E : Nat → AVal} {vs : List AVal} {lo : List (Nat × Out)} (h : RunE P Γ N anc ls ks H pds i rest m E vs lo) : (∀ p ∈ lo, i ≤ p.1 ∧ p.1 < i + rest.length ∧ p.1 ∈ ls ∧ killsOk ks p.2 = true) ∧ lo.Pairwise (fun p q => p.1 < q.1) := by
  induction h with
  | nil => exact ⟨fun p hp => by simp at hp, .nil⟩
  | al _ _ _ _ ih => exact ⟨fun p hp => by obtain ⟨h1, h2, h3⟩ := ih.1 p hp; simp only [List.length_cons]; exact ⟨by omega, by omega, h3⟩, ih.2⟩
  | st Si S1 _ _ _ _ hi _ _ _ _ _ _ _ _ _ hk _ _ _ ih =>
    refine ⟨fun p hp => ?_, List.pairwise_cons.2 ⟨fun q hq => ?_, ih.2⟩⟩
    · rcases List.mem_cons.1 hp with rfl | hp
      · simp only [List.length_cons]; exact ⟨Nat.le_refl _, by omega, hi, hk⟩
      · obtain ⟨h1, h2, h3⟩ := ih.1 p hp; simp only [List.length_cons]; exact ⟨by omega, by omega, h3⟩
    · have := (ih.1 q hq).1
      show _ < q.1
      omega
  | loud Si _ _ _ _ hi _ _ _ _ _ hk _ _ _ ih =>
    refine ⟨fun p hp => ?_, List.pairwise_cons.2 ⟨fun q hq => ?_, ih.2⟩⟩
    · rcases List.mem_cons.1 hp with rfl | hp
      · simp only [List.length_cons]; exact ⟨Nat.le_refl _, by omega, hi, hk⟩
      · obtain ⟨h1, h2, h3⟩ := ih.1 p hp; simp only [List.length_cons]; exact ⟨by omega, by omega, h3⟩
    · have := (ih.1 q hq).1
      show _ < q.1
      omega
  | ord Si _ _ _ _ _ _ _ _ _ _ _ _ _ _ ih => exact ⟨fun p hp => by obtain ⟨h1, h2, h3⟩ := ih.1 p hp; simp only [List.length_cons]; exact ⟨by omega, by omega, h3⟩, ih.2⟩
  | free Si _ _ _ _ _ _ _ _ _ _ _ _ ih => exact ⟨fun p hp => by obtain ⟨h1, h2, h3⟩ := ih.1 p hp; simp only [List.length_cons]; exact ⟨by omega, by omega, h3⟩, ih.2⟩

/-- What is said of the j-th operation. -/
structure StepE (P : Program) (Γ : List (Nat × Ctr)) (N : Nat) (anc : List (List Nat)) (ls : List Nat) (ks : List Nat) (H : St) (pds : List Pd) (mm : St) (lo : List (Nat × Out)) (j : Nat) (o : Oper) (v : AVal) (Si : St) : Prop where
  gd : o.guard = none
  how : (isAl pds j = true ∧ o.dst = none ∧ ∀ p ∈ lo, p.1 ≠ j) ∨ (isAl pds j = false ∧ okDst N o.dst = true ∧
    ((∃ p oa os S1, findP pds j = some p ∧ j ∈ ls ∧ AlkM (memL mm (upTo lo j)) Si ∧ (∀ l ∈ ls, l = j ∨ l ∈ (anc[j]?).getD [] ∨ j ∈ (anc[l]?).getD []) ∧ evOp P Γ Si (.alloc p.T) = some oa ∧ AlkM (Si.put oa.hv oa.vv oa.nw) S1 ∧ (∀ t, S1.get t = if p.t = t then oa.v else Si.get t) ∧ evOp P Γ S1 o.op = some os ∧ os.pn = none ∧ os.nw = [] ∧ okN S1 os = true ∧ os.nd = true ∧ (j, ⟨oa.v, os.hv, os.vv, oa.nw, os.nd, none⟩) ∈ lo ∧ v = oa.v) ∨
    (findP pds j = none ∧ j ∈ ls ∧ AlkM (memL mm (upTo lo j)) Si ∧ (∀ l ∈ ls, l = j ∨ l ∈ (anc[j]?).getD [] ∨ j ∈ (anc[l]?).getD []) ∧ ∃ out, (j, out) ∈ lo ∧ evOp P Γ Si o.op = some out ∧ out.pn = none ∧ okN Si out = true ∧ out.nd = true ∧ v = out.v) ∨
    (findP pds j = none ∧ j ∉ ls ∧ AlkM (memL mm (upTo lo j)) Si ∧ (∀ l ∈ ls, l = j ∨ l ∈ (anc[j]?).getD [] ∨ j ∈ (anc[l]?).getD []) ∧ ∃ out, evOp P Γ Si o.op = some out ∧ out.pn = none ∧ okN Si out = true ∧ out.quiet = true ∧ out.nd = true ∧ v = out.v) ∨
    (findP pds j = none ∧ j ∉ ls ∧ ∃ out, evOp P Γ (Si.over H ks) o.op = some out ∧ out.quiet = true ∧ out.v.under H.hp.length = true ∧ out.nd = true ∧ v = out.v)))

theorem StepE.cons {mm m' : St} {lo : List (Nat × Out)} {j : Nat} {o : Oper} {v : AVal} {Si : St} {i : Nat} {out : Out} (hij : i < j) (hm : m' = mm.put out.hv out.vv out.nw) (h : StepE P Γ N anc ls ks H pds m' lo j o v Si) : StepE P Γ N anc ls ks H pds mm ((i, out) :: lo) j o v Si := by
  subst hm
  have hup : upTo ((i, out) :: lo) j = (i, out) :: upTo lo j := by
    unfold upTo
    rw [List.filter_cons_of_pos]
    simpa using hij
  refine ⟨h.gd, ?_⟩
  rcases h.how with ⟨g1, g2, g3⟩ | ⟨g1, g2, g⟩
  · refine Or.inl ⟨g1, g2, fun p hp => ?_⟩
    rcases List.mem_cons.1 hp with rfl | hp
    · show i ≠ _; omega
    · exact g3 p hp
  · refine Or.inr ⟨g1, g2, ?_⟩
    rcases g with ⟨p, oa, os, S1, k1, k2, k3, k4, k5, k6, k7, k8, k9, ka, kb, kc, kd, ke⟩ | ⟨k1, k2, k3, k4, out', k5, k6⟩ | ⟨k1, k2, k3, k4⟩ | g
    · exact Or.inl ⟨p, oa, os, S1, k1, k2, by rw [hup]; exact k3, k4, k5, k6, k7, k8, k9, ka, kb, kc, List.mem_cons_of_mem _ kd, ke⟩
    · exact Or.inr (Or.inl ⟨k1, k2, by rw [hup]; exact k3, k4, out', List.mem_cons_of_mem _ k5, k6⟩)
    · exact Or.inr (Or.inr (Or.inl ⟨k1, k2, by rw [hup]; exact k3, k4⟩))
    · exact Or.inr (Or.inr (Or.inr g))
theorem RunE.at {i : Nat} {rest : List Oper} {m : St} {E : Nat → AVal} {vs : List AVal} {lo : List (Nat × Out)}
    (h : RunE P Γ N anc ls ks H pds i rest m E vs lo) : ∀ (k : Nat) (o : Oper), rest[k]? = some o →
    ∃ v Si, vs[k]? = some v ∧ (∀ t ρ u, V ρ (envN E ((rest.map (·.dst)).take k) (vs.take k) t) u → V ρ (Si.get t) u ∨ isAl pds (i + k) = true) ∧ StepE P Γ N anc ls ks H pds m lo (i + k) o v Si := by
  induction h with
  | nil => intro k o hk; simp at hk
  | @al i o rest m E vs lo hi hg ho hr ih =>
    intro k o' hk
    cases k with
    | zero =>
      simp at hk; subst hk
      exact ⟨_, m, rfl, fun t ρ u _ => Or.inr hi, hg, Or.inl ⟨hi, ho, fun p hp => by have := (hr.louds.1 p hp).1; omega⟩⟩
    | succ k =>
      obtain ⟨v', Si', h1, h2, h3⟩ := ih k o' (by simpa using hk)
      have e : i + (k + 1) = i + 1 + k := by omega
      rw [e]
      exact ⟨v', Si', by simpa using h1, by simpa [envN] using h2, h3⟩
  | @st i o rest m E vs lo p oa os Si S1 hh he hni hf hi hc hg hoa hh1 he1 hos hpn hnw hok hk0 hnd hd hr ih =>
    intro k o' hk
    cases k with
    | zero =>
      simp at hk; subst hk
      refine ⟨_, Si, rfl, fun t ρ u hv => Or.inl (he t ρ u (by simpa [envN] using hv)), hg, Or.inr ⟨hni, hd, Or.inl ⟨p, oa, os, S1, hf, hi, ?_, hc, hoa, hh1, he1, hos, hpn, hnw, hok, hnd, by simp, rfl⟩⟩⟩
      rw [upTo_nil]
      · exact hh
      · intro p hp
        rcases List.mem_cons.1 hp with rfl | hp
        · exact Nat.le_refl _
        · have := (hr.louds.1 p hp).1; omega
    | succ k =>
      obtain ⟨v', Si', h1, h2, h3⟩ := ih k o' (by simpa using hk)
      have e : i + (k + 1) = i + 1 + k := by omega
      rw [e]
      exact ⟨v', Si', by simpa using h1, by simpa [envN] using h2, h3.cons (by omega) rfl⟩
  | @loud i o rest m E vs lo out Si hh he hni hf hi hc hg hop hpn hok hk0 hnd hd hr ih =>
    intro k o' hk
    cases k with
    | zero =>
      simp at hk; subst hk
      refine ⟨_, Si, rfl, fun t ρ u hv => Or.inl (he t ρ u (by simpa [envN] using hv)), hg, Or.inr ⟨hni, hd, Or.inr (Or.inl ⟨hf, hi, ?_, hc, out, by simp, hop, hpn, hok, hnd, rfl⟩)⟩⟩
      rw [upTo_nil]
      · exact hh
      · intro p hp
        rcases List.mem_cons.1 hp with rfl | hp
        · exact Nat.le_refl _
        · have := (hr.louds.1 p hp).1; omega
    | succ k =>
      obtain ⟨v', Si', h1, h2, h3⟩ := ih k o' (by simpa using hk)
      have e : i + (k + 1) = i + 1 + k := by omega
      rw [e]
      exact ⟨v', Si', by simpa using h1, by simpa [envN] using h2, h3.cons (by omega) rfl⟩
  | @ord i o rest m E vs lo out Si hh he hni hf hi hc hg hop hpn hok hq hnd hd hr ih =>
    intro k o' hk
    cases k with
    | zero =>
      simp at hk; subst hk
      refine ⟨_, Si, rfl, fun t ρ u hv => Or.inl (he t ρ u (by simpa [envN] using hv)), hg, Or.inr ⟨hni, hd, Or.inr (Or.inr (Or.inl ⟨hf, hi, ?_, hc, out, hop, hpn, hok, hq, hnd, rfl⟩))⟩⟩
      rw [upTo_nil]
      · exact hh
      · intro p hp
        have := (hr.louds.1 p hp).1; omega
    | succ k =>
      obtain ⟨v', Si', h1, h2, h3⟩ := ih k o' (by simpa using hk)
      have e : i + (k + 1) = i + 1 + k := by omega
      rw [e]
      exact ⟨v', Si', by simpa using h1, by simpa [envN] using h2, h3⟩
  | @free i o rest m E vs lo out Si hh he hni hf hi hg hop hq hu hnd hd hr ih =>
    intro k o' hk
    cases k with
    | zero =>
      simp at hk; subst hk
      exact ⟨_, Si, rfl, fun t ρ u hv => Or.inl (he t ρ u (by simpa [envN] using hv)), hg, Or.inr ⟨hni, hd, Or.inr (Or.inr (Or.inr ⟨hf, hi, out, hop, hq, hu, hnd, rfl⟩))⟩⟩
    | succ k =>
      obtain ⟨v', Si', h1, h2, h3⟩ := ih k o' (by simpa using hk)
      have e : i + (k + 1) = i + 1 + k := by omega
      rw [e]
      exact ⟨v', Si', by simpa using h1, by simpa [envN] using h2, h3⟩
end
structure InvE (P : Program) (N : Nat) (M : Addr → Prop) (w0 : World) (all al : List Oper) (pds : List Pd) (H : St) (lo : List (Nat × Out)) (E0 : Nat → AVal) (vs : List AVal) (D : List (AVal × List AVal)) (ρ0 : Rho) (R : Nat → Nat) (listed : Array Bool) (a : Act) (w : World) (ρ : Rho) : Prop where
  ext : ExtS H.hp.length ρ0 ρ
  sz : a.tmps.size = N
  df : DfV ρ D a.defers
  mem : Mem M w0 ρ (memL H (lo.filter fun p => decide (listed[p.1]? = some true))) w
  ls : listed.size = al.length
  slot : ∀ t, (∃ (j : Nat) (o : Oper) (v : AVal), al[j]? = some o ∧ o.dst = some t ∧ vs[j]? = some v ∧ listed[j]? = some true ∧ V ρ v (a.tmps.getD t undef)) ∨
    ((∀ (j : Nat) (o : Oper), al[j]? = some o → o.dst = some t → listed[j]? = some false) ∧ V ρ (E0 t) (a.tmps.getD t undef))
  shut : ∀ (j : Nat) (o : Oper), al[j]? = some o → listed[j]? = some true → ∀ e ∈ o.after.toList, Region.binds .any e = true → listed[e.on]? = some true
  pend : ∀ p ∈ pds, listed[p.is]? = some false → listed[p.ia]? = some true → a.tmps.getD p.t undef = .pointer (some ⟨R p.ia, 0, none⟩) ∧ (∃ z, tzero P p.T = some z ∧ w.heap[R p.ia]? = some (.cells z.cells p.T)) ∧ w0.heap.size ≤ R p.ia ∧ ∀ j q, ρ j = some q → q.1 ≠ R p.ia
  inj : ∀ p ∈ pds, ∀ q ∈ pds, listed[p.is]? = some false → listed[q.is]? = some false → listed[p.ia]? = some true → listed[q.ia]? = some true → p.ia ≠ q.ia → R p.ia ≠ R q.ia

theorem wpAny_of_invE {P : Program} {N : Nat} {Γ : List (Nat × Ctr)} (hΓ : ∀ f c, lookC f Γ = some c → Sat P f c) {all al : List Oper} {pds : List Pd} (hal : al = vops pds 0 all) (hd : drawOk al = true) (hA : ∀ p ∈ pds, AlI P all al N pds p) (hap : ∀ p ∈ pds, ∀ q ∈ pds, p = q ∨ (p.ia ≠ q.ia ∧ p.is ≠ q.is))
    {M : Addr → Prop} {w0 : World} {H : St} {ls : List Nat} {ks : List Nat} {lo : List (Nat × Out)} {E0 : Nat → AVal} {vs : List AVal} {D : List (AVal × List AVal)} {ρ0 : Rho}
    {Q : Exit → Act → World → Prop} (hrun : RunE P Γ N (ancs al []) ls ks H pds 0 al H E0 vs lo) (hE : ∀ p ∈ pds, E0 p.t = .bad) (hH : (∀ i o x, hlookL i o H.hvs = some x → i < H.hp.length) ∧ ∀ i x, vlookL i H.vvs = some x → i < H.hp.length)
    (hQ : ∀ ρ a w, ExtS H.hp.length ρ0 ρ → (∀ t, V ρ (envN E0 (al.map (·.dst)) vs t) (a.tmps.getD t undef)) → a.tmps.size = N → DfV ρ D a.defers → Mem M w0 ρ (memL H lo) w → Q .normal a w) :
    ∀ (fuel : Nat) (listed : Array Bool) (a : Act) (w : World) (ρ : Rho) (R : Nat → Nat), InvE P N M w0 all al pds H lo E0 vs D ρ0 R listed a w ρ → listed.toList.count false = fuel → wpAny P .any all.toArray Q fuel listed a w := by
  have hlenA : al.length = all.length := by rw [hal, vops_len]
  have hgetA : ∀ j o, all[j]? = some o → al[j]? = some (⟨vopD pds j o.dst, o.op, o.type, o.pos, o.after, o.guard⟩ : Oper) := by
    intro j o ho
    rw [hal, vops_get, ho]
    simp
  have hlen := hrun.len
  obtain ⟨hlo, hpw⟩ := hrun.louds
  have hanclt : ∀ (i m : Nat), i < al.length → m ∈ ((ancs al [])[i]?).getD [] → m < i := by
    have key : ∀ (i : Nat) (o : Oper), al[i]? = some o → ∀ m, m ∈ ((ancs al [])[i]?).getD [] → m < i := by
      intro i
      induction i using Nat.strongRecOn with
      | _ i ih =>
        intro o ho m hm
        obtain ⟨e, he, hb, h⟩ := ancs_mem ho hm
        have hlt := (drawRows_spec al 0 hd i o ho).1 e he hb
        simp only [Nat.zero_add] at hlt
        rcases h with rfl | h
        · exact hlt
        · have hil' : i < al.length := (List.getElem?_eq_some_iff.1 ho).1
          have := ih e.on hlt al[e.on] (List.getElem?_eq_getElem (by omega)) m h
          omega
    exact fun i m hi hm => key i al[i] (List.getElem?_eq_getElem hi) m hm
  have huniq : ∀ (j k : Nat) (o u : Oper) (t : Nat), al[j]? = some o → al[k]? = some u → o.dst = some t → u.dst = some t → j = k := by
    intro j k o u t hj hk ho hu
    rcases Nat.lt_trichotomy j k with h | h | h
    · exact absurd ⟨ho, hu⟩ (((drawRows_spec al 0 hd j o hj).2 k u h hk).1 t)
    · exact h
    · exact absurd ⟨hu, ho⟩ (((drawRows_spec al 0 hd k u hk).2 j o h hj).1 t)
  have hdsts : ∀ (i k : Nat) (t : Nat), ((al.map (·.dst)).take i)[k]? = some (some t) ↔ k < i ∧ ∃ o, al[k]? = some o ∧ o.dst = some t := by
    intro i k t
    rw [List.getElem?_take]
    split
    · rename_i h
      simp only [List.getElem?_map, Option.map_eq_some_iff, h, true_and]
    · rename_i h; simp [h]
  -- the store into a block
  have hst : ∀ p ∈ pds, ∃ o', al[p.is]? = some o' ∧ o'.dst = some p.t := by
    intro p hp
    have hil := (hA p hp).il
    refine ⟨_, hgetA p.is all[p.is] (List.getElem?_eq_getElem hil), ?_⟩
    show vopD pds p.is _ = some p.t
    unfold vopD
    rw [(hA p hp).nal]
    cases hf : findP pds p.is with
    | none => exact absurd rfl (findP_none hf p hp)
    | some q =>
      obtain ⟨hq, hqi⟩ := findP_some hf
      rcases hap p hp q hq with h | h
      · subst h; rfl
      · exact absurd hqi.symm h.2
  have hialt : ∀ p ∈ pds, p.ia < al.length := fun p hp => by
    obtain ⟨o', ho', _⟩ := (hA p hp).op
    rw [hlenA]; exact (List.getElem?_eq_some_iff.1 ho').1
  -- all are listed where none is ready
  have hfin : ∀ (listed : Array Bool) (a : Act) (w : World) (ρ : Rho) (R : Nat → Nat), InvE P N M w0 all al pds H lo E0 vs D ρ0 R listed a w ρ → (∀ i, i < al.length → listed[i]? = some true) → Q .normal a w := by
    intro listed a w ρ R hI hall
    have hmem : Mem M w0 ρ (memL H lo) w := by
      have hm := hI.mem
      rw [List.filter_eq_self.2 (fun p hp => by have := (hlo p hp).2.1; rw [hall p.1 (by omega)]; rfl)] at hm
      exact hm
    refine hQ ρ a w hI.ext (fun t => ?_) hI.sz hI.df hmem
    rcases hI.slot t with ⟨j, o, v, hj, ho, hv, _, hV⟩ | ⟨hno, hV⟩
    · have e : envN E0 (al.map (·.dst)) vs t = v := by
        refine envN_at _ _ _ _ j v (by simp [hj, ho]) hv (fun m hm hc => ?_)
        simp only [List.getElem?_map, Option.map_eq_some_iff] at hc
        obtain ⟨u, hu, hut⟩ := hc
        exact hm (huniq m j u o t hu hj hut ho)
      rw [e]; exact hV
    · have e : envN E0 (al.map (·.dst)) vs t = E0 t := by
        refine envN_keep _ _ _ _ (fun k hc => ?_)
        simp only [List.getElem?_map, Option.map_eq_some_iff] at hc
        obtain ⟨u, hu, hut⟩ := hc
        have := hno k u hu hut
        rw [hall k (List.getElem?_eq_some_iff.1 hu).1] at this; cases this
      rw [e]; exact hV
  have hnone : ∀ (listed : Array Bool), listed.size = al.length → Region.ready .any all.toArray listed = [] → ∀ i, i < al.length → listed[i]? = some true := by
    intro listed hls hr i
    induction i using Nat.strongRecOn with
    | _ i ih =>
      intro hi
      rcases getElem_listed hls hi with h | h
      · exact h
      · exfalso
        have hi' : i < all.length := by omega
        have : i ∈ Region.ready .any all.toArray listed := by
          refine mem_ready.2 ⟨by rw [Array.getD_eq_getD_getElem?, h]; rfl, all[i], by simp [hi'], fun e he hb => ?_⟩
          have hlt := (drawRows_spec al 0 hd i _ (hgetA i all[i] (List.getElem?_eq_getElem hi'))).1 e (by simpa using he) hb
          rw [Array.getD_eq_getD_getElem?, ih e.on (by omega) (by omega)]; rfl
        rw [hr] at this; cases this
  intro fuel
  induction fuel with
  | zero =>
    intro listed a w ρ R hI hc
    have hall : ∀ i, i < al.length → listed[i]? = some true := by
      intro i hi
      rcases getElem_listed hI.ls hi with h | h
      · exact h
      · exfalso
        have hm : false ∈ listed.toList := by
          rw [Array.mem_toList_iff]
          obtain ⟨hlt, he⟩ := Array.getElem?_eq_some_iff.1 h
          rw [← he]; exact Array.getElem_mem hlt
        have := List.count_pos_iff.2 hm
        omega
    refine ⟨?_, hfin listed a w ρ R hI hall⟩
    rw [List.eq_nil_iff_forall_not_mem]
    intro j hj
    obtain ⟨h1, o, h2, _⟩ := mem_ready.1 hj
    have hlt : j < al.length := by
      have := (Array.getElem?_eq_some_iff.1 h2).1
      simpa [hlenA] using this
    rw [Array.getD_eq_getD_getElem?, hall j hlt] at h1
    cases h1
  | succ fuel ihf =>
    intro listed a w ρ R hI hc
    refine ⟨fun hr => hfin listed a w ρ R hI (hnone listed hI.ls hr), fun i hi => ?_⟩
    obtain ⟨hun, o, hoa, hpre⟩ := mem_ready.1 hi
    have ho : all[i]? = some o := by simpa using hoa
    have hilt0 : i < all.length := (List.getElem?_eq_some_iff.1 ho).1
    have hilt : i < al.length := by omega
    have hoA := hgetA i o ho
    have hif : listed[i]? = some false := by
      rcases getElem_listed hI.ls hilt with h | h
      · rw [Array.getD_eq_getD_getElem?, h] at hun; cases hun
      · exact h
    have hpre' : ∀ e ∈ o.after.toList, Region.binds .any e = true → listed[e.on]? = some true := by
      intro e he hb
      have := hpre e (by simpa using he) hb
      rw [Array.getD_eq_getD_getElem?] at this
      cases hl : listed[e.on]? with
      | none => rw [hl] at this; simp at this
      | some b => rw [hl] at this; simp at this; rw [this]
    obtain ⟨v, Si, hvi, hget, hstep⟩ := hrun.at i _ hoA
    rw [Nat.zero_add] at hstep hget
    have hgd : o.guard = none := hstep.gd
    have hancI := anc_listed hd hI.ls hI.shut i _ hoA hpre'
    have hset : ∀ j, (listed.setIfInBounds i true)[j]? = if j = i then some true else listed[j]? := by
      intro j
      by_cases hji : j = i
      · subst hji; rw [if_pos rfl, Array.getElem?_setIfInBounds_self_of_lt (by rw [hI.ls]; exact hilt)]
      · rw [if_neg hji, Array.getElem?_setIfInBounds_ne (Ne.symm hji)]
    have hls' : (listed.setIfInBounds i true).size = al.length := by simp [hI.ls]
    have hshut' : ∀ (k : Nat) (u : Oper), al[k]? = some u → (listed.setIfInBounds i true)[k]? = some true → ∀ e ∈ u.after.toList, Region.binds .any e = true → (listed.setIfInBounds i true)[e.on]? = some true := by
      intro k u hk hkl e he hb
      rw [hset] at hkl ⊢
      split
      · rfl
      · split at hkl
        · rename_i hki; subst hki
          rw [hoA] at hk; cases hk
          exact hpre' e he hb
        · exact hI.shut k u hk hkl e he hb
    have hcnt : (listed.setIfInBounds i true).toList.count false = fuel := by
      rw [Array.toList_setIfInBounds, List.count_set (by simpa [hI.ls] using hilt)]
      have : listed.toList[i]'(by simpa [hI.ls] using hilt) = false := by
        have h2 := hif
        rw [Array.getElem?_eq_getElem (by rw [hI.ls]; exact hilt)] at h2
        simpa using h2
      rw [this, hc]; simp
    have hslot : ∀ (b : Act) (dst : Option Nat) (u : Value) (t : Nat), dst ≠ some t → (b.put dst u).tmps.getD t undef = b.tmps.getD t undef := by
      intro b dst u t hne
      cases dst with
      | none => rfl
      | some s =>
        have hne : s ≠ t := fun e => hne (by rw [e])
        show (b.tmps.setIfInBounds s u).getD t undef = _
        simp [Array.getD_eq_getD_getElem?, Array.getElem?_setIfInBounds_ne hne]
    have hRlt : ∀ p ∈ pds, listed[p.is]? = some false → listed[p.ia]? = some true → R p.ia < w.heap.size := fun p hp h1 h2 => by
      obtain ⟨_, ⟨z, _, hz⟩, _⟩ := hI.pend p hp h1 h2
      exact (Array.getElem?_eq_some_iff.1 hz).1
    -- what the operation looks at is as it was in the text's order
    have hlook : isAl pds i = false → ∀ t, t ∈ looks al (⟨vopD pds i o.dst, o.op, o.type, o.pos, o.after, o.guard⟩ : Oper) → V ρ (Si.get t) (a.tmps.getD t undef) := by
      intro hni t ht
      refine (hget t ρ _ ?_).resolve_right (by rw [hni]; simp)
      rcases hI.slot t with ⟨j, u, x, hj, hu, hx, hjl, hV⟩ | ⟨hno, hV⟩
      · have hji : j < i := by
          rcases Nat.lt_trichotomy j i with h | h | h
          · exact h
          · subst h; rw [hif] at hjl; cases hjl
          · exfalso
            have := ((drawRows_spec al 0 hd i _ hoA).2 j u h hj).2 (Or.inr ⟨t, hu, ht⟩)
            simp only [Nat.zero_add] at this
            have := anc_listed hd hI.ls hI.shut j u hj (hI.shut j u hj hjl) i this
            rw [hif] at this; cases this
        have e : envN E0 ((al.map (·.dst)).take i) (vs.take i) t = x := by
          refine envN_at _ _ _ _ j x ((hdsts i j t).2 ⟨hji, u, hj, hu⟩) (by rw [List.getElem?_take, if_pos hji]; exact hx) (fun m hm hcm => ?_)
          obtain ⟨_, u', hu', hut⟩ := (hdsts i m t).1 hcm
          exact hm (huniq m j u' u t hu' hj hut hu)
        rw [e]; exact hV
      · have e : envN E0 ((al.map (·.dst)).take i) (vs.take i) t = E0 t := by
          refine envN_keep _ _ _ _ (fun k hck => ?_)
          obtain ⟨hki, u, hu, hut⟩ := (hdsts i k t).1 hck
          have := ((drawRows_spec al 0 hd k u hu).2 i _ hki hoA).2 (Or.inl ⟨t, hut, ht⟩)
          simp only [Nat.zero_add] at this
          have h1 := hancI k this
          rw [hno k u hu hut] at h1; cases h1
        rw [e]; exact hV
    have hlo' : (∀ p ∈ lo, p.1 ≠ i) → (lo.filter fun p => decide ((listed.setIfInBounds i true)[p.1]? = some true)) = (lo.filter fun p => decide (listed[p.1]? = some true)) := fun hne => by
      refine List.filter_congr fun p hp => ?_
      rw [hset, if_neg (hne p hp)]
    have hls0 : i ∉ ls → ∀ p ∈ lo, p.1 ≠ i := fun hi p hp e => hi (e ▸ (hlo p hp).2.2.1)
    have hcur : (∀ l ∈ ls, l = i ∨ l ∈ ((ancs al [])[i]?).getD [] ∨ i ∈ ((ancs al [])[l]?).getD []) → (lo.filter fun p => decide (listed[p.1]? = some true)) = upTo lo i := fun hc => by
      refine List.filter_congr fun p hp => ?_
      obtain ⟨_, hpl, hpls, _⟩ := hlo p hp
      rcases hc p.1 hpls with e | h | h
      · rw [e, hif]; simp
      · rw [hancI p.1 h]
        have := hanclt i p.1 hilt h
        simp [this]
      · have hlt := hanclt p.1 i (by omega) h
        have hnl : listed[p.1]? ≠ some true := fun hl => by
          have := anc_listed hd hI.ls hI.shut p.1 al[p.1] (List.getElem?_eq_getElem (by omega)) (hI.shut p.1 _ (List.getElem?_eq_getElem (by omega)) hl) i h
          rw [hif] at this; cases this
        have e1 : decide (listed[p.1]? = some true) = false := decide_eq_false hnl
        have e2 : decide (p.1 < i) = false := decide_eq_false (by omega)
        rw [e1, e2]
    have hnew : ∀ {out : Out}, (∀ l ∈ ls, l = i ∨ l ∈ ((ancs al [])[i]?).getD [] ∨ i ∈ ((ancs al [])[l]?).getD []) → (i, out) ∈ lo → (lo.filter fun p => decide ((listed.setIfInBounds i true)[p.1]? = some true)) = upTo lo i ++ [(i, out)] := fun {out} hc' hlom => by
      rw [← filter_upTo hpw hlom]
      refine List.filter_congr fun p hp => ?_
      rw [hset]
      by_cases he : p.1 = i
      · rw [if_pos he]; simp [he]
      · rw [if_neg he]
        have h2 : (p ∈ lo.filter fun p => decide (listed[p.1]? = some true)) ↔ p ∈ upTo lo i := by rw [hcur hc']
        unfold upTo at h2
        simp only [List.mem_filter, hp, true_and, decide_eq_true_eq] at h2
        rw [decide_eq_decide, h2]
        omega
    unfold wpOp
    rw [hoa]
    simp only
    rw [if_pos (by simp [Region.wanted, hgd])]
    left
    rcases hstep.how with ⟨hali, _, hnl⟩ | ⟨hni, hdst, how⟩
    · -- the new block
      obtain ⟨p, hp, rfl⟩ := isAl_iff.1 hali
      have hAp := hA p hp
      obtain ⟨o', ho', hop, hdo, _⟩ := hAp.op
      obtain ⟨z, hz⟩ := hAp.zero
      rw [ho] at ho'; cases ho'
      have hisf : listed[p.is]? = some false := by
        obtain ⟨o2, ho2, _⟩ := hst p hp
        rcases getElem_listed hI.ls (List.getElem?_eq_some_iff.1 ho2).1 with h | h
        · have := anc_listed hd hI.ls hI.shut p.is o2 ho2 (hI.shut p.is o2 ho2 h) p.ia hAp.anc
          rw [hif] at this; cases this
        · exact h
      have hrun' : (execOp a.eval o).run P w = .ok (.value (.pointer (some ⟨w.heap.size, 0, none⟩))) (w.alloc (.cells z.cells p.T)) := by
        unfold execOp; rw [hop]
        simp [Instr.alloc, run_zeroValue w hz, newVar, newRow]
      unfold Oper.wp
      rw [hrun', Oper.upon_value, hdo]
      have hme : ((a.put (some p.t) (.pointer (some ⟨w.heap.size, 0, none⟩))).tmps).getD p.t undef = .pointer (some ⟨w.heap.size, 0, none⟩) := by
        have := hAp.lt
        show (a.tmps.setIfInBounds p.t _).getD p.t undef = _
        simp [Array.getD_eq_getD_getElem?, hI.sz, this]
      have hold : ∀ r, r < w.heap.size → (w.alloc (.cells z.cells p.T)).heap[r]? = w.heap[r]? := fun r hr => Below.heap_alloc _ _ _ hr
      have hisne : ∀ q ∈ pds, q.is ≠ p.ia := fun q hq e => by have := (hA q hq).nal; rw [e, hali] at this; cases this
      refine ihf _ _ _ ρ (fun k => if k = p.ia then w.heap.size else R k) ⟨hI.ext, by rw [act_put_sz]; exact hI.sz, by rw [act_put_df]; exact hI.df, by rw [hlo' hnl]; exact hI.mem.quiet (Fr.alloc w _), hls', fun t => ?_, hshut', fun q hq h1 h2 => ?_, fun q1 hq1 q2 hq2 h1 h2 h3 h4 hne => ?_⟩ hcnt
      · by_cases ht : p.t = t
        · subst ht
          right
          refine ⟨fun j u hj hu => ?_, by rw [hE p hp]; unfold V; trivial⟩
          obtain ⟨o2, ho2, hd2⟩ := hst p hp
          have e := huniq j p.is u o2 p.t hj ho2 hu hd2
          rw [hset, e, if_neg (hisne p hp)]
          exact hisf
        · rw [hslot a (some p.t) _ t (by simpa using ht)]
          rcases hI.slot t with ⟨j, u, x, hj, hu, hx, hjl, hV⟩ | ⟨hno, hV⟩
          · left
            exact ⟨j, u, x, hj, hu, hx, by rw [hset]; split; rfl; exact hjl, hV⟩
          · right
            refine ⟨fun j u hj hu => ?_, hV⟩
            rw [hset]
            have hji : j ≠ p.ia := fun e => by
              rw [e, hoA] at hj
              cases hj
              have hu : vopD pds p.ia o.dst = some t := hu
              unfold vopD at hu
              rw [hali] at hu; cases hu
            rw [if_neg hji]; exact hno j u hj hu
      · rw [hset, if_neg (hisne q hq)] at h1
        by_cases hk' : q.ia = p.ia
        · have hqp : q = p := by
            rcases hap q hq p hp with h | h
            · exact h
            · exact absurd hk' h.1
          subst hqp
          rw [if_pos rfl]
          refine ⟨hme, ⟨z, hz, by show (w.heap.push (.cells z.cells _))[w.heap.size]? = _; simp⟩, hI.mem.fr.size, fun k pr hk => ?_⟩
          have := hI.mem.hp.lt k pr.1 pr.2 hk
          omega
        · rw [hset, if_neg hk'] at h2
          rw [if_neg hk']
          obtain ⟨g1, ⟨z', g2, g3⟩, g4, g5⟩ := hI.pend q hq h1 h2
          have hne : p.t ≠ q.t := fun e => by
            obtain ⟨o2, ho2, hd2⟩ := hst p hp
            obtain ⟨o3, ho3, hd3⟩ := hst q hq
            have e2 := huniq p.is q.is o2 o3 p.t ho2 ho3 hd2 (by rw [hd3, e])
            rcases hap p hp q hq with h | h
            · exact hk' (by rw [h])
            · exact h.2 e2
          refine ⟨?_, ⟨z', g2, ?_⟩, g4, g5⟩
          · rw [hslot a (some p.t) _ q.t (by simpa using hne)]; exact g1
          · rw [hold _ (hRlt q hq h1 h2)]; exact g3
      · rw [hset, if_neg (hisne q1 hq1)] at h1
        rw [hset, if_neg (hisne q2 hq2)] at h2
        by_cases k1 : q1.ia = p.ia
        · have k2 : q2.ia ≠ p.ia := fun e => hne (k1.trans e.symm)
          rw [hset, if_neg k2] at h4
          simp only [if_pos k1, if_neg k2]
          have := hRlt q2 hq2 h2 h4
          omega
        · rw [hset, if_neg k1] at h3
          by_cases k2 : q2.ia = p.ia
          · simp only [if_neg k1, if_pos k2]
            have := hRlt q1 hq1 h1 h3
            omega
          · rw [hset, if_neg k2] at h4
            simp only [if_neg k1, if_neg k2]
            exact hI.inj q1 hq1 q2 hq2 h1 h2 h3 h4 hne
    · have hniA : ∀ q ∈ pds, q.ia ≠ i := isAl_not hni
      rcases how with ⟨p, oa, os, S1, hf, hil, halk, hc', hoa', halk1, hg1, hos, hpn, hnw, hok, hnd, hlom, rfl⟩ | how
      · -- the store into a block that lies aside
        obtain ⟨hp, hpi⟩ := findP_some hf
        have hAp := hA p hp
        have hod : o.dst = none := hAp.sd o (by rw [hpi]; exact ho)
        have hlap : listed[p.ia]? = some true := hancI p.ia (by have := hAp.anc; rw [hpi] at this; exact this)
        obtain ⟨g1, ⟨z, hz, g3⟩, g4, g5⟩ := hI.pend p hp (by rw [hpi]; exact hif) hlap
        simp only [evOp, hz, Option.some.injEq] at hoa'
        subst hoa'
        have hm := hI.mem
        rw [hcur hc'] at hm
        have hmS := AlkM.mem hm halk
        have hm1 := AlkM.mem (hmS.adopt (xs := absC z.cells.toList) g3 (VL_absC ρ _) g5 g4) halk1
        have hext1 := upd_extS hmS.hp.dom (R p.ia, 0) 0
        have hlenS : H.hp.length ≤ Si.hp.length := by rw [halk.hp]; exact memL_len _ _
        have hlen1 : Si.hp.length ≤ S1.hp.length := by rw [halk1.hp]; simp [St.put, St.ext]
        have hops : ∀ x ∈ o.op.operands.toList, V (upd ρ Si.hp.length (R p.ia, 0) 0) (opd S1 x) (a.eval x) := fun x hx => opd_of _ S1 a x (fun t ht => by
          rw [hg1]
          by_cases ht' : p.t = t
          · subst ht'
            rw [if_pos rfl, g1]
            unfold V
            exact ⟨_, 0, upd_new .., rfl⟩
          · rw [if_neg ht']
            subst ht
            exact V_ext hext1.1 _ _ (hlook hni t (looks_opd (o := ⟨vopD pds i o.dst, o.op, o.type, o.pos, o.after, o.guard⟩) hx)))
        have hokk := evOp_sound (o := o) hΓ hos hm1.here hops
        refine hokk hnd _ _ (fun u w' ρ' hext _ hvu hmm => ?_) (fun v u w' hp _ _ => by rw [hpn] at hp; cases hp)
        obtain ⟨ρ2, e1, e2, e3, e4⟩ := hm1.dropA hmm hext (A := fun r => ∃ q ∈ pds, (listed.setIfInBounds i true)[q.is]? = some false ∧ listed[q.ia]? = some true ∧ r = R q.ia) (fun r hr => by
          obtain ⟨q, hq, k1, k2, rfl⟩ := hr
          rw [hset] at k1
          split at k1
          · cases k1
          · exact hRlt q hq k1 k2) (fun k pr hk => by
          rintro ⟨q, hq, k1, k2, k3⟩
          rw [hset] at k1
          split at k1
          · cases k1
          · rename_i hqi
            by_cases hk' : k = Si.hp.length
            · subst hk'
              rw [upd_new] at hk
              cases hk
              have hne : p.ia ≠ q.ia := by
                rcases hap p hp q hq with h | h
                · rw [← h, hpi] at hqi; exact absurd rfl hqi
                · exact h.1
              exact hI.inj p hp q hq (by rw [hpi]; exact hif) k1 hlap k2 hne k3
            · rw [upd_old _ hk'] at hk
              exact (hI.pend q hq k1 k2).2.2.2 k pr hk k3) hvu hok
        have hkeep : ∀ q ∈ pds, (listed.setIfInBounds i true)[q.is]? = some false → listed[q.ia]? = some true → w'.heap[R q.ia]? = w.heap[R q.ia]? := fun q hq k1 k2 => by
          have k1' := k1
          rw [hset] at k1
          split at k1
          · cases k1
          · rename_i hqi
            refine e3.aside (hRlt q hq k1 k2) (fun j pr hj e => ?_)
            by_cases hk' : j = Si.hp.length
            · subst hk'
              rw [upd_new] at hj
              cases hj
              have hne : p.ia ≠ q.ia := by
                rcases hap p hp q hq with h | h
                · rw [← h, hpi] at hqi; exact absurd rfl hqi
                · exact h.1
              exact hI.inj p hp q hq (by rw [hpi]; exact hif) k1 hlap k2 hne e
            · rw [upd_old _ hk'] at hj
              exact (hI.pend q hq k1 k2).2.2.2 j pr hj e
        have hextT : ExtS H.hp.length ρ ρ2 := (hext1.mono hlenS).trans (e1.mono (Nat.le_trans hlenS hlen1))
        rw [hod]
        have hvt : vopD pds i o.dst = some p.t := by unfold vopD; rw [hni, hf]
        refine ihf _ _ _ ρ2 R ⟨hI.ext.trans hextT, hI.sz, DfV_ext hextT.1 _ _ hI.df, ?_, hls', fun t => ?_, hshut', fun q hq h1 h2 => ?_, fun q1 hq1 q2 hq2 h1 h2 h3 h4 hne => ?_⟩ hcnt
        · rw [hnew hc' hlom, memL_app]
          have hm2 := hm1.lift e3
          refine AlkM.mem hm2 ⟨?_, fun j k => ?_, fun j => ?_⟩
          · simp only [memL, St.put, St.ext, halk1.hp, halk.hp, hnw, List.append_nil]
          · have h1 := halk.hv j k
            have h2 := halk1.hv j k
            simp only [memL, St.put, St.ext, hlookL, hlook1] at h1 h2 ⊢
            rw [h2, h1]
          · have h1 := halk.vv j
            have h2 := halk1.vv j
            simp only [memL, St.put, St.ext, vlookL, vlook1] at h1 h2 ⊢
            rw [h2, h1]
        · by_cases ht : p.t = t
          · subst ht
            left
            refine ⟨i, _, _, hoA, hvt, hvi, by rw [hset, if_pos rfl], ?_⟩
            show V ρ2 _ (a.tmps.getD p.t undef)
            rw [g1]
            unfold V
            exact ⟨_, 0, (e1.1.at_ _ _ (upd_new ..)).1, rfl⟩
          · show _ ∨ (_ ∧ V ρ2 (E0 t) (a.tmps.getD t undef))
            rcases hI.slot t with ⟨j, u, x, hj, hu, hx, hjl, hV⟩ | ⟨hno, hV⟩
            · left
              exact ⟨j, u, x, hj, hu, hx, by rw [hset]; split; rfl; exact hjl, V_ext hextT.1 _ _ hV⟩
            · right
              refine ⟨fun j u hj hu => ?_, V_ext hextT.1 _ _ hV⟩
              rw [hset]
              have hji : j ≠ i := fun e => by
                rw [e, hoA] at hj
                cases hj
                have hu : vopD pds i o.dst = some t := hu
                rw [hvt] at hu
                exact ht (Option.some.inj hu)
              rw [if_neg hji]; exact hno j u hj hu
        · rw [hset, if_neg (hniA q hq)] at h2
          have h1' := h1
          rw [hset] at h1
          split at h1
          · cases h1
          · obtain ⟨k1, ⟨z', k2, k3⟩, k4, k5⟩ := hI.pend q hq h1 h2
            exact ⟨k1, ⟨z', k2, by rw [hkeep q hq h1' h2]; exact k3⟩, k4, fun j pr hj e => e4 j pr hj ⟨q, hq, h1', h2, e⟩⟩
        · rw [hset, if_neg (hniA q1 hq1)] at h3
          rw [hset, if_neg (hniA q2 hq2)] at h4
          rw [hset] at h1 h2
          split at h1
          · cases h1
          · split at h2
            · cases h2
            · exact hI.inj q1 hq1 q2 hq2 h1 h2 h3 h4 hne
      · -- another one
        have hfn : findP pds i = none := by rcases how with h | h | h <;> exact h.1
        have hniS := findP_none hfn
        have hvd : vopD pds i o.dst = o.dst := by unfold vopD; rw [hni, hfn]
        have hdne : ∀ p ∈ pds, o.dst ≠ some p.t := fun p hp e => by
          obtain ⟨o2, ho2, hd2⟩ := hst p hp
          exact hniS p hp (huniq p.is i o2 _ p.t ho2 hoA hd2 (by show vopD pds i o.dst = some p.t; rw [hvd, e]))
        have hlk : ∀ p ∈ pds, (listed.setIfInBounds i true)[p.is]? = listed[p.is]? ∧ (listed.setIfInBounds i true)[p.ia]? = listed[p.ia]? := fun p hp => by
          rw [hset, hset, if_neg (hniS p hp), if_neg (hniA p hp)]
          exact ⟨rfl, rfl⟩
        -- the next state
        have hnext : ∀ (x : Value) (w' : World) (ρ' : Rho), ExtS H.hp.length ρ ρ' → V ρ' v x → Mem M w0 ρ' (memL H (lo.filter fun p => decide ((listed.setIfInBounds i true)[p.1]? = some true))) w' → Clear (fun r => ∃ q ∈ pds, listed[q.is]? = some false ∧ listed[q.ia]? = some true ∧ r = R q.ia) ρ' → (∀ q ∈ pds, listed[q.is]? = some false → listed[q.ia]? = some true → w'.heap[R q.ia]? = w.heap[R q.ia]?) → wpAny P .any all.toArray Q fuel (listed.setIfInBounds i true) (a.put o.dst x) w' := by
          intro x w' ρ' hext hx hm hcl hkp
          refine ihf _ _ _ ρ' R ⟨hI.ext.trans hext, by rw [act_put_sz]; exact hI.sz, by rw [act_put_df]; exact DfV_ext hext.1 _ _ hI.df, hm, hls', fun t => ?_, hshut', fun q hq h1 h2 => ?_, fun q1 hq1 q2 hq2 h1 h2 h3 h4 hne => ?_⟩ hcnt
          · by_cases hti : o.dst = some t
            · left
              refine ⟨i, _, v, hoA, by show vopD pds i o.dst = _; rw [hvd]; exact hti, hvi, by rw [hset, if_pos rfl], ?_⟩
              rw [hti]
              have hs : t < N := by
                have := hdst
                have this : okDst N (vopD pds i o.dst) = true := this
                rw [hvd, hti] at this; exact Nat.le_of_ble_eq_true this
              have : (a.tmps.setIfInBounds t x).getD t undef = x := by simp [Array.getD_eq_getD_getElem?, hI.sz, hs]
              show V ρ' v ((a.tmps.setIfInBounds t x).getD t undef)
              rw [this]; exact hx
            · rw [hslot a o.dst x t hti]
              rcases hI.slot t with ⟨j, u, y, hj, hu, hy, hjl, hV⟩ | ⟨hno, hV⟩
              · left
                refine ⟨j, u, y, hj, hu, hy, ?_, V_ext hext.1 _ _ hV⟩
                rw [hset]; split
                · rfl
                · exact hjl
              · right
                refine ⟨fun j u hj hu => ?_, V_ext hext.1 _ _ hV⟩
                rw [hset]
                have hji : j ≠ i := fun e => by
                  subst e
                  rw [hoA] at hj; cases hj
                  exact hti (by have : vopD pds j o.dst = some t := hu; rw [hvd] at this; exact this)
                rw [if_neg hji]; exact hno j u hj hu
          · rw [(hlk q hq).1] at h1
            rw [(hlk q hq).2] at h2
            obtain ⟨k1, ⟨z', k2, k3⟩, k4, k5⟩ := hI.pend q hq h1 h2
            exact ⟨by rw [hslot a o.dst x q.t (hdne q hq)]; exact k1, ⟨z', k2, by rw [hkp q hq h1 h2]; exact k3⟩, k4, fun j pr hj e => hcl j pr hj ⟨q, hq, h1, h2, e⟩⟩
          · rw [(hlk q1 hq1).1] at h1
            rw [(hlk q2 hq2).1] at h2
            rw [(hlk q1 hq1).2] at h3
            rw [(hlk q2 hq2).2] at h4
            exact hI.inj q1 hq1 q2 hq2 h1 h2 h3 h4 hne
        have hAlt : ∀ r, (∃ q ∈ pds, listed[q.is]? = some false ∧ listed[q.ia]? = some true ∧ r = R q.ia) → r < w.heap.size := fun r ⟨q, hq, k1, k2, e⟩ => e ▸ hRlt q hq k1 k2
        have hAcl : Clear (fun r => ∃ q ∈ pds, listed[q.is]? = some false ∧ listed[q.ia]? = some true ∧ r = R q.ia) ρ := fun k pr hk => by
          rintro ⟨q, hq, k1, k2, k3⟩
          exact (hI.pend q hq k1 k2).2.2.2 k pr hk k3
        have hopd : ∀ (T : St), (∀ t, T.get t = Si.get t) → ∀ x ∈ o.op.operands.toList, V ρ (opd T x) (a.eval x) := fun T hT x hx => opd_of ρ T a x (fun t ht => by subst ht; rw [hT]; exact hlook hni t (looks_opd (o := ⟨vopD pds i o.dst, o.op, o.type, o.pos, o.after, o.guard⟩) hx))
        rcases how with ⟨_, hil, halk, hc', out, hlom, hop, hpn, hok, hnd, rfl⟩ | ⟨_, hne, halk, hc', out, hop, hpn, hok, hq, hnd, rfl⟩ | ⟨_, hne, out, hop, hq, hu, hnd, rfl⟩
        · -- a loud one
          have hm := hI.mem
          rw [hcur hc'] at hm
          have hmS := AlkM.mem hm halk
          have hokk := evOp_sound (o := o) hΓ hop hmS.here (hopd Si (fun _ => rfl))
          refine hokk hnd _ _ (fun u w' ρ' hext _ hvu hm' => ?_) (fun v u w' hp _ _ => by rw [hpn] at hp; cases hp)
          obtain ⟨ρ2, e1, e2, e3, e4⟩ := hmS.dropA hm' hext hAlt hAcl hvu hok
          refine hnext u w' ρ2 (e1.mono (by rw [halk.hp]; exact memL_len _ _)) e2 ?_ e4 (fun q hq k1 k2 => e3.aside (hRlt q hq k1 k2) (hI.pend q hq k1 k2).2.2.2)
          rw [hnew hc' hlom, memL_app]
          exact AlkM.mem (hmS.lift e3) (halk.symm.put _ _ _)
        · -- one that comes ahead of the loud ones, or behind them
          obtain ⟨q1, q2, q3, q4⟩ := quiet_nil hq
          have hm := hI.mem
          rw [hcur hc'] at hm
          have hmS := AlkM.mem hm halk
          have hokk := evOp_sound (o := o) hΓ hop hmS.here (hopd Si (fun _ => rfl))
          refine hokk hnd _ _ (fun u w' ρ' hext _ hvu hm' => ?_) (fun v u w' hp _ _ => by rw [q4] at hp; cases hp)
          obtain ⟨ρ2, e1, e2, e3, e4⟩ := hmS.dropA hm' hext hAlt hAcl hvu hok
          refine hnext u w' ρ2 (e1.mono (by rw [halk.hp]; exact memL_len _ _)) e2 ?_ e4 (fun q hq k1 k2 => e3.aside (hRlt q hq k1 k2) (hI.pend q hq k1 k2).2.2.2)
          rw [hlo' (hls0 hne), hcur hc']
          have hm2 := hmS.lift e3
          rw [q1, q2, q3] at hm2
          exact AlkM.mem hm2 ((alkM_nil Si).symm.trans halk.symm)
        · -- a free one
          obtain ⟨q1, q2, q3, q4⟩ := quiet_nil hq
          have hmo : Mem NoM w (cutR H.hp.length ρ) (Si.over H ks) w := mem_over (fun p hp => (hlo p ((List.mem_filter.1 hp).1)).2.2.2) hH hI.mem
          have hokk := evOp_sound (o := o) hΓ hop hmo (fun x hx => opd_of _ _ a x (fun t ht => by
            subst ht
            rw [over_get]
            exact V_guardA (cutR_agr _ ρ) _ _ (hlook hni t (looks_opd (o := ⟨vopD pds i o.dst, o.op, o.type, o.pos, o.after, o.guard⟩) hx))))
          refine hokk hnd _ _ (fun u w' ρ' hext _ hvu hm' => ?_) (fun v u w' hp _ _ => by rw [q4] at hp; cases hp)
          have hol : (Si.over H ks).hp.length = H.hp.length := dropB_len _ ks H.hp 0
          refine hnext u w' ρ (ExtS.refl _ _) (V_under (fun j hj => ⟨fun p hp => ?_, fun hk' => ?_⟩) _ _ hu hvu) ?_ hAcl (fun q hq k1 k2 => hm'.fr.block _ (hRlt q hq k1 k2) (fun _ h => h))
          · have h1 := hext.2.1 j (by rw [hol]; exact hj)
            rw [hp] at h1
            obtain ⟨_, h2⟩ := cutR_old h1.symm
            exact ⟨h2, (hext.1.at_ j p h1.symm).2.symm⟩
          · have h1 := hext.2.2 j (by rw [hol]; exact hj)
            rw [h1] at hk'
            simp only [cutR, Bool.and_eq_true] at hk'
            exact hk'.2
          · rw [hlo' (hls0 hne)]
            exact hI.mem.quiet hm'.fr
theorem bads_need {d : Dl} : ∀ l : List Pd, (d.bads l).nd = true → d.nd = true
  | [], h => h
  | p :: r, h => bads_need r (andN_and (show andN (d.bads r).nd true = true from h)).1
theorem bads_rel {N : Nat} {M : Addr → Prop} {w0 : World} {ρ : Rho} {S : St} {d : Dl} {a : Act} {w : World} (hR : Rel N M w0 ρ (S.ext d) a w) : ∀ l : List Pd, Rel N M w0 ρ (S.ext (d.bads l)) a w ∧ (S.ext (d.bads l)).hp.length = (S.ext d).hp.length ∧ (S.ext (d.bads l)).dfs = (S.ext d).dfs ∧ ∀ p ∈ l, (S.ext (d.bads l)).get p.t = .bad
  | [] => ⟨hR, rfl, rfl, fun p hp => by simp at hp⟩
  | p :: r => by
    obtain ⟨h1, h2, h3, h4⟩ := bads_rel hR r
    have hdf : (S.ext (d.bads (p :: r))).dfs = (S.ext (d.bads r)).dfs := by simp [Dl.bads, St.ext, Dl.put]
    refine ⟨⟨fun t => ?_, h1.sz, by rw [hdf]; exact h1.df, AlkM.mem h1.mem ((alkM_nil _).trans (alkM_put S (d.bads r) (some p.t) .bad [] [] [] true))⟩, ?_, hdf.trans h3, fun q hq => ?_⟩
    · show V ρ ((S.ext ((d.bads r).put (some p.t) .bad [] [] [] true)).get t) _
      rw [get_put]
      split
      · unfold V; trivial
      · exact h1.fr t
    · rw [← h2]
      show (S.ext ((d.bads r).put (some p.t) .bad [] [] [] true)).hp.length = _
      rw [blk_put]; simp [St.put, St.ext]
    · show (S.ext ((d.bads r).put (some p.t) .bad [] [] [] true)).get q.t = _
      rw [get_put]
      split
      · rfl
      · rename_i hne
        rcases List.mem_cons.1 hq with rfl | hq
        · exact absurd rfl hne
        · exact h4 q hq
theorem dq_sound {P : Program} {N : Nat} {M : Addr → Prop} {w0 : World} {Γ : List (Nat × Ctr)} (hΓ : ∀ f c, lookC f Γ = some c → Sat P f c) {all : List Oper} {pds : List Pd} {S : St} {d : Dl} {t : Tr} {ρ : Rho} {a : Act} {w : World} {n0 : Nat} (hn0 : n0 ≤ (S.ext d).hp.length) {Q : Exit → Act → World → Prop} (he : evDq P Γ N all S d pds = some t) (hn : t.need = true) (hR : Rel N M w0 ρ (S.ext d) a w)
    (hQ : ∀ ρ' a' w' e, ExtS n0 ρ ρ' → ExR ρ' (t.out S).1 e → Rel N M w0 ρ' (t.out S).2 a' w' → Q e a' w') : wpAny P .any all.toArray Q all.toArray.size (Array.replicate all.toArray.size false) a { w with drawn := w.drawn + 1 } := by
  unfold evDq at he
  split at he
  · rename_i hck
    simp only [Bool.and_eq_true] at hck
    obtain ⟨h1, h2⟩ := alsOk_spec hck.1
    split at he
    rename_i ls ks _
    split at he
    · rename_i d' hd'
      cases he
      obtain ⟨b1, b2, b3, b4⟩ := bads_rel hR pds
      have hcnt : (Array.replicate all.toArray.size false).toList.count false = all.toArray.size := by simp
      obtain ⟨vs, lo, hrun, hout⟩ := evDe_run (M := M) (w0 := w0) (vops pds 0 all) 0 S (d.bads pds) d' (fun t => (S.ext (d.bads pds)).get t) (S.ext (d.bads pds)) (fun k o hk hi => by
        rw [vops_get] at hk
        obtain ⟨o', _, rfl⟩ := Option.map_eq_some_iff.1 hk
        show vopD pds (0 + k) o'.dst = none
        unfold vopD
        rw [hi]) hd' hn (AlkM.refl _) (fun _ _ _ h => h)
      refine wpAny_of_invE hΓ rfl hck.2 h1 h2 (ρ0 := ρ) (D := (S.ext d).dfs) hrun (fun p hp => b4 p hp) ⟨b1.mem.hp.ink, b1.mem.hp.vink⟩ (fun ρ' a' w' hext hv hs hdf hmem => hQ ρ' a' w' .normal (hext.mono (by rw [b2]; exact hn0)) rfl (hout ρ' a' w' hv hs (by rw [b3]; exact hdf) hmem)) _ _ _ _ ρ (fun _ => 0) ?_ hcnt
      refine ⟨ExtS.refl _ _, hR.sz, hR.df, ?_, by simp [vops_len], fun t => Or.inr ⟨fun j o hj _ => ?_, b1.fr t⟩, fun j o hj hl => ?_, fun p hp _ h => ?_, fun p hp q hq _ _ h => ?_⟩
      · rw [List.filter_eq_nil_iff.2]
        · exact b1.mem.quiet (Fr.drew w)
        · intro p _ hp
          simp only [decide_eq_true_eq] at hp
          rw [Array.getElem?_replicate] at hp
          split at hp <;> cases hp
      · have := (List.getElem?_eq_some_iff.1 hj).1
        rw [vops_len] at this
        simp [this]
      · exfalso
        have := (List.getElem?_eq_some_iff.1 hj).1
        rw [vops_len] at this
        simp [this] at hl
      · exfalso
        rw [Array.getElem?_replicate] at h
        split at h <;> cases h
      · exfalso
        rw [Array.getElem?_replicate] at h
        split at h <;> cases h
    · cases he
  · cases he

/-- A region that draws its order: proved below. -/
theorem draw_sound {P : Program} (hm : P.follows .mixedOrders = true) {N : Nat} {M : Addr → Prop} {w0 : World} {Γ : List (Nat × Ctr)} (hΓ : ∀ f c, lookC f Γ = some c → Sat P f c)
    {all : List Oper} {id : Nat} {S : St} {d : Dl} {t : Tr} {ρ : Rho} {a : Act} {w : World} {n0 : Nat} (hn0 : n0 ≤ (S.ext d).hp.length) {Q : Exit → Act → World → Prop} (he : evDraw P Γ N all S d = some t) (hn : t.need = true) (hR : Rel N M w0 ρ (S.ext d) a w)
    (hQ : ∀ ρ' a' w' e, ExtS n0 ρ ρ' → ExR ρ' (t.out S).1 e → Rel N M w0 ρ' (t.out S).2 a' w' → Q e a' w') : (Code.region id all.toArray true).wp P Q a w := by
  refine wp_region_any hm ?_
  unfold evDraw at he
  split at he
  · rename_i hd
    split at he
    rename_i ls ks _
    split at he
    · rename_i t' he'
      cases he
      have he := he'
      obtain ⟨h0, vs, lo, hrun, hout⟩ := evDr_run (M := M) (w0 := w0) 300 0 all S d t (fun t => (S.ext d).get t) (S.ext d) he hn (AlkM.refl _) (fun _ _ _ h => h)
      have hcnt : (Array.replicate all.toArray.size false).toList.count false = all.toArray.size := by simp
      refine wpAny_of_inv hΓ hd (ρ0 := ρ) (D := (S.ext d).dfs) hrun ⟨hR.mem.hp.ink, hR.mem.hp.vink⟩ (fun ρ' a' w' hext hv hs hdf hmem => hQ ρ' a' w' .normal (hext.mono hn0) (by rw [h0]; rfl) (hout ρ' a' w' hv hs hdf hmem)) _ _ _ _ ρ ?_ hcnt
      refine ⟨ExtS.refl _ _, hR.sz, hR.df, ?_, by simp, fun t => Or.inr ⟨fun j o hj _ => ?_, hR.fr t⟩, fun j o hj hl => ?_⟩
      · rw [List.filter_eq_nil_iff.2]
        · exact hR.mem.quiet (Fr.drew w)
        · intro p _ hp
          simp only [decide_eq_true_eq] at hp
          rw [Array.getElem?_replicate] at hp
          split at hp <;> cases hp
      · have := (List.getElem?_eq_some_iff.1 hj).1
        simp [this]
      · exfalso
        have := (List.getElem?_eq_some_iff.1 hj).1
        simp [this] at hl
    · exact dq_sound hΓ hn0 he hn hR hQ
  · cases he

theorem evDraw_need {P : Program} {N : Nat} {Γ : List (Nat × Ctr)} {ops : List Oper} {S : St} {d : Dl} {t : Tr} (h : evDraw P Γ N ops S d = some t) (hn : t.need = true) : d.nd = true := by
  unfold evDraw at h
  split at h
  · split at h
    split at h
    · rename_i t' h'
      cases h
      exact evDr_need 300 0 ops S d t h' hn
    · unfold evDq at h
      split at h
      · split at h
        split at h
        · rename_i d' h'
          cases h
          exact bads_need _ (evDe_need _ _ _ _ _ h' hn)
        · cases h
      · cases h
  · cases h

/-! ### 8. Code -/
theorem bindT_out {N : Nat} {M : Addr → Prop} {w0 : World} {f : St → Dl → Option Tr} (hf : ∀ S d t, f S d = some t → t.need = true → d.nd = true) : ∀ (t1 : Tr) (S : St) (t : Tr), bindT S t1 f = some t → t.need = true →
    t1.need = true ∧ (((t1.out S).1 = .normal ∧ ∃ S' d' t', S.hp.length ≤ S'.hp.length ∧ (t1.out S).2 = S'.ext d' ∧ f S' d' = some t' ∧ t'.need = true ∧ Weak N M w0 (t'.out S') (t.out S)) ∨
    ((t1.out S).1 ≠ .normal ∧ Weak N M w0 (t1.out S) (t.out S)))
  | .leaf e d, S, t, h, hn => by
    cases e with
    | normal => exact ⟨hf S d t h hn, Or.inl ⟨rfl, S, d, t, Nat.le_refl _, rfl, h, hn, Weak.refl _⟩⟩
    | exit id => simp only [bindT, Option.some.injEq] at h; subst h; exact ⟨hn, Or.inr ⟨by simp [Tr.out], Weak.refl _⟩⟩
    | ret => simp only [bindT, Option.some.injEq] at h; subst h; exact ⟨hn, Or.inr ⟨by simp [Tr.out], Weak.refl _⟩⟩
    | panic v => simp only [bindT, Option.some.injEq] at h; subst h; exact ⟨hn, Or.inr ⟨by simp [Tr.out], Weak.refl _⟩⟩
  | .node d b l r, S, t, h, hn => by
    simp only [bindT, Option.some.injEq] at h
    subst h
    have hw := mkNode_weak (N := N) (M := M) (w0 := w0) S d b (orStuck (bindT (S.ext d) l f)) (orStuck (bindT (S.ext d) r f))
    obtain ⟨hd, hnb⟩ := mkNode_need _ _ _ _ _ hn
    simp only [Tr.out, Tr.need]
    cases b with
    | true =>
      obtain ⟨l', hl, hle, hln⟩ := orStuck_need (by simpa using hnb)
      simp only [if_true] at hw ⊢
      rw [hle] at hw
      obtain ⟨g0, g⟩ := bindT_out (N := N) (M := M) (w0 := w0) hf l (S.ext d) l' hl hln
      refine ⟨by rw [hd]; simpa using g0, ?_⟩
      rcases g with ⟨h1, S', d', t', h0, h2, h3, h4, h5⟩ | ⟨h1, h2⟩
      · exact Or.inl ⟨h1, S', d', t', Nat.le_trans (by simp [St.ext]) h0, h2, h3, h4, h5.trans (by rw [hle]; exact hw)⟩
      · exact Or.inr ⟨h1, h2.trans (by rw [hle]; exact hw)⟩
    | false =>
      obtain ⟨l', hl, hle, hln⟩ := orStuck_need (by simpa using hnb)
      simp only [Bool.false_eq_true, if_false] at hw ⊢
      rw [hle] at hw
      obtain ⟨g0, g⟩ := bindT_out (N := N) (M := M) (w0 := w0) hf r (S.ext d) l' hl hln
      refine ⟨by rw [hd]; simpa using g0, ?_⟩
      rcases g with ⟨h1, S', d', t', h0, h2, h3, h4, h5⟩ | ⟨h1, h2⟩
      · exact Or.inl ⟨h1, S', d', t', Nat.le_trans (by simp [St.ext]) h0, h2, h3, h4, h5.trans (by rw [hle]; exact hw)⟩
      · exact Or.inr ⟨h1, h2.trans (by rw [hle]; exact hw)⟩
end Go.Ab

namespace Go.Ab
open Go Go.RowKit
set_option linter.unusedVariables false

theorem unblock_need (id : Nat) : ∀ (t : Tr) (S : St), (unblock id S t).need = true → t.need = true
  | .leaf e d, S, h => by
    cases e with
    | exit j =>
      cases hb : Nat.beq id j with
      | true => simpa [unblock, hb, Tr.need] using h
      | false => simpa [unblock, hb, Tr.need] using h
    | _ => exact h
  | .node d b l r, S, h => by
    obtain ⟨h1, h2⟩ := mkNode_need S d b (unblock id (S.ext d) l) (unblock id (S.ext d) r) h
    simp only [Tr.need]
    rw [h1]
    cases b with
    | true => simpa using unblock_need id l (S.ext d) (by simpa using h2)
    | false => simpa using unblock_need id r (S.ext d) (by simpa using h2)

theorem unblock_out {N : Nat} {M : Addr → Prop} {w0 : World} (id : Nat) : ∀ (t : Tr) (S : St),
    ((t.out S).1 = .exit id ∧ ((unblock id S t).out S).1 = .normal ∧ ∀ ρ a w, Rel N M w0 ρ (t.out S).2 a w → Rel N M w0 ρ ((unblock id S t).out S).2 a w) ∨
    ((t.out S).1 ≠ .exit id ∧ Weak N M w0 (t.out S) ((unblock id S t).out S))
  | .leaf e d, S => by
    cases e with
    | normal => right; exact ⟨by simp [Tr.out], Weak.refl _⟩
    | ret => right; exact ⟨by simp [Tr.out], Weak.refl _⟩
    | panic v => right; exact ⟨by simp [Tr.out], Weak.refl _⟩
    | exit j =>
      cases hb : Nat.beq id j with
      | true =>
        left
        have := Nat.eq_of_beq_eq_true hb
        subst this
        have e : unblock id S (.leaf (.exit id) d) = .leaf .normal d := by simp [unblock]
        rw [e]
        exact ⟨rfl, rfl, fun _ _ _ h => h⟩
      | false =>
        right
        have e : unblock id S (.leaf (.exit j) d) = .leaf (.exit j) d := by simp [unblock, hb]
        rw [e]
        refine ⟨fun h => ?_, Weak.refl _⟩
        simp only [Tr.out, Ex.exit.injEq] at h
        subst h; simp at hb
  | .node d b l r, S => by
    have hw := mkNode_weak (N := N) (M := M) (w0 := w0) S d b (unblock id (S.ext d) l) (unblock id (S.ext d) r)
    have el : unblock id S (.node d b l r) = mkNode S d b (unblock id (S.ext d) l) (unblock id (S.ext d) r) := rfl
    rw [el]
    simp only [Tr.out]
    cases b with
    | true =>
      simp only [if_true] at hw ⊢
      rcases unblock_out (N := N) (M := M) (w0 := w0) id l (S.ext d) with ⟨h1, h2, h3⟩ | ⟨h1, h2⟩
      · exact Or.inl ⟨h1, hw.1.trans h2, fun ρ a w h => hw.2 _ _ _ (h3 ρ a w h)⟩
      · exact Or.inr ⟨h1, h2.trans hw⟩
    | false =>
      simp only [Bool.false_eq_true, if_false] at hw ⊢
      rcases unblock_out (N := N) (M := M) (w0 := w0) id r (S.ext d) with ⟨h1, h2, h3⟩ | ⟨h1, h2⟩
      · exact Or.inl ⟨h1, hw.1.trans h2, fun ρ a w h => hw.2 _ _ _ (h3 ρ a w h)⟩
      · exact Or.inr ⟨h1, h2.trans hw⟩

section
variable {P : Program} {N : Nat} {M : Addr → Prop} {w0 : World} {ρ : Rho} {S : St} {a : Act} {w : World}

theorem bindT_need {f : St → Dl → Option Tr} (hf : ∀ S d t, f S d = some t → t.need = true → d.nd = true) {t1 : Tr} {S : St} {t : Tr} (h : bindT S t1 f = some t) (hn : t.need = true) : t1.need = true :=
  (bindT_out (N := 0) (M := NoM) (w0 := default) hf t1 S t h hn).1

theorem ev_need {Γ : List (Nat × Ctr)} : ∀ (n : Nat) (c : Code) (S : St) (d : Dl) (t : Tr), ev P Γ N n c S d = some t → t.need = true → d.nd = true
  | 0, c, S, d, t, h, _ => by simp [ev] at h
  | n + 1, c, S, d, t, h, hn => by
    have IH := fun c S d t h hn => ev_need (Γ := Γ) n c S d t h hn
    unfold ev at h
    cases c <;> simp only at h <;> try (cases h; done)
    case skip => cases h; exact hn
    case label l => cases h; exact hn
    case ret => cases h; exact hn
    case exit id => cases h; exact hn
    case seq x y =>
      split at h
      · rename_i t1 h1
        exact IH x S d t1 h1 (bindT_need (fun S d t => IH y S d t) h hn)
      · cases h
    case cond c x y =>
      split at h
      · exact IH x S d t h hn
      · exact IH y S d t h hn
      · split at h
        · cases h; exact (mkNode_need _ _ _ _ _ hn).1
        · cases h
      · cases h
    case block id x =>
      split at h
      · rename_i t1 h1; cases h
        exact IH x S d t1 h1 (unblock_need id t1 S hn)
      · cases h
    case loop x =>
      split at h
      · rename_i t1 h1
        exact IH x S d t1 h1 (bindT_need (fun S d t => IH (.loop x) S d t) h hn)
      · cases h
    case region id ops draw =>
      split at h
      · exact evOps_need 300 ops.toList S d t h hn
      · exact evDraw_need h hn
    case scope x => exact IH x S d t h hn

theorem ev_sound {n0 : Nat} {Γ : List (Nat × Ctr)} (hΓ : ∀ f c, lookC f Γ = some c → Sat P f c) (hmo : P.follows .mixedOrders = true) : ∀ (n : Nat) (c : Code) (S : St) (d : Dl) (t : Tr), ev P Γ N n c S d = some t → t.need = true → n0 ≤ S.hp.length →
    ∀ (ρ : Rho) (a : Act) (w : World) (Q : Exit → Act → World → Prop), Rel N M w0 ρ (S.ext d) a w → (∀ ρ' a' w' e, ExtS n0 ρ ρ' → ExR ρ' (t.out S).1 e → Rel N M w0 ρ' (t.out S).2 a' w' → Q e a' w') →
      c.wp P Q a w ∧ ∀ b, c = .loop b → Code.rounds P b Q n a w
  | 0, c, S, d, t, h, _, _, _, _, _, _, _, _ => by simp [ev] at h
  | n + 1, c, S, d, t, h, hn, hn0, ρ, a, w, Q, hR, hQ => by
    have IH := fun c S d t h hn hn0 ρ a w Q hR hQ => (ev_sound (n0 := n0) hΓ hmo n c S d t h hn hn0 ρ a w Q hR hQ)
    unfold ev at h
    cases c <;> simp only at h <;> try (cases h; done)
    case skip =>
      cases h
      exact ⟨wp_skip (hQ ρ a w _ (ExtS.refl _ _) rfl hR), fun b hb => by cases hb⟩
    case label l =>
      cases h
      exact ⟨wp_label (hQ ρ a w _ (ExtS.refl _ _) rfl hR), fun b hb => by cases hb⟩
    case ret =>
      cases h
      exact ⟨wp_ret (hQ ρ a w _ (ExtS.refl _ _) rfl hR), fun b hb => by cases hb⟩
    case exit id =>
      cases h
      exact ⟨wp_exit (hQ ρ a w _ (ExtS.refl _ _) rfl hR), fun b hb => by cases hb⟩
    case seq x y =>
      refine ⟨?_, fun b hb => by cases hb⟩
      split at h
      · rename_i t1 h1
        obtain ⟨hn1, hout⟩ := bindT_out (N := N) (M := M) (w0 := w0) (fun S d t => ev_need (Γ := Γ) n y S d t) t1 S t h hn
        apply wp_seq
        refine (IH x S d t1 h1 hn1 hn0 ρ a w _ hR ?_).1
        intro ρ' a' w' e hext hx hr'
        rcases hout with ⟨k1, S', d', t', k0, k2, k3, k3n, k4⟩ | ⟨k1, k2⟩
        · rw [k1] at hx
          have hx : e = .normal := hx
          subst hx
          show y.wp P Q a' w'
          rw [k2] at hr'
          refine (IH y S' d' t' k3 k3n (Nat.le_trans hn0 k0) ρ' a' w' Q hr' ?_).1
          intro ρ'' a'' w'' e' hext' hx' hr''
          rw [← k4.1] at hx'
          exact hQ ρ'' a'' w'' e' (hext.trans hext') hx' (k4.2 _ _ _ hr'')
        · have := hQ ρ' a' w' e hext (by rw [k2.1]; exact hx) (k2.2 _ _ _ hr')
          cases e with
          | normal =>
            exfalso
            cases he : (t1.out S).1 with
            | normal => exact k1 he
            | exit id => rw [he] at hx; cases hx
            | ret => rw [he] at hx; cases hx
            | panic v => rw [he] at hx; obtain ⟨u, _, hu⟩ := hx; cases hu
          | _ => exact this
      · cases h
    case cond c x y =>
      refine ⟨?_, fun b hb => by cases hb⟩
      have hc := hR.opd c
      split at h
      · rename_i hv; rw [hv] at hc; unfold V at hc
        exact wp_cond_true hc (IH x S d t h hn hn0 ρ a w Q hR hQ).1
      · rename_i hv; rw [hv] at hc; unfold V at hc
        exact wp_cond_false hc (IH y S d t h hn hn0 ρ a w Q hR hQ).1
      · rename_i b hv
        split at h
        · rename_i s hs
          have hcs : c = .tmp s := by
            unfold tmpOf at hs
            split at hs
            · cases hs; rfl
            · cases hs
          subst hcs
          rw [hv] at hc; unfold V at hc
          have hR' := hR.refine hv
          cases h
          have hw := mkNode_weak (N := N) (M := M) (w0 := w0) S d b (orStuck (ev P Γ N n x (S.ext d) (Dl.one s (.bool true)))) (orStuck (ev P Γ N n y (S.ext d) (Dl.one s (.bool false))))
          have hnb := (mkNode_need _ _ _ _ _ hn).2
          cases b with
          | true =>
            obtain ⟨l, hl, hle, hln⟩ := orStuck_need (by simpa using hnb)
            refine wp_cond_true hc (IH x _ _ l hl hln (le_ext hn0 d) ρ a w Q hR' ?_).1
            intro ρ' a' w' e he hx hr'
            refine hQ ρ' a' w' e he ?_ (hw.2 _ _ _ (by simpa [hle] using hr'))
            rw [hw.1]; simpa [hle] using hx
          | false =>
            obtain ⟨l, hl, hle, hln⟩ := orStuck_need (by simpa using hnb)
            refine wp_cond_false hc (IH y _ _ l hl hln (le_ext hn0 d) ρ a w Q hR' ?_).1
            intro ρ' a' w' e he hx hr'
            refine hQ ρ' a' w' e he ?_ (hw.2 _ _ _ (by simpa [hle] using hr'))
            rw [hw.1]; simpa [hle] using hx
        · cases h
      · cases h
    case block id x =>
      refine ⟨?_, fun b hb => by cases hb⟩
      split at h
      · rename_i t1 h1
        cases h
        apply wp_block
        refine (IH x S d t1 h1 (unblock_need id t1 S hn) hn0 ρ a w _ hR ?_).1
        intro ρ' a' w' e hext hx hr'
        rcases unblock_out (N := N) (M := M) (w0 := w0) id t1 S with ⟨k1, k2, k3⟩ | ⟨k1, k2⟩
        · rw [k1] at hx
          have hx : e = .exit id := hx
          subst hx
          simp only [Exit.inBlock, if_true]
          exact hQ ρ' a' w' .normal hext (by rw [k2]; rfl) (k3 _ _ _ hr')
        · have hx' : ExR ρ' (Tr.out S (unblock id S t1)).1 e := by rw [k2.1]; exact hx
          have := hQ ρ' a' w' e hext hx' (k2.2 _ _ _ hr')
          cases e with
          | exit j =>
            simp only [Exit.inBlock]
            rw [if_neg (fun e => k1 (by
              subst e
              cases he : (t1.out S).1 with
              | normal => rw [he] at hx; cases hx
              | exit i => rw [he] at hx; cases hx; rfl
              | ret => rw [he] at hx; cases hx
              | panic v => rw [he] at hx; obtain ⟨u, _, hu⟩ := hx; cases hu))]
            exact this
          | _ => exact this
      · cases h
    case loop x =>
      have key : Code.rounds P x Q (n + 1) a w := by
        rw [rounds_succ]
        split at h
        · rename_i t1 h1
          obtain ⟨hn1, hout⟩ := bindT_out (N := N) (M := M) (w0 := w0) (fun S d t => ev_need (Γ := Γ) n (.loop x) S d t) t1 S t h hn
          refine (IH x S d t1 h1 hn1 hn0 ρ a w _ hR ?_).1
          intro ρ' a' w' e hext hx hr'
          rcases hout with ⟨k1, S', d', t', k0, k2, k3, k3n, k4⟩ | ⟨k1, k2⟩
          · rw [k1] at hx
            have hx : e = .normal := hx
            subst hx
            show Code.rounds P x Q n a' w'
            rw [k2] at hr'
            refine (IH (.loop x) S' d' t' k3 k3n (Nat.le_trans hn0 k0) ρ' a' w' Q hr' ?_).2 x rfl
            intro ρ'' a'' w'' e' hext' hx' hr''
            rw [← k4.1] at hx'
            exact hQ ρ'' a'' w'' e' (hext.trans hext') hx' (k4.2 _ _ _ hr'')
          · have := hQ ρ' a' w' e hext (by rw [k2.1]; exact hx) (k2.2 _ _ _ hr')
            cases e with
            | normal =>
              exfalso
              cases he : (t1.out S).1 with
              | normal => exact k1 he
              | exit id => rw [he] at hx; cases hx
              | ret => rw [he] at hx; cases hx
              | panic v => rw [he] at hx; obtain ⟨u, _, hu⟩ := hx; cases hu
            | _ => exact this
        · cases h
      exact ⟨wp_loop_rounds (n + 1) key, fun b hb => by cases hb; exact key⟩
    case region id ops draw =>
      refine ⟨?_, fun b hb => by cases hb⟩
      have : ops = ops.toList.toArray := by simp
      rw [this]
      split at h
      · apply wp_region_lit
        exact evOps_sound hΓ 300 ops.toList S d t ρ a w h hn hn0 hR hQ
      · exact draw_sound hmo hΓ (le_ext hn0 d) h hn hR hQ
    case scope x =>
      refine ⟨?_, fun b hb => by cases hb⟩
      apply wp_scope_straight
      refine (IH x S d t h hn hn0 ρ a w _ hR ?_).1
      intro ρ' a' w' e hext hx hr'
      have := hQ ρ' a' w' e hext hx hr'
      cases e with
      | goto l =>
        exfalso
        cases he : (t.out S).1 with
        | normal => rw [he] at hx; cases hx
        | exit id => rw [he] at hx; cases hx
        | ret => rw [he] at hx; cases hx
        | panic v => rw [he] at hx; obtain ⟨u, _, hu⟩ := hx; cases hu
      | _ => exact this
end
end Go.Ab
