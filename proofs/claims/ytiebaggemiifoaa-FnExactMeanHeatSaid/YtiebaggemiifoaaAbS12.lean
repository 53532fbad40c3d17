import Derived.Test.YtiebaggemiifoaaAbS11
namespace Go.Ab
open Go Go.RowKit

/-! ### 10. A region that draws its order -/
def putE (E : Nat → AVal) (dst : Option Nat) (v : AVal) : Nat → AVal := fun t => if dst = some t then v else E t

def envN : (Nat → AVal) → List (Option Nat) → List AVal → Nat → AVal
  | E, d :: ds, v :: vs => envN (putE E d v) ds vs
  | E, _, _ => E

/-- The same memory. -/
structure AlkH (S S' : St) : Prop where
  cell : ∀ i o, S'.cell i o = S.cell i o
  wr : ∀ i, (S'.blk i).wr = (S.blk i).wr
  len : S'.hp.length = S.hp.length
  ink : ∀ i o x, hlookL i o S'.hvs = some x → ∃ y, hlookL i o S.hvs = some y

theorem AlkH.refl (S : St) : AlkH S S := ⟨fun _ _ => rfl, fun _ => rfl, rfl, fun _ _ x h => ⟨x, h⟩⟩
theorem AlkH.trans {A B C : St} (h : AlkH A B) (k : AlkH B C) : AlkH A C :=
  ⟨fun i o => (k.cell i o).trans (h.cell i o), fun i => (k.wr i).trans (h.wr i), k.len.trans h.len, fun i o x hx => by obtain ⟨y, hy⟩ := k.ink i o x hx; exact h.ink i o y hy⟩
theorem AlkH.symm_mem {M : Addr → Prop} {w0 : World} {ρ : Rho} {S S' : St} {w : World} (h : Mem M w0 ρ S w) (k : AlkH S S') : Mem M w0 ρ S' w :=
  h.same k.cell k.wr k.len (fun i o x hx => by obtain ⟨y, hy⟩ := k.ink i o x hx; rw [k.len]; exact h.hp.ink i o y hy)

theorem alkH_put (S : St) (d : Dl) (dst : Option Nat) (v : AVal) : AlkH (S.ext d) (S.ext (d.put dst v [] [])) := by
  have hh : ∀ i o, hlookL i o (S.ext (d.put dst v [] [])).hvs = hlookL i o (S.ext d).hvs := fun i o => by
    rw [hlookL_put]; simp [St.put, St.ext, hlookL, hlook1]
  have hb : (S.ext (d.put dst v [] [])).hp = (S.ext d).hp := by rw [blk_put]; simp [St.put, St.ext]
  exact ⟨fun i o => by unfold St.cell St.blk; rw [hb, hh], fun i => by unfold St.blk; rw [hb], by rw [hb], fun i o x hx => ⟨x, by rw [← hh]; exact hx⟩⟩

theorem alkH_ref (S : St) (t : Nat) (b : AVal) : AlkH S (S.ext ⟨[(t, b)], [], []⟩) :=
  ⟨fun i o => by simp [St.ext, St.cell, St.blk, hlookL, hlook1], fun i => by simp [St.ext, St.blk], by simp [St.ext], fun i o x hx => ⟨x, by simpa [St.ext, hlookL, hlook1] using hx⟩⟩

/-- A run in the text's order that writes nothing: what each operation yields. -/
inductive RunQ (P : Program) (Γ : List (Nat × Ctr)) (N : Nat) (all : List Oper) (H : St) : List Oper → (Nat → AVal) → List AVal → Prop
  | nil (E : Nat → AVal) : RunQ P Γ N all H [] E []
  | yes {o : Oper} {rest : List Oper} {E : Nat → AVal} {v : AVal} {vs : List AVal} (Si : St) (hh : AlkH H Si) (he : ∀ t ρ u, V ρ (E t) u → V ρ (Si.get t) u)
      (hg : guardOf all Si o.guard = .yes) (hop : evOp P Γ Si o.op = some ⟨v, [], []⟩) (hd : okDst N o.dst = true) (hr : RunQ P Γ N all H rest (putE E o.dst v) vs) : RunQ P Γ N all H (o :: rest) E (v :: vs)
  | no {o : Oper} {rest : List Oper} {E : Nat → AVal} {vs : List AVal} (Si : St) (hh : AlkH H Si) (he : ∀ t ρ u, V ρ (E t) u → V ρ (Si.get t) u)
      (hg : guardOf all Si o.guard = .no) (hd : okDst N o.dst = true) (hr : RunQ P Γ N all H rest (putE E o.dst (.raw undef)) vs) : RunQ P Γ N all H (o :: rest) E (.raw undef :: vs)

theorem guardOf_split {all : List Oper} {S : St} {g : Option (Nat × Bool)} {t : Nat} {b : Bool} (h : guardOf all S g = .split t b) : S.get t = .sbool b := by
  unfold guardOf at h
  split at h
  · cases h
  · split at h
    · cases h
    · rename_i t' _
      split at h
      · split at h <;> cases h
      · rename_i b' hv
        simp only [Gd.split.injEq] at h
        obtain ⟨rfl, rfl⟩ := h
        exact hv
      · cases h
      · cases h

section
variable {P : Program} {N : Nat}

theorem evOps_runQ {Γ : List (Nat × Ctr)} {all : List Oper} {M : Addr → Prop} {w0 : World} (H : St) : ∀ (n : Nat) (rest : List Oper) (S : St) (d : Dl) (t : Tr) (E : Nat → AVal),
    evOps P Γ N true all n rest S d = some t → AlkH H (S.ext d) → (∀ t ρ u, V ρ (E t) u → V ρ ((S.ext d).get t) u) →
    ∃ vs, RunQ P Γ N all H rest E vs ∧ ∀ ρ a w, (∀ t, V ρ (envN E (rest.map (·.dst)) vs t) (a.tmps.getD t undef)) → a.tmps.size = N → a.defers = [] → Mem M w0 ρ H w → Rel N M w0 ρ (t.out S).2 a w
  | 0, _, _, _, _, _, h, _, _ => by simp [evOps] at h
  | n + 1, [], S, d, t, E, h, hh, he => by
    simp [evOps] at h; subst h
    exact ⟨[], .nil E, fun ρ a w hv hs hd hm => ⟨fun t => he t ρ _ (hv t), hs, hd, AlkH.symm_mem hm hh⟩⟩
  | n + 1, o :: rest, S, d, t, E, h, hh, he => by
    simp only [evOps] at h
    have hput : ∀ v t' ρ u, V ρ (putE E o.dst v t') u → V ρ ((S.ext (d.put o.dst v [] [])).get t') u := by
      intro v t' ρ u hv
      rw [get_put]
      unfold putE at hv
      split
      · rename_i hc; rw [if_pos hc] at hv; exact hv
      · rename_i hc; rw [if_neg hc] at hv; exact he t' ρ u hv
    split at h
    · cases h
    · rename_i hdst
      split at h
      · rename_i hg
        split at h
        · rename_i out hout
          split at h
          · rename_i hq
            simp only [Bool.not_true, Bool.false_or] at hq
            have hnil : out.hv = [] ∧ out.nw = [] := by
              unfold Out.quiet at hq
              split at hq
              · rename_i h1 h2; exact ⟨h1, h2⟩
              · cases hq
            obtain ⟨ov, ohv, onw⟩ := out
            obtain ⟨rfl, rfl⟩ := hnil
            obtain ⟨vs, h1, h2⟩ := evOps_runQ H n rest S _ t (putE E o.dst ov) h (hh.trans (alkH_put S d o.dst ov)) (hput ov)
            exact ⟨ov :: vs, .yes (S.ext d) hh he hg hout hdst h1, fun ρ a w hv => h2 ρ a w hv⟩
          · cases h
        · cases h
      · rename_i hg
        obtain ⟨vs, h1, h2⟩ := evOps_runQ H n rest S _ t (putE E o.dst (.raw undef)) h (hh.trans (alkH_put S d o.dst _)) (hput _)
        exact ⟨.raw undef :: vs, .no (S.ext d) hh he hg hdst h1, fun ρ a w hv => h2 ρ a w hv⟩
      · rename_i s b hg
        have hsb : (S.ext d).get s = .sbool b := guardOf_split hg
        split at h
        · rename_i l hl
          split at h
          · rename_i r hr
            cases h
            have hw := mkNode_weak (N := N) (M := M) (w0 := w0) S d b l r
            have hE : ∀ t ρ u, V ρ (E t) u → V ρ (((S.ext d).ext ⟨[(s, .bool b)], [], []⟩).get t) u := by
              intro t ρ u hv
              rw [get_ext]
              simp only [look1]
              cases hb : Nat.beq t s with
              | true =>
                have := Nat.eq_of_beq_eq_true hb
                subst this
                have := he t ρ u hv
                rw [hsb] at this
                unfold V at this ⊢; exact this
              | false => exact he t ρ u hv
            cases b with
            | true =>
              obtain ⟨vs, h1, h2⟩ := evOps_runQ H n (o :: rest) (S.ext d) _ l E hl (hh.trans (alkH_ref _ s _)) hE
              exact ⟨vs, h1, fun ρ a w hv hs hd hm => hw.2 _ _ _ (by simpa using h2 ρ a w hv hs hd hm)⟩
            | false =>
              obtain ⟨vs, h1, h2⟩ := evOps_runQ H n (o :: rest) (S.ext d) _ r E hr (hh.trans (alkH_ref _ s _)) hE
              exact ⟨vs, h1, fun ρ a w hv hs hd hm => hw.2 _ _ _ (by simpa using h2 ρ a w hv hs hd hm)⟩
          · cases h
        · cases h
      · cases h

theorem envN_keep : ∀ (ds : List (Option Nat)) (vs : List AVal) (E : Nat → AVal) (t : Nat), (∀ k : Nat, ds[k]? ≠ some (some t)) → envN E ds vs t = E t
  | [], _, _, _, _ => by simp [envN]
  | _ :: _, [], _, _, _ => by simp [envN]
  | d :: ds, v :: vs, E, t, h => by
    simp only [envN]
    rw [envN_keep ds vs _ t (fun k => by simpa using h (k + 1))]
    unfold putE
    rw [if_neg (fun e => h 0 (by simp [e]))]

theorem envN_at : ∀ (ds : List (Option Nat)) (vs : List AVal) (E : Nat → AVal) (t k : Nat) (v : AVal), ds[k]? = some (some t) → vs[k]? = some v → (∀ m : Nat, m ≠ k → ds[m]? ≠ some (some t)) → envN E ds vs t = v
  | [], _, _, _, _, _, h, _, _ => by simp at h
  | _ :: _, [], _, _, _, _, _, h, _ => by simp at h
  | d :: ds, u :: vs, E, t, k, v, h1, h2, h3 => by
    simp only [envN]
    cases k with
    | zero =>
      simp at h1 h2
      rw [envN_keep ds vs _ t (fun m => by simpa using h3 (m + 1) (by omega))]
      unfold putE; rw [if_pos h1]; exact h2
    | succ k =>
      exact envN_at ds vs _ t k v (by simpa using h1) (by simpa using h2) (fun m hm => by simpa using h3 (m + 1) (by omega))

theorem RunQ.len {Γ : List (Nat × Ctr)} {all : List Oper} {H : St} : ∀ {rest : List Oper} {E : Nat → AVal} {vs : List AVal}, RunQ P Γ N all H rest E vs → vs.length = rest.length := by
  intro rest E vs h
  induction h with
  | nil => rfl
  | yes Si _ _ _ _ _ _ ih => simp [ih]
  | no Si _ _ _ _ _ ih => simp [ih]

theorem RunQ.at {Γ : List (Nat × Ctr)} {all : List Oper} {H : St} {rest : List Oper} {E : Nat → AVal} {vs : List AVal} (h : RunQ P Γ N all H rest E vs) : ∀ (i : Nat) (o : Oper), rest[i]? = some o →
    ∃ v Si, vs[i]? = some v ∧ AlkH H Si ∧ (∀ t ρ u, V ρ (envN E ((rest.map (·.dst)).take i) (vs.take i) t) u → V ρ (Si.get t) u) ∧ okDst N o.dst = true ∧
      ((guardOf all Si o.guard = .yes ∧ evOp P Γ Si o.op = some ⟨v, [], []⟩) ∨ (guardOf all Si o.guard = .no ∧ v = .raw undef)) := by
  induction h with
  | nil => intro i o hi; simp at hi
  | @yes o rest E v vs Si hh he hg hop hd hr ih =>
    intro i o' hi
    cases i with
    | zero =>
      simp at hi; subst hi
      exact ⟨v, Si, rfl, hh, by simpa [envN] using he, hd, Or.inl ⟨hg, hop⟩⟩
    | succ i =>
      obtain ⟨v', Si', h1, h2, h3, h4, h5⟩ := ih i o' (by simpa using hi)
      exact ⟨v', Si', by simpa using h1, h2, by simpa [envN] using h3, h4, h5⟩
  | @no o rest E vs Si hh he hg hd hr ih =>
    intro i o' hi
    cases i with
    | zero =>
      simp at hi; subst hi
      exact ⟨_, Si, rfl, hh, by simpa [envN] using he, hd, Or.inr ⟨hg, rfl⟩⟩
    | succ i =>
      obtain ⟨v', Si', h1, h2, h3, h4, h5⟩ := ih i o' (by simpa using hi)
      exact ⟨v', Si', by simpa using h1, h2, by simpa [envN] using h3, h4, h5⟩

/-! the check -/
def rowOf (acc : List (List Nat)) (o : Oper) : List Nat := (o.after.toList.filter (fun e => Region.binds .any e)).foldl (fun l e => e.on :: ((acc[e.on]?).getD [] ++ l)) []

theorem rowOf_mem (acc : List (List Nat)) (m : Nat) : ∀ (es : List Edge) (l : List Nat), m ∈ es.foldl (fun l e => e.on :: ((acc[e.on]?).getD [] ++ l)) l → m ∈ l ∨ ∃ e ∈ es, m = e.on ∨ m ∈ (acc[e.on]?).getD []
  | [], l, h => Or.inl h
  | e :: es, l, h => by
    rcases rowOf_mem acc m es _ h with h | ⟨e', he', h⟩
    · simp only [List.mem_cons, List.mem_append] at h
      rcases h with h | h | h
      · exact Or.inr ⟨e, by simp, Or.inl h⟩
      · exact Or.inr ⟨e, by simp, Or.inr h⟩
      · exact Or.inl h
    · exact Or.inr ⟨e', by simp [he'], h⟩

theorem ancs_spec : ∀ (r : List Oper) (acc : List (List Nat)), ∃ tl, ancs r acc = acc ++ tl ∧ ∀ k o, r[k]? = some o → tl[k]? = some (rowOf (acc ++ tl.take k) o)
  | [], acc => ⟨[], by simp [ancs], fun k o h => by simp at h⟩
  | o :: r, acc => by
    obtain ⟨tl, h1, h2⟩ := ancs_spec r (acc ++ [rowOf acc o])
    refine ⟨rowOf acc o :: tl, ?_, fun k o' hk => ?_⟩
    · show ancs r (acc ++ [rowOf acc o]) = _
      rw [h1]; simp
    · cases k with
      | zero => simp at hk; subst hk; simp
      | succ k =>
        have := h2 k o' (by simpa using hk)
        simpa using this

theorem ancs_mem {all : List Oper} {j m : Nat} {o : Oper} (ho : all[j]? = some o) (hm : m ∈ ((ancs all [])[j]?).getD []) :
    ∃ e ∈ o.after.toList, Region.binds .any e = true ∧ (m = e.on ∨ m ∈ ((ancs all [])[e.on]?).getD []) := by
  obtain ⟨tl, h1, h2⟩ := ancs_spec all []
  simp only [List.nil_append] at h1 h2
  rw [h1] at hm ⊢
  rw [h2 j o ho] at hm
  simp only [Option.getD_some] at hm
  rcases rowOf_mem _ m _ _ hm with h | ⟨e, he, h⟩
  · simp at h
  · obtain ⟨he1, he2⟩ := List.mem_filter.1 he
    refine ⟨e, he1, he2, h.imp id (fun h => ?_)⟩
    rw [List.getElem?_take] at h
    split at h
    · exact h
    · simp at h

theorem sameT_iff (t u : Option Nat) : sameT t u = true ↔ ∃ x, t = some x ∧ u = some x := by
  cases t with
  | none => cases u <;> simp [sameT]
  | some t =>
    cases u with
    | none => simp [sameT]
    | some u =>
      constructor
      · intro h; exact ⟨t, rfl, by rw [Nat.eq_of_beq_eq_true h]⟩
      · rintro ⟨x, h1, h2⟩; cases h1; cases h2; simp [sameT]

theorem drawRow_spec {all : List Oper} {anc : List (List Nat)} {o : Oper} {i : Nat} : ∀ (r : List Oper) (j : Nat), drawRow all anc o i r j = true → ∀ k u, r[k]? = some u →
    (∀ x, ¬ (o.dst = some x ∧ u.dst = some x)) ∧ ((∃ x, o.dst = some x ∧ x ∈ looks all u) ∨ (∃ x, u.dst = some x ∧ x ∈ looks all o) → i ∈ (anc[j + k]?).getD [])
  | [], j, _, k, u, hk => by simp at hk
  | v :: r, j, h, k, u, hk => by
    simp only [drawRow, Bool.and_eq_true] at h
    obtain ⟨⟨h1, h2⟩, h3⟩ := h
    cases k with
    | zero =>
      simp at hk; subst hk
      refine ⟨fun x hx => ?_, fun hx => ?_⟩
      · have : sameT o.dst v.dst = true := (sameT_iff _ _).2 ⟨x, hx.1, hx.2⟩
        simp [this] at h1
      · rw [Nat.add_zero]
        have hm : (memT o.dst (looks all v) || memT v.dst (looks all o)) = true := by
          simp only [Bool.or_eq_true]
          rcases hx with ⟨x, hx1, hx2⟩ | ⟨x, hx1, hx2⟩
          · left; rw [hx1]; exact (memN_iff _ _).2 hx2
          · right; rw [hx1]; exact (memN_iff _ _).2 hx2
        rw [hm] at h2
        simp only [Bool.not_true, Bool.false_or] at h2
        exact (memN_iff _ _).1 h2
    | succ k =>
      have := drawRow_spec r (j + 1) h3 k u (by simpa using hk)
      have e : j + (k + 1) = j + 1 + k := by omega
      rw [e]; exact this

theorem drawRows_spec {all : List Oper} {anc : List (List Nat)} : ∀ (r : List Oper) (i : Nat), drawRows all anc r i = true → ∀ k o, r[k]? = some o →
    (∀ e ∈ o.after.toList, Region.binds .any e = true → e.on < i + k) ∧
    ∀ l u, k < l → r[l]? = some u → (∀ x, ¬ (o.dst = some x ∧ u.dst = some x)) ∧ ((∃ x, o.dst = some x ∧ x ∈ looks all u) ∨ (∃ x, u.dst = some x ∧ x ∈ looks all o) → i + k ∈ (anc[i + l]?).getD [])
  | [], i, _, k, o, hk => by simp at hk
  | v :: r, i, h, k, o, hk => by
    simp only [drawRows, Bool.and_eq_true] at h
    obtain ⟨⟨h1, h2⟩, h3⟩ := h
    cases k with
    | zero =>
      simp at hk; subst hk
      refine ⟨fun e he hb => ?_, fun l u hl hu => ?_⟩
      · have := List.all_eq_true.1 h2 e he
        rw [hb] at this
        simp only [Bool.not_true, Bool.false_or] at this
        have := Nat.le_of_ble_eq_true this
        omega
      · cases l with
        | zero => omega
        | succ l =>
          have := drawRow_spec r (i + 1) h1 l u (by simpa using hu)
          have e : i + (l + 1) = i + 1 + l := by omega
          rw [e]; exact this
    | succ k =>
      obtain ⟨k1, k2⟩ := drawRows_spec r (i + 1) h3 k o (by simpa using hk)
      refine ⟨fun e he hb => by have := k1 e he hb; omega, fun l u hl hu => ?_⟩
      cases l with
      | zero => omega
      | succ l =>
        have := k2 l u (by omega) (by simpa using hu)
        have e1 : i + (k + 1) = i + 1 + k := by omega
        have e2 : i + (l + 1) = i + 1 + l := by omega
        rw [e1, e2]; exact this

/-- What holds while the region's operations come up in some order. -/
structure Inv (N : Nat) (M : Addr → Prop) (w0 : World) (all : List Oper) (H : St) (E0 : Nat → AVal) (vs : List AVal) (ρ0 : Rho) (listed : Array Bool) (a : Act) (w : World) (ρ : Rho) : Prop where
  ext : Ext ρ0 ρ
  sz : a.tmps.size = N
  df : a.defers = []
  mem : Mem M w0 ρ H w
  ls : listed.size = all.length
  slot : ∀ t, (∃ (j : Nat) (o : Oper) (v : AVal), all[j]? = some o ∧ o.dst = some t ∧ vs[j]? = some v ∧ listed[j]? = some true ∧ V ρ v (a.tmps.getD t undef)) ∨
    ((∀ (j : Nat) (o : Oper), all[j]? = some o → o.dst = some t → listed[j]? = some false) ∧ V ρ (E0 t) (a.tmps.getD t undef))
  shut : ∀ (j : Nat) (o : Oper), all[j]? = some o → listed[j]? = some true → ∀ e ∈ o.after.toList, Region.binds .any e = true → listed[e.on]? = some true

theorem anc_listed {all : List Oper} (hd : drawOk all = true) {listed : Array Bool} (hls : listed.size = all.length)
    (shut : ∀ (j : Nat) (o : Oper), all[j]? = some o → listed[j]? = some true → ∀ e ∈ o.after.toList, Region.binds .any e = true → listed[e.on]? = some true) :
    ∀ (j : Nat) (o : Oper), all[j]? = some o → (∀ e ∈ o.after.toList, Region.binds .any e = true → listed[e.on]? = some true) → ∀ m, m ∈ ((ancs all [])[j]?).getD [] → listed[m]? = some true := by
  intro j
  induction j using Nat.strongRecOn with
  | _ j ih =>
    intro o ho hpre m hm
    obtain ⟨e, he, hb, h⟩ := ancs_mem ho hm
    have hl := hpre e he hb
    rcases h with rfl | h
    · exact hl
    · have hlt := (drawRows_spec all 0 hd j o ho).1 e he hb
      have hlt' : e.on < all.length := by
        have := (Array.getElem?_eq_some_iff.1 hl).1
        omega
      exact ih e.on (by omega) all[e.on] (List.getElem?_eq_getElem hlt') (shut e.on _ (List.getElem?_eq_getElem hlt') hl) m h

theorem looks_guard {all : List Oper} {o : Oper} {j : Nat} {want : Bool} {t : Nat} (h1 : o.guard = some (j, want)) (h2 : slotOf all j = some t) : t ∈ looks all o := by
  simp [looks, h1, h2]
theorem tmpsOf_mem : ∀ (xs : List Operand) (t : Nat), .tmp t ∈ xs → t ∈ tmpsOf xs
  | [], t, h => by simp at h
  | .tmp u :: r, t, h => by
    simp only [tmpsOf, List.mem_cons, Operand.tmp.injEq] at h ⊢
    exact h.imp id (tmpsOf_mem r t)
  | .const _ :: r, t, h => by simp only [tmpsOf, List.mem_cons, reduceCtorEq, false_or] at h ⊢; exact tmpsOf_mem r t h
  | .global _ :: r, t, h => by simp only [tmpsOf, List.mem_cons, reduceCtorEq, false_or] at h ⊢; exact tmpsOf_mem r t h
  | .func _ :: r, t, h => by simp only [tmpsOf, List.mem_cons, reduceCtorEq, false_or] at h ⊢; exact tmpsOf_mem r t h
theorem looks_opd {all : List Oper} {o : Oper} {t : Nat} (h : .tmp t ∈ o.op.operands.toList) : t ∈ looks all o := by
  unfold looks
  exact List.mem_append_right _ (tmpsOf_mem _ t h)

theorem getElem_listed {listed : Array Bool} {i n : Nat} (hl : listed.size = n) (hi : i < n) : listed[i]? = some true ∨ listed[i]? = some false := by
  have : listed[i]? = some listed[i] := Array.getElem?_eq_getElem (by omega)
  rw [this]
  cases listed[i] <;> simp

theorem opd_const (ρ : Rho) (S : St) (a : Act) (v : Value) : V ρ (opd S (.const v)) (a.eval (.const v)) := by
  show V ρ (match v with | .agg cs => AVal.agg (absC cs.toList) | v => absV v) v
  split
  · rename_i cs; unfold V; exact ⟨cs.toList, rfl, VL_absC ρ _⟩
  · exact V_absV ρ _

/-- EVERY ORDER SERVES. -/
theorem wpAny_of_inv {Γ : List (Nat × Ctr)} (hΓ : ∀ f c, lookC f Γ = some c → Sat P f c) {all : List Oper} (hd : drawOk all = true) {M : Addr → Prop} {w0 : World} {H : St} {E0 : Nat → AVal} {vs : List AVal} {ρ0 : Rho}
    {Q : Exit → Act → World → Prop} (hrun : RunQ P Γ N all H all E0 vs)
    (hQ : ∀ ρ a w, Ext ρ0 ρ → (∀ t, V ρ (envN E0 (all.map (·.dst)) vs t) (a.tmps.getD t undef)) → a.tmps.size = N → a.defers = [] → Mem M w0 ρ H w → Q .normal a w) :
    ∀ (fuel : Nat) (listed : Array Bool) (a : Act) (w : World) (ρ : Rho), Inv N M w0 all H E0 vs ρ0 listed a w ρ → listed.toList.count false = fuel → wpAny P .any all.toArray Q fuel listed a w := by
  have hlen := hrun.len
  -- two operations write two slots
  have huniq : ∀ (j k : Nat) (o u : Oper) (t : Nat), all[j]? = some o → all[k]? = some u → o.dst = some t → u.dst = some t → j = k := by
    intro j k o u t hj hk ho hu
    rcases Nat.lt_trichotomy j k with h | h | h
    · exact absurd ⟨ho, hu⟩ (((drawRows_spec all 0 hd j o hj).2 k u h hk).1 t)
    · exact h
    · exact absurd ⟨hu, ho⟩ (((drawRows_spec all 0 hd k u hk).2 j o h hj).1 t)
  have hdsts : ∀ (i k : Nat) (t : Nat), ((all.map (·.dst)).take i)[k]? = some (some t) ↔ k < i ∧ ∃ o, all[k]? = some o ∧ o.dst = some t := by
    intro i k t
    rw [List.getElem?_take]
    split
    · rename_i h
      simp only [List.getElem?_map, Option.map_eq_some_iff, h, true_and]
    · rename_i h; simp [h]
  -- all are listed where none is ready
  have hfin : ∀ (listed : Array Bool) (a : Act) (w : World) (ρ : Rho), Inv N M w0 all H E0 vs ρ0 listed a w ρ → (∀ i, i < all.length → listed[i]? = some true) → Q .normal a w := by
    intro listed a w ρ hI hall
    refine hQ ρ a w hI.ext (fun t => ?_) hI.sz hI.df hI.mem
    rcases hI.slot t with ⟨j, o, v, hj, ho, hv, _, hV⟩ | ⟨hno, hV⟩
    · have e : envN E0 (all.map (·.dst)) vs t = v := by
        refine envN_at _ _ _ _ j v (by simp [hj, ho]) hv (fun m hm hc => ?_)
        simp only [List.getElem?_map, Option.map_eq_some_iff] at hc
        obtain ⟨u, hu, hut⟩ := hc
        exact hm (huniq m j u o t hu hj hut ho)
      rw [e]; exact hV
    · have e : envN E0 (all.map (·.dst)) vs t = E0 t := by
        refine envN_keep _ _ _ _ (fun k hc => ?_)
        simp only [List.getElem?_map, Option.map_eq_some_iff] at hc
        obtain ⟨u, hu, hut⟩ := hc
        have := hno k u hu hut
        rw [hall k (List.getElem?_eq_some_iff.1 hu).1] at this; cases this
      rw [e]; exact hV
  have hnone : ∀ (listed : Array Bool), listed.size = all.length → Region.ready .any all.toArray listed = [] → ∀ i, i < all.length → listed[i]? = some true := by
    intro listed hls hr i
    induction i using Nat.strongRecOn with
    | _ i ih =>
      intro hi
      rcases getElem_listed hls hi with h | h
      · exact h
      · exfalso
        have : i ∈ Region.ready .any all.toArray listed := by
          refine mem_ready.2 ⟨by rw [Array.getD_eq_getD_getElem?, h]; rfl, all[i], by simp [hi], fun e he hb => ?_⟩
          have hlt := (drawRows_spec all 0 hd i all[i] (List.getElem?_eq_getElem hi)).1 e (by simpa using he) hb
          rw [Array.getD_eq_getD_getElem?, ih e.on (by omega) (by omega)]; rfl
        rw [hr] at this; cases this
  intro fuel
  induction fuel with
  | zero =>
    intro listed a w ρ hI hc
    have hall : ∀ i, i < all.length → listed[i]? = some true := by
      intro i hi
      rcases getElem_listed hI.ls hi with h | h
      · exact h
      · exfalso
        have hm : false ∈ listed.toList := by
          rw [Array.mem_toList_iff]
          obtain ⟨hlt, he⟩ := Array.getElem?_eq_some_iff.1 h
          rw [← he]; exact Array.getElem_mem hlt
        have := List.count_pos_iff.2 hm
        omega
    refine ⟨?_, hfin listed a w ρ hI hall⟩
    rw [List.eq_nil_iff_forall_not_mem]
    intro j hj
    obtain ⟨h1, o, h2, _⟩ := mem_ready.1 hj
    have hlt : j < all.length := by
      have := (Array.getElem?_eq_some_iff.1 h2).1
      simpa using this
    rw [Array.getD_eq_getD_getElem?, hall j hlt] at h1
    cases h1
  | succ fuel ihf =>
    intro listed a w ρ hI hc
    refine ⟨fun hr => hfin listed a w ρ hI (hnone listed hI.ls hr), fun i hi => ?_⟩
    obtain ⟨hun, o, hoa, hpre⟩ := mem_ready.1 hi
    have ho : all[i]? = some o := by simpa using hoa
    have hilt : i < all.length := (List.getElem?_eq_some_iff.1 ho).1
    have hif : listed[i]? = some false := by
      rcases getElem_listed hI.ls hilt with h | h
      · rw [Array.getD_eq_getD_getElem?, h] at hun; cases hun
      · exact h
    have hpre' : ∀ e ∈ o.after.toList, Region.binds .any e = true → listed[e.on]? = some true := by
      intro e he hb
      have := hpre e (by simpa using he) hb
      rw [Array.getD_eq_getD_getElem?] at this
      cases hl : listed[e.on]? with
      | none => rw [hl] at this; simp at this
      | some b => rw [hl] at this; simp at this; rw [this]
    obtain ⟨v, Si, hvi, hAlk, hget, hdst, hcase⟩ := hrun.at i o ho
    have hancI := anc_listed hd hI.ls hI.shut i o ho hpre'
    -- what the operation looks at is as it was in the text's order
    have hlook : ∀ t, t ∈ looks all o → V ρ (Si.get t) (a.tmps.getD t undef) := by
      intro t ht
      apply hget
      rcases hI.slot t with ⟨j, u, x, hj, hu, hx, hjl, hV⟩ | ⟨hno, hV⟩
      · have hji : j < i := by
          rcases Nat.lt_trichotomy j i with h | h | h
          · exact h
          · subst h; rw [hif] at hjl; cases hjl
          · exfalso
            have := ((drawRows_spec all 0 hd i o ho).2 j u h hj).2 (Or.inr ⟨t, hu, ht⟩)
            simp only [Nat.zero_add] at this
            have := anc_listed hd hI.ls hI.shut j u hj (hI.shut j u hj hjl) i this
            rw [hif] at this; cases this
        have e : envN E0 ((all.map (·.dst)).take i) (vs.take i) t = x := by
          refine envN_at _ _ _ _ j x ((hdsts i j t).2 ⟨hji, u, hj, hu⟩) (by rw [List.getElem?_take, if_pos hji]; exact hx) (fun m hm hcm => ?_)
          obtain ⟨_, u', hu', hut⟩ := (hdsts i m t).1 hcm
          exact hm (huniq m j u' u t hu' hj hut hu)
        rw [e]; exact hV
      · have e : envN E0 ((all.map (·.dst)).take i) (vs.take i) t = E0 t := by
          refine envN_keep _ _ _ _ (fun k hck => ?_)
          obtain ⟨hki, u, hu, hut⟩ := (hdsts i k t).1 hck
          have := ((drawRows_spec all 0 hd k u hu).2 i o hki ho).2 (Or.inl ⟨t, hut, ht⟩)
          simp only [Nat.zero_add] at this
          have h1 := hancI k this
          rw [hno k u hu hut] at h1; cases h1
        rw [e]; exact hV
    -- the next state
    have hnext : ∀ (x : Value) (w' : World) (ρ' : Rho), Ext ρ ρ' → V ρ' v x → Mem M w0 ρ' H w' → wpAny P .any all.toArray Q fuel (listed.setIfInBounds i true) (a.put o.dst x) w' := by
      intro x w' ρ' hext hx hm
      have hset : ∀ j, (listed.setIfInBounds i true)[j]? = if j = i then some true else listed[j]? := by
        intro j
        by_cases hji : j = i
        · subst hji; rw [if_pos rfl, Array.getElem?_setIfInBounds_self_of_lt (by rw [hI.ls]; exact hilt)]
        · rw [if_neg hji, Array.getElem?_setIfInBounds_ne (Ne.symm hji)]
      refine ihf _ _ _ ρ' ⟨hI.ext.trans hext, ?_, ?_, hm, by simp [hI.ls], fun t => ?_, fun j u hj hjl e he hb => ?_⟩ ?_
      · cases o.dst <;> simp [Act.put, hI.sz]
      · cases o.dst <;> simp [Act.put, hI.df]
      · by_cases hti : o.dst = some t
        · left
          refine ⟨i, o, v, ho, hti, hvi, by rw [hset, if_pos rfl], ?_⟩
          rw [hti]
          have hs : t < N := by
            have := hdst; rw [hti] at this; exact Nat.le_of_ble_eq_true this
          have : (a.tmps.setIfInBounds t x).getD t undef = x := by simp [Array.getD_eq_getD_getElem?, hI.sz, hs]
          show V ρ' v ((a.tmps.setIfInBounds t x).getD t undef)
          rw [this]; exact hx
        · have hsame : (a.put o.dst x).tmps.getD t undef = a.tmps.getD t undef := by
            cases hdo : o.dst with
            | none => rfl
            | some s =>
              have hne : s ≠ t := fun e => hti (by rw [hdo, e])
              show (a.tmps.setIfInBounds s x).getD t undef = _
              simp [Array.getD_eq_getD_getElem?, Array.getElem?_setIfInBounds_ne hne]
          rw [hsame]
          rcases hI.slot t with ⟨j, u, y, hj, hu, hy, hjl, hV⟩ | ⟨hno, hV⟩
          · left
            refine ⟨j, u, y, hj, hu, hy, ?_, V_ext hext _ _ hV⟩
            rw [hset]; split
            · rfl
            · exact hjl
          · right
            refine ⟨fun j u hj hu => ?_, V_ext hext _ _ hV⟩
            rw [hset]
            have hji : j ≠ i := fun e => by
              subst e
              rw [ho] at hj; cases hj
              exact hti hu
            rw [if_neg hji]; exact hno j u hj hu
      · rw [hset] at hjl ⊢
        split
        · rfl
        · split at hjl
          · rename_i hji; subst hji
            rw [ho] at hj; cases hj
            exact hpre' e he hb
          · exact hI.shut j u hj hjl e he hb
      · rw [Array.toList_setIfInBounds, List.count_set (by simpa [hI.ls] using hilt)]
        have : listed.toList[i]'(by simpa [hI.ls] using hilt) = false := by
          have h2 := hif
          rw [Array.getElem?_eq_getElem (by rw [hI.ls]; exact hilt)] at h2
          simpa using h2
        rw [this, hc]; simp
    unfold wpOp
    have hoa' : all.toArray[i]? = some o := hoa
    rw [hoa']
    simp only
    have hgs := guardOf_sound (ρ := ρ) (S := Si) (a := a) (all := all) (o := o) (fun j want t hj ht => hlook t (looks_guard hj ht))
    rcases hcase with ⟨hg, hop⟩ | ⟨hg, rfl⟩
    · rw [if_pos (hgs.1 hg)]
      left
      have hok := evOp_sound (o := o) hΓ hop (AlkH.symm_mem hI.mem hAlk) (fun x hx => by
        cases x with
        | tmp t => exact hlook t (looks_opd hx)
        | const c => exact opd_const ρ Si a c
        | global g => show V ρ (.raw _) _; unfold V; rfl
        | func f => show V ρ (.raw _) _; unfold V; rfl)
      refine hok _ _ (fun u w' ρ' hext hvu hm => ?_)
      refine hnext u w' ρ' hext hvu ?_
      -- nothing was written
      have hback : AlkH (Si.put [] []) Si := ⟨fun i o => (put_nil Si i o).symm, fun i => by simp [St.put, St.ext, St.blk], by simp [St.put, St.ext], fun i o x hx => ⟨x, by simpa [St.put, St.ext, hlookL, hlook1] using hx⟩⟩
      have h1 := AlkH.symm_mem hm hback
      exact h1.same (fun i o => (hAlk.cell i o).symm) (fun i => (hAlk.wr i).symm) hAlk.len.symm (fun i o x hx => hI.mem.hp.ink i o x hx)
    · rw [if_neg (by rw [hgs.2.1 hg]; simp)]
      exact hnext undef w ρ (Ext.refl _) (by unfold V; rfl) hI.mem

theorem drawSound (hm : P.follows .mixedOrders = true) : DrawSound P := by
  intro N M w0 Γ hΓ all hd n id S d t ρ a w Q he hR hQ
  obtain ⟨vs, hrun, hout⟩ := evOps_runQ (M := M) (w0 := w0) (S.ext d) n all S d t (fun t => (S.ext d).get t) he (AlkH.refl _) (fun _ _ _ h => h)
  refine wp_region_any hm ?_
  have hcnt : (Array.replicate all.toArray.size false).toList.count false = all.toArray.size := by simp
  refine wpAny_of_inv hΓ hd (ρ0 := ρ) hrun (fun ρ' a' w' hext hv hs hdf hmem => hQ ρ' a' w' hext (hout ρ' a' w' hv hs hdf hmem)) _ _ _ _ ρ ?_ hcnt
  refine ⟨Ext.refl _, hR.sz, hR.df, hR.mem.quiet (Fr.drew w), by simp, fun t => Or.inr ⟨fun j o hj _ => ?_, hR.fr t⟩, fun j o hj hl => ?_⟩
  · have := (List.getElem?_eq_some_iff.1 hj).1
    simp [this]
  · exfalso
    have := (List.getElem?_eq_some_iff.1 hj).1
    simp [this] at hl
end
end Go.Ab
