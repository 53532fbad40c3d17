import Derived.Test.YtiebaggemiifoaaAbS5
namespace Go.Ab
open Go Go.RowKit

section
variable {P : Program} {ρ : Rho}

theorem cellsO_sound {x : AVal} {v : Value} {cs : List AVal} (h : cellsO x = some cs) (hv : V ρ x v) : VL ρ cs v.cells.toList := by
  have h2 : cs = x.cells := by
    cases x <;> simp only [cellsO] at h <;> first | (cases h; done) | skip
    case raw u => split at h <;> cases h; rfl
    all_goals (cases h; rfl)
  subst h2
  refine V_cells hv ?_ ?_ ?_
  · rintro vs rfl; simp [cellsO] at h
  · rintro rfl; simp [cellsO] at h
  · rintro u rfl
    simp only [cellsO] at h
    split at h
    · assumption
    · cases h

theorem nthP_get : ∀ (l : List (Nat × Nat)) (i : Nat), nthP i l = l[i]?
  | [], i => by simp [nthP]
  | x :: l, 0 => rfl
  | x :: l, i + 1 => by simpa [nthP] using nthP_get l i

theorem plcs_mapM : ∀ (fs : List Field) (pl : List (Nat × Nat)), plcs P fs = some pl → fs.mapM (fun f => (P.info? f.type).map fun i => (f.offset, i.size)) = some pl
  | [], pl, h => by simp [plcs] at h; subst h; rfl
  | f :: fs, pl, h => by
    simp only [plcs] at h
    split at h
    · rename_i n hn
      split at h
      · rename_i l hl; cases h
        have ih := plcs_mapM fs l hl
        have hi : (P.info? f.type).map (fun i => (f.offset, i.size)) = some (f.offset, n) := by
          unfold tsize at hn
          split at hn
          · rename_i i hi; cases hn; simp [hi]
          · cases hn
        simp [List.mapM_cons, hi, ih]
      · cases h
    · cases h

theorem fillA_sound : ∀ (as : List AVal) (us : List Value) (xs : List AVal) (cells : Array Value) (off k : Nat), VL ρ as us → VL ρ xs cells.toList →
    VL ρ (fillA xs (off + k) as) ((us.zipIdx k).foldl (fun cs (p : Value × Nat) => cs.setIfInBounds (off + p.2) p.1) cells).toList
  | [], us, xs, cells, off, k, h, hx => by unfold VL at h; subst h; simpa [fillA] using hx
  | a :: as, us, xs, cells, off, k, h, hx => by
    unfold VL at h
    obtain ⟨u, us', rfl, h1, h2⟩ := h
    simp only [List.zipIdx_cons, List.foldl_cons, fillA]
    have := fillA_sound as us' (xs.set (off + k) a) (cells.setIfInBounds (off + k) u) off (k + 1) h2 (by
      rw [Array.toList_setIfInBounds]; exact VL_set _ _ _ _ _ hx h1)
    rw [Nat.add_assoc] 
    exact this

theorem fillG_sound {S : St} {a : Act} {pl : Nat → Option (Nat × Nat)} : ∀ (parts : List (Nat × Operand)) (xs : List AVal) (cells : Array Value) (out : List AVal),
    (∀ p ∈ parts, V ρ (opd S p.2) (a.eval p.2)) → VL ρ xs cells.toList → fillG pl S xs parts = some out →
    ∃ res, Instr.fill pl cells (parts.map fun p => (p.1, a.eval p.2)) = some res ∧ VL ρ out res.toList
  | [], xs, cells, out, _, hx, h => by simp [fillG] at h; subst h; exact ⟨cells, rfl, hx⟩
  | (j, x) :: r, xs, cells, out, hp, hx, h => by
    simp only [fillG] at h
    split at h
    · cases h
    · rename_i off sz hpl
      split at h
      · rename_i v hv
        split at h
        · rename_i hb
          simp only [Bool.and_eq_true] at hb
          have hb1 := Nat.eq_of_beq_eq_true hb.1
          have hb2 := Nat.le_of_ble_eq_true hb.2
          have hc := cellsO_sound hv (hp (j, x) (by simp))
          have hl : (a.eval x).cells.toList.length = v.length := VL_length _ _ hc
          have hlx := VL_length _ _ hx
          have hf := fillA_sound (ρ := ρ) v _ xs cells off 0 hc hx
          obtain ⟨res, h1, h2⟩ := fillG_sound r (fillA xs off v) _ out (fun p hp' => hp p (by simp [hp'])) (by simpa using hf) h
          refine ⟨res, ?_, h2⟩
          simp only [List.map_cons, Instr.fill, hpl]
          have hsz : ((a.eval x).cells.size ≠ sz) = False := by simp only [ne_eq, eq_iff_iff, iff_false, Decidable.not_not]; rw [← Array.length_toList]; omega
          have hgt : decide (off + (a.eval x).cells.size > cells.size) = false := by
            simp only [decide_eq_false_iff_not]; rw [← Array.length_toList, ← Array.length_toList]; omega
          simp only [hsz, hgt, decide_false, Bool.or_self, Bool.false_eq_true, if_false]
          rw [← h1]
          congr 1
          rw [← Array.foldl_toList, Array.toList_zipIdx]
        · cases h
      · cases h

theorem tzero_info {t : TypeId} {z : Value} (h : tzero P t = some z) : ∃ i, P.info? t = some i ∧ i.zero = some z := by
  unfold tzero at h
  split at h
  · rename_i i hi; exact ⟨i, hi, h⟩
  · cases h
theorem tsize_info {t : TypeId} {n : Nat} (h : tsize P t = some n) : ∃ i, P.info? t = some i ∧ i.size = n := by
  unfold tsize at h
  split at h
  · rename_i i hi; cases h; exact ⟨i, hi, rfl⟩
  · cases h

/-! calls -/
def CRow (ρ : Rho) (w : World) (bl : List (List AVal)) : Prop :=
  ∀ j cs, bl[j]? = some cs → ∃ r b, ρ j = some (r, b) ∧ ∀ o x, cs[o]? = some x → ∃ v, w.cell? ⟨r, b + o, none⟩ = some v ∧ V ρ x v

structure Pre (ρ : Rho) (w : World) (bl : List (List AVal)) : Prop where
  row : CRow ρ w bl
  dom : ∀ j p, ρ j = some p → j < bl.length
  lt : ∀ j r b, ρ j = some (r, b) → r < w.heap.size

structure PreW (ρ : Rho) (w : World) (bl : List (List AVal)) : Prop where
  dis : ∀ i j r b b', i ≠ j → ρ i = some (r, b) → ρ j = some (r, b') → False
  frz : ∀ j cs r b o x, bl[j]? = some cs → ρ j = some (r, b) → cs[o]? = some x → w.frozen? ⟨r, b + o, none⟩ = false

def ViewA (ρ : Rho) (bl : List (List AVal)) : Addr → Prop := fun a => ∃ j cs r b o x, bl[j]? = some cs ∧ ρ j = some (r, b) ∧ cs[o]? = some x ∧ a = ⟨r, b + o, none⟩

def PostC (ρ : Rho) (bl : List (List AVal)) (res : Option (List (List AVal))) (w w' : World) : Prop :=
  match res with
  | none => Fr NoM w w'
  | some bl' => Fr (ViewA ρ bl) w w' ∧ CRow ρ w' bl'

/-- What a function without a body does. -/
def extFn : Xk → Array Value → Sem Value
  | .f32bits => Extern.MathFloatBits.float32bits
  | .f64bits => Extern.MathFloatBits.float64bits
  | .f32from => Extern.MathFloatBits.float32frombits
  | .f64from => Extern.MathFloatBits.float64frombits

/-- The contract of a function with a body holds. -/
structure SatC (P : Program) (f : FuncId) (c : Ctr) : Prop where
  call : ∀ (args : Array Value) (w : World), (callFunc f args).run P w = .ok (.enter f args) w
  sat : ∀ args bl v res, c.fn args bl = some (v, res) → ∀ ρ w vs, VL ρ args vs → Pre ρ w bl → (res.isSome = true → PreW ρ w bl) →
    Calls P f ⟨vs⟩ w fun e w' => ∃ u, e = .returned u ∧ V ρ v u ∧ PostC ρ bl res w w'

/-- The contract holds. -/
def Sat (P : Program) (f : FuncId) (c : Ctr) : Prop :=
  match c.x with
  | none => SatC P f c
  | some k => ∀ (args : Array Value) (w : World), (callFunc f args).run P w = ((extFn k args).run P w).andThen fun v w' => .ok (.value v) w'

def rhoOf (ρ : Rho) (l : List Vw) : Rho := fun k => (l[k]?).bind fun v => (ρ v.i).map fun p => (p.1, p.2 + v.o)

theorem mkArgs_VL {S : St} : ∀ (args : List AVal) (vs : List Value) (views : List Nat) (j : Nat) (as : List AVal) (ws : List Vw) (bl : List (List AVal)),
    mkArgs S args views j = some (as, ws, bl) → VL ρ args vs → ∀ pre post : List Vw, pre.length = j → VL (rhoOf ρ (pre ++ (ws ++ post))) as vs
  | [], vs, views, j, as, ws, bl, h, hv, pre, post, hl => by
    simp only [mkArgs, Option.some.injEq, Prod.mk.injEq] at h
    obtain ⟨rfl, rfl, rfl⟩ := h
    unfold VL at hv ⊢; exact hv
  | a :: args, vs, views, j, as, ws, bl, h, hv, pre, post, hl => by
    unfold VL at hv
    obtain ⟨v, vs', rfl, hv1, hv2⟩ := hv
    unfold mkArgs at h
    split at h
    · -- a pointer
      rename_i i o
      split at h
      · rename_i n views'
        split at h
        · rename_i cs hcs
          split at h
          · split at h
            · rename_i as' ws' bl' hrec
              cases h
              have ih := mkArgs_VL args vs' views' (j + 1) as' ws' bl' hrec hv2 (pre ++ [⟨i, o, n⟩]) post (by simp [hl])
              have e : pre ++ [⟨i, o, n⟩] ++ (ws' ++ post) = pre ++ (⟨i, o, n⟩ :: ws' ++ post) := by simp
              rw [e] at ih
              unfold VL
              refine ⟨v, vs', rfl, ?_, ih⟩
              unfold V at hv1 ⊢
              obtain ⟨r, b, h1, h2⟩ := hv1
              refine ⟨r, b + o, ?_, by simpa using h2⟩
              have : (pre ++ (⟨i, o, n⟩ :: ws' ++ post))[j]? = some (⟨i, o, n⟩ : Vw) := by
                rw [List.getElem?_append_right (by omega)]; simp [hl]
              unfold rhoOf; rw [this]; simp [h1]
            · cases h
          · cases h
        · cases h
      · cases h
    · rename_i i o l c
      split at h
      · rename_i n views'
        split at h
        · rename_i cs hcs
          split at h
          · split at h
            · rename_i as' ws' bl' hrec
              cases h
              have ih := mkArgs_VL args vs' views' (j + 1) as' ws' bl' hrec hv2 (pre ++ [⟨i, o, l * n⟩]) post (by simp [hl])
              have e : pre ++ [⟨i, o, l * n⟩] ++ (ws' ++ post) = pre ++ (⟨i, o, l * n⟩ :: ws' ++ post) := by simp
              rw [e] at ih
              unfold VL
              refine ⟨v, vs', rfl, ?_, ih⟩
              unfold V at hv1 ⊢
              obtain ⟨r, b, h1, h2⟩ := hv1
              refine ⟨r, b + o, ?_, by simpa using h2⟩
              have : (pre ++ (⟨i, o, l * n⟩ :: ws' ++ post))[j]? = some (⟨i, o, l * n⟩ : Vw) := by
                rw [List.getElem?_append_right (by omega)]; simp [hl]
              unfold rhoOf; rw [this]; simp [h1]
            · cases h
          · cases h
        · cases h
      · cases h
    · split at h
      · rename_i hf
        split at h
        · rename_i as' ws' bl' hrec
          cases h
          have ih := mkArgs_VL args vs' (views.drop 1) j as' ws bl hrec hv2 pre post hl
          unfold VL
          exact ⟨v, vs', rfl, V_flat _ _ hf hv1, ih⟩
        · cases h
      · cases h

theorem mkArgs_bl {S : St} : ∀ (args : List AVal) (vs : List Value) (views : List Nat) (j : Nat) (as : List AVal) (ws : List Vw) (bl : List (List AVal)),
    mkArgs S args views j = some (as, ws, bl) → VL ρ args vs → ws.length = bl.length ∧ ∀ (k : Nat) (u : Vw) (cs : List AVal), ws[k]? = some u → bl[k]? = some cs →
      S.cellsAt u.i u.o u.n = some cs ∧ AVal.flat.flatL cs = true ∧ ∃ r b, ρ u.i = some (r, b)
  | [], vs, views, j, as, ws, bl, h, hv => by
    simp only [mkArgs, Option.some.injEq, Prod.mk.injEq] at h
    obtain ⟨rfl, rfl, rfl⟩ := h
    exact ⟨rfl, fun k u cs h => by simp at h⟩
  | a :: args, vs, views, j, as, ws, bl, h, hv => by
    unfold VL at hv
    obtain ⟨v, vs', rfl, hv1, hv2⟩ := hv
    unfold mkArgs at h
    split at h
    · rename_i i o
      split at h
      · rename_i n views'
        split at h
        · rename_i cs hcs
          split at h
          · rename_i hf
            split at h
            · rename_i as' ws' bl' hrec
              cases h
              obtain ⟨h1, h2⟩ := mkArgs_bl args vs' views' (j + 1) as' ws' bl' hrec hv2
              refine ⟨by simp [h1], fun k u cs' hu hc => ?_⟩
              cases k with
              | zero =>
                simp at hu hc; subst hu; subst hc
                unfold V at hv1
                obtain ⟨r, b, hr, _⟩ := hv1
                exact ⟨hcs, hf, r, b, hr⟩
              | succ k => exact h2 k u cs' (by simpa using hu) (by simpa using hc)
            · cases h
          · cases h
        · cases h
      · cases h
    · rename_i i o l c
      split at h
      · rename_i n views'
        split at h
        · rename_i cs hcs
          split at h
          · rename_i hf
            split at h
            · rename_i as' ws' bl' hrec
              cases h
              obtain ⟨h1, h2⟩ := mkArgs_bl args vs' views' (j + 1) as' ws' bl' hrec hv2
              refine ⟨by simp [h1], fun k u cs' hu hc => ?_⟩
              cases k with
              | zero =>
                simp at hu hc; subst hu; subst hc
                unfold V at hv1
                obtain ⟨r, b, hr, _⟩ := hv1
                exact ⟨hcs, hf, r, b, hr⟩
              | succ k => exact h2 k u cs' (by simpa using hu) (by simpa using hc)
            · cases h
          · cases h
        · cases h
      · cases h
    · split at h
      · split at h
        · rename_i as' ws' bl' hrec
          cases h
          exact mkArgs_bl args vs' (views.drop 1) j as' ws bl hrec hv2
        · cases h
      · cases h

theorem flatL_get : ∀ (cs : List AVal) (o : Nat) (x : AVal), AVal.flat.flatL cs = true → cs[o]? = some x → x.flat = true
  | [], o, x, _, h => by simp at h
  | c :: cs, o, x, hf, h => by
    unfold AVal.flat.flatL at hf
    split at hf
    · rename_i hc
      cases o with
      | zero => simp at h; subst h; exact hc
      | succ o => exact flatL_get cs o x hf (by simpa using h)
    · cases hf

theorem VL_get {ρ : Rho} : ∀ (xs : List AVal) (vs : List Value), VL ρ xs vs → ∀ (i : Nat) (x : AVal), xs[i]? = some x → ∃ v, vs[i]? = some v ∧ V ρ x v
  | [], _, _, i, x, hi => by simp at hi
  | y :: xs, _, k, i, x, hi => by
    unfold VL at k
    obtain ⟨v, vs', rfl, h2, h3⟩ := k
    cases i with
    | zero => simp at hi; subst hi; exact ⟨v, rfl, h2⟩
    | succ i =>
      obtain ⟨u, hu, hv⟩ := VL_get xs vs' h3 i x (by simpa using hi)
      exact ⟨u, by simpa using hu, hv⟩

theorem cellsAt_len {S : St} : ∀ (n i o : Nat) (cs : List AVal), S.cellsAt i o n = some cs → cs.length = n ∧ ∀ k x, cs[k]? = some x → S.cell i (o + k) = some x
  | 0, i, o, cs, h => by simp [St.cellsAt] at h; subst h; exact ⟨rfl, fun k x h => by simp at h⟩
  | n + 1, i, o, cs, h => by
    simp only [St.cellsAt] at h
    split at h
    · rename_i x hx
      split at h
      · rename_i cs' hcs; cases h
        obtain ⟨h1, h2⟩ := cellsAt_len n i (o + 1) cs' hcs
        refine ⟨by simp [h1], fun k y hk => ?_⟩
        cases k with
        | zero => simp at hk; subst hk; simpa using hx
        | succ k =>
          have := h2 k y (by simpa using hk)
          have e : o + (k + 1) = o + 1 + k := by omega
          rw [e]; exact this
      · cases h
    · cases h

/-- The views are cells of the caller's. -/
theorem mkArgs_pre {S : St} {w : World} (hS : Hp ρ S w) {args : List AVal} {vs : List Value} {views : List Nat} {as : List AVal} {ws : List Vw} {bl : List (List AVal)}
    (h : mkArgs S args views 0 = some (as, ws, bl)) (hv : VL ρ args vs) : Pre (rhoOf ρ ws) w bl := by
  obtain ⟨hlen, hbl⟩ := mkArgs_bl args vs views 0 as ws bl h hv
  refine ⟨fun j cs hj => ?_, fun j p hp => ?_, fun j r b hr => ?_⟩
  · have hj' : j < ws.length := by rw [hlen]; exact (List.getElem?_eq_some_iff.1 hj).1
    have hw : ws[j]? = some ws[j] := List.getElem?_eq_getElem hj'
    obtain ⟨hc, hf, r, b, hr⟩ := hbl j ws[j] cs hw hj
    refine ⟨r, b + ws[j].o, by simp [rhoOf, hw, hr], fun o x hx => ?_⟩
    obtain ⟨us, hul, huv, hcell⟩ := hS.cellsAt hr ws[j].n ws[j].o cs hc
    obtain ⟨v, h1, h2⟩ := VL_get cs us huv o x hx
    exact ⟨v, hcell o v h1, V_flat _ _ (flatL_get cs o x hf hx) h2⟩
  · rw [← hlen]
    unfold rhoOf at hp
    cases hw : ws[j]? with
    | none => rw [hw] at hp; cases hp
    | some u => exact (List.getElem?_eq_some_iff.1 hw).1
  · unfold rhoOf at hr
    cases hw : ws[j]? with
    | none => rw [hw] at hr; cases hr
    | some u =>
      rw [hw] at hr
      simp only [Option.bind_some, Option.map_eq_some_iff] at hr
      obtain ⟨p, hp, he⟩ := hr
      cases he
      exact hS.lt _ _ _ hp

theorem okViews_spec {S : St} : ∀ (ws : List Vw), okViews S ws = true → (∀ (k : Nat) (u : Vw), ws[k]? = some u → (S.blk u.i).wr = true) ∧ (∀ (k l : Nat) (u v : Vw), k ≠ l → ws[k]? = some u → ws[l]? = some v → u.i ≠ v.i)
  | [], _ => ⟨fun k u h => by simp at h, fun k l u v _ h => by simp at h⟩
  | x :: ws, h => by
    simp only [okViews, Bool.and_eq_true] at h
    obtain ⟨⟨h1, h2⟩, h3⟩ := h
    obtain ⟨k1, k2⟩ := okViews_spec ws h3
    have hne : ∀ (l : Nat) (v : Vw), ws[l]? = some v → v.i ≠ x.i := fun l v hv e => by
      have := List.all_eq_true.1 h2 v (List.mem_of_getElem? hv)
      rw [e] at this; simp at this
    refine ⟨fun k u hu => ?_, fun k l u v hkl hu hv => ?_⟩
    · cases k with
      | zero => simp at hu; subst hu; exact h1
      | succ k => exact k1 k u (by simpa using hu)
    · cases k with
      | zero =>
        cases l with
        | zero => exact absurd rfl hkl
        | succ l => simp at hu; subst hu; exact (hne l v (by simpa using hv)).symm
      | succ k =>
        cases l with
        | zero => simp at hv; subst hv; exact hne k u (by simpa using hu)
        | succ l => exact k2 k l u v (by omega) (by simpa using hu) (by simpa using hv)

/-- What the written views hold. -/
theorem writeViews_spec : ∀ (ws : List Vw) (bl : List (List AVal)) (hv : List ((Nat × Nat) × AVal)), writeViews ws bl = some hv →
    (∀ (k l : Nat) (u v : Vw), k ≠ l → ws[k]? = some u → ws[l]? = some v → u.i ≠ v.i) → ws.length = bl.length ∧
    (∀ (k : Nat) (u : Vw) (b : List AVal), ws[k]? = some u → bl[k]? = some b → u.n = b.length ∧ AVal.flat.flatL b = true) ∧
    ∀ i o, hlook1 i o hv = none ∧ (∀ (k : Nat) (u : Vw), ws[k]? = some u → ¬ (i = u.i ∧ u.o ≤ o ∧ o < u.o + u.n)) ∨
      ∃ (k : Nat) (u : Vw) (b : List AVal), ws[k]? = some u ∧ bl[k]? = some b ∧ i = u.i ∧ u.o ≤ o ∧ o < u.o + u.n ∧ hlook1 i o hv = some (nth (o - u.o) b)
  | [], [], hv, h, _ => by
    simp [writeViews] at h; subst h
    exact ⟨rfl, fun k u b h => by simp at h, fun i o => Or.inl ⟨rfl, fun k u h => by simp at h⟩⟩
  | [], b :: bl, hv, h, _ => by simp [writeViews] at h
  | x :: ws, [], hv, h, _ => by simp [writeViews] at h
  | x :: ws, b :: bl, hv, h, hd => by
    simp only [writeViews] at h
    split at h
    · rename_i hn
      simp only [Bool.and_eq_true] at hn
      have hfl := hn.2
      have hn := Nat.eq_of_beq_eq_true hn.1
      split at h
      · rename_i r hr; cases h
        obtain ⟨h1, h1b, h2⟩ := writeViews_spec ws bl r hr (fun k l u v hkl hu hv => hd (k + 1) (l + 1) u v (by omega) (by simpa using hu) (by simpa using hv))
        refine ⟨by simp [h1], fun k u c hu hc => ?_, fun i o => ?_⟩
        · cases k with
          | zero => simp at hu hc; subst hu; subst hc; exact ⟨hn, hfl⟩
          | succ k => exact h1b k u c (by simpa using hu) (by simpa using hc)
        rw [hlook1_append, hlook1_storeL]
        by_cases hc : i = x.i ∧ x.o ≤ o ∧ o < x.o + b.length
        · right
          refine ⟨0, x, b, rfl, rfl, hc.1, hc.2.1, by omega, ?_⟩
          simp [hc]
        · simp only [hc, if_false]
          rcases h2 i o with ⟨k1, k2⟩ | ⟨k, u, c, k1, k2, k3, k4, k5, k6⟩
          · left
            refine ⟨k1, fun k u hu => ?_⟩
            cases k with
            | zero => simp at hu; subst hu; rw [hn]; exact hc
            | succ k => exact k2 k u (by simpa using hu)
          · right
            exact ⟨k + 1, u, c, by simpa using k1, by simpa using k2, k3, k4, k5, k6⟩
      · cases h
    · cases h

end
end Go.Ab
