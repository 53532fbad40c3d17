import Derived.Test.YtiebaggemiifoaaAb1
namespace Go.Ab
open Go Go.RowKit

/-! ### 1. What an abstract value says of a concrete one -/
def sameW (k : FloatKind) (b b' : Nat) : Prop := b' = b ∨ (isNaNW k b = true ∧ isNaNW k b' = true)

theorem sameW.refl (k : FloatKind) (b : Nat) : sameW k b b := Or.inl rfl

/-- The bits fit. -/
def wfW (k : FloatKind) (b : Nat) : Prop := b < wordTop k

abbrev Rho := Nat → Option (Nat × Nat)

mutual
def V (ρ : Rho) : AVal → Value → Prop
  | .bad, _ => True
  | .bool b, v => v = .bool b
  | .sbool b, v => v = .bool b
  | .int k n, v => v = .int k n
  | .sint k n, v => v = .int k n
  | .cbool c b, v => ∃ b', v = .bool b' ∧ (c = true → b' = b)
  | .cint c k n, v => ∃ n', v = .int k n' ∧ (c = true → n' = n)
  | .flt k b, v => ∃ b', v = .float k b' ∧ sameW k b b' ∧ wfW k b ∧ wfW k b'
  | .ptr i o, v => ∃ r b, ρ i = some (r, b) ∧ v = .pointer (some ⟨r, b + o, none⟩)
  | .slice i o l c, v => ∃ r b, ρ i = some (r, b) ∧ v = .slice (some ⟨r, b + o, none⟩) l c
  | .raw w, v => v = w
  | .agg cs, v => ∃ vs, v = .agg ⟨vs⟩ ∧ VL ρ cs vs
  | .tuple cs, v => ∃ vs, v = .tuple ⟨vs⟩ ∧ VL ρ cs vs
def VL (ρ : Rho) : List AVal → List Value → Prop
  | [], vs => vs = []
  | a :: as, vs => ∃ v vs', vs = v :: vs' ∧ V ρ a v ∧ VL ρ as vs'
end

def Ext (ρ ρ' : Rho) : Prop := ∀ i p, ρ i = some p → ρ' i = some p

theorem Ext.refl (ρ : Rho) : Ext ρ ρ := fun _ _ h => h
theorem Ext.trans {a b c : Rho} (h : Ext a b) (k : Ext b c) : Ext a c := fun i p x => k i p (h i p x)

mutual
theorem V_ext {ρ ρ' : Rho} (h : Ext ρ ρ') : ∀ (x : AVal) (v : Value), V ρ x v → V ρ' x v
  | .bad, _, _ => by unfold V; trivial
  | .bool _, _, k => by unfold V at *; exact k
  | .sbool _, _, k => by unfold V at *; exact k
  | .int _ _, _, k => by unfold V at *; exact k
  | .sint _ _, _, k => by unfold V at *; exact k
  | .cbool _ _, _, k => by unfold V at *; exact k
  | .cint _ _ _, _, k => by unfold V at *; exact k
  | .flt _ _, _, k => by unfold V at *; exact k
  | .ptr _ _, _, k => by unfold V at *; obtain ⟨r, b, h1, h2⟩ := k; exact ⟨r, b, h _ _ h1, h2⟩
  | .slice _ _ _ _, _, k => by unfold V at *; obtain ⟨r, b, h1, h2⟩ := k; exact ⟨r, b, h _ _ h1, h2⟩
  | .raw _, _, k => by unfold V at *; exact k
  | .agg cs, _, k => by unfold V at *; obtain ⟨vs, h1, h2⟩ := k; exact ⟨vs, h1, VL_ext h cs vs h2⟩
  | .tuple cs, _, k => by unfold V at *; obtain ⟨vs, h1, h2⟩ := k; exact ⟨vs, h1, VL_ext h cs vs h2⟩
theorem VL_ext {ρ ρ' : Rho} (h : Ext ρ ρ') : ∀ (xs : List AVal) (vs : List Value), VL ρ xs vs → VL ρ' xs vs
  | [], _, k => by unfold VL at *; exact k
  | x :: xs, _, k => by
    unfold VL at *
    obtain ⟨v, vs', h1, h2, h3⟩ := k
    exact ⟨v, vs', h1, V_ext h x v h2, VL_ext h xs vs' h3⟩
end

mutual
theorem V_flat {ρ ρ' : Rho} : ∀ (x : AVal) (v : Value), x.flat = true → V ρ x v → V ρ' x v
  | .bad, _, hf, _ => by simp [AVal.flat] at hf
  | .bool _, _, _, k => by unfold V at *; exact k
  | .sbool _, _, _, k => by unfold V at *; exact k
  | .int _ _, _, _, k => by unfold V at *; exact k
  | .sint _ _, _, _, k => by unfold V at *; exact k
  | .cbool _ _, _, _, k => by unfold V at *; exact k
  | .cint _ _ _, _, _, k => by unfold V at *; exact k
  | .flt _ _, _, _, k => by unfold V at *; exact k
  | .ptr _ _, _, hf, _ => by simp [AVal.flat] at hf
  | .slice _ _ _ _, _, hf, _ => by simp [AVal.flat] at hf
  | .raw _, _, _, k => by unfold V at *; exact k
  | .agg cs, _, hf, k => by
    unfold V at *; obtain ⟨vs, h1, h2⟩ := k
    exact ⟨vs, h1, VL_flat cs vs (by simpa [AVal.flat] using hf) h2⟩
  | .tuple cs, _, hf, k => by
    unfold V at *; obtain ⟨vs, h1, h2⟩ := k
    exact ⟨vs, h1, VL_flat cs vs (by simpa [AVal.flat] using hf) h2⟩
theorem VL_flat {ρ ρ' : Rho} : ∀ (xs : List AVal) (vs : List Value), AVal.flat.flatL xs = true → VL ρ xs vs → VL ρ' xs vs
  | [], _, _, k => by unfold VL at *; exact k
  | x :: xs, _, hf, k => by
    unfold VL at *
    obtain ⟨v, vs', h1, h2, h3⟩ := k
    unfold AVal.flat.flatL at hf
    split at hf
    · rename_i hx; exact ⟨v, vs', h1, V_flat x v hx h2, VL_flat xs vs' hf h3⟩
    · cases hf
end

theorem VL_length {ρ : Rho} : ∀ (xs : List AVal) (vs : List Value), VL ρ xs vs → vs.length = xs.length
  | [], _, k => by unfold VL at k; simp [k]
  | x :: xs, _, k => by
    unfold VL at k
    obtain ⟨v, vs', h1, _, h3⟩ := k
    simp [h1, VL_length xs vs' h3]

theorem VL_nth {ρ : Rho} : ∀ (xs : List AVal) (vs : List Value), VL ρ xs vs → ∀ i, i < xs.length → ∃ v, vs[i]? = some v ∧ V ρ (nth i xs) v
  | [], _, _, i, hi => by simp at hi
  | x :: xs, _, k, i, hi => by
    unfold VL at k
    obtain ⟨v, vs', h1, h2, h3⟩ := k
    subst h1
    cases i with
    | zero => exact ⟨v, rfl, h2⟩
    | succ i =>
      obtain ⟨u, hu, hv⟩ := VL_nth xs vs' h3 i (by simpa using hi)
      exact ⟨u, by simpa using hu, hv⟩

theorem VL_append {ρ : Rho} : ∀ (xs : List AVal) (vs : List Value) (ys : List AVal) (us : List Value), VL ρ xs vs → VL ρ ys us → VL ρ (xs ++ ys) (vs ++ us)
  | [], _, ys, us, k, h => by unfold VL at k; subst k; simpa using h
  | x :: xs, _, ys, us, k, h => by
    unfold VL at k
    obtain ⟨v, vs', h1, h2, h3⟩ := k
    subst h1
    simp only [List.cons_append]
    unfold VL
    exact ⟨v, vs' ++ us, rfl, h2, VL_append xs vs' ys us h3 h⟩

theorem VL_drop {ρ : Rho} : ∀ (n : Nat) (xs : List AVal) (vs : List Value), VL ρ xs vs → VL ρ (xs.drop n) (vs.drop n)
  | 0, _, _, k => by simpa using k
  | n + 1, [], _, k => by unfold VL at k; subst k; simp [VL]
  | n + 1, x :: xs, _, k => by
    unfold VL at k
    obtain ⟨v, vs', h1, _, h3⟩ := k
    subst h1
    simpa using VL_drop n xs vs' h3

theorem VL_take {ρ : Rho} : ∀ (n : Nat) (xs : List AVal) (vs : List Value), VL ρ xs vs → VL ρ (xs.take n) (vs.take n)
  | 0, _, _, _ => by simp [VL]
  | n + 1, [], _, k => by unfold VL at k; subst k; simp [VL]
  | n + 1, x :: xs, _, k => by
    unfold VL at k
    obtain ⟨v, vs', h1, h2, h3⟩ := k
    subst h1
    simp only [List.take_succ_cons]
    unfold VL
    exact ⟨v, _, rfl, h2, VL_take n xs vs' h3⟩

theorem VL_set {ρ : Rho} : ∀ (xs : List AVal) (vs : List Value) (i : Nat) (x : AVal) (v : Value), VL ρ xs vs → V ρ x v → VL ρ (xs.set i x) (vs.set i v)
  | [], _, _, _, _, k, _ => by unfold VL at k; subst k; simp [VL]
  | y :: ys, _, i, x, v, k, h => by
    unfold VL at k
    obtain ⟨u, us, h1, h2, h3⟩ := k
    subst h1
    cases i with
    | zero => simp only [List.set_cons_zero]; unfold VL; exact ⟨v, us, rfl, h, h3⟩
    | succ i => simp only [List.set_cons_succ]; unfold VL; exact ⟨u, _, rfl, h2, VL_set ys us i x v h3 h⟩

theorem V_absV (ρ : Rho) (v : Value) : V ρ (absV v) v := by
  cases v with
  | float k b =>
    simp only [absV]
    split
    · rename_i h
      have h := Nat.le_of_ble_eq_true h
      unfold V
      exact ⟨b, rfl, sameW.refl _ _, h, h⟩
    · simp [V]
  | _ => simp [absV, V]

theorem VL_absC (ρ : Rho) : ∀ cs : List Value, VL ρ (absC cs) cs
  | [] => by simp [absC, VL]
  | c :: cs => by
    show VL ρ (absV c :: absC cs) (c :: cs)
    unfold VL
    exact ⟨c, cs, rfl, V_absV ρ c, VL_absC ρ cs⟩

/-- The cells of a value. -/
theorem V_cells {ρ : Rho} {x : AVal} {v : Value} (h : V ρ x v) (hb : ∀ vs, x ≠ .tuple vs) (hbad : x ≠ .bad) (hraw : ∀ u, x = .raw u → u.oneCell' = true) : VL ρ x.cells v.cells.toList := by
  cases x with
  | bad => exact absurd rfl hbad
  | agg cs =>
    unfold V at h
    obtain ⟨vs, rfl, h2⟩ := h
    simpa [AVal.cells, Value.cells] using h2
  | tuple cs => exact absurd rfl (hb cs)
  | raw u =>
    have h0 := h
    unfold V at h
    subst h
    have := hraw _ rfl
    cases v <;> first | (simp [Value.oneCell'] at this; done) | (simp only [AVal.cells, Value.cells]; unfold VL; exact ⟨_, [], rfl, h0, by simp [VL]⟩)
  | bool _ => have h0 := h; unfold V at h; subst h; simp only [AVal.cells, Value.cells]; unfold VL; exact ⟨_, [], rfl, h0, by simp [VL]⟩
  | sbool _ => have h0 := h; unfold V at h; subst h; simp only [AVal.cells, Value.cells]; unfold VL; exact ⟨_, [], rfl, h0, by simp [VL]⟩
  | int _ _ => have h0 := h; unfold V at h; subst h; simp only [AVal.cells, Value.cells]; unfold VL; exact ⟨_, [], rfl, h0, by simp [VL]⟩
  | sint _ _ => have h0 := h; unfold V at h; subst h; simp only [AVal.cells, Value.cells]; unfold VL; exact ⟨_, [], rfl, h0, by simp [VL]⟩
  | cbool _ _ => have h0 := h; unfold V at h; obtain ⟨b', rfl, _⟩ := h; simp only [AVal.cells, Value.cells]; unfold VL; exact ⟨_, [], rfl, h0, by simp [VL]⟩
  | cint _ _ _ => have h0 := h; unfold V at h; obtain ⟨b', rfl, _⟩ := h; simp only [AVal.cells, Value.cells]; unfold VL; exact ⟨_, [], rfl, h0, by simp [VL]⟩
  | flt _ _ => have h0 := h; unfold V at h; obtain ⟨b', rfl, _⟩ := h; simp only [AVal.cells, Value.cells]; unfold VL; exact ⟨_, [], rfl, h0, by simp [VL]⟩
  | ptr _ _ => have h0 := h; unfold V at h; obtain ⟨_, _, _, rfl⟩ := h; simp only [AVal.cells, Value.cells]; unfold VL; exact ⟨_, [], rfl, h0, by simp [VL]⟩
  | slice _ _ _ _ => have h0 := h; unfold V at h; obtain ⟨_, _, _, rfl⟩ := h; simp only [AVal.cells, Value.cells]; unfold VL; exact ⟨_, [], rfl, h0, by simp [VL]⟩

theorem V_oneA {ρ : Rho} {x : AVal} {v : Value} (h : V ρ x v) (hx : x.oneA = true) : v.oneCell' = true := by
  cases x <;> simp only [AVal.oneA] at hx <;> try (cases hx; done)
  all_goals (unfold V at h)
  all_goals first
    | (subst h; first | exact hx | rfl)
    | (obtain ⟨_, rfl, _⟩ := h; rfl)
    | (obtain ⟨_, _, _, rfl⟩ := h; rfl)

mutual
theorem mergeV_true {ρ : Rho} : ∀ (x y : AVal) (v : Value), V ρ x v → V ρ (mergeV true x y) v
  | .bad, y, v, _ => by simp [mergeV, V]
  | .bool a, y, v, h => by cases y <;> simp_all [mergeV, V]
  | .sbool a, y, v, h => by cases y <;> simp_all [mergeV, V]
  | .int k n, y, v, h => by
    cases y <;> simp only [mergeV] <;> try (simp [V]; done)
    all_goals (split <;> try (simp [V]; done))
    · split <;> simpa [V] using h
    all_goals (simpa [V] using h)
  | .sint k n, y, v, h => by
    cases y <;> simp only [mergeV] <;> try (simp [V]; done)
    all_goals (split <;> try (simp [V]; done))
    all_goals (simpa [V] using h)
  | .cbool c a, y, v, h => by cases y <;> simp only [mergeV] <;> first | (simp [V]; done) | simpa [V] using h
  | .cint c k n, y, v, h => by
    cases y <;> simp only [mergeV] <;> try (simp [V]; done)
    all_goals (split <;> try (simp [V]; done))
    all_goals (simpa [V] using h)
  | .flt k n, y, v, h => by
    cases y <;> simp only [mergeV] <;> try (simp [V]; done)
    split
    · simpa [V] using h
    · simp [V]
  | .ptr i o, y, v, h => by
    cases y <;> simp only [mergeV] <;> try (simp [V]; done)
    split
    · simpa [V] using h
    · simp [V]
  | .slice i o l c, y, v, h => by
    cases y <;> simp only [mergeV] <;> try (simp [V]; done)
    split
    · simpa [V] using h
    · simp [V]
  | .raw u, y, v, h => by cases y <;> simp [mergeV, V]
  | .agg xs, y, v, h => by
    cases y <;> simp only [mergeV] <;> try (simp [V]; done)
    rename_i ys
    split
    · rename_i hl
      unfold V at h ⊢
      obtain ⟨vs, h1, h2⟩ := h
      exact ⟨vs, h1, mergeL_true xs ys vs (Nat.eq_of_beq_eq_true hl) h2⟩
    · simp [V]
  | .tuple xs, y, v, h => by
    cases y <;> simp only [mergeV] <;> try (simp [V]; done)
    rename_i ys
    split
    · rename_i hl
      unfold V at h ⊢
      obtain ⟨vs, h1, h2⟩ := h
      exact ⟨vs, h1, mergeL_true xs ys vs (Nat.eq_of_beq_eq_true hl) h2⟩
    · simp [V]
theorem mergeL_true {ρ : Rho} : ∀ (xs ys : List AVal) (vs : List Value), xs.length = ys.length → VL ρ xs vs → VL ρ (mergeV.mergeL true xs ys) vs
  | [], _, vs, _, h => by simpa [mergeV.mergeL] using h
  | x :: xs, [], vs, hl, _ => by simp at hl
  | x :: xs, y :: ys, vs, hl, h => by
    simp only [mergeV.mergeL]
    unfold VL at h ⊢
    obtain ⟨v, vs', h1, h2, h3⟩ := h
    exact ⟨v, vs', h1, mergeV_true x y v h2, mergeL_true xs ys vs' (by simpa using hl) h3⟩
end

mutual
theorem mergeV_false {ρ : Rho} : ∀ (x y : AVal) (v : Value), V ρ y v → V ρ (mergeV false x y) v
  | .bad, y, v, _ => by simp [mergeV, V]
  | .bool a, y, v, h => by cases y <;> simp_all [mergeV, V]
  | .sbool a, y, v, h => by cases y <;> simp_all [mergeV, V]
  | .int k n, y, v, h => by
    cases y <;> simp only [mergeV] <;> try (simp [V]; done)
    all_goals (split <;> try (simp [V]; done))
    all_goals (rename_i hk; have hk := of_decide_eq_true hk; subst hk)
    · split
      · rename_i he; have he := of_decide_eq_true he; subst he; simpa [V] using h
      · simpa [V] using h
    all_goals (simpa [V] using h)
  | .sint k n, y, v, h => by
    cases y <;> simp only [mergeV] <;> try (simp [V]; done)
    all_goals (split <;> try (simp [V]; done))
    all_goals (rename_i hk; have hk := of_decide_eq_true hk; subst hk; simpa [V] using h)
  | .cbool c a, y, v, h => by cases y <;> simp only [mergeV] <;> first | (simp [V]; done) | simpa [V] using h
  | .cint c k n, y, v, h => by
    cases y <;> simp only [mergeV] <;> try (simp [V]; done)
    all_goals (split <;> try (simp [V]; done))
    all_goals (rename_i hk; have hk := of_decide_eq_true hk; subst hk; simpa [V] using h)
  | .flt k n, y, v, h => by
    cases y <;> simp only [mergeV] <;> try (simp [V]; done)
    split
    · rename_i hk; have hk := of_decide_eq_true hk; subst hk; simpa [V] using h
    · simp [V]
  | .ptr i o, y, v, h => by
    cases y <;> simp only [mergeV] <;> try (simp [V]; done)
    split
    · rename_i hk
      simp only [Bool.and_eq_true] at hk
      have h1 := Nat.eq_of_beq_eq_true hk.1
      have h2 := Nat.eq_of_beq_eq_true hk.2
      subst h1; subst h2; exact h
    · simp [V]
  | .slice i o l c, y, v, h => by
    cases y <;> simp only [mergeV] <;> try (simp [V]; done)
    split
    · rename_i hk
      simp only [Bool.and_eq_true] at hk
      have h1 := Nat.eq_of_beq_eq_true hk.1.1.1
      have h2 := Nat.eq_of_beq_eq_true hk.1.1.2
      have h3 := Nat.eq_of_beq_eq_true hk.1.2
      have h4 := Nat.eq_of_beq_eq_true hk.2
      subst h1; subst h2; subst h3; subst h4; exact h
    · simp [V]
  | .raw u, y, v, h => by cases y <;> simp [mergeV, V]
  | .agg xs, y, v, h => by
    cases y <;> simp only [mergeV] <;> try (simp [V]; done)
    rename_i ys
    split
    · rename_i hl
      unfold V at h ⊢
      obtain ⟨vs, h1, h2⟩ := h
      exact ⟨vs, h1, mergeL_false xs ys vs (Nat.eq_of_beq_eq_true hl) h2⟩
    · simp [V]
  | .tuple xs, y, v, h => by
    cases y <;> simp only [mergeV] <;> try (simp [V]; done)
    rename_i ys
    split
    · rename_i hl
      unfold V at h ⊢
      obtain ⟨vs, h1, h2⟩ := h
      exact ⟨vs, h1, mergeL_false xs ys vs (Nat.eq_of_beq_eq_true hl) h2⟩
    · simp [V]
theorem mergeL_false {ρ : Rho} : ∀ (xs ys : List AVal) (vs : List Value), xs.length = ys.length → VL ρ ys vs → VL ρ (mergeV.mergeL false xs ys) vs
  | [], [], vs, _, h => by simpa [mergeV.mergeL] using h
  | [], y :: ys, vs, hl, _ => by simp at hl
  | x :: xs, [], vs, hl, _ => by simp at hl
  | x :: xs, y :: ys, vs, hl, h => by
    simp only [mergeV.mergeL]
    unfold VL at h ⊢
    obtain ⟨v, vs', h1, h2, h3⟩ := h
    exact ⟨v, vs', h1, mergeV_false x y v h2, mergeL_false xs ys vs' (by simpa using hl) h3⟩
end

theorem mergeV_sound {ρ : Rho} (b : Bool) (x y : AVal) (v : Value) (h : V ρ (if b then x else y) v) : V ρ (mergeV b x y) v := by
  cases b
  · exact mergeV_false x y v (by simpa using h)
  · exact mergeV_true x y v (by simpa using h)

end Go.Ab
