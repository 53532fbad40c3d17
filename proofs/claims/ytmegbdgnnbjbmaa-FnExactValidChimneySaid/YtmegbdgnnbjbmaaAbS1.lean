import Derived.Test.YtmegbdgnnbjbmaaAb1
namespace Go.Ab
open Go Go.RowKit

/-! ### 1. What an abstract value says of a concrete one -/
def sameW (k : FloatKind) (b b' : Nat) : Prop := b' = b ∨ (isNaNW k b = true ∧ isNaNW k b' = true)

theorem sameW.refl (k : FloatKind) (b : Nat) : sameW k b b := Or.inl rfl

/-- The bits fit. -/
def wfW (k : FloatKind) (b : Nat) : Prop := b < wordTop k

/-- Where blocks lie, and how many elements there is room for. -/
structure Rho where
  p : Nat → Option (Nat × Nat)
  cap : Nat → Nat
  kn : Nat → Bool

instance : CoeFun Rho (fun _ => Nat → Option (Nat × Nat)) := ⟨Rho.p⟩

def Num.ok : Num → Prop
  | .ge lo n => lo ≤ n
  | _ => True

/-- A slice over a row. -/
def VecV (ρ : Rho) (i e a : Nat) (n : Num) (v : Value) : Prop :=
  n.ok ∧ ρ.kn i = true ∧ ∃ base c, v = .slice base n.val c ∧ ((c = 0 ∧ n.val = 0) ∨ (∃ r b, ρ i = some (r, b) ∧ base = some ⟨r, b + a * e, none⟩ ∧ c = ρ.cap i - a ∧ a + n.val ≤ ρ.cap i))

mutual
def V (ρ : Rho) : AVal → Value → Prop
  | .bad, _ => True
  | .bool b, v => v = .bool b
  | .sbool b, v => v = .bool b
  | .int k n, v => v = .int k n
  | .sint k n, v => v = .int k n
  | .cbool c b, v => ∃ b', v = .bool b' ∧ (c = true → b' = b)
  | .cint c k n, v => ∃ n', v = .int k n' ∧ (c = true → n' = n)
  | .flt k b, v => ∃ b', v = .float k b' ∧ sameW k b b' ∧ wfW k b ∧ wfW k b'
  | .lint k lo n, v => v = .int k (Int.ofNat n) ∧ lo ≤ n
  | .ptr i o, v => ∃ r b, ρ i = some (r, b) ∧ v = .pointer (some ⟨r, b + o, none⟩)
  | .vptr i e k o, v => ∃ r b, ρ i = some (r, b) ∧ v = .pointer (some ⟨r, b + (k * e + o), none⟩)
  | .vec i e a n, v => VecV ρ i e a n v
  | .fn f xs ys, v => ∃ us vs, v = .func f ⟨us⟩ ⟨vs⟩ ∧ VL ρ xs us ∧ VL ρ ys vs
  | .ifc t x, v => ∃ u, v = .iface t u ∧ V ρ x u
  | .slice i o l c, v => ∃ r b, ρ i = some (r, b) ∧ v = .slice (some ⟨r, b + o, none⟩) l c
  | .raw w, v => v = w
  | .agg cs, v => ∃ vs, v = .agg ⟨vs⟩ ∧ VL ρ cs vs
  | .tuple cs, v => ∃ vs, v = .tuple ⟨vs⟩ ∧ VL ρ cs vs
def VL (ρ : Rho) : List AVal → List Value → Prop
  | [], vs => vs = []
  | a :: as, vs => ∃ v vs', vs = v :: vs' ∧ V ρ a v ∧ VL ρ as vs'
end

structure Ext (ρ ρ' : Rho) : Prop where
  at_ : ∀ i p, ρ i = some p → ρ' i = some p ∧ ρ'.cap i = ρ.cap i
  kn : ∀ i, ρ.kn i = true → ρ'.kn i = true

theorem Ext.refl (ρ : Rho) : Ext ρ ρ := ⟨fun _ _ h => ⟨h, rfl⟩, fun _ h => h⟩
theorem Ext.trans {a b c : Rho} (h : Ext a b) (k : Ext b c) : Ext a c := ⟨fun i p x => ⟨(k.at_ i p (h.at_ i p x).1).1, (k.at_ i p (h.at_ i p x).1).2.trans (h.at_ i p x).2⟩, fun i x => k.kn i (h.kn i x)⟩

theorem VecV.ext {ρ ρ' : Rho} {i e a : Nat} {n : Num} {v : Value} (h : Ext ρ ρ') (k : VecV ρ i e a n v) : VecV ρ' i e a n v := by
  obtain ⟨hn, hk, base, c, hv, hc⟩ := k
  refine ⟨hn, h.kn _ hk, base, c, hv, ?_⟩
  rcases hc with hc | ⟨r, b, hr, hc⟩
  · exact Or.inl hc
  · obtain ⟨h1, h2⟩ := h.at_ _ _ hr
    refine Or.inr ⟨r, b, h1, ?_⟩
    rw [h2]; exact hc

mutual
theorem V_ext {ρ ρ' : Rho} (h : Ext ρ ρ') : ∀ (x : AVal) (v : Value), V ρ x v → V ρ' x v
  | .bad, _, _ => by unfold V; trivial
  | .bool _, _, k => by unfold V at *; exact k
  | .sbool _, _, k => by unfold V at *; exact k
  | .int _ _, _, k => by unfold V at *; exact k
  | .sint _ _, _, k => by unfold V at *; exact k
  | .cbool _ _, _, k => by unfold V at *; exact k
  | .cint _ _ _, _, k => by unfold V at *; exact k
  | .flt _ _, _, k => by unfold V at *; exact k
  | .lint _ _ _, _, k => by unfold V at *; exact k
  | .ptr _ _, _, k => by unfold V at *; obtain ⟨r, b, h1, h2⟩ := k; exact ⟨r, b, (h.at_ _ _ h1).1, h2⟩
  | .vptr _ _ _ _, _, k => by unfold V at *; obtain ⟨r, b, h1, h2⟩ := k; exact ⟨r, b, (h.at_ _ _ h1).1, h2⟩
  | .slice _ _ _ _, _, k => by unfold V at *; obtain ⟨r, b, h1, h2⟩ := k; exact ⟨r, b, (h.at_ _ _ h1).1, h2⟩
  | .vec _ _ _ _, _, k => by unfold V at *; exact k.ext h
  | .fn _ xs ys, _, k => by unfold V at *; obtain ⟨us, vs, h1, h2, h3⟩ := k; exact ⟨us, vs, h1, VL_ext h xs us h2, VL_ext h ys vs h3⟩
  | .ifc _ x, _, k => by unfold V at *; obtain ⟨u, h1, h2⟩ := k; exact ⟨u, h1, V_ext h x u h2⟩
  | .raw _, _, k => by unfold V at *; exact k
  | .agg cs, _, k => by unfold V at *; obtain ⟨vs, h1, h2⟩ := k; exact ⟨vs, h1, VL_ext h cs vs h2⟩
  | .tuple cs, _, k => by unfold V at *; obtain ⟨vs, h1, h2⟩ := k; exact ⟨vs, h1, VL_ext h cs vs h2⟩
theorem VL_ext {ρ ρ' : Rho} (h : Ext ρ ρ') : ∀ (xs : List AVal) (vs : List Value), VL ρ xs vs → VL ρ' xs vs
  | [], _, k => by unfold VL at *; exact k
  | x :: xs, _, k => by
    unfold VL at *
    obtain ⟨v, vs', h1, h2, h3⟩ := k
    exact ⟨v, vs', h1, V_ext h x v h2, VL_ext h xs vs' h3⟩
end

mutual
theorem V_flat {ρ ρ' : Rho} : ∀ (x : AVal) (v : Value), x.flat = true → V ρ x v → V ρ' x v
  | .bad, _, hf, _ => by simp [AVal.flat] at hf
  | .bool _, _, _, k => by unfold V at *; exact k
  | .sbool _, _, _, k => by unfold V at *; exact k
  | .int _ _, _, _, k => by unfold V at *; exact k
  | .sint _ _, _, _, k => by unfold V at *; exact k
  | .cbool _ _, _, _, k => by unfold V at *; exact k
  | .cint _ _ _, _, _, k => by unfold V at *; exact k
  | .flt _ _, _, _, k => by unfold V at *; exact k
  | .lint _ _ _, _, _, k => by unfold V at *; exact k
  | .ptr _ _, _, hf, _ => by simp [AVal.flat] at hf
  | .vptr _ _ _ _, _, hf, _ => by simp [AVal.flat] at hf
  | .slice _ _ _ _, _, hf, _ => by simp [AVal.flat] at hf
  | .vec _ _ _ _, _, hf, _ => by simp [AVal.flat] at hf
  | .fn _ xs ys, _, hf, k => by
    unfold V at *; obtain ⟨us, vs, h1, h2, h3⟩ := k
    unfold AVal.flat at hf
    split at hf
    · rename_i hx; exact ⟨us, vs, h1, VL_flat xs us hx h2, VL_flat ys vs hf h3⟩
    · cases hf
  | .ifc _ x, _, hf, k => by
    unfold V at *; obtain ⟨u, h1, h2⟩ := k
    exact ⟨u, h1, V_flat x u (by simpa [AVal.flat] using hf) h2⟩
  | .raw _, _, _, k => by unfold V at *; exact k
  | .agg cs, _, hf, k => by
    unfold V at *; obtain ⟨vs, h1, h2⟩ := k
    exact ⟨vs, h1, VL_flat cs vs (by simpa [AVal.flat] using hf) h2⟩
  | .tuple cs, _, hf, k => by
    unfold V at *; obtain ⟨vs, h1, h2⟩ := k
    exact ⟨vs, h1, VL_flat cs vs (by simpa [AVal.flat] using hf) h2⟩
theorem VL_flat {ρ ρ' : Rho} : ∀ (xs : List AVal) (vs : List Value), AVal.flat.flatL xs = true → VL ρ xs vs → VL ρ' xs vs
  | [], _, _, k => by unfold VL at *; exact k
  | x :: xs, _, hf, k => by
    unfold VL at *
    obtain ⟨v, vs', h1, h2, h3⟩ := k
    unfold AVal.flat.flatL at hf
    split at hf
    · rename_i hx; exact ⟨v, vs', h1, V_flat x v hx h2, VL_flat xs vs' hf h3⟩
    · cases hf
end

/-- The same where only blocks below a number are spoken of. -/
def Agr (n : Nat) (ρ ρ' : Rho) : Prop := ∀ i, i < n → (∀ p, ρ i = some p → ρ' i = some p ∧ ρ'.cap i = ρ.cap i) ∧ (ρ.kn i = true → ρ'.kn i = true)

theorem VecV.agr {ρ ρ' : Rho} {i e a m : Nat} {n : Num} {v : Value} (h : Agr m ρ ρ') (hi : i < m) (k : VecV ρ i e a n v) : VecV ρ' i e a n v := by
  obtain ⟨hn, hk, base, c, hv, hc⟩ := k
  refine ⟨hn, (h _ hi).2 hk, base, c, hv, ?_⟩
  rcases hc with hc | ⟨r, b, hr, hc⟩
  · exact Or.inl hc
  · obtain ⟨h1, h2⟩ := (h _ hi).1 _ hr
    refine Or.inr ⟨r, b, h1, ?_⟩
    rw [h2]; exact hc

mutual
theorem V_under {m : Nat} {ρ ρ' : Rho} (h : Agr m ρ ρ') : ∀ (x : AVal) (v : Value), x.under m = true → V ρ x v → V ρ' x v
  | .bad, _, hf, _ => by simp [AVal.under] at hf
  | .bool _, _, _, k => by unfold V at *; exact k
  | .sbool _, _, _, k => by unfold V at *; exact k
  | .int _ _, _, _, k => by unfold V at *; exact k
  | .sint _ _, _, _, k => by unfold V at *; exact k
  | .cbool _ _, _, _, k => by unfold V at *; exact k
  | .cint _ _ _, _, _, k => by unfold V at *; exact k
  | .flt _ _, _, _, k => by unfold V at *; exact k
  | .lint _ _ _, _, _, k => by unfold V at *; exact k
  | .ptr _ _, _, hf, k => by unfold V at *; obtain ⟨r, b, h1, h2⟩ := k; exact ⟨r, b, ((h _ (Nat.le_of_ble_eq_true hf)).1 _ h1).1, h2⟩
  | .vptr _ _ _ _, _, hf, k => by unfold V at *; obtain ⟨r, b, h1, h2⟩ := k; exact ⟨r, b, ((h _ (Nat.le_of_ble_eq_true hf)).1 _ h1).1, h2⟩
  | .slice _ _ _ _, _, hf, k => by unfold V at *; obtain ⟨r, b, h1, h2⟩ := k; exact ⟨r, b, ((h _ (Nat.le_of_ble_eq_true hf)).1 _ h1).1, h2⟩
  | .vec _ _ _ _, _, hf, k => by unfold V at *; exact k.agr h (Nat.le_of_ble_eq_true hf)
  | .raw _, _, _, k => by unfold V at *; exact k
  | .fn _ xs ys, _, hf, k => by
    unfold V at *; obtain ⟨us, vs, h1, h2, h3⟩ := k
    unfold AVal.under at hf
    split at hf
    · rename_i hx; exact ⟨us, vs, h1, VL_under h xs us hx h2, VL_under h ys vs hf h3⟩
    · cases hf
  | .ifc _ x, _, hf, k => by
    unfold V at *; obtain ⟨u, h1, h2⟩ := k
    exact ⟨u, h1, V_under h x u (by simpa [AVal.under] using hf) h2⟩
  | .agg cs, _, hf, k => by
    unfold V at *; obtain ⟨vs, h1, h2⟩ := k
    exact ⟨vs, h1, VL_under h cs vs (by simpa [AVal.under] using hf) h2⟩
  | .tuple cs, _, hf, k => by
    unfold V at *; obtain ⟨vs, h1, h2⟩ := k
    exact ⟨vs, h1, VL_under h cs vs (by simpa [AVal.under] using hf) h2⟩
theorem VL_under {m : Nat} {ρ ρ' : Rho} (h : Agr m ρ ρ') : ∀ (xs : List AVal) (vs : List Value), AVal.under.underL m xs = true → VL ρ xs vs → VL ρ' xs vs
  | [], _, _, k => by unfold VL at *; exact k
  | x :: xs, _, hf, k => by
    unfold VL at *
    obtain ⟨v, vs', h1, h2, h3⟩ := k
    unfold AVal.under.underL at hf
    split at hf
    · rename_i hx; exact ⟨v, vs', h1, V_under h x v hx h2, VL_under h xs vs' hf h3⟩
    · cases hf
end

/-- What was said of a value once is no more than what is known. -/
structure Known (n : Nat) (ρ ρ' : Rho) : Prop where
  at_ : ∀ i, i < n → ρ' i = ρ i
  cap : ∀ i p, i < n → ρ i = some p → ρ'.cap i = ρ.cap i
  dom : ∀ i p, ρ i = some p → i < n
  kdm : ∀ i, ρ.kn i = true → i < n

mutual
theorem V_back {n : Nat} {ρ ρ' : Rho} (h : Known n ρ ρ') : ∀ (x : AVal) (v v0 : Value), V ρ x v0 → V ρ' x v → V ρ x v
  | .bad, _, _, _, _ => by unfold V; trivial
  | .bool _, _, _, _, k => by unfold V at *; exact k
  | .sbool _, _, _, _, k => by unfold V at *; exact k
  | .int _ _, _, _, _, k => by unfold V at *; exact k
  | .sint _ _, _, _, _, k => by unfold V at *; exact k
  | .cbool _ _, _, _, _, k => by unfold V at *; exact k
  | .cint _ _ _, _, _, _, k => by unfold V at *; exact k
  | .flt _ _, _, _, _, k => by unfold V at *; exact k
  | .lint _ _ _, _, _, _, k => by unfold V at *; exact k
  | .raw _, _, _, _, k => by unfold V at *; exact k
  | .ptr i o, _, _, k0, k => by
    unfold V at *
    obtain ⟨r0, b0, g1, _⟩ := k0
    obtain ⟨r, b, h1, h2⟩ := k
    exact ⟨r, b, by rw [← h.at_ i (h.dom _ _ g1)]; exact h1, h2⟩
  | .vptr i _ _ _, _, _, k0, k => by
    unfold V at *
    obtain ⟨r0, b0, g1, _⟩ := k0
    obtain ⟨r, b, h1, h2⟩ := k
    exact ⟨r, b, by rw [← h.at_ i (h.dom _ _ g1)]; exact h1, h2⟩
  | .slice i _ _ _, _, _, k0, k => by
    unfold V at *
    obtain ⟨r0, b0, g1, _⟩ := k0
    obtain ⟨r, b, h1, h2⟩ := k
    exact ⟨r, b, by rw [← h.at_ i (h.dom _ _ g1)]; exact h1, h2⟩
  | .vec i e a m, _, _, k0, k => by
    unfold V at *
    obtain ⟨_, g1, _⟩ := k0
    obtain ⟨hn, hk, base, c, hv, hc⟩ := k
    have hi := h.kdm _ g1
    refine ⟨hn, g1, base, c, hv, ?_⟩
    rcases hc with hc | ⟨r, b, hr, hc⟩
    · exact Or.inl hc
    · have hr' : ρ i = some (r, b) := by rw [← h.at_ i hi]; exact hr
      refine Or.inr ⟨r, b, hr', ?_⟩
      rw [← h.cap i _ hi hr']; exact hc
  | .fn _ xs ys, _, _, k0, k => by
    unfold V at *
    obtain ⟨u0, w0, _, g1, g2⟩ := k0
    obtain ⟨us, vs, h1, h2, h3⟩ := k
    exact ⟨us, vs, h1, VL_back h xs us u0 g1 h2, VL_back h ys vs w0 g2 h3⟩
  | .ifc _ x, _, _, k0, k => by
    unfold V at *
    obtain ⟨u0, _, g1⟩ := k0
    obtain ⟨u, h1, h2⟩ := k
    exact ⟨u, h1, V_back h x u u0 g1 h2⟩
  | .agg cs, _, _, k0, k => by
    unfold V at *
    obtain ⟨u0, _, g1⟩ := k0
    obtain ⟨u, h1, h2⟩ := k
    exact ⟨u, h1, VL_back h cs u u0 g1 h2⟩
  | .tuple cs, _, _, k0, k => by
    unfold V at *
    obtain ⟨u0, _, g1⟩ := k0
    obtain ⟨u, h1, h2⟩ := k
    exact ⟨u, h1, VL_back h cs u u0 g1 h2⟩
theorem VL_back {n : Nat} {ρ ρ' : Rho} (h : Known n ρ ρ') : ∀ (xs : List AVal) (vs v0 : List Value), VL ρ xs v0 → VL ρ' xs vs → VL ρ xs vs
  | [], _, _, _, k => by unfold VL at *; exact k
  | x :: xs, _, _, k0, k => by
    unfold VL at *
    obtain ⟨u0, us0, _, g1, g2⟩ := k0
    obtain ⟨v, vs', h1, h2, h3⟩ := k
    exact ⟨v, vs', h1, V_back h x v u0 g1 h2, VL_back h xs vs' us0 g2 h3⟩
end

theorem VL_length {ρ : Rho} : ∀ (xs : List AVal) (vs : List Value), VL ρ xs vs → vs.length = xs.length
  | [], _, k => by unfold VL at k; simp [k]
  | x :: xs, _, k => by
    unfold VL at k
    obtain ⟨v, vs', h1, _, h3⟩ := k
    simp [h1, VL_length xs vs' h3]

theorem VL_nth {ρ : Rho} : ∀ (xs : List AVal) (vs : List Value), VL ρ xs vs → ∀ i, i < xs.length → ∃ v, vs[i]? = some v ∧ V ρ (nth i xs) v
  | [], _, _, i, hi => by simp at hi
  | x :: xs, _, k, i, hi => by
    unfold VL at k
    obtain ⟨v, vs', h1, h2, h3⟩ := k
    subst h1
    cases i with
    | zero => exact ⟨v, rfl, h2⟩
    | succ i =>
      obtain ⟨u, hu, hv⟩ := VL_nth xs vs' h3 i (by simpa using hi)
      exact ⟨u, by simpa using hu, hv⟩

theorem VL_append {ρ : Rho} : ∀ (xs : List AVal) (vs : List Value) (ys : List AVal) (us : List Value), VL ρ xs vs → VL ρ ys us → VL ρ (xs ++ ys) (vs ++ us)
  | [], _, ys, us, k, h => by unfold VL at k; subst k; simpa using h
  | x :: xs, _, ys, us, k, h => by
    unfold VL at k
    obtain ⟨v, vs', h1, h2, h3⟩ := k
    subst h1
    simp only [List.cons_append]
    unfold VL
    exact ⟨v, vs' ++ us, rfl, h2, VL_append xs vs' ys us h3 h⟩

theorem VL_drop {ρ : Rho} : ∀ (n : Nat) (xs : List AVal) (vs : List Value), VL ρ xs vs → VL ρ (xs.drop n) (vs.drop n)
  | 0, _, _, k => by simpa using k
  | n + 1, [], _, k => by unfold VL at k; subst k; simp [VL]
  | n + 1, x :: xs, _, k => by
    unfold VL at k
    obtain ⟨v, vs', h1, _, h3⟩ := k
    subst h1
    simpa using VL_drop n xs vs' h3

theorem VL_take {ρ : Rho} : ∀ (n : Nat) (xs : List AVal) (vs : List Value), VL ρ xs vs → VL ρ (xs.take n) (vs.take n)
  | 0, _, _, _ => by simp [VL]
  | n + 1, [], _, k => by unfold VL at k; subst k; simp [VL]
  | n + 1, x :: xs, _, k => by
    unfold VL at k
    obtain ⟨v, vs', h1, h2, h3⟩ := k
    subst h1
    simp only [List.take_succ_cons]
    unfold VL
    exact ⟨v, _, rfl, h2, VL_take n xs vs' h3⟩

theorem VL_set {ρ : Rho} : ∀ (xs : List AVal) (vs : List Value) (i : Nat) (x : AVal) (v : Value), VL ρ xs vs → V ρ x v → VL ρ (xs.set i x) (vs.set i v)
  | [], _, _, _, _, k, _ => by unfold VL at k; subst k; simp [VL]
  | y :: ys, _, i, x, v, k, h => by
    unfold VL at k
    obtain ⟨u, us, h1, h2, h3⟩ := k
    subst h1
    cases i with
    | zero => simp only [List.set_cons_zero]; unfold VL; exact ⟨v, us, rfl, h, h3⟩
    | succ i => simp only [List.set_cons_succ]; unfold VL; exact ⟨u, _, rfl, h2, VL_set ys us i x v h3 h⟩

theorem V_absV (ρ : Rho) (v : Value) : V ρ (absV v) v := by
  cases v with
  | float k b =>
    simp only [absV]
    split
    · rename_i h
      have h := Nat.le_of_ble_eq_true h
      unfold V
      exact ⟨b, rfl, sameW.refl _ _, h, h⟩
    · simp [V]
  | _ => simp [absV, V]

theorem VL_absC (ρ : Rho) : ∀ cs : List Value, VL ρ (absC cs) cs
  | [] => by simp [absC, VL]
  | c :: cs => by
    show VL ρ (absV c :: absC cs) (c :: cs)
    unfold VL
    exact ⟨c, cs, rfl, V_absV ρ c, VL_absC ρ cs⟩

/-- The cells of a value. -/
theorem V_cells {ρ : Rho} {x : AVal} {v : Value} (h : V ρ x v) (hb : ∀ vs, x ≠ .tuple vs) (hbad : x ≠ .bad) (hraw : ∀ u, x = .raw u → u.oneCell' = true) : VL ρ x.cells v.cells.toList := by
  cases x with
  | bad => exact absurd rfl hbad
  | agg cs =>
    unfold V at h
    obtain ⟨vs, rfl, h2⟩ := h
    simpa [AVal.cells, Value.cells] using h2
  | tuple cs => exact absurd rfl (hb cs)
  | raw u =>
    have h0 := h
    unfold V at h
    subst h
    have := hraw _ rfl
    cases v <;> first | (simp [Value.oneCell'] at this; done) | (simp only [AVal.cells, Value.cells]; unfold VL; exact ⟨_, [], rfl, h0, by simp [VL]⟩)
  | bool _ => have h0 := h; unfold V at h; subst h; simp only [AVal.cells, Value.cells]; unfold VL; exact ⟨_, [], rfl, h0, by simp [VL]⟩
  | sbool _ => have h0 := h; unfold V at h; subst h; simp only [AVal.cells, Value.cells]; unfold VL; exact ⟨_, [], rfl, h0, by simp [VL]⟩
  | int _ _ => have h0 := h; unfold V at h; subst h; simp only [AVal.cells, Value.cells]; unfold VL; exact ⟨_, [], rfl, h0, by simp [VL]⟩
  | sint _ _ => have h0 := h; unfold V at h; subst h; simp only [AVal.cells, Value.cells]; unfold VL; exact ⟨_, [], rfl, h0, by simp [VL]⟩
  | cbool _ _ => have h0 := h; unfold V at h; obtain ⟨b', rfl, _⟩ := h; simp only [AVal.cells, Value.cells]; unfold VL; exact ⟨_, [], rfl, h0, by simp [VL]⟩
  | cint _ _ _ => have h0 := h; unfold V at h; obtain ⟨b', rfl, _⟩ := h; simp only [AVal.cells, Value.cells]; unfold VL; exact ⟨_, [], rfl, h0, by simp [VL]⟩
  | flt _ _ => have h0 := h; unfold V at h; obtain ⟨b', rfl, _⟩ := h; simp only [AVal.cells, Value.cells]; unfold VL; exact ⟨_, [], rfl, h0, by simp [VL]⟩
  | ptr _ _ => have h0 := h; unfold V at h; obtain ⟨_, _, _, rfl⟩ := h; simp only [AVal.cells, Value.cells]; unfold VL; exact ⟨_, [], rfl, h0, by simp [VL]⟩
  | slice _ _ _ _ => have h0 := h; unfold V at h; obtain ⟨_, _, _, rfl⟩ := h; simp only [AVal.cells, Value.cells]; unfold VL; exact ⟨_, [], rfl, h0, by simp [VL]⟩
  | lint _ _ _ => have h0 := h; unfold V at h; obtain ⟨rfl, _⟩ := h; simp only [AVal.cells, Value.cells]; unfold VL; exact ⟨_, [], rfl, h0, by simp [VL]⟩
  | vptr _ _ _ _ => have h0 := h; unfold V at h; obtain ⟨_, _, _, rfl⟩ := h; simp only [AVal.cells, Value.cells]; unfold VL; exact ⟨_, [], rfl, h0, by simp [VL]⟩
  | vec _ _ _ _ => have h0 := h; unfold V at h; obtain ⟨_, _, _, _, rfl, _⟩ := h; simp only [AVal.cells, Value.cells]; unfold VL; exact ⟨_, [], rfl, h0, by simp [VL]⟩
  | fn _ _ _ => have h0 := h; unfold V at h; obtain ⟨_, _, rfl, _⟩ := h; simp only [AVal.cells, Value.cells]; unfold VL; exact ⟨_, [], rfl, h0, by simp [VL]⟩
  | ifc _ _ => have h0 := h; unfold V at h; obtain ⟨_, rfl, _⟩ := h; simp only [AVal.cells, Value.cells]; unfold VL; exact ⟨_, [], rfl, h0, by simp [VL]⟩

theorem V_oneA {ρ : Rho} {x : AVal} {v : Value} (h : V ρ x v) (hx : x.oneA = true) : v.oneCell' = true := by
  cases x <;> simp only [AVal.oneA] at hx <;> try (cases hx; done)
  all_goals (unfold V at h)
  all_goals first
    | (subst h; first | exact hx | rfl)
    | (obtain ⟨_, rfl, _⟩ := h; rfl)
    | (obtain ⟨_, _, _, rfl⟩ := h; rfl)
    | (obtain ⟨rfl, _⟩ := h; rfl)
    | (obtain ⟨_, _, _, _, rfl, _⟩ := h; rfl)
    | (obtain ⟨_, _, rfl, _⟩ := h; rfl)

mutual
theorem mergeV_true {ρ : Rho} : ∀ (x y : AVal) (v : Value), V ρ x v → V ρ (mergeV true x y) v
  | .bad, y, v, _ => by simp [mergeV, V]
  | .bool a, y, v, h => by cases y <;> simp_all [mergeV, V]
  | .sbool a, y, v, h => by cases y <;> simp_all [mergeV, V]
  | .int k n, y, v, h => by
    cases y <;> simp only [mergeV] <;> try (simp [V]; done)
    all_goals (split <;> try (simp [V]; done))
    · split <;> simpa [V] using h
    all_goals (simpa [V] using h)
  | .sint k n, y, v, h => by
    cases y <;> simp only [mergeV] <;> try (simp [V]; done)
    all_goals (split <;> try (simp [V]; done))
    all_goals (simpa [V] using h)
  | .cbool c a, y, v, h => by cases y <;> simp only [mergeV] <;> first | (simp [V]; done) | simpa [V] using h
  | .cint c k n, y, v, h => by
    cases y <;> simp only [mergeV] <;> try (simp [V]; done)
    all_goals (split <;> try (simp [V]; done))
    all_goals (simpa [V] using h)
  | .flt k n, y, v, h => by
    cases y <;> simp only [mergeV] <;> try (simp [V]; done)
    split
    · simpa [V] using h
    · simp [V]
  | .ptr i o, y, v, h => by
    cases y <;> simp only [mergeV] <;> try (simp [V]; done)
    split
    · simpa [V] using h
    · simp [V]
  | .slice i o l c, y, v, h => by
    cases y <;> simp only [mergeV] <;> try (simp [V]; done)
    split
    · simpa [V] using h
    · simp [V]
  | .lint k lo n, y, v, h => by
    cases y <;> simp only [mergeV] <;> try (simp [V]; done)
    all_goals (split <;> try (simp [V]; done))
    all_goals (unfold V at h ⊢; exact h.1)
  | .vptr i e k o, y, v, h => by cases y <;> simp [mergeV, V]
  | .vec i e a n, y, v, h => by
    cases y <;> simp only [mergeV] <;> try (simp [V]; done)
    split <;> try (simp [V]; done)
    split <;> try (simp [V]; done)
    exact h
  | .fn f xs ys, y, v, h => by
    cases y <;> simp only [mergeV] <;> try (simp [V]; done)
    rename_i f' xs' ys'
    split
    · rename_i hl
      simp only [Bool.and_eq_true] at hl
      unfold V at h ⊢
      obtain ⟨us, vs, h1, h2, h3⟩ := h
      exact ⟨us, vs, h1, mergeL_true xs xs' us (Nat.eq_of_beq_eq_true hl.1.2) h2, mergeL_true ys ys' vs (Nat.eq_of_beq_eq_true hl.2) h3⟩
    · simp [V]
  | .ifc t x, y, v, h => by
    cases y <;> simp only [mergeV] <;> try (simp [V]; done)
    split
    · unfold V at h ⊢
      obtain ⟨u, h1, h2⟩ := h
      exact ⟨u, h1, mergeV_true x _ u h2⟩
    · simp [V]
  | .raw u, y, v, h => by cases y <;> simp [mergeV, V]
  | .agg xs, y, v, h => by
    cases y <;> simp only [mergeV] <;> try (simp [V]; done)
    rename_i ys
    split
    · rename_i hl
      unfold V at h ⊢
      obtain ⟨vs, h1, h2⟩ := h
      exact ⟨vs, h1, mergeL_true xs ys vs (Nat.eq_of_beq_eq_true hl) h2⟩
    · simp [V]
  | .tuple xs, y, v, h => by
    cases y <;> simp only [mergeV] <;> try (simp [V]; done)
    rename_i ys
    split
    · rename_i hl
      unfold V at h ⊢
      obtain ⟨vs, h1, h2⟩ := h
      exact ⟨vs, h1, mergeL_true xs ys vs (Nat.eq_of_beq_eq_true hl) h2⟩
    · simp [V]
theorem mergeL_true {ρ : Rho} : ∀ (xs ys : List AVal) (vs : List Value), xs.length = ys.length → VL ρ xs vs → VL ρ (mergeV.mergeL true xs ys) vs
  | [], _, vs, _, h => by simpa [mergeV.mergeL] using h
  | x :: xs, [], vs, hl, _ => by simp at hl
  | x :: xs, y :: ys, vs, hl, h => by
    simp only [mergeV.mergeL]
    unfold VL at h ⊢
    obtain ⟨v, vs', h1, h2, h3⟩ := h
    exact ⟨v, vs', h1, mergeV_true x y v h2, mergeL_true xs ys vs' (by simpa using hl) h3⟩
end

mutual
theorem mergeV_false {ρ : Rho} : ∀ (x y : AVal) (v : Value), V ρ y v → V ρ (mergeV false x y) v
  | .bad, y, v, _ => by simp [mergeV, V]
  | .bool a, y, v, h => by cases y <;> simp_all [mergeV, V]
  | .sbool a, y, v, h => by cases y <;> simp_all [mergeV, V]
  | .int k n, y, v, h => by
    cases y <;> simp only [mergeV] <;> try (simp [V]; done)
    all_goals (split <;> try (simp [V]; done))
    all_goals (rename_i hk; have hk := of_decide_eq_true hk; subst hk)
    · split
      · rename_i he; have he := of_decide_eq_true he; subst he; simpa [V] using h
      · simpa [V] using h
    all_goals (first | (simpa [V] using h) | (unfold V at h ⊢; exact h.1))
  | .sint k n, y, v, h => by
    cases y <;> simp only [mergeV] <;> try (simp [V]; done)
    all_goals (split <;> try (simp [V]; done))
    all_goals (rename_i hk; have hk := of_decide_eq_true hk; subst hk; first | (simpa [V] using h) | (unfold V at h ⊢; exact h.1))
  | .cbool c a, y, v, h => by cases y <;> simp only [mergeV] <;> first | (simp [V]; done) | simpa [V] using h
  | .cint c k n, y, v, h => by
    cases y <;> simp only [mergeV] <;> try (simp [V]; done)
    all_goals (split <;> try (simp [V]; done))
    all_goals (rename_i hk; have hk := of_decide_eq_true hk; subst hk; first | (simpa [V] using h) | (unfold V at h ⊢; exact h.1))
  | .flt k n, y, v, h => by
    cases y <;> simp only [mergeV] <;> try (simp [V]; done)
    split
    · rename_i hk; have hk := of_decide_eq_true hk; subst hk; simpa [V] using h
    · simp [V]
  | .ptr i o, y, v, h => by
    cases y <;> simp only [mergeV] <;> try (simp [V]; done)
    split
    · rename_i hk
      simp only [Bool.and_eq_true] at hk
      have h1 := Nat.eq_of_beq_eq_true hk.1
      have h2 := Nat.eq_of_beq_eq_true hk.2
      subst h1; subst h2; exact h
    · simp [V]
  | .slice i o l c, y, v, h => by
    cases y <;> simp only [mergeV] <;> try (simp [V]; done)
    split
    · rename_i hk
      simp only [Bool.and_eq_true] at hk
      have h1 := Nat.eq_of_beq_eq_true hk.1.1.1
      have h2 := Nat.eq_of_beq_eq_true hk.1.1.2
      have h3 := Nat.eq_of_beq_eq_true hk.1.2
      have h4 := Nat.eq_of_beq_eq_true hk.2
      subst h1; subst h2; subst h3; subst h4; exact h
    · simp [V]
  | .lint k lo n, y, v, h => by
    cases y <;> simp only [mergeV] <;> try (simp [V]; done)
    all_goals (split <;> try (simp [V]; done))
    all_goals (rename_i hk; have hk := of_decide_eq_true hk; subst hk)
    all_goals (unfold V at h ⊢; first | exact h | exact h.1)
  | .vptr i e k o, y, v, h => by cases y <;> simp [mergeV, V]
  | .vec i e a n, y, v, h => by
    cases y <;> simp only [mergeV] <;> try (simp [V]; done)
    rename_i i' e' a' n'
    split <;> try (simp [V]; done)
    rename_i hk
    split <;> try (simp [V]; done)
    rename_i hn
    simp only [Bool.and_eq_true] at hk
    have h1 := Nat.eq_of_beq_eq_true hk.1
    have h2 := Nat.eq_of_beq_eq_true hk.2
    subst h1; subst h2
    unfold sameNum at hn
    split at hn
    · simp only [Bool.and_eq_true] at hn
      have h3 := Nat.eq_of_beq_eq_true hn.1
      have h4 := Nat.eq_of_beq_eq_true hn.2
      subst h3; subst h4; exact h
    · cases hn
  | .fn f xs ys, y, v, h => by
    cases y <;> simp only [mergeV] <;> try (simp [V]; done)
    rename_i f' xs' ys'
    split
    · rename_i hl
      simp only [Bool.and_eq_true] at hl
      have hf : f = f' := by
        have := hl.1.1
        unfold sameFn at this
        split at this
        · rw [Nat.eq_of_beq_eq_true this]
        · cases this
      subst hf
      unfold V at h ⊢
      obtain ⟨us, vs, h1, h2, h3⟩ := h
      exact ⟨us, vs, h1, mergeL_false xs xs' us (Nat.eq_of_beq_eq_true hl.1.2) h2, mergeL_false ys ys' vs (Nat.eq_of_beq_eq_true hl.2) h3⟩
    · simp [V]
  | .ifc t x, y, v, h => by
    cases y <;> simp only [mergeV] <;> try (simp [V]; done)
    split
    · rename_i ht
      have ht := Nat.eq_of_beq_eq_true ht
      subst ht
      unfold V at h ⊢
      obtain ⟨u, h1, h2⟩ := h
      exact ⟨u, h1, mergeV_false x _ u h2⟩
    · simp [V]
  | .raw u, y, v, h => by cases y <;> simp [mergeV, V]
  | .agg xs, y, v, h => by
    cases y <;> simp only [mergeV] <;> try (simp [V]; done)
    rename_i ys
    split
    · rename_i hl
      unfold V at h ⊢
      obtain ⟨vs, h1, h2⟩ := h
      exact ⟨vs, h1, mergeL_false xs ys vs (Nat.eq_of_beq_eq_true hl) h2⟩
    · simp [V]
  | .tuple xs, y, v, h => by
    cases y <;> simp only [mergeV] <;> try (simp [V]; done)
    rename_i ys
    split
    · rename_i hl
      unfold V at h ⊢
      obtain ⟨vs, h1, h2⟩ := h
      exact ⟨vs, h1, mergeL_false xs ys vs (Nat.eq_of_beq_eq_true hl) h2⟩
    · simp [V]
theorem mergeL_false {ρ : Rho} : ∀ (xs ys : List AVal) (vs : List Value), xs.length = ys.length → VL ρ ys vs → VL ρ (mergeV.mergeL false xs ys) vs
  | [], [], vs, _, h => by simpa [mergeV.mergeL] using h
  | [], y :: ys, vs, hl, _ => by simp at hl
  | x :: xs, [], vs, hl, _ => by simp at hl
  | x :: xs, y :: ys, vs, hl, h => by
    simp only [mergeV.mergeL]
    unfold VL at h ⊢
    obtain ⟨v, vs', h1, h2, h3⟩ := h
    exact ⟨v, vs', h1, mergeV_false x y v h2, mergeL_false xs ys vs' (by simpa using hl) h3⟩
end

theorem mergeV_sound {ρ : Rho} (b : Bool) (x y : AVal) (v : Value) (h : V ρ (if b then x else y) v) : V ρ (mergeV b x y) v := by
  cases b
  · exact mergeV_false x y v (by simpa using h)
  · exact mergeV_true x y v (by simpa using h)

end Go.Ab
