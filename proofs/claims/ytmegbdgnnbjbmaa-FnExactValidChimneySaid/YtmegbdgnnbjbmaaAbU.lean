import Derived.Test.YtmegbdgnnbjbmaaAbT
namespace Go.Ab
open Go Go.RowKit
set_option linter.unusedVariables false
/-! ### Rows that are compared -/
def allB : Nat → (Nat → Bool) → Bool
  | 0, _ => true
  | n + 1, p => cond (allB n p) (p n) false

theorem allB_true {p : Nat → Bool} : ∀ {n : Nat}, allB n p = true → ∀ j, j < n → p j = true
  | 0, _, j, h => by omega
  | n + 1, h, j, hj => by
    obtain ⟨h1, h2⟩ := cond_and h
    by_cases e : j = n
    · subst e; exact h2
    · exact allB_true h1 j (by omega)

theorem allB_false {p : Nat → Bool} : ∀ {n : Nat}, allB n p = false → ∃ j, j < n ∧ p j = false ∧ ∀ k, k < j → p k = true
  | 0, h => by cases h
  | n + 1, h => by
    cases h1 : allB n p with
    | false =>
      obtain ⟨j, a, b, c⟩ := allB_false h1
      exact ⟨j, by omega, b, c⟩
    | true =>
      refine ⟨n, by omega, ?_, allB_true h1⟩
      unfold allB at h
      rw [h1] at h
      exact h

theorem allB_all {p : Nat → Bool} : ∀ {n : Nat}, (∀ j, j < n → p j = true) → allB n p = true
  | 0, _ => rfl
  | n + 1, h => by
    unfold allB
    rw [allB_all (fun j hj => h j (by omega)), h n (by omega)]; rfl

abbrev ElQ := (Nat → Nat) → (Nat → Int) → (Nat → Nat) → (Nat → Int) → Bool

noncomputable def elAt (el : ElQ) (v v' : Vc) (a a' j : Nat) : Bool := el (v.fd (Nat.add a j)) (v.gd (Nat.add a j)) (v'.fd (Nat.add a' j)) (v'.gd (Nat.add a' j))
/-- Two rows alike. -/
noncomputable def eqRows (el : ElQ) (v v' : Vc) (a a' n n' : Nat) : Bool := cond (Int.ofNat n != Int.ofNat n') false (allB n (fun j => elAt el v v' a a' j))

theorem eqRows_self {el : ElQ} (h : ∀ f g, el f g f g = true) (v v' : Vc) (a a' n : Nat) (hv : ∀ j, j < n → v.fd (Nat.add a j) = v'.fd (Nat.add a' j) ∧ v.gd (Nat.add a j) = v'.gd (Nat.add a' j)) : eqRows el v v' a a' n n = true := by
  unfold eqRows
  have : (Int.ofNat n != Int.ofNat n) = false := by simp
  rw [this]
  refine allB_all (fun j hj => ?_)
  obtain ⟨h1, h2⟩ := hv j hj
  unfold elAt
  rw [h1, h2]; exact h _ _

/-- The contract of a comparison. -/
noncomputable def eqC (sh : List CK) (el : ElQ) : Ctr := ⟨fun args S => match args with
  | [.vec i e a n, .vec i' e' a' n'] => match S.vec i, S.vec i' with
    | some v, some v' => match Nat.beq e (lenL sh) && (Nat.beq e' (lenL sh) && (eqSh sh v.sh && eqSh sh v'.sh)) with
      | true => some ⟨.sbool (eqRows el v v' a a' n.val n'.val), [], [], [], Nat.ble n.val 140737488355328 && (Nat.ble (Nat.add a n.val) v.n.val && Nat.ble (Nat.add a' n'.val) v'.n.val), none⟩
      | false => none
    | _, _ => none
  | _ => none, none⟩

section
variable {P : Program}
theorem onRows_sym2 {f : FuncId} {i e a i' e' a' : Nat} {n n' : Num} {vcs : List Vc} {out : Out} (h : OnRows P f [⟨i, e, a, .sym n.val⟩, ⟨i', e', a', .sym n'.val⟩] [] vcs out) : OnRows P f [⟨i, e, a, n⟩, ⟨i', e', a', n'⟩] [] vcs out := by
  intro M w0 ρ w vs hM hv
  refine h M w0 ρ w vs hM ?_
  have hv : VL ρ [.vec 0 e a n, .vec 1 e' a' n'] vs := hv
  show VL ρ [.vec 0 e a (.sym n.val), .vec 1 e' a' (.sym n'.val)] vs
  unfold VL at hv ⊢
  obtain ⟨x, vs', rfl, h1, h2⟩ := hv
  unfold VL at h2 ⊢
  obtain ⟨y, vs', rfl, h2, h3⟩ := h2
  refine ⟨x, _, rfl, ?_, y, vs', rfl, ?_, h3⟩
  · unfold V at h1 ⊢
    obtain ⟨_, k2, base, c, k3, k4⟩ := h1
    exact ⟨trivial, k2, base, c, k3, k4⟩
  · unfold V at h2 ⊢
    obtain ⟨_, k2, base, c, k3, k4⟩ := h2
    exact ⟨trivial, k2, base, c, k3, k4⟩

/-- A function that compares. -/
theorem sat_eq {f : FuncId} {sh : List CK} {el : ElQ} (hcall : ∀ (args : Array Value) (w : World), (callFunc f args).run P w = .ok (.enter f args) w)
    (h : ∀ (i i' a a' n n' : Nat) (v v' : Vc), v.sh = sh → v'.sh = sh → a + n ≤ v.n.val → a' + n' ≤ v'.n.val → n ≤ 140737488355328 → OnRows P f [⟨i, lenL sh, a, .sym n⟩, ⟨i', lenL sh, a', .sym n'⟩] [] [v, v'] ⟨.sbool (eqRows el v v' a a' n n'), [], [], [], true, none⟩) : Sat P f (eqC sh el) :=
  sat_rd hcall rfl (fun args S out hfn hnd hv => by
    simp only [eqC] at hfn
    split at hfn
    · rename_i i e a n i' e' a' n'
      split at hfn
      · rename_i v v' hvec hvec'
        split at hfn
        · rename_i hb
          cases hfn
          simp only [Bool.and_eq_true] at hb hnd
          obtain ⟨b1, b2, b3, b4⟩ := hb
          have he := Nat.eq_of_beq_eq_true b1
          have he' := Nat.eq_of_beq_eq_true b2
          have hs := (eqSh_eq b3).symm
          have hs' := (eqSh_eq b4).symm
          obtain ⟨h1, h2, h3⟩ := hnd
          have n1 := Nat.le_of_ble_eq_true h1
          have n2 := Nat.le_of_ble_eq_true h2
          have n3 := Nat.le_of_ble_eq_true h3
          simp only [Nat.add_eq] at n1 n2 n3
          subst he
          subst he'
          have hand : (Nat.ble n.val 140737488355328 && (Nat.ble (Nat.add a n.val) v.n.val && Nat.ble (Nat.add a' n'.val) v'.n.val)) = true := by
            simp only [Bool.and_eq_true]
            exact ⟨h1, h2, h3⟩
          rw [hand]
          exact ⟨[⟨i, lenL sh, a, n⟩, ⟨i', lenL sh, a', n'⟩], [], [v, v'], .sbool (eqRows el v v' a a' n.val n'.val), rfl, rfl, by simp [rowsAt, hvec, hvec'], onRows_sym2 (h i i' a a' n.val n'.val v v' hs hs' n2 n3 n1), rfl, rfl, fun ρ u hu => hu⟩
        · cases hfn
      · cases hfn
    · cases hfn)
end
end Go.Ab
