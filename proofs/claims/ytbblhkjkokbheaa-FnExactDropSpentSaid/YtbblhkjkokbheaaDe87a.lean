import Derived.Test.YtbblhkjkokbheaaAbMv
import Derived.Test.YtbblhkjkokbheaaAbKp
import Derived.Test.YtbblhkjkokbheaaGf


import Derived.Test.YtbblhkjkokbheaaGd
import Derived.Test.YtbblhkjkokbheaaProg
namespace Go.Proofs.Ytbblhkjkokbheaa.ab
open Go Go.Ab Go.Proofs Go.RowKit
set_option linter.unusedVariables false
set_option linter.unusedSimpArgs false
set_option maxRecDepth 100000
theorem mixed87 : Try.prog.follows .mixedOrders = true := by kernel_rfl
noncomputable def D0 : List (Nat × Ctr) := []
theorem d0 : Ab.Good Try.prog D0 := good_nil _
noncomputable def D1 : List (Nat × Ctr) := (67, inl Try.prog D0 100 Try.f67) :: D0
theorem d1 : Ab.Good Try.prog D1 := good_cons (inl_sat d0 mixed87 Try.func67 Try.call67 100) d0
/-- A log is spent: the sum of its fuel is small. -/
noncomputable def spI : List Nat → Bool
  | [x0, x1, x2, x3, x4, x5, x6, x7, x8, x9, x10, x11, f0, f1, f2, f3, f4, f5] => fltB .f32 (fop .add .f32 (fop .add .f32 (fop .add .f32 (fop .add .f32 (fop .add .f32 f0 f1) f2) f3) f4) f5) 1015021568
  | _ => false
theorem spO_ex : ∃ f, f = spI := ⟨_, rfl⟩
noncomputable def spO : List Nat → Bool := Classical.choose spO_ex
theorem spO_eq : spO = spI := Classical.choose_spec spO_ex
theorem sat88 : Sat Try.prog 88 (ctrW fun ns => .sbool (spO ns)) :=
  satW (g := fun ns => .sbool (spO ns)) d1 mixed87 Try.func88 Try.call88 100 (fun ns => .sbool (spI ns)) (fun ns hl => by obtain ⟨a0, a1, a2, a3, a4, a5, b0, b1, b2, b3, b4, b5, c0, c1, c2, c3, c4, c5, rfl⟩ := len18 hl; kernel_rfl) (fun ns _ ρ u h => by show V ρ (.sbool (spO ns)) u; rw [spO_eq]; exact h)
noncomputable def D2 : List (Nat × Ctr) := (88, ctrW fun ns => .sbool (spO ns)) :: D0
theorem d2 : Ab.Good Try.prog D2 := good_cons sat88 d0
/-- The first of so many; -1 if none is. -/
def ffst (b : Nat → Bool) : Nat → Int
  | 0 => -1
  | n + 1 => cond (decide (0 ≤ ffst b n)) (ffst b n) (cond (b n) (Int.ofNat n) (-1))
theorem ffst_none {b : Nat → Bool} : ∀ {n : Nat}, (∀ j, j < n → b j = false) → ffst b n = -1
  | 0, _ => rfl
  | n + 1, h => by
    have ih := ffst_none (n := n) (fun j hj => h j (by omega))
    unfold ffst
    rw [ih, h n (by omega)]; rfl
theorem ffst_some {b : Nat → Bool} {k : Nat} (hk : b k = true) (h : ∀ j, j < k → b j = false) : ∀ {n : Nat}, k < n → ffst b n = Int.ofNat k
  | 0, hn => absurd hn (Nat.not_lt_zero _)
  | n + 1, hn => by
    unfold ffst
    by_cases e : k = n
    · subst e
      rw [ffst_none h, hk]; rfl
    · rw [ffst_some hk h (n := n) (by omega)]
      have : decide ((0 : Int) ≤ Int.ofNat k) = true := decide_eq_true (by show (0 : Int) ≤ (k : Int); omega)
      rw [this]; rfl
theorem first_ex {b : Nat → Bool} : ∀ n, (∀ j, j < n → b j = false) ∨ ∃ k, k < n ∧ b k = true ∧ ∀ j, j < k → b j = false
  | 0 => Or.inl (fun j h => absurd h (Nat.not_lt_zero _))
  | n + 1 => by
    rcases first_ex (b := b) n with h | ⟨k, h1, h2, h3⟩
    · cases hb : b n with
      | true => exact Or.inr ⟨n, by omega, hb, h⟩
      | false => exact Or.inl (fun j hj => by
          by_cases e : j = n
          · subst e; exact hb
          · exact h j (by omega))
    · exact Or.inr ⟨k, by omega, h2, h3⟩
end Go.Proofs.Ytbblhkjkokbheaa.ab
