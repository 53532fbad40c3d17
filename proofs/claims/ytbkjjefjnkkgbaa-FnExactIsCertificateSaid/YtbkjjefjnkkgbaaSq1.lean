import Derived.Test.YtbkjjefjnkkgbaaAbIn
import Derived.Test.YtbkjjefjnkkgbaaProg
import Derived.RangeFuncNested
import Derived.RangeFuncBound
import Derived.RangeFuncCalls
import Derived.RangeFuncLeaves
import Derived.Shelf.Abstract
import Derived.WalkKit
import Derived.OwnWalkIn
import Derived.TacticsInMore
import Derived.LoopNIn
import Derived.LoopIn
namespace Go.Proofs.Ytbkjjefjnkkgbaa.sea
open Go Go.Proofs Go.RowKit Go.Shelf
attribute [local go_sem] Oper.semAt_some
set_option linter.unusedVariables false
variable {gd : Nat → Int}
open Go.Ab (Ints SlV inB)
theorem allN_true {n : Nat} {f : Nat → Bool} : Ab.allB n f = true ↔ ∀ k, k < n → f k = true := by
  induction n with
  | zero => exact ⟨fun _ k hk => absurd hk (by omega), fun _ => rfl⟩
  | succ n ih =>
    unfold Ab.allB
    constructor
    · intro h k hk
      cases h1 : Ab.allB n f with
      | false => rw [h1] at h; cases h
      | true =>
        rw [h1] at h
        by_cases e : k = n
        · subst e; exact h
        · exact ih.1 h1 k (by omega)
    · intro h
      rw [ih.2 (fun k hk => h k (by omega))]
      exact h n (by omega)
theorem allN_false {n : Nat} {f : Nat → Bool} {k : Nat} (hk : k < n) (hf : f k = false) : Ab.allB n f = false := by
  cases h : Ab.allB n f with
  | false => rfl
  | true => rw [allN_true.1 h k hk] at hf; cases hf
theorem btw_any (a lo hi : Int) (w : World) : Calls Try.prog 45 #[.int .i64 a, .int .i64 lo, .int .i64 hi] w fun e w' => e = .returned (.bool (inB a lo hi)) ∧ w = w' := by
  by_cases h : lo ≤ a
  · go_enter Try.func45, Try.ntmps45
    go_wp2
    go_ret
    exact ⟨by unfold inB; rw [decide_eq_true h]; rfl, rfl⟩
  · go_enter Try.func45, Try.ntmps45
    go_wp2
    go_ret
    exact ⟨by unfold inB; rw [decide_eq_false (by omega : ¬ lo ≤ a)]; rfl, rfl⟩
theorem in58 (a lo hi : Int) (b1 b2 : Nat) (w : World) (h1 : w.cell? ⟨b1, 0, none⟩ = some (.int .i64 lo)) (h2 : w.cell? ⟨b2, 0, none⟩ = some (.int .i64 hi)) :
    Calls Try.prog 67 #[.int .i64 a, .pointer (some ⟨b1, 0, none⟩), .pointer (some ⟨b2, 0, none⟩)] w fun e w' => e = .returned (.bool (inB a lo hi)) ∧ w = w' := by
  go_enter Try.func67, Try.ntmps67
  go_wp2_with (go_at_call 45; refine (btw_any _ _ _ _).mono ?_; rintro e w' ⟨rfl, rfl⟩)
  go_ret
  exact ⟨rfl, rfl⟩
/-- The value of a closure of 58. -/
abbrev clo58 (b1 b2 : Nat) : Value := .func (.func 67) #[] #[.pointer (some ⟨b1, 0, none⟩), .pointer (some ⟨b2, 0, none⟩)]
theorem in67 (a lo hi : Int) (b1 b2 b3 : Nat) (w : World) (h1 : w.cell? ⟨b1, 0, none⟩ = some (.int .i64 lo)) (h2 : w.cell? ⟨b2, 0, none⟩ = some (.int .i64 hi)) (h3 : w.cell? ⟨b3, 0, none⟩ = some (clo58 b1 b2)) :
    Calls Try.prog 78 #[.int .i64 a, .pointer (some ⟨b3, 0, none⟩)] w fun e w' => e = .returned (.bool (!inB a lo hi)) ∧ w = w' := by
  go_enter Try.func78, Try.ntmps78
  go_wp2_with (go_at_call 67; refine (in58 _ _ _ _ _ _ h1 h2).mono ?_; rintro e w' ⟨rfl, rfl⟩)
  go_ret
  exact ⟨rfl, rfl⟩
/-- The index that 70 tells. -/
def firstN (f : Nat → Bool) : Nat → Int
  | 0 => -1
  | n + 1 => cond (Ab.allB n f) (cond (f n) (-1) (n : Int)) (firstN f n)
theorem firstN_neg {f : Nat → Bool} : ∀ {n : Nat}, decide (0 ≤ firstN f n) = !Ab.allB n f
  | 0 => rfl
  | n + 1 => by
    have ih := firstN_neg (f := f) (n := n)
    show decide (0 ≤ cond (Ab.allB n f) (cond (f n) (-1) (n : Int)) (firstN f n)) = !cond (Ab.allB n f) (f n) false
    cases h : Ab.allB n f with
    | true =>
      cases h2 : f n with
      | true => rfl
      | false => show decide (0 ≤ (n : Int)) = true; exact decide_eq_true (by omega)
    | false => rw [h] at ih; exact ih
theorem firstN_all {f : Nat → Bool} {n : Nat} (h : ∀ k, k < n → f k = true) : firstN f n = -1 := by
  cases n with
  | zero => rfl
  | succ n =>
    unfold firstN
    rw [allN_true.2 (fun k hk => h k (by omega)), h n (by omega)]; rfl
theorem firstN_at {f : Nat → Bool} {j : Nat} (hj : f j = false) (hk : ∀ k, k < j → f k = true) : ∀ {n : Nat}, j < n → firstN f n = j
  | 0, h => absurd h (by omega)
  | n + 1, h => by
    unfold firstN
    by_cases e : j = n
    · subst e
      rw [allN_true.2 hk, hj]; rfl
    · rw [allN_false (by omega) hj]
      exact firstN_at hj hk (by omega)
set_option maxRecDepth 100000 in
set_option maxHeartbeats 1000000 in
theorem in70 (lo hi : Int) (b1 b2 b3 b off len cap n₀ : Nat) (hle : len ≤ 9223372036854775807) (w : World) (h1 : w.cell? ⟨b1, 0, none⟩ = some (.int .i64 lo)) (h2 : w.cell? ⟨b2, 0, none⟩ = some (.int .i64 hi)) (h3 : w.cell? ⟨b3, 0, none⟩ = some (clo58 b1 b2)) (hE : Ints gd n₀ w b off len) :
    Calls Try.prog 83 #[.slice (some ⟨b, off, none⟩) len cap, .func (.func 78) #[] #[.pointer (some ⟨b3, 0, none⟩)]] w fun e w' => e = .returned (.int .i64 (firstN (fun k => inB (gd k) lo hi) len)) ∧ w = w' := by
  go_enter Try.func83, Try.ntmps83
  go_wp2
  go_loop [8] (fun i => ∃ (k : Nat), k ≤ len ∧ i = .int .i64 (k : Int) ∧ (∀ j, j < k → inB (gd j) lo hi = true))
    (fun i => len - (intOf i).toNat)
  case atStart => exact ⟨0, Nat.zero_le _, rfl, fun j h => absurd h (by omega)⟩
  case round =>
    obtain ⟨k, hk, rfl, hno⟩ := hrel
    by_cases hlt : k < len
    · have c0 := hE.2 k hlt
      cases hb : inB (gd k) lo hi with
      | true =>
        go_wp2_with (go_at_call 78; refine (in67 (gd k) lo hi b1 b2 b3 w h1 h2 h3).mono ?_; rintro e w' ⟨rfl, rfl⟩)
        go_round
        case rel => exact ⟨k + 1, by omega, by go_num, fun j hj => by
          by_cases e : j = k
          · subst e; exact hb
          · exact hno j (by omega)⟩
        case measure => simp [intOf]; omega
      | false =>
        go_wp2_with (go_at_call 78; refine (in67 (gd k) lo hi b1 b2 b3 w h1 h2 h3).mono ?_; rintro e w' ⟨rfl, rfl⟩)
        go_ret
        exact ⟨by rw [firstN_at (f := fun k => inB (gd k) lo hi) hb hno hlt]; rfl, rfl⟩
    · obtain rfl : k = len := by omega
      go_wp2
      go_ret
      exact ⟨by rw [firstN_all (f := fun k => inB (gd k) lo hi) hno]; rfl, rfl⟩
set_option maxRecDepth 100000 in
set_option maxHeartbeats 1000000 in
theorem in70_nil (a : Option Addr) (cap : Nat) (fv : Value) (w : World) :
    Calls Try.prog 83 #[.slice a 0 cap, fv] w fun e w' => e = .returned (.int .i64 (-1)) ∧ w = w' := by
  go_enter Try.func83, Try.ntmps83
  go_wp2
  go_loop [8] (fun i => i = .int .i64 0) (fun i => 0)
  case atStart => exact rfl
  case round =>
    subst hrel
    go_wp2
    go_ret
    exact ⟨rfl, rfl⟩
theorem in70_any (lo hi : Int) (b1 b2 b3 len n₀ : Nat) (a : Option Addr) (cap : Nat) (hle : len ≤ 9223372036854775807) (w : World) (h1 : w.cell? ⟨b1, 0, none⟩ = some (.int .i64 lo)) (h2 : w.cell? ⟨b2, 0, none⟩ = some (.int .i64 hi)) (h3 : w.cell? ⟨b3, 0, none⟩ = some (clo58 b1 b2)) (hE : SlV gd n₀ w (.slice a len cap) len) :
    Calls Try.prog 83 #[.slice a len cap, .func (.func 78) #[] #[.pointer (some ⟨b3, 0, none⟩)]] w fun e w' => e = .returned (.int .i64 (firstN (fun k => inB (gd k) lo hi) len)) ∧ w = w' := by
  rcases hE with ⟨a', e, rfl⟩ | ⟨b, off, cap', e, hcap, hE⟩
  · exact in70_nil a cap _ w
  · cases e
    exact in70 lo hi b1 b2 b3 b off len cap n₀ hle w h1 h2 h3 hE
theorem in66 (lo hi : Int) (b1 b2 b3 len n₀ : Nat) (a : Option Addr) (cap : Nat) (hle : len ≤ 9223372036854775807) (w : World) (h1 : w.cell? ⟨b1, 0, none⟩ = some (.int .i64 lo)) (h2 : w.cell? ⟨b2, 0, none⟩ = some (.int .i64 hi)) (h3 : w.cell? ⟨b3, 0, none⟩ = some (clo58 b1 b2)) (hE : SlV gd n₀ w (.slice a len cap) len) :
    Calls Try.prog 77 #[.slice a len cap, .func (.func 78) #[] #[.pointer (some ⟨b3, 0, none⟩)]] w fun e w' => e = .returned (.bool (!Ab.allB len (fun k => inB (gd k) lo hi))) ∧ w = w' := by
  go_enter Try.func77, Try.ntmps77
  go_wp2_with (go_at_call 83; refine (in70_any lo hi b1 b2 b3 len n₀ a cap hle w h1 h2 h3 hE).mono ?_; rintro e w' ⟨rfl, rfl⟩)
  go_ret
  exact ⟨by rw [← firstN_neg]; rfl, rfl⟩
theorem in57 (lo hi : Int) (b1 b2 len : Nat) (a : Option Addr) (cap : Nat) (hle : len ≤ 9223372036854775807) (w : World) (h1 : w.cell? ⟨b1, 0, none⟩ = some (.int .i64 lo)) (h2 : w.cell? ⟨b2, 0, none⟩ = some (.int .i64 hi)) (hb1 : b1 < w.heap.size) (hb2 : b2 < w.heap.size) (hE : SlV gd w.heap.size w (.slice a len cap) len) :
    Calls Try.prog 66 #[.slice a len cap, clo58 b1 b2] w fun e w' => e = .returned (.bool (Ab.allB len (fun k => inB (gd k) lo hi))) ∧ Below w.heap.size w w' := by
  have hB : Below w.heap.size w (w.alloc (.cells #[clo58 b1 b2] 60)) := (Below.refl _ w).alloc (Nat.le_refl _) _
  have bN := Boxed.new w 60 (clo58 b1 b2)
  have k1 := (hB.cell (p := ⟨b1, 0, none⟩) hb1).trans h1
  have k2 := (hB.cell (p := ⟨b2, 0, none⟩) hb2).trans h2
  have hE' := hE.below hB
  go_enter Try.func66, Try.ntmps66
  go_wp2_with (go_at_call 77; refine (in66 lo hi b1 b2 w.heap.size len w.heap.size a cap hle _ k1 k2 bN.cell hE').mono ?_; rintro e w' ⟨rfl, rfl⟩)
  go_ret
  exact ⟨by simp, hB⟩
theorem areB (lo hi : Int) (len : Nat) (a : Option Addr) (cap : Nat) (hle : len ≤ 9223372036854775807) (w : World) (hE : SlV gd w.heap.size w (.slice a len cap) len) :
    Calls Try.prog 44 #[.slice a len cap, .int .i64 lo, .int .i64 hi] w fun e w' => e = .returned (.bool (Ab.allB len (fun k => inB (gd k) lo hi))) ∧ Below w.heap.size w w' := by
  have hB : Below w.heap.size w ((w.alloc (.cells #[.int .i64 lo] 2)).alloc (.cells #[.int .i64 hi] 2)) := ((Below.refl _ w).alloc (Nat.le_refl _) _).alloc (by simp) _
  have b1 := (Boxed.new w 2 (.int .i64 lo)).alloc (.cells #[.int .i64 hi] 2)
  have b2 := Boxed.new (w.alloc (.cells #[.int .i64 lo] 2)) 2 (.int .i64 hi)
  simp only [World.size_alloc] at b2
  have hE' := (hE.below hB).wider (n₁ := ((w.alloc (.cells #[.int .i64 lo] 2)).alloc (.cells #[.int .i64 hi] 2)).heap.size) (by simp <;> omega)
  go_enter Try.func44, Try.ntmps44
  go_wp2_with (go_at_call 66; refine (in57 lo hi w.heap.size (w.heap.size + 1) len a cap hle _ b1.cell b2.cell (by simp <;> omega) (by simp <;> omega) hE').mono ?_; rintro e w' ⟨rfl, hb⟩)
  go_ret
  exact ⟨rfl, hB.trans (hb.mono (by simp <;> omega))⟩
end Go.Proofs.Ytbkjjefjnkkgbaa.sea
