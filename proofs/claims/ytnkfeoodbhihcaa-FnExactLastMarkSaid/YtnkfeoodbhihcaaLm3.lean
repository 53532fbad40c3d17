import Derived.Test.YtnkfeoodbhihcaaLm2
namespace Go.Proofs.Ytnkfeoodbhihcaa.lm
open Go Go.Proofs Go.RowKit Go.Shelf
set_option linter.unusedVariables false
section
variable (gd : Nat → Nat → Int) (bd : Nat → Nat → Bool)
set_option maxHeartbeats 1000000 in
theorem spec_long (a : Option Addr) (len cap : Nat) (hle : (150 : Int) < len) (w : World) :
    Calls Try.prog 12 #[.slice a len cap] w fun e W' => e = .returned (.tuple #[.int .i64 0, .int .i64 2]) ∧ Below w.heap.size w W' := by
  go_enter Try.func12, Try.ntmps12
  go_wp2
  go_ret2
  exact ⟨rfl, Below.refl _ _⟩
set_option maxRecDepth 100000 in
set_option maxHeartbeats 2000000 in
theorem spec_in (b off len cap n₀ : Nat) (hle : ¬ (150 : Int) < len) (w : World) (hE : Ents gd bd n₀ w b off len) :
    Calls Try.prog 12 #[.slice (some ⟨b, off, none⟩) len cap] w fun e W' => e = .returned (.tuple #[.int .i64 (li (fun k => bd k 0) len), .int .i64 (lc (fun k => bd k 0) len)]) ∧ Below w.heap.size w W' := by
  go_enter Try.func12, Try.ntmps12
  go_wp2
  go_loopw [4] (fun i wr => ∃ (k : Nat) (i0 : Int), k ≤ len ∧ i = .int .i64 i0 ∧ i0 = (len : Int) - 1 - k ∧ (∀ j, len - k ≤ j → j < len → bd j 0 = false) ∧ wr = w)
    (fun i _ => (intOf i + 1).toNat)
  case atStart => exact ⟨0, _, Nat.zero_le _, rfl, by omega, fun j h1 h2 => absurd h2 (by omega), rfl⟩
  case round =>
    obtain ⟨k, i0, hk, rfl, hi0, hno, rfl⟩ := hrel
    by_cases hlt : k < len
    · obtain ⟨x, hxk⟩ : ∃ x : Nat, x + k + 1 = len := ⟨len - 1 - k, by omega⟩
      obtain rfl : i0 = (x : Int) := by omega
      obtain ⟨c0, _⟩ := hE.2 x (by omega)
      have hxl : x < len := by omega
      have hno' : ∀ j, x < j → j < len → bd j 0 = false := fun j h1 h2 => hno j (by omega) h2
      clear hi0
      go_wp2
      · have hx : bd x 0 = true := by assumption
        go_ret2
        obtain ⟨q1, q2⟩ := li_at (f := fun k => bd k 0) (n := len) (k := x) hx (by omega) hno'
        exact ⟨by rw [q1, q2]; rfl, Below.refl _ _⟩
      · have hx : bd x 0 = false := by assumption
        go_roundw
        case rel => exact ⟨k + 1, (x : Int) - 1, by omega, rfl, by omega, fun j h1 h2 => (Nat.lt_or_ge x j).elim (fun h => hno' j h h2) (fun h => by have e : j = x := (by omega); rw [e]; exact hx), trivial⟩
        case measure => simp [intOf]
    · obtain rfl : i0 = -1 := by omega
      obtain rfl : k = len := by omega
      go_wp2
      go_ret2
      obtain ⟨q1, q2⟩ := li_none (f := fun j => bd j 0) (n := k) (fun j hj => hno j (by omega) hj)
      exact ⟨by rw [q1, q2]; rfl, Below.refl _ _⟩
set_option maxRecDepth 100000 in
set_option maxHeartbeats 2000000 in
theorem spec_nil (a : Option Addr) (cap : Nat) (w : World) :
    Calls Try.prog 12 #[.slice a 0 cap] w fun e W' => e = .returned (.tuple #[.int .i64 0, .int .i64 6]) ∧ Below w.heap.size w W' := by
  go_enter Try.func12, Try.ntmps12
  go_wp2
  go_loopw [4] (fun i wr => i = .int .i64 (-1) ∧ wr = w) (fun _ _ => 0)
  case atStart => exact ⟨rfl, rfl⟩
  case round =>
    obtain ⟨rfl, rfl⟩ := hrel
    go_wp2
    go_ret2
    exact ⟨rfl, Below.refl _ _⟩
theorem spec_any (a : Option Addr) (len cap n₀ : Nat) (w : World) (hI : EntsV gd bd n₀ w (.slice a len cap) len) :
    Calls Try.prog 12 #[.slice a len cap] w fun e W' => e = .returned (.tuple #[.int .i64 (cond (decide ((150 : Int) < len)) 0 (li (fun k => bd k 0) len)), .int .i64 (cond (decide ((150 : Int) < len)) 2 (lc (fun k => bd k 0) len))]) ∧ Below w.heap.size w W' := by
  by_cases h : (150 : Int) < len
  · rw [decide_eq_true h]
    exact spec_long a len cap h w
  · rw [decide_eq_false h]
    rcases hI with ⟨a', c, e, rfl⟩ | ⟨b, off, cap', e, hE⟩
    · cases e
      exact spec_nil _ _ w
    · cases e
      exact spec_in gd bd b off len cap n₀ h w hE
end
end Go.Proofs.Ytnkfeoodbhihcaa.lm
