import Derived.Test.YtbkjjefjnkkgbaaSq1
namespace Go.Proofs.Ytbkjjefjnkkgbaa.sea
open Go Go.Proofs Go.RowKit Go.Shelf
open Go.Ab (Ints SlV inB)
attribute [local go_sem] Oper.semAt_some
set_option linter.unusedVariables false
variable {gd : Nat → Int}
theorem in42 (a lo hi : Int) (w : World) : Calls Try.prog 48 #[.int .i64 a, .int .i64 lo, .int .i64 hi] w fun e w' => e = .returned (.bool (inB a lo hi)) ∧ w = w' := by
  by_cases h : lo ≤ a
  · go_enter Try.func48, Try.ntmps48
    go_wp2
    go_ret
    exact ⟨by unfold inB; rw [decide_eq_true h]; rfl, rfl⟩
  · go_enter Try.func48, Try.ntmps48
    go_wp2
    go_ret
    exact ⟨by unfold inB; rw [decide_eq_false (by omega : ¬ lo ≤ a)]; rfl, rfl⟩
set_option maxRecDepth 100000 in
set_option maxHeartbeats 1000000 in
theorem bnd (hi : Int) (b off len cap n₀ : Nat) (hle : len ≤ 9223372036854775807) (w : World) (hE : Ints gd n₀ w b off len) :
    Calls Try.prog 59 #[.slice (some ⟨b, off, none⟩) len cap, .int .i64 hi] w fun e w' => e = .returned (.bool (Ab.allB len (fun k => inB (gd k) 0 hi))) ∧ w = w' := by
  go_enter Try.func59, Try.ntmps59
  go_wp2
  go_loop [5] (fun i => ∃ (k : Nat), k ≤ len ∧ i = .int .i64 (k : Int) ∧ (∀ j, j < k → inB (gd j) 0 hi = true))
    (fun i => len - (intOf i).toNat)
  case atStart => exact ⟨0, Nat.zero_le _, rfl, fun j h => absurd h (by omega)⟩
  case round =>
    obtain ⟨k, hk, rfl, hno⟩ := hrel
    by_cases hlt : k < len
    · have c0 := hE.2 k hlt
      cases hb : inB (gd k) 0 hi with
      | true =>
        go_wp2_with (go_at_call 48; refine (in42 (gd k) 0 hi w).mono ?_; rintro e w' ⟨rfl, rfl⟩)
        go_round
        case rel => exact ⟨k + 1, by omega, by go_num, fun j hj => by
          by_cases e : j = k
          · subst e; exact hb
          · exact hno j (by omega)⟩
        case measure => simp [intOf]; omega
      | false =>
        go_wp2_with (go_at_call 48; refine (in42 (gd k) 0 hi w).mono ?_; rintro e w' ⟨rfl, rfl⟩)
        go_ret
        exact ⟨by rw [allN_false (f := fun k => inB (gd k) 0 hi) hlt hb]; rfl, rfl⟩
    · obtain rfl : k = len := by omega
      go_wp2
      go_ret
      exact ⟨by rw [allN_true.2 hno]; rfl, rfl⟩
set_option maxRecDepth 100000 in
set_option maxHeartbeats 1000000 in
theorem bnd_nil (hi : Int) (a : Option Addr) (cap : Nat) (w : World) :
    Calls Try.prog 59 #[.slice a 0 cap, .int .i64 hi] w fun e w' => e = .returned (.bool true) ∧ w = w' := by
  go_enter Try.func59, Try.ntmps59
  go_wp2
  go_loop [5] (fun i => i = .int .i64 0) (fun i => 0)
  case atStart => exact rfl
  case round =>
    subst hrel
    go_wp2
    go_ret
    exact ⟨rfl, rfl⟩
theorem bnd_any (hi : Int) (len n₀ : Nat) (a : Option Addr) (cap : Nat) (hle : len ≤ 9223372036854775807) (w : World) (hE : SlV gd n₀ w (.slice a len cap) len) :
    Calls Try.prog 59 #[.slice a len cap, .int .i64 hi] w fun e w' => e = .returned (.bool (Ab.allB len (fun k => inB (gd k) 0 hi))) ∧ w = w' := by
  rcases hE with ⟨a', e, rfl⟩ | ⟨b, off, cap', e, hcap, hE⟩
  · exact bnd_nil hi a cap w
  · cases e
    exact bnd hi b off len cap n₀ hle w hE
section
open Go.Ab
/-- l07Bounded. -/
def bndK : Ctr := ⟨fun args S => match args with
  | [x, h] => match intsOf S x, i64Of h with
    | some (n, gd, b), some hi => some ⟨.sbool (allB n (fun k => inB (gd k) 0 hi)), [], [], [], b, none⟩
    | _, _ => none
  | _ => none, none⟩
theorem sat59 : Sat Try.prog 59 bndK := sat_by Try.call59 rfl (fun args S out hfn hnd => by
  simp only [bndK] at hfn
  split at hfn
  · rename_i x h
    split at hfn
    · rename_i n gd b hi hx hh
      cases hfn
      refine ⟨rfl, fun ρ w vs hM hv => ?_⟩
      unfold VL at hv
      obtain ⟨v, vs', rfl, h1, h2⟩ := hv
      unfold VL at h2
      obtain ⟨u, vs2, rfl, h3, h4⟩ := h2
      unfold VL at h4
      subst h4
      obtain ⟨hS, hn⟩ := intsOf_V hM hx hnd h1
      obtain ⟨a, c, rfl⟩ := hS.slice
      obtain rfl := i64Of_V hh h3
      refine (bnd_any hi n _ a c hn w hS).mono ?_
      rintro e w' ⟨rfl, rfl⟩
      exact ⟨_, rfl, by unfold V; rfl, Below.refl _ _⟩
    · cases hfn
  · cases hfn)
/-- areBetween. -/
def areK : Ctr := ⟨fun args S => match args with
  | [x, l, h] => match intsOf S x, i64Of l, i64Of h with
    | some (n, gd, b), some lo, some hi => some ⟨.sbool (allB n (fun k => inB (gd k) lo hi)), [], [], [], b, none⟩
    | _, _, _ => none
  | _ => none, none⟩
theorem sat44 : Sat Try.prog 44 areK := sat_by Try.call44 rfl (fun args S out hfn hnd => by
  simp only [areK] at hfn
  split at hfn
  · rename_i x l h
    split at hfn
    · rename_i n gd b lo hi hx hl hh
      cases hfn
      refine ⟨rfl, fun ρ w vs hM hv => ?_⟩
      unfold VL at hv
      obtain ⟨v, vs', rfl, h1, h2⟩ := hv
      unfold VL at h2
      obtain ⟨u, vs2, rfl, h3, h4⟩ := h2
      unfold VL at h4
      obtain ⟨u2, vs3, rfl, h5, h6⟩ := h4
      unfold VL at h6
      subst h6
      obtain ⟨hS, hn⟩ := intsOf_V hM hx hnd h1
      obtain ⟨a, c, rfl⟩ := hS.slice
      obtain rfl := i64Of_V hl h3
      obtain rfl := i64Of_V hh h5
      refine (areB lo hi n a c hn w hS).mono ?_
      rintro e w' ⟨rfl, hb⟩
      exact ⟨_, rfl, by unfold V; rfl, hb⟩
    · cases hfn
  · cases hfn)
end
end Go.Proofs.Ytbkjjefjnkkgbaa.sea
