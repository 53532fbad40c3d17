import Derived.Test.YtbkjjefjnkkgbaaTk6
namespace Go.Proofs.Ytbkjjefjnkkgbaa.sea
open Go Go.Ab Go.Proofs Go.RowKit Go.Shelf
attribute [local go_sem] Oper.semAt_some
set_option linter.unusedVariables false
section
variable {s : Sea} {w : World} {T : Tab}
def allR (gd : Nat → Int) (n : Nat) (lo hi : Int) : Bool := Ab.allB n (fun k => inB (gd k) lo hi)
def rowQ (s : Sea) (T : Tab) (k : Nat) : Bool := cond (decide ((T.w k : Int) = s.g 2 + 1)) (allR (T.e k) (T.w k) (-1) 9223372036854775807) false
theorem are44 (lo hi : Int) {gd : Nat → Int} (len : Nat) (a : Option Addr) (cap : Nat) (hle : len ≤ 9223372036854775807) (w : World) (hE : SlV gd w.heap.size w (.slice a len cap) len) :
    Calls Try.prog 44 #[.slice a len cap, .int .i64 lo, .int .i64 hi] w fun e w' => e = .returned (.bool (allR gd len lo hi)) ∧ Below w.heap.size w w' := areB lo hi len a cap hle w hE
set_option maxHeartbeats 1000000 in
theorem row81 (o : s.Ok) (Bs : Nat) (h4 : w.cell? ⟨Bs, 4, none⟩ = some (.int .i64 (s.g 2))) (k : Nat) (hle : T.w k ≤ 9223372036854775807) (a : Option Addr) (c : Nat) (hE : SlV (T.e k) w.heap.size w (.slice a (T.w k) c) (T.w k)) :
    Calls Try.prog 81 #[.slice a (T.w k) c, .pointer (some ⟨Bs, 0, none⟩)] w fun e w' => e = .returned (.bool (rowQ s T k)) ∧ Below w.heap.size w w' := by
  have hst := o.store
  by_cases h : (T.w k : Int) = s.g 2 + 1
  · have h2 : ((T.w k : Int) == s.g 2 + 1) = true := beq_iff_eq.2 h
    have HR : Hid (rowQ s T k = allR (T.e k) (T.w k) (-1) 9223372036854775807) := by show _ = _; unfold rowQ; rw [decide_eq_true h]; rfl
    obtain ⟨A, hA⟩ : ∃ A, Hid (A = allR (T.e k) (T.w k) (-1) 9223372036854775807) := ⟨_, rfl⟩
    clear h
    go_enter Try.func81, Try.ntmps81
    go_wp2_with (go_at_call 44; refine (are44 _ _ _ _ _ hle _ hE).mono ?_; rintro e w1 ⟨rfl, hb⟩; rw [← hA.out])
    go_ret
    rw [HR.out, ← hA.out]
    exact ⟨rfl, hb⟩
  · have h2 : ((T.w k : Int) == s.g 2 + 1) = false := beq_eq_false_iff_ne.2 h
    have HR : Hid (rowQ s T k = false) := by show _ = _; unfold rowQ; rw [decide_eq_false h]; rfl
    go_enter Try.func81, Try.ntmps81
    go_wp2
    go_ret
    rw [HR.out]
    exact ⟨rfl, Below.refl _ _⟩
abbrev clo81 (Bs : Nat) : Value := .func (.func 81) #[] #[.pointer (some ⟨Bs, 0, none⟩)]
theorem row85 (o : s.Ok) (Bs Bf : Nat) (h4 : w.cell? ⟨Bs, 4, none⟩ = some (.int .i64 (s.g 2))) (hf : w.cell? ⟨Bf, 0, none⟩ = some (clo81 Bs)) (k : Nat) (hle : T.w k ≤ 9223372036854775807) (a : Option Addr) (c : Nat) (hE : SlV (T.e k) w.heap.size w (.slice a (T.w k) c) (T.w k)) :
    Calls Try.prog 85 #[.slice a (T.w k) c, .pointer (some ⟨Bf, 0, none⟩)] w fun e w' => e = .returned (.bool (!rowQ s T k)) ∧ Below w.heap.size w w' := by
  obtain ⟨A, hA⟩ : ∃ A, Hid (A = rowQ s T k) := ⟨_, rfl⟩
  go_enter Try.func85, Try.ntmps85
  go_wp2_with (go_at_call 81; refine (row81 o Bs h4 k hle a c hE).mono ?_; rintro e w1 ⟨rfl, hb⟩; rw [← hA.out])
  go_ret
  rw [← hA.out]
  exact ⟨by simp, hb⟩
set_option maxRecDepth 100000 in
set_option maxHeartbeats 1000000 in
theorem row86 (o : s.Ok) (Bs Bf : Nat) (h4 : w.cell? ⟨Bs, 4, none⟩ = some (.int .i64 (s.g 2))) (hf : w.cell? ⟨Bf, 0, none⟩ = some (clo81 Bs)) (hBs : Bs < w.heap.size) (hBf : Bf < w.heap.size) {v : Value} (hT : TabV T w v) (hn : T.n ≤ 9223372036854775807) (hw : ∀ j, j < T.n → T.w j ≤ 9223372036854775807) :
    Calls Try.prog 86 #[v, .func (.func 85) #[] #[.pointer (some ⟨Bf, 0, none⟩)]] w fun e w' => e = .returned (.int .i64 (firstN (rowQ s T) T.n)) ∧ Below w.heap.size w w' := by
  obtain ⟨ta, tc, rfl⟩ := hT.slice
  go_enter Try.func86, Try.ntmps86
  go_wp2
  go_loopw [8] (fun i wr => ∃ (k : Nat), k ≤ T.n ∧ i = .int .i64 (k : Int) ∧ (∀ j, j < k → rowQ s T j = true) ∧ Below w.heap.size w wr)
    (fun i _ => T.n - (RowKit.intOf i).toNat)
  case atStart => exact ⟨0, Nat.zero_le _, rfl, fun j h => absurd h (by omega), Below.refl _ _⟩
  case round =>
    obtain ⟨k, hk, rfl, hno, hB⟩ := hrel
    by_cases hlt : k < T.n
    · rcases hT with ⟨_, e, e0⟩ | ⟨bt, ot, ct, e, hcap, hbt, hE⟩
      · exact absurd e0 (by omega)
      cases e
      obtain ⟨u, q1, hu⟩ := hE k hlt
      obtain ⟨ua, uc, rfl⟩ := hu.slice
      have q1 := (hB.cell (p := ⟨bt, ot + k, none⟩) hbt).trans q1
      have h4' := (hB.cell (p := ⟨Bs, 4, none⟩) hBs).trans h4
      have hf' := (hB.cell (p := ⟨Bf, 0, none⟩) hBf).trans hf
      have hu' := hu.at hB
      have hwk := hw k hlt
      have hz := hB.size
      cases hb : rowQ s T k with
      | true =>
        go_wp2_with (go_at_call 85; refine (row85 o Bs Bf h4' hf' k hwk ua uc hu').mono ?_; rintro e w1 ⟨rfl, hb1⟩; rw [hb])
        go_roundw
        case rel => exact ⟨k + 1, by omega, by go_num, fun j hj => by
          by_cases e : j = k
          · subst e; exact hb
          · exact hno j (by omega), hB.trans (hb1.mono hz)⟩
        case measure => simp [RowKit.intOf]; omega
      | false =>
        have HV : Hid (firstN (rowQ s T) T.n = k) := firstN_at hb hno hlt
        go_wp2_with (go_at_call 85; refine (row85 o Bs Bf h4' hf' k hwk ua uc hu').mono ?_; rintro e w1 ⟨rfl, hb1⟩; rw [hb])
        go_ret
        rw [HV.out]
        exact ⟨rfl, hB.trans (hb1.mono hz)⟩
    · obtain rfl : k = T.n := by omega
      have HV : Hid (firstN (rowQ s T) T.n = -1) := firstN_all hno
      go_wp2
      go_ret
      rw [HV.out]
      exact ⟨rfl, hB⟩
theorem row84 (o : s.Ok) (Bs Bf : Nat) (h4 : w.cell? ⟨Bs, 4, none⟩ = some (.int .i64 (s.g 2))) (hf : w.cell? ⟨Bf, 0, none⟩ = some (clo81 Bs)) (hBs : Bs < w.heap.size) (hBf : Bf < w.heap.size) {v : Value} (hT : TabV T w v) (hn : T.n ≤ 9223372036854775807) (hw : ∀ j, j < T.n → T.w j ≤ 9223372036854775807) :
    Calls Try.prog 84 #[v, .func (.func 85) #[] #[.pointer (some ⟨Bf, 0, none⟩)]] w fun e w' => e = .returned (.bool (!Ab.allB T.n (rowQ s T))) ∧ Below w.heap.size w w' := by
  go_enter Try.func84, Try.ntmps84
  go_wp2_with (go_at_call 86; refine (row86 o Bs Bf h4 hf hBs hBf hT hn hw).mono ?_; rintro e w' ⟨rfl, hb⟩)
  go_ret
  exact ⟨by rw [← firstN_neg]; rfl, hb⟩
theorem row82 (o : s.Ok) (Bs : Nat) (h4 : w.cell? ⟨Bs, 4, none⟩ = some (.int .i64 (s.g 2))) (hBs : Bs < w.heap.size) {v : Value} (hT : TabV T w v) (hn : T.n ≤ 9223372036854775807) (hw : ∀ j, j < T.n → T.w j ≤ 9223372036854775807) :
    Calls Try.prog 82 #[v, clo81 Bs] w fun e w' => e = .returned (.bool (Ab.allB T.n (rowQ s T))) ∧ Below w.heap.size w w' := by
  have hB : Below w.heap.size w (w.alloc (.cells #[clo81 Bs] 101)) := (Below.refl _ w).alloc (Nat.le_refl _) _
  have bN := Boxed.new w 101 (clo81 Bs)
  have k4 := (hB.cell (p := ⟨Bs, 4, none⟩) hBs).trans h4
  have hT' := TabV.below hB hT
  have hz : w.heap.size < (w.alloc (.cells #[clo81 Bs] 101)).heap.size := by simp
  obtain ⟨A, hA⟩ : ∃ A, Hid (A = Ab.allB T.n (rowQ s T)) := ⟨_, rfl⟩
  go_enter Try.func82, Try.ntmps82
  go_wp2_with (go_at_call 84; refine (row84 o Bs w.heap.size k4 bN.cell (by omega) hz hT' hn hw).mono ?_; rintro e w' ⟨rfl, hb⟩; rw [← hA.out])
  go_ret
  rw [← hA.out]
  exact ⟨by simp, hB.trans (hb.mono (by simp))⟩
end
end Go.Proofs.Ytbkjjefjnkkgbaa.sea
