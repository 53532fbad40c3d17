import Derived.Test.YtbkjjefjnkkgbaaSq4
import Derived.Test.YtbkjjefjnkkgbaaTb0
import Derived.Deep.QuietTactic
import Derived.BigQuiet
namespace Go.Proofs.Ytbkjjefjnkkgbaa.sea
open Go Go.Ab Go.Proofs Go.RowKit Go.Shelf
attribute [local go_sem] Oper.semAt_some
set_option linter.unusedVariables false
section
variable {s : Sea} {w : World}
/-- What is left of a size. -/
def lfS (l : Int) (n : Nat) : Int := cond (decide (l - (n : Int) < 0)) (-1) (l - (n : Int))
theorem lfS_bd {l : Int} {n : Nat} (hl : l ≤ 1048576) : -1 ≤ lfS l n ∧ lfS l n ≤ 1048576 ∧ (0 ≤ lfS l n → (n : Int) ≤ l ∧ lfS l n ≤ l) := by
  unfold lfS
  by_cases h : l - (n : Int) < 0
  · rw [decide_eq_true h]; simp only [cond_true]; omega
  · rw [decide_eq_false h]; simp only [cond_false]; omega
theorem sz35 {l : Int} {n : Nat} (a : Option Addr) (c : Nat) (hl : 0 ≤ l ∧ l ≤ 1048576) (hn : n ≤ 9223372036854775807) :
    Calls Try.prog 41 #[.slice a n c, .int .i64 l] w fun e w' => e = .returned (.int .i64 (lfS l n)) ∧ w' = w := by
  have e1 : IntKind.i64.wrap (l - (n : Int)) = l - (n : Int) := IntWalk.i64_in _ (by omega)
  by_cases h : l - (n : Int) < 0
  · have HV : Hid (lfS l n = -1) := by show _ = _; unfold lfS; rw [decide_eq_true h]; rfl
    go_enter Try.func41, Try.ntmps41
    go_wp2
    go_ret
    rw [HV.out]; exact ⟨rfl, rfl⟩
  · have HV : Hid (lfS l n = l - (n : Int)) := by show _ = _; unfold lfS; rw [decide_eq_false h]; rfl
    go_enter Try.func41, Try.ntmps41
    go_wp2
    go_ret
    rw [HV.out]; exact ⟨rfl, rfl⟩
/-- A slice that a call makes for itself, whole. -/
def NewI (gd : Nat → Int) (n : Nat) (W : World) (b : Nat) : Prop := W.rowIs b 2 n (fun j => .int .i64 (gd j))
theorem NewI.slv {gd : Nat → Int} {n b : Nat} {W : World} (h : NewI gd n W b) : SlV gd W.heap.size W (.slice (some ⟨b, 0, none⟩) n n) n :=
  .inr ⟨b, 0, n, rfl, Nat.le_refl _, ⟨h.lt, fun k hk => by rw [Nat.zero_add]; exact h.cell hk⟩⟩
theorem info2i' : (Try.prog.info? 2).map (fun i => (i.zero, i.size, i.bytes)) = some (some (.int .i64 0), 1, 8) := by kernel_rfl
set_option maxHeartbeats 1000000 in
theorem to21 {gd : Nat → Int} {v : Value} {n : Nat} (hv : SlV gd w.heap.size w v n) (hn : n ≤ 1048576) :
    Calls Try.prog 22 #[v] w fun e w' => e = .returned (.slice (some ⟨w.heap.size, 0, none⟩) n n) ∧ NewI gd n w' w.heap.size ∧ Below w.heap.size w w' := by
  have hmk := run_make_row' (P := Try.prog) 22 2 (.int .i64 0) 8 Try.underlying22 info2i' rfl .i64 .i64 n (by omega) (by omega)
  obtain ⟨a, c, rfl⟩ := hv.slice
  obtain ⟨mk, hmk1⟩ : ∃ mk : World → World, ∀ w, mk w = w.alloc (.cells (madeCells #[.int .i64 0] n) 2) := ⟨_, fun _ => rfl⟩
  have hmk' := fun w => (hmk w).trans (by rw [← hmk1] : _ = Result.ok _ (mk w))
  have hr0 : (mk w).rowIs w.heap.size 2 n (fun _ => .int .i64 0) := by rw [hmk1]; exact World.rowIs_made w _ n 2
  have hB0 : Below w.heap.size w (mk w) := by rw [hmk1]; exact (Below.refl _ w).alloc (Nat.le_refl _) _
  clear hmk hmk1
  go_enter Try.func22, Try.ntmps22
  go_wp2
  clear hmk'
  go_loopw [4] (fun iv wr => ∃ (i : Nat), i ≤ n ∧ iv = .int .i64 (i : Int) ∧ wr.rowIs w.heap.size 2 n (fun j => if j < i then .int .i64 (gd j) else .int .i64 0) ∧ Below w.heap.size w wr)
    (fun iv _ => n - (RowKit.intOf iv).toNat)
  case atStart => exact ⟨0, Nat.zero_le _, rfl, hr0.congr (fun j _ => by simp), hB0⟩
  case round =>
    obtain ⟨i, hi, rfl, hr, hB⟩ := hrel
    by_cases hlt : i < n
    · rcases hv with ⟨a', e, e0⟩ | ⟨bp, off, cap, e, hcap, hE⟩
      · exact absurd e0 (by omega)
      cases e
      have q1 := (hB.cell (p := ⟨bp, off + i, none⟩) hE.1).trans (hE.2 i hlt)
      have y1 := hr.cell hlt
      have y2 := hr.frozen i
      have hB' := hB.setCell (p := ⟨w.heap.size, i, none⟩) (Nat.le_refl _) (.int .i64 (gd i))
      have hr' := (hr.set i (.int .i64 (gd i))).congr (g := fun j => if j < i + 1 then .int .i64 (gd j) else .int .i64 0) (fun j _ => by
        by_cases e : j = i
        · subst e; simp
        · by_cases c : j < i
          · simp [e, c, show j < i + 1 by omega]
          · simp [e, c, show ¬ j < i + 1 by omega])
      clear hr
      go_wp2
      go_roundw
      case rel => exact ⟨i + 1, by omega, by go_num, hr', hB'⟩
      case measure => simp [RowKit.intOf]; omega
    · obtain rfl : i = n := by omega
      go_wp2
      go_ret
      exact ⟨rfl, hr.congr (fun j hj => by simp [hj]), hB⟩
set_option maxHeartbeats 1000000 in
theorem eq23 {gd : Nat → Int} {v u : Value} {n : Nat} (hv : SlV gd w.heap.size w v n) (hu : SlV gd w.heap.size w u n) (hn : n ≤ 9223372036854775807) :
    Calls Try.prog 24 #[v, u] w fun e w' => e = .returned (.bool true) ∧ ∃ m, w' = w.drewN m := by
  obtain ⟨a, c, rfl⟩ := hv.slice
  obtain ⟨a', c', rfl⟩ := hu.slice
  go_enter Try.func24, Try.ntmps24
  go_wp2
  go_loopw [5] (fun iv wr => ∃ (i : Nat), i ≤ n ∧ iv = .int .i64 (i : Int) ∧ ∃ m, wr = w.drewN m)
    (fun iv _ => n - (RowKit.intOf iv).toNat)
  case atStart => exact ⟨0, Nat.zero_le _, rfl, 0, rfl⟩
  case round =>
    obtain ⟨i, hi, rfl, m, rfl⟩ := hrel
    by_cases hlt : i < n
    · rcases hv with ⟨_, e, e0⟩ | ⟨bp, off, cap, e, hcap, hE⟩
      · exact absurd e0 (by omega)
      cases e
      rcases hu with ⟨_, e, e0⟩ | ⟨bq, ofq, caq, e, hcaq, hF⟩
      · exact absurd e0 (by omega)
      cases e
      have q1 := hE.2 i hlt
      have q2 := hF.2 i hlt
      go_wp2
      go_region
      go_wp2
      go_roundw
      case rel => exact ⟨i + 1, by omega, by go_num, m + 1, rfl⟩
      case measure => simp [RowKit.intOf]; omega
    · obtain rfl : i = n := by omega
      go_wp2
      go_ret
      exact ⟨rfl, m, rfl⟩
theorem drewN_below (m : Nat) {B : Nat} : Below B w (w.drewN m) := ⟨rfl, rfl, rfl, Nat.le_refl _, fun _ _ => rfl⟩
end
end Go.Proofs.Ytbkjjefjnkkgbaa.sea
