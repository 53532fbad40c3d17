import Derived.Test.YtbkjjefjnkkgbaaTk2
namespace Go.Proofs.Ytbkjjefjnkkgbaa.sea
open Go Go.Ab Go.Proofs Go.RowKit Go.Shelf
attribute [local go_sem] Oper.semAt_some
set_option linter.unusedVariables false
section
variable {s : Sea} {w : World} {T : Tab}
set_option maxHeartbeats 2000000 in
theorem sz36 {v : Value} {l : Int} (hT : TabV T w v) (hn : T.n ≤ 9223372036854775807) (hw : ∀ j, j < T.n → T.w j ≤ 9223372036854775807) (hl : 0 ≤ l ∧ l ≤ 1048576) :
    Calls Try.prog 36 #[v, .int .i64 l] w fun e w' => (∃ r : Int, e = .returned (.int .i64 r) ∧ -1 ≤ r ∧ r ≤ 1048576 ∧ (0 ≤ r → T.n ≤ 1048576 ∧ ∀ j, j < T.n → T.w j ≤ 1048576)) ∧ w' = w := by
  obtain ⟨a, c, rfl⟩ := hT.slice
  have b1 := lfS_bd (n := T.n) hl.2
  obtain ⟨x, hx⟩ : ∃ x, Hid (x = lfS l T.n) := ⟨_, rfl⟩
  rw [← hx.out] at b1
  have e1 : IntKind.i64.wrap (l - (T.n : Int)) = l - (T.n : Int) := IntWalk.i64_in _ (by omega)
  by_cases h1 : l - (T.n : Int) < 0
  · go_enter Try.func36, Try.ntmps36
    go_wp2
    go_ret
    exact ⟨⟨-1, rfl, by omega, by omega, fun h => by omega⟩, rfl⟩
  · have hTn : T.n ≤ 1048576 := by omega
    have hx0 : 0 ≤ l - (T.n : Int) := by omega
    go_enter Try.func36, Try.ntmps36
    go_wp2
    go_loop [1, 5] (fun lv iv => ∃ (i : Nat) (y : Int), i ≤ T.n ∧ iv = .int .i64 (i : Int) ∧ lv = .int .i64 y ∧ 0 ≤ y ∧ y ≤ 1048576 ∧ ∀ j, j < i → T.w j ≤ 1048576)
      (fun _ iv => T.n - (RowKit.intOf iv).toNat)
    case atStart => exact ⟨0, _, Nat.zero_le _, rfl, rfl, hx0, by omega, fun j h => absurd h (by omega)⟩
    case round =>
      obtain ⟨i, y, hi, rfl, rfl, hy0, hy1, hj⟩ := hrel
      by_cases hlt : i < T.n
      · rcases hT with ⟨_, e, e0⟩ | ⟨bp, off, cap, e, hcap, hb, hE⟩
        · exact absurd e0 (by omega)
        cases e
        obtain ⟨u, q1, hu⟩ := hE i hlt
        obtain ⟨ua, uc, rfl⟩ := hu.slice
        have hwi := hw i hlt
        have b2 := lfS_bd (l := y) (n := T.w i) hy1
        obtain ⟨z, hz⟩ : ∃ z, Hid (z = lfS y (T.w i)) := ⟨_, rfl⟩
        rw [← hz.out] at b2
        by_cases h2 : z < 0
        · go_wp2_with (go_at_call 41; refine (sz35 _ _ (by omega) hwi).mono ?_; rintro e w1 ⟨rfl, rfl⟩; rw [← hz.out])
          go_ret
          exact ⟨⟨-1, rfl, by omega, by omega, fun h => by omega⟩, rfl⟩
        · have hz0 : 0 ≤ z := by omega
          have hwi2 : T.w i ≤ 1048576 := by omega
          go_wp2_with (go_at_call 41; refine (sz35 _ _ (by omega) hwi).mono ?_; rintro e w1 ⟨rfl, rfl⟩; rw [← hz.out])
          go_round
          case rel => exact ⟨i + 1, z, by omega, by go_num, rfl, hz0, b2.2.1, fun j hj' => by
            by_cases e : j = i
            · subst e; exact hwi2
            · exact hj j (by omega)⟩
          case measure => simp [RowKit.intOf]; omega
      · obtain rfl : i = T.n := by omega
        go_wp2
        go_ret
        exact ⟨⟨y, rfl, by omega, hy1, by first | exact fun _ => ⟨hTn, hj⟩ | exact fun _ => hj⟩, rfl⟩
theorem info22s' : (Try.prog.info? 22).map (fun i => (i.zero, i.size, i.bytes)) = some (some (.slice none 0 0), 1, 24) := by kernel_rfl
set_option maxHeartbeats 2000000 in
theorem to38 {v : Value} (hT : TabV T w v) (hn : T.n ≤ 1048576) (hw : ∀ j, j < T.n → T.w j ≤ 1048576) :
    Calls Try.prog 38 #[v] w fun e w' => (∃ v', e = .returned v' ∧ TabV T w' v') ∧ Below w.heap.size w w' := by
  have hmk := run_make_row' (P := Try.prog) 47 22 (.slice none 0 0) 24 Try.underlying47 info22s' rfl .i64 .i64 T.n (by omega) (by omega)
  obtain ⟨a, c, rfl⟩ := hT.slice
  obtain ⟨mk, hmk1⟩ : ∃ mk : World → World, ∀ w, mk w = w.alloc (.cells (madeCells #[.slice none 0 0] T.n) 22) := ⟨_, fun _ => rfl⟩
  have hmk' := fun w => (hmk w).trans (by rw [← hmk1] : _ = Result.ok _ (mk w))
  have hr0 : (mk w).rowIs w.heap.size 22 T.n (fun _ => .slice none 0 0) := by rw [hmk1]; exact World.rowIs_made w _ T.n 22
  have hB0 : Below w.heap.size w (mk w) := by rw [hmk1]; exact (Below.refl _ w).alloc (Nat.le_refl _) _
  clear hmk hmk1
  go_enter Try.func38, Try.ntmps38
  go_wp2
  clear hmk'
  go_loopw [4] (fun iv wr => ∃ (i : Nat) (f : Nat → Value), i ≤ T.n ∧ iv = .int .i64 (i : Int) ∧ wr.rowIs w.heap.size 22 T.n f ∧ (∀ j, j < i → ∃ b, w.heap.size < b ∧ f j = .slice (some ⟨b, 0, none⟩) (T.w j) (T.w j) ∧ NewI (T.e j) (T.w j) wr b) ∧ Below w.heap.size w wr)
    (fun iv _ => T.n - (RowKit.intOf iv).toNat)
  case atStart => exact ⟨0, _, Nat.zero_le _, rfl, hr0, fun j h => absurd h (by omega), hB0⟩
  case round =>
    obtain ⟨i, f, hi, rfl, hr, hrows, hB⟩ := hrel
    by_cases hlt : i < T.n
    · rcases hT with ⟨_, e, e0⟩ | ⟨bp, off, cap, e, hcap, hb, hE⟩
      · exact absurd e0 (by omega)
      cases e
      obtain ⟨u, q1, hu⟩ := hE i hlt
      have q1 := (hB.cell (p := ⟨bp, off + i, none⟩) hb).trans q1
      have hu' := hu.at hB
      have hwi := hw i hlt
      have hlt0 := hr.lt
      go_wp2_with (go_at_call 22; refine (to21 hu' hwi).mono ?_; rintro e w3 ⟨rfl, hN, hb3⟩; have hr3 := hr.of_block (hb3.block _ hlt0); have y1 := hr3.cell hlt; have y2 := hr3.frozen i)
      go_roundw
      case rel =>
        refine ⟨i + 1, _, by omega, by go_num, hr3.set i _, fun j hj => ?_, (hB.trans (hb3.mono (by omega))).setCell (p := ⟨w.heap.size, i, none⟩) (Nat.le_refl _) _⟩
        by_cases e : j = i
        · subst e
          rw [if_pos rfl]
          exact ⟨_, hlt0, rfl, World.rowIs.setOther hN (by show wr.heap.size ≠ w.heap.size; omega) _⟩
        · rw [if_neg e]
          obtain ⟨b', h1, h2, h3⟩ := hrows j (by omega)
          exact ⟨b', h1, h2, World.rowIs.setOther (World.rowIs.of_block h3 (hb3.block _ (World.rowIs.lt h3))) (by show b' ≠ w.heap.size; omega) _⟩
      case measure => simp [RowKit.intOf]; omega
    · obtain rfl : i = T.n := by omega
      go_wp2
      go_ret
      refine ⟨⟨_, rfl, .inr ⟨w.heap.size, 0, T.n, rfl, Nat.le_refl _, hr.lt, fun j hj => ?_⟩⟩, hB⟩
      obtain ⟨b', h1, h2, h3⟩ := hrows j hj
      refine ⟨_, by rw [Nat.zero_add]; exact hr.cell hj, ?_⟩
      rw [h2]
      exact NewI.slv h3
end
end Go.Proofs.Ytbkjjefjnkkgbaa.sea
