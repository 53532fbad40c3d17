import Derived.Test.YtnkfeoodbhihcaaLm1
import Derived.Shelf.RegionOpen
namespace Go.Proofs.Ytnkfeoodbhihcaa.lm
open Go Go.Proofs Go.RowKit Go.Shelf
attribute [local go_sem] Oper.semAt_some
set_option linter.unusedVariables false
/-- The last mark's number and the code. -/
def li (f : Nat → Bool) : Nat → Int
  | 0 => 0
  | k + 1 => cond (f k) (k : Int) (li f k)
def lc (f : Nat → Bool) : Nat → Int
  | 0 => 6
  | k + 1 => cond (f k) 0 (lc f k)
theorem li_none {f : Nat → Bool} : ∀ {n : Nat}, (∀ k, k < n → f k = false) → li f n = 0 ∧ lc f n = 6
  | 0, _ => ⟨rfl, rfl⟩
  | n + 1, h => by
    obtain ⟨e1, e2⟩ := li_none (f := f) (n := n) (fun k hk => h k (by omega))
    unfold li lc
    rw [h n (by omega)]
    exact ⟨e1, e2⟩
theorem li_at {f : Nat → Bool} {k : Nat} (hf : f k = true) : ∀ {n : Nat}, k < n → (∀ j, k < j → j < n → f j = false) → li f n = k ∧ lc f n = 0
  | 0, h, _ => by omega
  | n + 1, h, hn => by
    unfold li lc
    by_cases e : k = n
    · subst e; rw [hf]; exact ⟨rfl, rfl⟩
    · rw [hn n (by omega) (by omega)]
      exact li_at hf (n := n) (by omega) (fun j h1 h2 => hn j h1 (by omega))
theorem mem_dn {len j : Nat} (h : j < len) : j ∈ dn len len := by
  simp only [dn, List.mem_map, List.mem_range]
  exact ⟨len - 1 - j, by omega, by omega⟩
theorem cell_past {W : World} (a : Addr) (v : Value) {p : Addr} (h : p.block ≠ a.block) : (W.setCell a v).cell? p = W.cell? p := World.cell?_of_block (Below.heap_setCell W a v p.block h)
theorem EntsV.wider {gd : Nat → Nat → Int} {bd : Nat → Nat → Bool} {n₀ n₁ : Nat} {W : World} {sv : Value} {len : Nat} (hn : n₀ ≤ n₁) : EntsV gd bd n₀ W sv len → EntsV gd bd n₁ W sv len
  | .inl e => .inl e
  | .inr ⟨b, off, cap, e, k⟩ => .inr ⟨b, off, cap, e, Nat.lt_of_lt_of_le k.1 hn, k.2⟩
section
variable (gd : Nat → Nat → Int) (bd : Nat → Nat → Bool)
set_option maxRecDepth 100000 in
set_option maxHeartbeats 2000000 in
theorem last_in (F : Fence) (n : Nat) (h14 : F.fn 14) (h20 : F.fn 20) (h23 : F.fn 23) (hro : F.round = none) (hn : 3 ≤ n) (a : Option Addr) (len cap : Nat) (hle : ¬ (150 : Int) < len) (w : World) (hI : EntsV gd bd w.heap.size w (.slice a len cap) len) :
    CallsIn F n Try.prog 14 #[.slice a len cap] w fun e W' => e = .returned (.tuple #[.int .i64 (li (fun k => bd k 0) len), .int .i64 (lc (fun k => bd k 0) len)]) ∧ Below w.heap.size w W' := by
  have h1 : 1 ≤ n := by omega
  refine callsIn_of_wp_marks Try.func14 rfl h14 ?_ hro
  simp only [Try.ntmps14, List.size_toArray, List.length_cons, List.length_nil, Nat.reduceAdd, Nat.reduceSub, Array.replicate_succ, Array.replicate_zero, List.push_toArray, List.append_toArray, List.nil_append, List.cons_append]
  gi_wp2_with (gi_at_call 20; refine (back_in F (n - 1) h20 hro _ _ _ _).mono ?_; rintro e w' ⟨rfl, rfl⟩)
  have bR := ((Boxed.new w 2 (.int .i64 0)).alloc (.cells #[.int .i64 0] 2)).alloc (.cells #[.slice a len cap] 34)
  have bC := (Boxed.new (w.alloc (.cells #[.int .i64 0] 2)) 2 (.int .i64 0)).alloc (.cells #[.slice a len cap] 34)
  have bN := Boxed.new ((w.alloc (.cells #[.int .i64 0] 2)).alloc (.cells #[.int .i64 0] 2)) 34 (.slice a len cap)
  simp only [World.size_alloc] at bC bN
  have hB0 : Below w.heap.size w (((w.alloc (.cells #[.int .i64 0] 2)).alloc (.cells #[.int .i64 0] 2)).alloc (.cells #[.slice a len cap] 34)) := (((Below.refl _ w).alloc (Nat.le_refl _) _).alloc (by simp) _).alloc (by simp; omega) _
  have hsz : (((w.alloc (.cells #[.int .i64 0] 2)).alloc (.cells #[.int .i64 0] 2)).alloc (.cells #[.slice a len cap] 34)).heap.size = w.heap.size + 3 := by simp
  obtain ⟨W0, hW0⟩ : ∃ W0, ((w.alloc (.cells #[.int .i64 0] 2)).alloc (.cells #[.int .i64 0] 2)).alloc (.cells #[.slice a len cap] 34) = W0 := ⟨_, rfl⟩
  rw [hW0] at bR bC bN hB0 hsz ⊢
  clear hW0
  have hI0 : EntsV gd bd W0.heap.size W0 (.slice a len cap) len := (hI.below hB0).wider (by omega)
  refine wpIn_rangeFunc_ownH hro h1 (gf := 23) (lb := #[.pointer (some ⟨w.heap.size + 1 + 1, 0, none⟩)]) rfl h23 (enters_of Try.func23 (by kernel_rfl) rfl)
    (back_stops gd bd F (n - 1) h23 hro (by omega) (w.heap.size + 1 + 1) W0.heap.size (.slice a len cap) len (by omega) W0 (by omega) (Nat.le_refl _) bN.cell hI0) belowK_t (belowK_b (Nat.le_refl _)) (Below.refl _ _) (fun _ => rfl)
    (fun pre W => (∀ p ∈ pre, bd p 0 = false) ∧ Below W0.heap.size W0 W)
    (fun c pre W => (c = .ret ∧ ∃ ini last, pre = ini ++ [last] ∧ (∀ p ∈ ini, bd p 0 = false) ∧ bd last 0 = true ∧ W.cell? ⟨w.heap.size, 0, none⟩ = some (.int .i64 (last : Int)) ∧ W.cell? ⟨w.heap.size + 1, 0, none⟩ = some (.int .i64 0)) ∧ Below w.heap.size w W)
    (OwnFrom.and (ownFrom_pure _ _) (ownFrom_below (Nat.le_refl _) (Nat.le_refl _)))
    (fun c => OwnFrom.and (Own.from (fun s A B row hs hg hr => by obtain ⟨hc, ini, last, e1, e2, e3, e4, e5⟩ := hs; exact ⟨hc, ini, last, e1, e2, e3, cell_kept e4 hg hr, cell_kept e5 hg hr⟩) _) (ownFrom_below (Nat.le_refl _) (by omega)))
    ⟨fun p hp => (by cases hp), Below.refl _ _⟩
    (fun x a' W => ∃ Bx, W.cell? ⟨Bx, 0, none⟩ = some (.bool (bd x 0)) ∧ a' = { tmps := #[.slice a len cap, undef, .pointer (some ⟨w.heap.size, 0, none⟩), .pointer (some ⟨w.heap.size + 1, 0, none⟩), .int .i64 (x : Int), .pointer (some ⟨Bx, 0, none⟩), .slice a len cap, .int .i64 (len : Int), .bool false, .slice a len cap, .func (.func 23) #[] #[.pointer (some ⟨w.heap.size + 1 + 1, 0, none⟩)], .int .i64 (x : Int), en gd bd x, undef, undef, undef], defers := [] })
    (fun x a' _ X Y row hs hg hr => by obtain ⟨Bx, h2, h3⟩ := hs; exact ⟨Bx, cell_kept h2 hg (fun r e => (hr r e).2), h3⟩)
    ?assign ?body ?done ?stop
  case assign =>
    rintro l pre x W K ⟨hp, hB⟩ hK
    simp only [en] at hK ⊢
    gi_wp2
    refine hK _ _ ((KeepsOthers.alloc _ _).from _) ((Below.refl _ W).alloc hB.size _) ⟨hp, hB.alloc hB.size _⟩ ⟨W.heap.size, ?_, rfl⟩
    have hnew := World.alloc_heap_new W (.cells #[Value.bool (bd x 0), .int .u32 (gd x 1), .int .i64 (gd x 2), .int .i64 (gd x 3), .int .i64 (gd x 4)] 44)
    unfold World.cell?
    simp only [hnew]
    rfl
  case body =>
    rintro l pre x a' W hl _ ⟨hp, hB⟩ ⟨Bx, bX, rfl⟩ hlt
    have cR := ((hB.cell (p := ⟨w.heap.size, 0, none⟩) (by show w.heap.size < _; omega)).trans bR.cell)
    have cC := ((hB.cell (p := ⟨w.heap.size + 1, 0, none⟩) (by show w.heap.size + 1 < _; omega)).trans bC.cell)
    have fR : W.frozen? ⟨w.heap.size, 0, none⟩ = false := (hB.frozen (p := ⟨w.heap.size, 0, none⟩) (by show w.heap.size < _; omega)).trans bR.frozen
    have fC : W.frozen? ⟨w.heap.size + 1, 0, none⟩ = false := (hB.frozen (p := ⟨w.heap.size + 1, 0, none⟩) (by show w.heap.size + 1 < _; omega)).trans bC.frozen
    gi_wp2
    · have hx : bd x 0 = true := by assumption
      exact ⟨((KeepsOthers.setCell _ _ _).from _).trans ((KeepsOthers.setCell _ _ _).from _), ⟨rfl, pre, x, rfl, hp, hx, (cell_past _ _ (by simp)).trans (World.cell?_setCell_same' _ _ _ (by rw [cR]; rfl)), World.cell?_setCell_same' _ _ _ (by rw [cell_past _ _ (by simp), cC]; rfl)⟩,
        ((hB0.trans (hB.mono hB0.size)).setCell (p := ⟨w.heap.size, 0, none⟩) (Nat.le_refl _) _).setCell (p := ⟨w.heap.size + 1, 0, none⟩) (Nat.le_succ _) _⟩
    · have hx : bd x 0 = false := by assumption
      exact ⟨KeepsFrom.refl _ _, Below.refl _ _, fun p hp' => (List.mem_append.1 hp').elim (hp p) (fun e => by simp at e; subst e; exact hx), hB⟩
  case done =>
    rintro D ys W hD rfl ⟨hp, hB⟩ hK
    have cR := ((hB.cell (p := ⟨w.heap.size, 0, none⟩) (by show w.heap.size < _; omega)).trans bR.cell)
    have cC := ((hB.cell (p := ⟨w.heap.size + 1, 0, none⟩) (by show w.heap.size + 1 < _; omega)).trans bC.cell)
    have fR : W.frozen? ⟨w.heap.size, 0, none⟩ = false := (hB.frozen (p := ⟨w.heap.size, 0, none⟩) (by show w.heap.size < _; omega)).trans bR.frozen
    have fC : W.frozen? ⟨w.heap.size + 1, 0, none⟩ = false := (hB.frozen (p := ⟨w.heap.size + 1, 0, none⟩) (by show w.heap.size + 1 < _; omega)).trans bC.frozen
    gi_wp2
    have hK1 := (KeepsOthers.setCell W ⟨w.heap.size, 0, none⟩ (.int .i64 0)).same D _ hK rfl
    have hK2 := (KeepsOthers.setCell (W.setCell ⟨w.heap.size, 0, none⟩ (.int .i64 0)) ⟨w.heap.size + 1, 0, none⟩ (.int .i64 6)).same D _ hK1 rfl
    refine ⟨by simp, .inl ⟨_, _, rfl, run_takeDeferred hK2, ?_⟩⟩
    have k1 := cell_kept ((cell_past (W := W.setCell ⟨w.heap.size, 0, none⟩ (.int .i64 0)) ⟨w.heap.size + 1, 0, none⟩ (.int .i64 6) (p := ⟨w.heap.size, 0, none⟩) (by simp)).trans (World.cell?_setCell_same' W _ (.int .i64 0) (by rw [cR]; rfl))) (grownBy_putObj' _ D (.deferred none)) (fun r e => by cases e; exact ⟨_, hK2, rfl⟩)
    have k2 := cell_kept (World.cell?_setCell_same' (W.setCell ⟨w.heap.size, 0, none⟩ (.int .i64 0)) ⟨w.heap.size + 1, 0, none⟩ (.int .i64 6) (by rw [cell_past _ _ (by simp), cC]; rfl)) (grownBy_putObj' _ D (.deferred none)) (fun r e => by cases e; exact ⟨_, hK2, rfl⟩)
    obtain ⟨q1, q2⟩ := li_none (f := fun k => bd k 0) (n := len) (fun j hj => hp j (mem_dn hj))
    refine ⟨.tuple #[.int .i64 0, .int .i64 6], ?_, by rw [q1, q2], (((hB0.trans (hB.mono hB0.size)).setCell (p := ⟨w.heap.size, 0, none⟩) (Nat.le_refl _) _).setCell (p := ⟨w.heap.size + 1, 0, none⟩) (Nat.le_succ _) _).trans (belowK_b (w := w) (Nat.le_refl _) _ D _ _ (by omega) hK2 rfl rfl)⟩
    simp [results, Try.f14, go_sem, k1, k2]
  case stop =>
    rintro D c pre W hD ⟨k, hk, rfl⟩ ⟨⟨rfl, ini, last, e1, e2, e3, hcr, hcc⟩, hB⟩ hK
    gi_wp2
    refine ⟨by simp, .inl ⟨_, _, rfl, run_takeDeferred hK, ?_⟩⟩
    have k1 := cell_kept hcr (grownBy_putObj' _ D (.deferred none)) (fun r e => by cases e; exact ⟨_, hK, rfl⟩)
    have k2 := cell_kept hcc (grownBy_putObj' _ D (.deferred none)) (fun r e => by cases e; exact ⟨_, hK, rfl⟩)
    obtain ⟨k', rfl⟩ : ∃ k', k = k' + 1 := by
      cases k with
      | zero => simp [dn] at e1
      | succ k' => exact ⟨k', rfl⟩
    rw [dn_succ] at e1
    obtain ⟨rfl, e5⟩ := List.append_inj' e1 rfl
    obtain rfl : len - 1 - k' = last := by simpa using e5
    obtain ⟨q1, q2⟩ := li_at (f := fun k => bd k 0) (n := len) (k := len - 1 - k') e3 (by omega) (fun j h1 h2 => e2 j (by simp only [dn, List.mem_map, List.mem_range]; exact ⟨len - 1 - j, by omega, by omega⟩))
    refine ⟨.tuple #[.int .i64 ((len - 1 - k' : Nat) : Int), .int .i64 0], ?_, by rw [q1, q2], hB.trans (belowK_b (w := w) (Nat.le_refl _) W D _ _ (by omega) hK rfl rfl)⟩
    simp [results, Try.f14, go_sem, k1, k2]
set_option maxHeartbeats 1000000 in
theorem last_long (a : Option Addr) (len cap : Nat) (hle : (150 : Int) < len) (w : World) :
    Calls Try.prog 14 #[.slice a len cap] w fun e W' => e = .returned (.tuple #[.int .i64 0, .int .i64 2]) ∧ Below w.heap.size w W' := by
  go_enter Try.func14, Try.ntmps14
  go_wp2
  have bR := (Boxed.new w 2 (.int .i64 0)).alloc (.cells #[.int .i64 2] 2)
  have bC := Boxed.new (w.alloc (.cells #[.int .i64 0] 2)) 2 (.int .i64 2)
  simp only [World.size_alloc] at bC
  have k1 := bR.cell
  have k2 := bC.cell
  refine ⟨rfl, .tuple #[.int .i64 0, .int .i64 2], ?_, rfl, ((Below.refl _ w).alloc (Nat.le_refl _) _).alloc (by simp) _⟩
  simp [results, Try.f14, go_sem, k1, k2]
theorem last_any (a : Option Addr) (len cap : Nat) (w : World) (hI : EntsV gd bd w.heap.size w (.slice a len cap) len) :
    Calls Try.prog 14 #[.slice a len cap] w fun e W' => e = .returned (.tuple #[.int .i64 (cond (decide ((150 : Int) < len)) 0 (li (fun k => bd k 0) len)), .int .i64 (cond (decide ((150 : Int) < len)) 2 (lc (fun k => bd k 0) len))]) ∧ Below w.heap.size w W' := by
  by_cases h : (150 : Int) < len
  · rw [decide_eq_true h]
    exact last_long a len cap h w
  · rw [decide_eq_false h]
    exact (callsIn_wide (n := 3)).1 (last_in gd bd Fence.wide 3 trivial trivial trivial rfl (by omega) a len cap h w hI)
end
end Go.Proofs.Ytnkfeoodbhihcaa.lm
