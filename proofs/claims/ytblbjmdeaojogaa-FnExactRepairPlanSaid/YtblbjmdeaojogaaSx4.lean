import Derived.Test.YtblbjmdeaojogaaSx3
import Derived.Test.YtblbjmdeaojogaaSg0
import Derived.Lib.Hide
namespace Go.Proofs.Ytblbjmdeaojogaa.sea
open Go Go.Ab Go.Proofs Go.RowKit Go.Shelf
attribute [local go_sem] Oper.semAt_some
set_option linter.unusedVariables false
section
variable {s : Sea} {w : World}
theorem gm_cell {s1 s2 : Value} (o : s.Ok) (hS : SeaV s w (seaVal s1 s2 s)) {k : Nat} (hk : k < s.n) {W : World} (hb : Below w.heap.size w W) (bm om cm : Nat) (e : s2 = .slice (some ⟨bm, om, none⟩) s.m cm) : W.cell? ⟨bm, om + k, none⟩ = some (.int .i64 (s.gm k)) := by
  obtain ⟨t1, t2, et, hs1, hs2, hl1, hl2⟩ := hS
  obtain ⟨et1, et2⟩ : s1 = t1 ∧ s2 = t2 := by injection et with et; injection et with et; injection et with e1 et; injection et with e2 et; exact ⟨e1, e2⟩
  subst et1
  subst et2
  have hm := o.m
  rcases hs2 with ⟨a', e', e0⟩ | ⟨bm', om', cm', e', hcm, hEm⟩
  · exact absurd e0 (by have := o.n1; omega)
  · rw [e] at e'
    cases e'
    exact (hb.cell (p := ⟨bm, om + k, none⟩) hEm.1).trans (hEm.2 k (by omega))
set_option maxRecDepth 100000 in
set_option maxHeartbeats 2000000 in
theorem few52 (o : s.Ok) {v : Value} (hS : SeaV s w v) {k : Nat} (hk : k < s.n) {x : Int} (hx : 0 ≤ x ∧ x ≤ s.g 2) :
    Calls Try.prog 52 #[v, .int .i64 (k : Int), .int .i64 x] w fun e w' => e = .returned (.int .i64 (fw s k x)) ∧ Below w.heap.size w w' := by
  have hS' := hS
  obtain ⟨s1, s2, rfl, _⟩ := hS'
  have hB : Below w.heap.size w (w.alloc (.cells #[s1, s2, .int .i64 (s.g 0), .int .i64 (s.g 1), .int .i64 (s.g 2), .int .i64 (s.g 3), .int .i64 (s.g 4)] 27)) := (Below.refl _ w).alloc (Nat.le_refl _) _
  obtain ⟨w1, hw1⟩ : ∃ w1, w.alloc (.cells #[s1, s2, .int .i64 (s.g 0), .int .i64 (s.g 1), .int .i64 (s.g 2), .int .i64 (s.g 3), .int .i64 (s.g 4)] 27) = w1 := ⟨_, rfl⟩
  have hz1 : w1.heap.size = w.heap.size + 1 := by rw [← hw1]; simp
  have pq := fun q u h => alloc_cells (s := s) (s1 := s1) (s2 := s2) w q u h
  rw [hw1] at pq
  have p0 := pq 0 _ rfl
  have p1 := pq 1 _ rfl
  have p2 := pq 2 _ rfl
  have p3 := pq 3 _ rfl
  have p4 := pq 4 _ rfl
  have p5 := pq 5 _ rfl
  have p6 := pq 6 _ rfl
  have hcs := fun q u h => alloc_cells (s := s) (s1 := s1) (s2 := s2) w1 q u h
  have hS1 : SeaV s w1 (seaVal s1 s2 s) := by rw [← hw1]; exact hS.below hB
  have hB1 : Below w.heap.size w w1 := by rw [← hw1]; exact hB
  have hBk := Boxed.new (w1.alloc (.cells #[s1, s2, .int .i64 (s.g 0), .int .i64 (s.g 1), .int .i64 (s.g 2), .int .i64 (s.g 3), .int .i64 (s.g 4)] 27)) 3 (.int .i64 (k : Int))
  have hBx := Boxed.new ((w1.alloc (.cells #[s1, s2, .int .i64 (s.g 0), .int .i64 (s.g 1), .int .i64 (s.g 2), .int .i64 (s.g 3), .int .i64 (s.g 4)] 27)).alloc (.cells #[.int .i64 (k : Int)] 3)) 2 (.int .i64 x)
  have hBk2 := hBk.alloc (.cells #[.int .i64 x] 2)
  simp only [World.size_alloc] at hBx hBk2
  have hB2 : Below w1.heap.size w1 (((w1.alloc (.cells #[s1, s2, .int .i64 (s.g 0), .int .i64 (s.g 1), .int .i64 (s.g 2), .int .i64 (s.g 3), .int .i64 (s.g 4)] 27)).alloc (.cells #[.int .i64 (k : Int)] 3)).alloc (.cells #[.int .i64 x] 2)) := (((Below.refl _ w1).alloc (Nat.le_refl _) _).alloc (by simp) _).alloc (by simp <;> omega) _
  have hz2 : (((w1.alloc (.cells #[s1, s2, .int .i64 (s.g 0), .int .i64 (s.g 1), .int .i64 (s.g 2), .int .i64 (s.g 3), .int .i64 (s.g 4)] 27)).alloc (.cells #[.int .i64 (k : Int)] 3)).alloc (.cells #[.int .i64 x] 2)).heap.size = w1.heap.size + 3 := by simp
  have hcs2 : ∀ (q : Nat) (u : Value), #[s1, s2, Value.int .i64 (s.g 0), .int .i64 (s.g 1), .int .i64 (s.g 2), .int .i64 (s.g 3), .int .i64 (s.g 4)][q]? = some u → (((w1.alloc (.cells #[s1, s2, .int .i64 (s.g 0), .int .i64 (s.g 1), .int .i64 (s.g 2), .int .i64 (s.g 3), .int .i64 (s.g 4)] 27)).alloc (.cells #[.int .i64 (k : Int)] 3)).alloc (.cells #[.int .i64 x] 2)).cell? ⟨w1.heap.size, q, none⟩ = some u := fun q u h => by
    rw [← hcs q u h, World.cell?_alloc_lt _ _ _ (by simp <;> omega), World.cell?_alloc_lt _ _ _ (by simp)]
  have hseq : ∀ W0, Below (w1.heap.size + 3) (((w1.alloc (.cells #[s1, s2, .int .i64 (s.g 0), .int .i64 (s.g 1), .int .i64 (s.g 2), .int .i64 (s.g 3), .int .i64 (s.g 4)] 27)).alloc (.cells #[.int .i64 (k : Int)] 3)).alloc (.cells #[.int .i64 x] 2)) W0 → w1.heap.size + 3 ≤ W0.heap.size → SeqStopsK Fence.wide (3 - 1) Try.prog 69 #[.pointer (some ⟨w1.heap.size, 0, none⟩), .pointer (some ⟨w1.heap.size + 1, 0, none⟩), .pointer (some ⟨w1.heap.size + 2, 0, none⟩)] (fun j : Nat => enC s k x j) (Below (w1.heap.size + 3)) (fun ys => ys = prL (few s k x (moS s)) (moS s)) (fun pre => ∃ j, j ≤ (moS s) ∧ pre = prL (few s k x (moS s)) j) (moS s) W0 := fun W0 hW0 hsz0 =>
    cho_stops (3 - 1) (by omega) o hk hx w1.heap.size (w1.heap.size + 1) (w1.heap.size + 2) s1 s2 W0 (fun q u h => (hW0.cell (p := ⟨w1.heap.size, q, none⟩) (by show w1.heap.size < _; omega)).trans (hcs2 q u h)) (w1.heap.size + 3) hsz0 (by omega) (by omega) (by omega)
      (hS1.below (hB2.trans (hW0.mono (by omega)))) (fun W' hb hsz => hS1.below (hB2.trans ((hW0.trans hb).mono (by omega)))) (fun W' hb bm om cm e => gm_cell o hS1 hk (hB2.trans ((hW0.trans hb).mono (by omega))) bm om cm e)
      ((hW0.cell (p := ⟨w1.heap.size + 1, 0, none⟩) (by show w1.heap.size + 1 < _; omega)).trans hBk2.cell) ((hW0.cell (p := ⟨w1.heap.size + 2, 0, none⟩) (by show w1.heap.size + 2 < _; omega)).trans hBx.cell)
  rw [← hz2] at hseq
  have hlst := lst_prL (few s k x (moS s)) (moS s)
  have hle := few_le s k x (moS s)
  clear pq hcs hcs2 hBk hBx hBk2 hB
  have hz9 : w.heap.size < w1.heap.size := by omega
  have HZ2 := Lib.hid hz2
  have HZ1 := Lib.hid hz1
  clear hz1 hz2
  go_enter Try.func52, Try.ntmps52
  cases hf : decide (few s k x (moS s) < moS s) with
  | true =>
    have hlt := of_decide_eq_true hf
    rw [if_neg (by omega)] at hlst
    have HL : Hid (lst (prL (few s k x (moS s)) (moS s)) = some (few s k x (moS s))) := hlst
    have HF : Hid (fw s k x = (few s k x (moS s) : Int)) := by show fw s k x = _; unfold fw; rw [hf]; rfl
    clear hlst hf hlt hle
    go_wp2_with (first
      | (go_at_call 62; refine (callsIn_wide.1 (mk62_in Fence.wide 1 trivial rfl _ _ _ _)).mono ?_; rintro e w2 ⟨rfl, rfl⟩)
      | (go_at_call 61; refine (callsIn_wide.1 (least61_in 3 (Nat.le_refl _) k x _ _ hseq)).mono ?_; rintro e w3 ⟨rfl, hb3⟩; rw [HL.out]))
    go_ret
    have e1 := hB2.trans (hb3.mono (B' := w1.heap.size) (by have := HZ2.out; omega))
    exact ⟨by rw [HF.out]; rfl, hB1.trans ((e1.mono (B' := w.heap.size) (by have := HZ1.out; omega)).alloc (show w.heap.size ≤ w3.heap.size by have := e1.size; have := HZ1.out; omega) _)⟩
  | false =>
    have hlt := of_decide_eq_false hf
    rw [if_pos (by omega)] at hlst
    have HL : Hid (lst (prL (few s k x (moS s)) (moS s)) = none) := hlst
    have HF : Hid (fw s k x = s.g 0) := by show fw s k x = _; unfold fw; rw [hf]; rfl
    clear hlst hf hlt hle
    go_wp2_with (first
      | (go_at_call 62; refine (callsIn_wide.1 (mk62_in Fence.wide 1 trivial rfl _ _ _ _)).mono ?_; rintro e w2 ⟨rfl, rfl⟩)
      | (go_at_call 61; refine (callsIn_wide.1 (least61_in 3 (Nat.le_refl _) k x _ _ hseq)).mono ?_; rintro e w3 ⟨rfl, hb3⟩; rw [HL.out]; have hz3 := hb3.size; have hq3 := (hb3.cell (p := ⟨w.heap.size, 2, none⟩) (by have := HZ2.out; show w.heap.size < _; omega)).trans ((hB2.cell (p := ⟨w.heap.size, 2, none⟩) (by show w.heap.size < _; omega)).trans p2); have hzz : w.heap.size < w3.heap.size := by have := HZ2.out; omega))
    go_ret
    have e1 := hB2.trans (hb3.mono (B' := w1.heap.size) (by have := HZ2.out; omega))
    exact ⟨by rw [HF.out]; rfl, hB1.trans ((e1.mono (B' := w.heap.size) (by have := HZ1.out; omega)).alloc (show w.heap.size ≤ w3.heap.size by have := e1.size; have := HZ1.out; omega) _)⟩
end
end Go.Proofs.Ytblbjmdeaojogaa.sea
