import Derived.Test.YtbkjjefjnkkgbaaSq6
import Derived.RangeFuncNested
import Derived.RangeFuncBound
import Derived.RangeFuncCalls
import Derived.RangeFuncLeaves
import Derived.Shelf.Abstract
import Derived.Shelf.RegionOpen
import Derived.WalkKit
import Derived.OwnWalkIn
import Derived.TacticsInMore
import Derived.LoopNIn
import Derived.LoopIn
namespace Go.Proofs.Ytbkjjefjnkkgbaa.sea
open Go Go.Ab Go.Proofs Go.RowKit Go.Shelf
attribute [local go_sem] Oper.semAt_some
set_option linter.unusedVariables false
theorem grown_of_below {W W' : World} (h : Below W.heap.size W W') : W.grownBy W' none := ⟨h.os, h.tape, h.output, h.size, fun k hk _ => h.block k hk⟩
/-- What the walk of slots has brought. -/
def sel (n : Nat) : List Nat := List.range n
theorem sel_succ (n : Nat) : sel (n + 1) = sel n ++ [n] := List.range_succ
theorem sel_length (n : Nat) : (sel n).length = n := List.length_range
/-- What a round keeps. -/
def Kp2 (n₀ Bs Bc : Nat) (A B : World) : Prop := Below n₀ A B ∧ B.heap[Bs]? = A.heap[Bs]? ∧ B.heap[Bc]? = A.heap[Bc]?
theorem Kp2.refl (n₀ Bs Bc : Nat) (A : World) : Kp2 n₀ Bs Bc A A := ⟨Below.refl _ _, rfl, rfl⟩
theorem Kp2.trans {n₀ Bs Bc : Nat} {A B C : World} (h : Kp2 n₀ Bs Bc A B) (k : Kp2 n₀ Bs Bc B C) : Kp2 n₀ Bs Bc A C := ⟨h.1.trans k.1, k.2.1.trans h.2.1, k.2.2.trans h.2.2⟩
theorem Kp2.below {n₀ Bs Bc : Nat} {A B : World} (h : Below A.heap.size A B) (hn : n₀ ≤ A.heap.size) (hs : Bs < A.heap.size) (hc : Bc < A.heap.size) : Kp2 n₀ Bs Bc A B := ⟨h.mono hn, h.block _ hs, h.block _ hc⟩
theorem Kp2.put {n₀ Bs Bc : Nat} {w : World} (hn : n₀ ≤ w.heap.size) (hs : Bs < w.heap.size) (hc : Bc < w.heap.size) (W : World) (l : Nat) (o o' : Obj) (hl : w.heap.size ≤ l) (h : W.heap[l]? = some o) (h1 : o.isCells = false) (h2 : o.isWalk = false) : Kp2 n₀ Bs Bc W (W.putObj l o') :=
  ⟨belowK_b hn W l o o' hl h h1 h2, World.putObj_heap_other (by omega), World.putObj_heap_other (by omega)⟩

def ChoP (s : Sea) (n₀ : Nat) (w : World) (Bp : Nat) (ch : Nat → Int → Int) : Prop :=
  ∀ (k : Nat) (x : Int) (W : World), Below n₀ w W → n₀ ≤ W.heap.size → k < s.n → 0 ≤ x → x ≤ s.g 2 → Calls Try.prog 55 #[.int .i64 (k : Int), .int .i64 x, .pointer (some ⟨Bp, 0, none⟩)] W fun e W' => e = .returned (.int .i64 (ch k x)) ∧ Below W.heap.size W W'
set_option maxRecDepth 100000 in
set_option maxHeartbeats 4000000 in
theorem walkP_in (n : Nat) (hn : 1 ≤ n) {s : Sea} (o : s.Ok) {ch : Nat → Int → Int} (hfit : s.Fits ch) (l Bs Bc n₀ : Nat) (Bp : Nat) (J Jx : List Nat → World → Prop) (s1 s2 : Value)
    (hY : ∀ (pre : List Nat) (x : Nat) W, J pre W → pre.length < s.n → YieldAt Fence.wide (n - 1) Try.prog l #[.int .i64 (ch x (s.st ch x)), .int .i64 (s.next x (s.st ch x) (ch x (s.st ch x)))] W fun e W' =>
      (e = .returned (.bool true) ∧ J (pre ++ [x]) W' ∧ Kp2 n₀ Bs Bc W W') ∨ (e = .returned (.bool false) ∧ Jx (pre ++ [x]) W'))
    (W : World) (hJ : AbidesFrom W.heap.size J) (hBs : ∀ (q : Nat) (u : Value), #[s1, s2, Value.int .i64 (s.g 0), .int .i64 (s.g 1), .int .i64 (s.g 2), .int .i64 (s.g 3), .int .i64 (s.g 4)][q]? = some u → W.cell? ⟨Bs, q, none⟩ = some u) (hBsl : Bs < W.heap.size)
    (hS : SeaV s W (seaVal s1 s2 s)) (hSn : ∀ W', Below n₀ W W' → n₀ ≤ W'.heap.size → SeaV s W' (seaVal s1 s2 s)) (hBc : W.cell? ⟨Bc, 0, none⟩ = some (.func (.func 55) #[] #[.pointer (some ⟨Bp, 0, none⟩)])) (hBcl : Bc < W.heap.size) (hn₀ : n₀ ≤ W.heap.size) (hch : ChoP s n₀ W Bp ch) (h0 : J [] W) :
    CallsIn Fence.wide n Try.prog 79 #[.func (.yield l) #[] #[], .pointer (some ⟨Bs, 0, none⟩), .pointer (some ⟨Bc, 0, none⟩)] W fun e W' => (∃ v, e = .returned v) ∧
      ((∃ ys, ys = sel (s.run ch s.n) ∧ J ys W') ∨ (∃ pre, (∃ k, k ≤ s.n ∧ pre = sel k) ∧ Jx pre W')) := by
  refine callsIn_of_wp Try.func79 rfl trivial ?_ rfl
  simp only [Try.ntmps79, List.size_toArray, List.length_cons, List.length_nil, Nat.reduceAdd, Nat.reduceSub, Array.replicate_succ, Array.replicate_zero, List.push_toArray, List.append_toArray, List.nil_append, List.cons_append]
  have hBs5 := hBs 5 _ rfl
  have hBs0 := hBs 0 _ rfl
  obtain ⟨t1, t2, et, hs1, hs2, hl1, hl2⟩ := hS
  obtain ⟨a1, c1, e1⟩ := hs1.slice
  have et1 : s1 = t1 := by injection et with et; injection et with et; injection et
  subst et1
  subst e1
  clear et hs1 hs2
  gi_wp2
  gi_loopw [4, 14] (fun sv i wr => ∃ (k : Nat), k ≤ s.n ∧ i = .int .i64 (k : Int) ∧ sv = .int .i64 (s.st ch k) ∧ (∀ j, j < k → s.dn ch j = true) ∧ J (sel k) wr ∧ Kp2 n₀ Bs Bc W wr)
    (fun _ i _ => s.n - (RowKit.intOf i).toNat)
  case atStart => exact ⟨0, Nat.zero_le _, rfl, rfl, fun j h => absurd h (by omega), h0, Kp2.refl _ _ _ _⟩
  case round =>
    obtain ⟨k, hk, rfl, rfl, hno, hJs, hnx⟩ := hrel
    by_cases hlt : k < s.n
    · have q0 := (World.cell?_of_block (a := ⟨Bs, 0, none⟩) hnx.2.1).trans (hBs 0 _ rfl)
      have q1 := (World.cell?_of_block (a := ⟨Bs, 1, none⟩) hnx.2.1).trans (hBs 1 _ rfl)
      have q2 := (World.cell?_of_block (a := ⟨Bs, 2, none⟩) hnx.2.1).trans (hBs 2 _ rfl)
      have q3 := (World.cell?_of_block (a := ⟨Bs, 3, none⟩) hnx.2.1).trans (hBs 3 _ rfl)
      have q4 := (World.cell?_of_block (a := ⟨Bs, 4, none⟩) hnx.2.1).trans (hBs 4 _ rfl)
      have q5 := (World.cell?_of_block (a := ⟨Bs, 5, none⟩) hnx.2.1).trans (hBs 5 _ rfl)
      have q6 := (World.cell?_of_block (a := ⟨Bs, 6, none⟩) hnx.2.1).trans (hBs 6 _ rfl)
      have qc := (World.cell?_of_block (a := ⟨Bc, 0, none⟩) hnx.2.2).trans hBc
      have hwn : n₀ ≤ wr.heap.size := Nat.le_trans hn₀ hnx.1.size
      have hst := o.st_bd hno
      have hlg := hfit k _ hlt hst.1 hst.2
      have hbsz : Bs < wr.heap.size := Nat.lt_of_lt_of_le hBsl hnx.1.size
      have hbcz : Bc < wr.heap.size := Nat.lt_of_lt_of_le hBcl hnx.1.size
      clear hBs0 hBs5
      cases hd : s.does k (s.st ch k) (ch k (s.st ch k)) with
      | false =>
        gi_wp2_with (first
          | (refine ⟨trivial, ?_⟩; gi_at_call 55; refine (callsIn_wide.2 (hch k (s.st ch k) _ hnx.1 hwn hlt hst.1 hst.2)).mono ?_; rintro e w3 ⟨rfl, hb3⟩; obtain ⟨hc3, hf3⟩ := bcell hb3; have hn3 := hnx.trans (Kp2.below hb3 hwn hbsz hbcz); have hS3 := hSn _ hn3.1 (Nat.le_trans hwn hb3.size))
          | (refine ⟨trivial, ?_⟩; gi_at_call 51; refine (callsIn_wide.2 (after45 o hS3 hlt hst hlg)).mono ?_; rintro e w4 ⟨rfl, hb4⟩; rw [hd]))
        refine ⟨fun _ h => (by cases h), ?_⟩
        gi_wp2
        refine bodyPost_ret (results_none rfl _ _ _) rfl ?_
        exact ⟨⟨_, rfl⟩, .inl ⟨_, by rw [Sea.run_at (s := s) (ch := ch) hd hno hlt], hJ _ _ _ none (hJ _ _ _ none hJs (grown_of_below hb3) (fun r e => by cases e)) (grown_of_below hb4) (fun r e => by cases e)⟩⟩
      | true =>
        gi_wp2_with (first
          | (refine ⟨trivial, ?_⟩; gi_at_call 55; refine (callsIn_wide.2 (hch k (s.st ch k) _ hnx.1 hwn hlt hst.1 hst.2)).mono ?_; rintro e w3 ⟨rfl, hb3⟩; obtain ⟨hc3, hf3⟩ := bcell hb3; have hn3 := hnx.trans (Kp2.below hb3 hwn hbsz hbcz); have hS3 := hSn _ hn3.1 (Nat.le_trans hwn hb3.size))
          | (refine ⟨trivial, ?_⟩; gi_at_call 51; refine (callsIn_wide.2 (after45 o hS3 hlt hst hlg)).mono ?_; rintro e w4 ⟨rfl, hb4⟩; rw [hd]; have hJ4 := hJ _ _ _ none (hJ _ _ _ none hJs (grown_of_below hb3) (fun r e => by cases e)) (grown_of_below hb4) (fun r e => by cases e); obtain ⟨fn, tmps, assign, body, hy, hR⟩ := hY _ k w4 hJ4 (by rw [sel_length]; exact hlt)))
        refine hR.mono ?_
        rintro e W3 (⟨rfl, hJ3, hk3⟩ | ⟨rfl, hJx3⟩)
        · gi_wp2
          go_roundw
          case rel => exact ⟨k + 1, by omega, by go_num, rfl, fun j hj => by
            by_cases e : j = k
            · subst e; exact hd
            · exact hno j (by omega), by rw [sel_succ]; exact hJ3, (hn3.trans (Kp2.below hb4 (Nat.le_trans hwn hb3.size) (Nat.lt_of_lt_of_le hbsz hb3.size) (Nat.lt_of_lt_of_le hbcz hb3.size))).trans hk3⟩
          case measure => simp [RowKit.intOf]; omega
        · gi_wp2
          refine bodyPost_ret (results_none rfl _ _ _) rfl ?_
          exact ⟨⟨_, rfl⟩, .inr ⟨_, ⟨k + 1, by omega, (sel_succ k).symm⟩, hJx3⟩⟩
    · obtain rfl : k = s.n := by omega
      gi_wp2
      go_end0
      exact ⟨⟨_, rfl⟩, .inl ⟨_, by rw [Sea.run_all hno], hJs⟩⟩
end Go.Proofs.Ytbkjjefjnkkgbaa.sea
