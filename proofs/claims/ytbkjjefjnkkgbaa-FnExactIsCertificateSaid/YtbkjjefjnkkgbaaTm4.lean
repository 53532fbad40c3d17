import Derived.Test.YtbkjjefjnkkgbaaTm1
import Derived.Test.YtbkjjefjnkkgbaaTm3
import Derived.Lib.Hide
import Derived.Test.YtbkjjefjnkkgbaaSx2
import Derived.Test.YtbkjjefjnkkgbaaRd
namespace Go.Rd
open Go Go.RowKit
theorem act57 {a : Act} {d : List Deferred} (hs : a.tmps.size = 57) (hd : a.defers = d) : ∃ x0 x1 x2 x3 x4 x5 x6 x7 x8 x9 x10 x11 x12 x13 x14 x15 x16 x17 x18 x19 x20 x21 x22 x23 x24 x25 x26 x27 x28 x29 x30 x31 x32 x33 x34 x35 x36 x37 x38 x39 x40 x41 x42 x43 x44 x45 x46 x47 x48 x49 x50 x51 x52 x53 x54 x55 x56 : Value, a = { tmps := #[x0, x1, x2, x3, x4, x5, x6, x7, x8, x9, x10, x11, x12, x13, x14, x15, x16, x17, x18, x19, x20, x21, x22, x23, x24, x25, x26, x27, x28, x29, x30, x31, x32, x33, x34, x35, x36, x37, x38, x39, x40, x41, x42, x43, x44, x45, x46, x47, x48, x49, x50, x51, x52, x53, x54, x55, x56], defers := d } := by
  obtain ⟨⟨l⟩, ds⟩ := a
  have hd : ds = d := hd
  subst hd
  match l, hs with
  | x0 :: x1 :: x2 :: x3 :: x4 :: x5 :: x6 :: x7 :: x8 :: x9 :: x10 :: x11 :: x12 :: x13 :: x14 :: x15 :: x16 :: x17 :: x18 :: x19 :: x20 :: x21 :: x22 :: x23 :: x24 :: x25 :: x26 :: x27 :: x28 :: x29 :: x30 :: x31 :: x32 :: x33 :: x34 :: x35 :: x36 :: x37 :: x38 :: x39 :: x40 :: x41 :: x42 :: x43 :: x44 :: x45 :: x46 :: x47 :: x48 :: x49 :: x50 :: x51 :: x52 :: x53 :: x54 :: x55 :: x56 :: [], _ => exact ⟨x0, x1, x2, x3, x4, x5, x6, x7, x8, x9, x10, x11, x12, x13, x14, x15, x16, x17, x18, x19, x20, x21, x22, x23, x24, x25, x26, x27, x28, x29, x30, x31, x32, x33, x34, x35, x36, x37, x38, x39, x40, x41, x42, x43, x44, x45, x46, x47, x48, x49, x50, x51, x52, x53, x54, x55, x56, rfl⟩
end Go.Rd
namespace Go.Proofs.Ytbkjjefjnkkgbaa.sea
open Go Go.Ab Go.Proofs Go.RowKit Go.Shelf
attribute [local go_sem] Oper.semAt_some
set_option linter.unusedVariables false
/-- The slots of checkTable at its loops: those that the loops write by f. -/
def A65 (v : Value) (tv : Value) (B : Nat) (f : Nat → Value) : Array Value := #[v, tv, .pointer (some ⟨B, 0, none⟩), .pointer (some ⟨B + 1, 0, none⟩), .pointer (some ⟨B + 1 + 1, 0, none⟩), f 5, f 6, f 7, f 8, f 9, f 10, f 11, f 12, f 13, f 14, f 15, f 16, f 17, f 18, f 19, f 20, f 21, f 22, f 23, f 24, f 25, f 26, f 27, f 28, f 29, f 30, f 31, f 32, f 33, f 34, f 35, f 36, f 37, f 38, f 39, f 40, f 41, f 42, f 43, f 44, f 45, f 46, f 47, f 48, f 49, f 50, f 51, f 52, f 53, f 54, f 55, f 56]
theorem A65_def {v tv : Value} {B : Nat} {f : Nat → Value} : A65 v tv B f = #[v, tv, .pointer (some ⟨B, 0, none⟩), .pointer (some ⟨B + 1, 0, none⟩), .pointer (some ⟨B + 1 + 1, 0, none⟩), f 5, f 6, f 7, f 8, f 9, f 10, f 11, f 12, f 13, f 14, f 15, f 16, f 17, f 18, f 19, f 20, f 21, f 22, f 23, f 24, f 25, f 26, f 27, f 28, f 29, f 30, f 31, f 32, f 33, f 34, f 35, f 36, f 37, f 38, f 39, f 40, f 41, f 42, f 43, f 44, f 45, f 46, f 47, f 48, f 49, f 50, f 51, f 52, f 53, f 54, f 55, f 56] := rfl
theorem A65_of {a : Act} {v tv : Value} {B : Nat} (hs : a.tmps.size = 57) (h0 : a.tmps.getD 0 undef = v) (h1 : a.tmps.getD 1 undef = tv) (h2 : a.tmps.getD 2 undef = .pointer (some ⟨B, 0, none⟩)) (h3 : a.tmps.getD 3 undef = .pointer (some ⟨B + 1, 0, none⟩)) (h4 : a.tmps.getD 4 undef = .pointer (some ⟨B + 1 + 1, 0, none⟩)) : a = { tmps := A65 v tv B (fun i => a.tmps.getD i undef), defers := a.defers } := by
  obtain ⟨x0, x1, x2, x3, x4, x5, x6, x7, x8, x9, x10, x11, x12, x13, x14, x15, x16, x17, x18, x19, x20, x21, x22, x23, x24, x25, x26, x27, x28, x29, x30, x31, x32, x33, x34, x35, x36, x37, x38, x39, x40, x41, x42, x43, x44, x45, x46, x47, x48, x49, x50, x51, x52, x53, x54, x55, x56, e⟩ := Rd.act57 hs rfl
  obtain ⟨tm, df⟩ := a
  cases e
  have h0 : x0 = v := h0
  have h1 : x1 = tv := h1
  have h2 : x2 = _ := h2
  have h3 : x3 = _ := h3
  have h4 : x4 = _ := h4
  subst h0 h1 h2 h3 h4
  rfl
theorem A65_eq {tm : Array Value} {d : List Deferred} {v tv : Value} {B : Nat} (hs : tm.size = 57) (h0 : tm.getD 0 undef = v) (h1 : tm.getD 1 undef = tv) (h2 : tm.getD 2 undef = .pointer (some ⟨B, 0, none⟩)) (h3 : tm.getD 3 undef = .pointer (some ⟨B + 1, 0, none⟩)) (h4 : tm.getD 4 undef = .pointer (some ⟨B + 1 + 1, 0, none⟩)) : ({ tmps := tm, defers := d } : Act) = { tmps := A65 v tv B (fun i => tm.getD i undef), defers := d } :=
  A65_of (a := ⟨tm, d⟩) hs h0 h1 h2 h3 h4
/-- The marks that the ranges over functions have left. -/
def Marks (n₀ : Nat) (Ds : List Nat) (W : World) : Prop := Ds.Nodup ∧ ∀ D, D ∈ Ds → n₀ ≤ D ∧ W.heap[D]? = some (.deferred (some []))
theorem Marks.below {n₀ : Nat} {Ds : List Nat} {W W' : World} (h : Marks n₀ Ds W) (hb : Below W.heap.size W W') : Marks n₀ Ds W' :=
  ⟨h.1, fun D hD => ⟨(h.2 D hD).1, (hb.block D (Array.getElem?_eq_some_iff.1 (h.2 D hD).2).1).trans (h.2 D hD).2⟩⟩
theorem Marks.set {n₀ : Nat} {Ds : List Nat} {W : World} (h : Marks n₀ Ds W) (p : Addr) (hp : p.block < n₀) (u : Value) : Marks n₀ Ds (W.setCell p u) :=
  ⟨h.1, fun D hD => ⟨(h.2 D hD).1, (Below.heap_setCell W p u D (by have := (h.2 D hD).1; omega)).trans (h.2 D hD).2⟩⟩
theorem Marks.cons {n₀ D : Nat} {Ds : List Nat} {W : World} (h : Marks n₀ Ds W) (hz : ∀ D', D' ∈ Ds → D' < D) (hn : n₀ ≤ D) (hD : W.heap[D]? = some (.deferred (some []))) : Marks n₀ (D :: Ds) W :=
  ⟨List.nodup_cons.2 ⟨fun hm => absurd (hz D hm) (Nat.lt_irrefl _), h.1⟩, fun D' hD' => by
    rcases List.mem_cons.1 hD' with rfl | hm
    · exact ⟨hn, hD⟩
    · exact h.2 D' hm⟩
theorem Marks.lt {n₀ : Nat} {Ds : List Nat} {W : World} (h : Marks n₀ Ds W) : ∀ D, D ∈ Ds → D < W.heap.size := fun D hD => (Array.getElem?_eq_some_iff.1 (h.2 D hD).2).1
theorem below_marks {n₀ : Nat} {Ds : List Nat} {w W W' : World} (hb : Below n₀ w W) (hm : ∀ D, D ∈ Ds → n₀ ≤ D) (h1 : ∀ b, b ∉ Ds → W'.heap[b]? = W.heap[b]?) (h2 : W'.heap.size = W.heap.size) (h3 : W'.os = W.os) (h4 : W'.tape = W.tape) (h5 : W'.output = W.output) : Below n₀ w W' :=
  ⟨h3.trans hb.os, h4.trans hb.tape, h5.trans hb.output, by rw [h2]; exact hb.size, fun k hk => (h1 k (fun h => absurd (hm k h) (by omega))).trans (hb.block k hk)⟩
/-- The error of a flaw. -/
def evR : Option (Nat × Nat × Nat) → Value
  | none => .nilIface
  | some (k, i, l) => .iface 98 (.agg #[.int .i64 (k : Int), .int .i64 (i : Int), .int .i64 (l : Int)])
theorem succI (k : Nat) : Value.int .i64 ((k : Int) + 1) = .int .i64 ((k + 1 : Nat) : Int) := by simp
/-- Three cells. -/
def Blk86 (W : World) (B : Nat) (a b c : Int) : Prop := W.heap[B]? = some (.cells #[.int .i64 a, .int .i64 b, .int .i64 c] 86 (0, 0))
theorem Blk86.lt {W : World} {B : Nat} {a b c : Int} (h : Blk86 W B a b c) : B < W.heap.size := (Array.getElem?_eq_some_iff.1 h).1
theorem Blk86.kept {W W' : World} {row : Option Nat} {B : Nat} {a b c : Int} (h : Blk86 W B a b c) (hg : W.grownBy W' row) (hne : some B ≠ row) : Blk86 W' B a b c := (hg.block B h.lt hne).trans h
theorem Blk86.cells {W : World} {B : Nat} {a b c : Int} (h : Blk86 W B a b c) : W.cell? ⟨B, 0, none⟩ = some (.int .i64 a) ∧ W.cell? ⟨B, 1, none⟩ = some (.int .i64 b) ∧ W.cell? ⟨B, 2, none⟩ = some (.int .i64 c) := by
  unfold Blk86 at h
  simp [World.cell?, h]
theorem marks_own {n₀ N : Nat} {Ds : List Nat} {X Y : World} {row : Option Nat} (h : Marks n₀ Ds X) (hd : ∀ D, D ∈ Ds → D < N) (hg : X.grownBy Y row) (hr : ∀ r, row = some r → N ≤ r) : Marks n₀ Ds Y :=
  ⟨h.1, fun D hD => ⟨(h.2 D hD).1, (hg.block D (h.lt D hD) (fun e => by have := hr D e.symm; have := hd D hD; omega)).trans (h.2 D hD).2⟩⟩
theorem gmc {s : Sea} {w W : World} {s2 : Value} (o : s.Ok) (h : SlV s.gm w.heap.size w s2 s.m) {k : Nat} (hk : k < s.n) (hb : Below w.heap.size w W) (bm om cm : Nat) (e : s2 = .slice (some ⟨bm, om, none⟩) s.m cm) : W.cell? ⟨bm, om + k, none⟩ = some (.int .i64 (s.gm k)) := by
  rcases h with ⟨a', e', e0⟩ | ⟨b', o', c', e', hc, hE⟩
  · exact absurd e0 (by rw [o.m]; omega)
  · rw [e] at e'
    cases e'
    exact (hb.cell (p := ⟨bm, om + k, none⟩) hE.1).trans (hE.2 k (by rw [o.m]; exact hk))
theorem cho_all {s : Sea} {T : Tab} {k i : Nat} {ys : List (Cho s k i)} (hy : ys.map (fun j => j.1) = prL (few s k i (moS s)) (moS s)) (hp : ∀ j, j ∈ ys → badB s T k i j.1 = false) (l : Nat) (hl : l < moT s) : badB s T k i l = false := by
  cases hd : s.does k i l with
  | false => unfold badB; rw [hd]; rfl
  | true =>
    have hL : few s k i (moS s) ≤ l := by
      rcases Nat.lt_or_ge l (few s k i (moS s)) with h | h
      · rw [few_not s k i h] at hd; cases hd
      · exact h
    have hl : l < moS s := hl
    have hm : l ∈ ys.map (fun j => j.1) := by
      rw [hy]; unfold prL
      exact List.mem_map.2 ⟨l - few s k i (moS s), List.mem_range.2 (by omega), by omega⟩
    obtain ⟨j, hj, rfl⟩ := List.mem_map.1 hm
    exact hp j hj
theorem cho_fst {s : Sea} {T : Tab} {k i j0 : Nat} {p0 : List (Cho s k i)} {xe : Cho s k i} (hy : (p0 ++ [xe]).map (fun j => j.1) = prL (few s k i (moS s)) j0) (hp : ∀ j, j ∈ p0 → badB s T k i j.1 = false) (l : Nat) (hl : l < xe.1) : badB s T k i l = false := by
  cases hd : s.does k i l with
  | false => unfold badB; rw [hd]; rfl
  | true =>
    have hL : few s k i (moS s) ≤ l := by
      rcases Nat.lt_or_ge l (few s k i (moS s)) with h | h
      · rw [few_not s k i h] at hd; cases hd
      · exact h
    have hx : xe.1 ∈ prL (few s k i (moS s)) j0 := by rw [← hy]; simp
    have hxj : xe.1 < j0 := by
      unfold prL at hx
      obtain ⟨t, ht, e⟩ := List.mem_map.1 hx
      have := List.mem_range.1 ht
      omega
    have hm : l ∈ (p0 ++ [xe]).map (fun j => j.1) := by
      rw [hy]; unfold prL
      exact List.mem_map.2 ⟨l - few s k i (moS s), List.mem_range.2 (by omega), by omega⟩
    obtain ⟨j, hj, e⟩ := List.mem_map.1 hm
    rcases List.mem_append.1 hj with h | h
    · rw [← e]; exact hp j h
    · rw [List.mem_singleton.1 h] at e; omega
section
variable {s : Sea} {w : World} {T : Tab}
theorem leave65 {n Z : Nat} {tm : Array Value} {Ds : List Nat} {W : World} {r : Option (Nat × Nat × Nat)} (hs : tm.size = 57) (h4 : tm.getD 4 undef = .pointer (some ⟨w.heap.size + 1 + 1, 0, none⟩)) (bE : Boxed W (w.heap.size + 1 + 1) 77 (evR r)) (hM : Marks Z Ds W) (hZ : w.heap.size + 3 ≤ Z) (hB : Below w.heap.size w W) (hF : FlawIs s T r) :
    bodyPostM Fence.wide n Try.prog Try.f65 (fun e w' => ∃ r, e = .returned (evR r) ∧ FlawIs s T r ∧ Below w.heap.size w w') .ret { tmps := tm, defers := Ds.map mkD } W := by
  refine leaves_marks Ds W hM.1 (fun D h => (hM.2 D h).2) (fun w' k1 k2 k3 k4 k5 => ?_)
  have b' : Boxed w' (w.heap.size + 1 + 1) 77 (evR r) := (k1 _ (fun h => by have := (hM.2 _ h).1; omega)).trans bE
  have c := b'.cell
  obtain ⟨x0, x1, x2, x3, x4, x5, x6, x7, x8, x9, x10, x11, x12, x13, x14, x15, x16, x17, x18, x19, x20, x21, x22, x23, x24, x25, x26, x27, x28, x29, x30, x31, x32, x33, x34, x35, x36, x37, x38, x39, x40, x41, x42, x43, x44, x45, x46, x47, x48, x49, x50, x51, x52, x53, x54, x55, x56, e⟩ := Rd.act57 (a := ⟨tm, []⟩) hs rfl
  cases e
  have h4 : x4 = _ := h4
  subst h4
  refine ⟨evR r, by simp [results, Try.f65, go_sem, c], r, rfl, hF, below_marks hB (fun D h => by have := (hM.2 D h).1; omega) k1 k2 k3 k4 k5⟩
set_option maxRecDepth 100000 in
set_option maxHeartbeats 8000000 in
theorem chk65_in (n : Nat) (hn : 6 ≤ n) (o : s.Ok) (hf : formB s T = true) {v tv : Value} (hS : SeaV s w v) (hT : TabV T w tv) (hx : TabMx T) :
    CallsIn Fence.wide n Try.prog 65 #[v, tv] w fun e w' => ∃ r, e = .returned (evR r) ∧ FlawIs s T r ∧ Below w.heap.size w w' := by
  have hwd := wdS_eq o
  have hst := o.store
  have n2 := o.n2
  have hmx := mx_of o hf hx
  obtain ⟨s1, s2, rfl, hs1, hs2, hl1, hl2⟩ := hS
  obtain ⟨a1, c1, rfl⟩ := hs1.slice
  obtain ⟨bt, ot, ct, rfl, hTn, hbt, hrows⟩ := tabCell hT o hf
  obtain ⟨W1, hW1⟩ : ∃ W1, W1 = w.alloc (.cells #[.slice a1 s.n c1, s2, .int .i64 (s.g 0), .int .i64 (s.g 1), .int .i64 (s.g 2), .int .i64 (s.g 3), .int .i64 (s.g 4)] 27) := ⟨_, rfl⟩
  obtain ⟨W2, hW2⟩ : ∃ W2, W2 = W1.alloc (.cells #[.slice (some ⟨bt, ot, none⟩) T.n ct] 47) := ⟨_, rfl⟩
  obtain ⟨W3, hW3⟩ : ∃ W3, W3 = W2.alloc (.cells #[.nilIface] 77) := ⟨_, rfl⟩
  have z1 : W1.heap.size = w.heap.size + 1 := by rw [hW1]; simp
  have z2 : W2.heap.size = w.heap.size + 2 := by rw [hW2]; simp [z1]
  have z3 : W3.heap.size = w.heap.size + 3 := by rw [hW3]; simp [z2]
  have hB1 : Below w.heap.size w W1 := by rw [hW1]; exact (Below.refl _ w).alloc (Nat.le_refl _) _
  have hB13 : Below W1.heap.size W1 W3 := by rw [hW3, hW2]; exact ((Below.refl _ W1).alloc (Nat.le_refl _) _).alloc (by simp) _
  have hB3 : Below w.heap.size w W3 := hB1.trans (hB13.mono (by omega))
  have hS3 : SeaV s W3 (.agg #[.slice a1 s.n c1, s2, .int .i64 (s.g 0), .int .i64 (s.g 1), .int .i64 (s.g 2), .int .i64 (s.g 3), .int .i64 (s.g 4)]) := ⟨_, s2, rfl, hs1.at hB3, hs2.at hB3, hl1, hl2⟩
  have hT3 := TabV.below hB3 hT
  have bE : Boxed W3 (w.heap.size + 1 + 1) 77 .nilIface := by
    have := Boxed.new W2 77 .nilIface
    rw [z2, ← hW3] at this; exact this
  have bT : Boxed W3 (w.heap.size + 1) 47 (.slice (some ⟨bt, ot, none⟩) T.n ct) := by
    have := Boxed.new W1 47 (.slice (some ⟨bt, ot, none⟩) T.n ct)
    rw [z1, ← hW2] at this; rw [hW3]; exact this.alloc _
  have q (k : Nat) (u : Value) (h : #[.slice a1 s.n c1, s2, Value.int .i64 (s.g 0), .int .i64 (s.g 1), .int .i64 (s.g 2), .int .i64 (s.g 3), .int .i64 (s.g 4)][k]? = some u) : W3.cell? ⟨w.heap.size, k, none⟩ = some u :=
    (hB13.cell (p := ⟨w.heap.size, k, none⟩) (by show w.heap.size < _; omega)).trans (by rw [hW1]; exact wcells (s := s) w 27 k u h)
  refine callsIn_of_wp_marks Try.func65 rfl trivial ?_ rfl
  simp only [Try.ntmps65, List.size_toArray, List.length_cons, List.length_nil, Nat.reduceAdd, Nat.reduceSub, Array.replicate_succ, Array.replicate_zero, List.push_toArray, List.append_toArray, List.nil_append, List.cons_append]
  have Q0 := Lib.hid (q 0 _ rfl)
  have HZ3 := Lib.hid z3
  have HTn := Lib.hid hTn
  have HWD := Lib.hid hwd
  clear z1 z2 z3 hTn hwd
  gi_wp2_with (refine ⟨trivial, fun h => (by cases h), ?_⟩; rw [← hW1, ← hW2, ← hW3]; refine (callsIn_wide.2 (form75 o hS3 hT3 hx.1.1 hx.1.2 hx.2)).mono ?_; rintro e w4 ⟨rfl, hb4⟩; rw [hf]; have y0 := (hb4.cell (p := ⟨w.heap.size, 0, none⟩) (by have := HZ3.out; show w.heap.size < _; omega)).trans Q0.out)
  refine wpIn_loop (fun a W => ∃ (f : Nat → Value) (Ds : List Nat) (k : Nat), a = { tmps := A65 (.agg #[.slice a1 s.n c1, s2, .int .i64 (s.g 0), .int .i64 (s.g 1), .int .i64 (s.g 2), .int .i64 (s.g 3), .int .i64 (s.g 4)]) (.slice (some ⟨bt, ot, none⟩) T.n ct) w.heap.size f, defers := Ds.map mkD } ∧ f 18 = .int .i64 (k : Int) ∧ f 17 = .int .i64 (s.n : Int) ∧ k ≤ s.n ∧ Marks W3.heap.size Ds W ∧ Below W3.heap.size W3 W ∧ (∀ k', k' < k → ∀ i', i' < wdS s → ∀ l', l' < moT s → badB s T k' i' l' = false))
    (fun a _ => s.n - (RowKit.intOf (a.tmps.getD 18 undef)).toNat) ?start ?round
  case start =>
    exact ⟨_, [], 0, A65_eq rfl rfl rfl rfl rfl rfl, rfl, rfl, Nat.zero_le _, ⟨List.nodup_nil, fun _ h => (by cases h)⟩, hb4, fun j h => absurd h (by omega)⟩
  case round =>
    clear y0 hb4
    rintro a W ⟨f, Ds, k, rfl, h18, h17, hk, hM, hB, hok⟩
    have z3 := HZ3.out
    have hBw := hB3.trans (hB.mono (B' := w.heap.size) (by omega))
    have bEW : Boxed W (w.heap.size + 1 + 1) 77 .nilIface := (hB.block _ (by omega)).trans bE
    have bTW : Boxed W (w.heap.size + 1) 47 (.slice (some ⟨bt, ot, none⟩) T.n ct) := (hB.block _ (by omega)).trans bT
    by_cases hlt : k < s.n
    · have hBa : Below W.heap.size W (W.alloc (.cells #[.int .i64 (k : Int)] 3)) := (Below.refl _ W).alloc (Nat.le_refl _) _
      have bK := Boxed.new W 3 (.int .i64 (k : Int))
      have xK := bK.cell
      have xT := (hBa.cell (p := ⟨w.heap.size + 1, 0, none⟩) bTW.lt).trans bTW.cell
      obtain ⟨rk, ok_, ck_, qk, hrk, hck_⟩ := hrows k hk
      have hzw := hBw.size
      obtain ⟨Bk, hBk⟩ : ∃ Bk, Bk = W.heap.size := ⟨_, rfl⟩
      have qkW := (hBa.cell (p := ⟨bt, ot + k, none⟩) (show bt < W.heap.size by omega)).trans ((hBw.cell (p := ⟨bt, ot + k, none⟩) hbt).trans qk)
      have hkT : k < T.n := by have := HTn.out; omega
      rw [← hBk] at bK
      clear z3
      rw [A65_def (f := f), h18, h17]
      gi_wp2
      rw [← hBk]
      refine wpIn_loop (fun a W' => ∃ (f' : Nat → Value) (Ds' : List Nat) (i : Nat), a = { tmps := A65 (.agg #[.slice a1 s.n c1, s2, .int .i64 (s.g 0), .int .i64 (s.g 1), .int .i64 (s.g 2), .int .i64 (s.g 3), .int .i64 (s.g 4)]) (.slice (some ⟨bt, ot, none⟩) T.n ct) w.heap.size f', defers := Ds'.map mkD } ∧ (f' 26 = .int .i64 (i : Int) ∧ f' 25 = .int .i64 (wdS s : Int) ∧ f' 24 = .slice (some ⟨rk, ok_, none⟩) (wdS s) ck_ ∧ f' 18 = .int .i64 (k : Int) ∧ f' 17 = .int .i64 (s.n : Int) ∧ f' 5 = .pointer (some ⟨Bk, 0, none⟩)) ∧ i ≤ wdS s ∧ Boxed W' Bk 3 (.int .i64 (k : Int)) ∧ Marks W3.heap.size Ds' W' ∧ Below W3.heap.size W3 W' ∧ (∀ i', i' < i → ∀ l', l' < moT s → badB s T k i' l' = false))
        (fun a _ => wdS s - (RowKit.intOf (a.tmps.getD 26 undef)).toNat) ?start2 ?round2
      case start2 =>
        exact ⟨_, Ds, 0, A65_eq rfl rfl rfl rfl rfl rfl, ⟨rfl, rfl, rfl, rfl, rfl, rfl⟩, Nat.zero_le _, bK, hM.below hBa, hB.trans (hBa.mono hB.size), fun j h => absurd h (by omega)⟩
      case round2 =>
        have hBkZ : W3.heap.size ≤ Bk := by rw [hBk]; exact hB.size
        clear bEW bTW hBw hM hB bK xK xT qkW hBa hzw h17 hBk
        rintro a W' ⟨f', Ds', i, rfl, ⟨g26, g25, g24, g18, g17, g5⟩, hi, bK, hM, hB, hok2⟩
        have z3 := HZ3.out
        have hBw := hB3.trans (hB.mono (B' := w.heap.size) (by omega))
        have hzw := hBw.size
        have bEW : Boxed W' (w.heap.size + 1 + 1) 77 .nilIface := (hB.block _ (by omega)).trans bE
        have bTW : Boxed W' (w.heap.size + 1) 47 (.slice (some ⟨bt, ot, none⟩) T.n ct) := (hB.block _ (by omega)).trans bT
        by_cases hil : i < wdS s
        · have hBb : Below W'.heap.size W' ((W'.alloc (.cells #[.int .i64 (i : Int)] 3)).alloc (.cells #[.int .i64 (T.e k i)] 2)) := ((Below.refl _ W').alloc (Nat.le_refl _) _).alloc (by simp) _
          have bI := (Boxed.new W' 3 (.int .i64 (i : Int))).alloc (.cells #[.int .i64 (T.e k i)] 2)
          have bN := Boxed.new (W'.alloc (.cells #[.int .i64 (i : Int)] 3)) 2 (.int .i64 (T.e k i))
          simp only [World.size_alloc] at bN
          have xI := bI.cell
          have xN := bN.cell
          have xK := (hBb.cell (p := ⟨Bk, 0, none⟩) bK.lt).trans bK.cell
          have qe := (hBw.cell (p := ⟨rk, ok_ + i, none⟩) hrk).trans (hck_ i hil)
          have pq (j : Nat) (u : Value) (h : #[.slice a1 s.n c1, s2, Value.int .i64 (s.g 0), .int .i64 (s.g 1), .int .i64 (s.g 2), .int .i64 (s.g 3), .int .i64 (s.g 4)][j]? = some u) := (hBb.cell (p := ⟨w.heap.size, j, none⟩) (show w.heap.size < W'.heap.size by have := hB.size; omega)).trans ((hB.cell (p := ⟨w.heap.size, j, none⟩) (show w.heap.size < W3.heap.size by omega)).trans (q j u h))
          have p0 := pq 0 _ rfl
          have p1 := pq 1 _ rfl
          have p2 := pq 2 _ rfl
          have p3 := pq 3 _ rfl
          have p4 := pq 4 _ rfl
          have p5 := pq 5 _ rfl
          have p6 := pq 6 _ rfl
          clear z3 hzw pq
          rw [A65_def (f := f'), g26, g25, g24, g18, g17, g5]
          gi_wp2_with (refine ⟨trivial, fun h => (by cases h), ?_⟩; gi_at_call 71; refine (mk62_in Fence.wide _ trivial rfl _ _ _ _).mono ?_; rintro e w5 ⟨rfl, rfl⟩)
          obtain ⟨W5, hW5⟩ : ∃ W5, W5 = ((((W'.alloc (.cells #[.int .i64 (i : Int)] 3)).alloc (.cells #[.int .i64 (T.e k i)] 2)).alloc (.cells ⟨[.slice a1 s.n c1, s2, .int .i64 (s.g 0), .int .i64 (s.g 1), .int .i64 (s.g 2), .int .i64 (s.g 3), .int .i64 (s.g 4)]⟩ 27)).alloc (.cells #[.int .i64 (k : Int)] 3)).alloc (.cells #[.int .i64 (i : Int)] 2) := ⟨_, rfl⟩
          rw [← hW5]
          obtain ⟨Wb, hWb⟩ : ∃ Wb, Wb = (W'.alloc (.cells #[.int .i64 (i : Int)] 3)).alloc (.cells #[.int .i64 (T.e k i)] 2) := ⟨_, rfl⟩
          rw [← hWb] at hW5 hBb bI bN
          have zb : Wb.heap.size = W'.heap.size + 1 + 1 := by rw [hWb]; simp
          have z5 : W5.heap.size = W'.heap.size + 5 := by rw [hW5]; simp [zb]
          have hBb5 : Below Wb.heap.size Wb W5 := by rw [hW5]; exact (((Below.refl _ Wb).alloc (Nat.le_refl _) _).alloc (by simp) _).alloc (by simp <;> omega) _
          have hB5 : Below W'.heap.size W' W5 := hBb.trans (hBb5.mono hBb.size)
          have hcs : ∀ (j : Nat) (u : Value), #[.slice a1 s.n c1, s2, Value.int .i64 (s.g 0), .int .i64 (s.g 1), .int .i64 (s.g 2), .int .i64 (s.g 3), .int .i64 (s.g 4)][j]? = some u → W5.cell? ⟨W'.heap.size + 1 + 1, j, none⟩ = some u := fun j u h => by
            have h1 := wcells (s := s) Wb 27 j u h
            rw [zb] at h1
            rw [← h1, hW5, World.cell?_alloc_lt _ _ _ (by simp [zb] <;> omega), World.cell?_alloc_lt _ _ _ (by simp [zb])]
          have bK5 : Boxed W5 (W'.heap.size + 1 + 1 + 1) 3 (.int .i64 (k : Int)) := by
            have h1 := (Boxed.new (Wb.alloc (.cells ⟨[.slice a1 s.n c1, s2, .int .i64 (s.g 0), .int .i64 (s.g 1), .int .i64 (s.g 2), .int .i64 (s.g 3), .int .i64 (s.g 4)]⟩ 27)) 3 (.int .i64 (k : Int))).alloc (.cells #[.int .i64 (i : Int)] 2)
            rw [World.size_alloc, zb] at h1
            rw [hW5]; exact h1
          have bX5 : Boxed W5 (W'.heap.size + 1 + 1 + 2) 2 (.int .i64 (i : Int)) := by
            have h1 := Boxed.new ((Wb.alloc (.cells ⟨[.slice a1 s.n c1, s2, .int .i64 (s.g 0), .int .i64 (s.g 1), .int .i64 (s.g 2), .int .i64 (s.g 3), .int .i64 (s.g 4)]⟩ 27)).alloc (.cells #[.int .i64 (k : Int)] 3)) 2 (.int .i64 (i : Int))
            rw [World.size_alloc, World.size_alloc, zb] at h1
            rw [hW5]; exact h1
          have z3 := HZ3.out
          have hB35 : Below W3.heap.size W3 W5 := hB.trans (hB5.mono hB.size)
          have hBw5 : Below w.heap.size w W5 := hB3.trans (hB35.mono (by omega))
          have hS5 : SeaV s W5 (seaVal (.slice a1 s.n c1) s2 s) := SeaV.below hB35 hS3
          have bI5 : Boxed W5 W'.heap.size 3 (.int .i64 (i : Int)) := (hBb5.block _ (by omega)).trans bI
          have bN5 : Boxed W5 (W'.heap.size + 1) 2 (.int .i64 (T.e k i)) := (hBb5.block _ (by omega)).trans bN
          have bKk5 : Boxed W5 Bk 3 (.int .i64 (k : Int)) := (hB5.block _ bK.lt).trans bK
          have bE5 : Boxed W5 (w.heap.size + 1 + 1) 77 .nilIface := (hB35.block _ (by omega)).trans bE
          have bT5 : Boxed W5 (w.heap.size + 1) 47 (.slice (some ⟨bt, ot, none⟩) T.n ct) := (hB35.block _ (by omega)).trans bT
          have hM5 := hM.below hB5
          have hlM := hM.lt
          clear hW5 hWb hBb hBb5 bI bN zb bEW bTW xI xN xK p0 p1 p2 p3 p4 p5 p6 qe
          have hix : 0 ≤ (i : Int) ∧ (i : Int) ≤ s.g 2 := by have := HWD.out; omega
          have hzW := hB.size
          refine wpIn_rangeFunc_ownH (α := Cho s k i) rfl (by omega) (gf := 80) (lb := #[.pointer (some ⟨W'.heap.size + 1 + 1, 0, none⟩), .pointer (some ⟨W'.heap.size + 1 + 1 + 1, 0, none⟩), .pointer (some ⟨W'.heap.size + 1 + 1 + 2, 0, none⟩)]) rfl trivial (enters_of Try.func80 (by kernel_rfl) rfl)
            (cho_stopsV (n - 1) (by omega) o hlt hix (W'.heap.size + 1 + 1) (W'.heap.size + 1 + 1 + 1) (W'.heap.size + 1 + 1 + 2) (.slice a1 s.n c1) s2 W5 hcs W5.heap.size (Nat.le_refl _) (by omega) (by omega) (by omega) hS5 (fun X hb _ => hS5.below hb) (fun X hb bm om cm e => gmc o hs2 hlt (hBw5.trans (hb.mono (by omega))) bm om cm e) bK5.cell bX5.cell)
            belowK_t (belowK_b (Nat.le_refl _)) (Below.refl _ _) (fun _ => rfl)
            (fun pre X => (∀ j, j ∈ pre → badB s T k i j.1 = false) ∧ Below W5.heap.size W5 X)
            (fun c pre X => c = .ret ∧ ∃ (xe : Cho s k i) (p0 : List (Cho s k i)), pre = p0 ++ [xe] ∧ (∀ j, j ∈ p0 → badB s T k i j.1 = false) ∧ badB s T k i xe.1 = true ∧ Boxed X (w.heap.size + 1 + 1) 77 (evR (some (k, i, xe.1))) ∧ Below w.heap.size w X ∧ Marks W3.heap.size Ds' X)
            (OwnFrom.and (ownFrom_pure _ _) (ownFrom_below (Nat.le_refl _) (Nat.le_refl _)))
            (fun c pre X Y row hs hg hr => by
              obtain ⟨e1, xe, p0, e2, e3, e4, e5, e6, e7⟩ := hs
              exact ⟨e1, xe, p0, e2, e3, e4, boxed_own _ 77 (fun (_ : Unit) => evR (some (k, i, xe.1))) () X Y row e5 hg (fun r e => (hr r e).2), ownFrom_below (β := Unit) (Nat.le_refl _) (by omega) () X Y row e6 hg hr, marks_own e7 (fun D hD => Nat.lt_of_lt_of_le (hlM D hD) hB5.size) hg (fun r e => (hr r e).1)⟩)
            ⟨fun j h => (by cases h), Below.refl _ _⟩
            (fun xe a' X => ∃ Bc, W5.heap.size ≤ Bc ∧ Blk86 X Bc (xe.1 : Int) (s.gm k * xe.1) (s.next k i xe.1) ∧ a' = { tmps := #[(.agg #[.slice a1 s.n c1, s2, .int .i64 (s.g 0), .int .i64 (s.g 1), .int .i64 (s.g 2), .int .i64 (s.g 3), .int .i64 (s.g 4)]), (.slice (some ⟨bt, ot, none⟩) T.n ct), .pointer (some ⟨w.heap.size, 0, none⟩), .pointer (some ⟨w.heap.size + 1, 0, none⟩), .pointer (some ⟨w.heap.size + 1 + 1, 0, none⟩), .pointer (some ⟨Bk, 0, none⟩), .pointer (some ⟨W'.heap.size, 0, none⟩), .pointer (some ⟨W'.heap.size + 1, 0, none⟩), .pointer (some ⟨Bc, 0, none⟩), f' 9, f' 10, f' 11, f' 12, f' 13, f' 14, f' 15, f' 16, .int .i64 (s.n : Int), .int .i64 (k : Int), f' 19, f' 20, f' 21, f' 22, f' 23, .slice (some ⟨rk, ok_, none⟩) (wdS s) ck_, .int .i64 (wdS s : Int), .int .i64 (i : Int), .bool true, .int .i64 (i : Int), .pointer (some ⟨rk, ok_ + i, none⟩), .int .i64 (T.e k i), (.agg #[.slice a1 s.n c1, s2, .int .i64 (s.g 0), .int .i64 (s.g 1), .int .i64 (s.g 2), .int .i64 (s.g 3), .int .i64 (s.g 4)]), .int .i64 (k : Int), .int .i64 (i : Int), .func (.func 80) #[] #[.pointer (some ⟨W'.heap.size + 1 + 1, 0, none⟩), .pointer (some ⟨W'.heap.size + 1 + 1 + 1, 0, none⟩), .pointer (some ⟨W'.heap.size + 1 + 1 + 2, 0, none⟩)], .agg #[.int .i64 (xe.1 : Int), .int .i64 (s.gm k * xe.1), .int .i64 (s.next k i xe.1)], f' 36, f' 37, f' 38, f' 39, f' 40, f' 41, f' 42, f' 43, f' 44, f' 45, f' 46, f' 47, f' 48, f' 49, f' 50, f' 51, f' 52, f' 53, f' 54, f' 55, f' 56], defers := [] })
            (fun xe a' _ X Y row hs hg hr => by obtain ⟨Bc, h1, h2, h3⟩ := hs; exact ⟨Bc, h1, h2.kept hg (fun e' => by obtain ⟨o, ho, hc⟩ := (hr Bc e'.symm).2; rw [show X.heap[Bc]? = _ from h2] at ho; cases ho; cases hc), h3⟩)
            ?assign ?body ?done ?stop
          case assign =>
            rintro l pre xe X K ⟨hp, hbX⟩ hK
            simp only [enC] at hK ⊢
            gi_wp2
            exact hK _ _ ((KeepsOthers.alloc _ _).from _) ((Below.refl _ X).alloc hbX.size _) ⟨hp, hbX.alloc hbX.size _⟩ ⟨X.heap.size, hbX.size, World.alloc_heap_new X _, rfl⟩
          case body =>
            rintro l pre xe a' X hl _ ⟨hp, hbX⟩ ⟨Bc, hBc, hA, rfl⟩ hlen
            obtain ⟨hd, hj⟩ : s.does k i xe.1 = true ∧ xe.1 < moS s := xe.2
            have hnx : 0 ≤ s.next k i xe.1 ∧ s.next k i xe.1 ≤ s.g 2 := o.left_bd (of_decide_eq_true hd)
            obtain ⟨y, hy⟩ : ∃ y : Nat, s.next k i xe.1 = (y : Int) := ⟨(s.next k i xe.1).toNat, by omega⟩
            have hyw : y < wdS s := by have := HWD.out; omega
            have hyt : (s.next k i xe.1).toNat = y := by omega
            have hbad : badB s T k i xe.1 = refB (T.e k i) (s.gm k * xe.1) (T.e (k + 1) y) := by unfold badB refB; rw [hd, hyt]; rfl
            obtain ⟨rn, on_, cn, qn, hrn, hcn⟩ := hrows (k + 1) (by omega)
            have qy := hcn y hyw
            have hfv := (formB_true hf).2
            have hra : -1 ≤ T.e k i ∧ T.e k i ≤ 9223372036854775807 := ⟨((hfv k hk).2 i (by have := (hfv k hk).1; have := HWD.out; omega)).1, hmx k hk i hil⟩
            have hrb : -1 ≤ T.e (k + 1) y ∧ T.e (k + 1) y ≤ 9223372036854775807 := ⟨((hfv (k + 1) (by omega)).2 y (by have := (hfv (k + 1) (by omega)).1; have := HWD.out; omega)).1, hmx (k + 1) (by omega) y hyw⟩
            have hbw : Below w.heap.size w X := hBw5.trans (hbX.mono hBw5.size)
            have hzX := hbX.size
            have hz5w := hBw5.size
            have hzt := hB35.size
            obtain ⟨a0_, a1_, a2_⟩ := hA.cells
            rw [hy] at a2_
            have HY := Lib.hid hy
            have zA := hA.lt
            have bNX : Boxed X (W'.heap.size + 1) 2 (.int .i64 (T.e k i)) := (hbX.block _ bN5.lt).trans bN5
            have bTX : Boxed X (w.heap.size + 1) 47 (.slice (some ⟨bt, ot, none⟩) T.n ct) := (hbX.block _ bT5.lt).trans bT5
            have bKX : Boxed X Bk 3 (.int .i64 (k : Int)) := (hbX.block _ bKk5.lt).trans bKk5
            have bIX : Boxed X W'.heap.size 3 (.int .i64 (i : Int)) := (hbX.block _ bI5.lt).trans bI5
            have bEX : Boxed X (w.heap.size + 1 + 1) 77 .nilIface := (hbX.block _ bE5.lt).trans bE5
            have cN := bNX.cell
            have cT := bTX.cell
            have cK := bKX.cell
            have zN := bNX.lt
            have zT := bTX.lt
            have zK := bKX.lt
            have zt : bt < X.heap.size := by omega
            have zr : rn < X.heap.size := by omega
            have cq := (hbw.cell (p := ⟨bt, ot + (k + 1), none⟩) hbt).trans qn
            have cy := (hbw.cell (p := ⟨rn, on_ + y, none⟩) hrn).trans qy
            have hkT : k + 1 < T.n := by have := HTn.out; omega
            have hkI : (k : Int) + 1 < (T.n : Int) := by omega
            have hyI : (y : Int) < (wdS s : Int) := by omega
            have hwr : IntKind.i64.wrap ((k : Int) + 1) = (k : Int) + 1 := IntWalk.i64_in _ (by omega)
            have hk24 : (k : Int) + 1 ≤ 25 := by omega
            have hmx' : Try.prog.follows .mixedOrders = true := by kernel_rfl
            have hMX : Marks W3.heap.size Ds' X := hM5.below hbX
            have z3' : w.heap.size + 3 ≤ W3.heap.size := by have := HZ3.out; omega
            clear z3 hzW z5 hnx hy hyt hfv hcn hrows hok hok2 hcs hW1 hW2 hW3
            gi_wp2
            refine Rd.region hmx' (N := 57) (X := fun t => (#[(.agg #[.slice a1 s.n c1, s2, .int .i64 (s.g 0), .int .i64 (s.g 1), .int .i64 (s.g 2), .int .i64 (s.g 3), .int .i64 (s.g 4)]), (.slice (some ⟨bt, ot, none⟩) T.n ct), .pointer (some ⟨w.heap.size, 0, none⟩), .pointer (some ⟨w.heap.size + 1, 0, none⟩), .pointer (some ⟨w.heap.size + 1 + 1, 0, none⟩), .pointer (some ⟨Bk, 0, none⟩), .pointer (some ⟨W'.heap.size, 0, none⟩), .pointer (some ⟨W'.heap.size + 1, 0, none⟩), .pointer (some ⟨Bc, 0, none⟩), f' 9, f' 10, f' 11, f' 12, f' 13, f' 14, f' 15, f' 16, .int .i64 (s.n : Int), .int .i64 (k : Int), f' 19, f' 20, f' 21, f' 22, f' 23, .slice (some ⟨rk, ok_, none⟩) (wdS s) ck_, .int .i64 (wdS s : Int), .int .i64 (i : Int), .bool true, .int .i64 (i : Int), .pointer (some ⟨rk, ok_ + i, none⟩), .int .i64 (T.e k i), (.agg #[.slice a1 s.n c1, s2, .int .i64 (s.g 0), .int .i64 (s.g 1), .int .i64 (s.g 2), .int .i64 (s.g 3), .int .i64 (s.g 4)]), .int .i64 (k : Int), .int .i64 (i : Int), .func (.func 80) #[] #[.pointer (some ⟨W'.heap.size + 1 + 1, 0, none⟩), .pointer (some ⟨W'.heap.size + 1 + 1 + 1, 0, none⟩), .pointer (some ⟨W'.heap.size + 1 + 1 + 2, 0, none⟩)], .agg #[.int .i64 (xe.1 : Int), .int .i64 (s.gm k * xe.1), .int .i64 (s.next k i xe.1)], .int .i64 (T.e k i), .pointer (some ⟨Bc, 1, none⟩), .int .i64 (s.gm k * xe.1), (.slice (some ⟨bt, ot, none⟩) T.n ct), .int .i64 (k : Int), .int .i64 ((k : Int) + 1), .pointer (some ⟨bt, ot + (k + 1), none⟩), .slice (some ⟨rn, on_, none⟩) (wdS s) cn, .pointer (some ⟨Bc, 2, none⟩), .int .i64 (y : Int), .pointer (some ⟨rn, on_ + y, none⟩), .int .i64 (T.e (k + 1) y), .bool (refB (T.e k i) (s.gm k * xe.1) (T.e (k + 1) y)), f' 49, f' 50, f' 51, f' 52, f' 53, f' 54, f' 55, f' 56] : Array Value).getD t undef) (by kernel_rfl) rfl ?_ (Rd.cons ?_ (Rd.cons ?_ (Rd.cons ?_ (Rd.cons ?_ (Rd.cons ?_ (Rd.cons ?_ (Rd.cons ?_ (Rd.cons ?_ (Rd.cons ?_ (Rd.cons ?_ (Rd.cons ?_ (Rd.cons ?_ (Rd.cons ?_ Rd.nil))))))))))))) ?_
            · intro t ht hw
              match t, ht, hw with
              | 0, _, _ => exact rfl
              | 1, _, _ => exact rfl
              | 2, _, _ => exact rfl
              | 3, _, _ => exact rfl
              | 4, _, _ => exact rfl
              | 5, _, _ => exact rfl
              | 6, _, _ => exact rfl
              | 7, _, _ => exact rfl
              | 8, _, _ => exact rfl
              | 9, _, _ => exact rfl
              | 10, _, _ => exact rfl
              | 11, _, _ => exact rfl
              | 12, _, _ => exact rfl
              | 13, _, _ => exact rfl
              | 14, _, _ => exact rfl
              | 15, _, _ => exact rfl
              | 16, _, _ => exact rfl
              | 17, _, _ => exact rfl
              | 18, _, _ => exact rfl
              | 19, _, _ => exact rfl
              | 20, _, _ => exact rfl
              | 21, _, _ => exact rfl
              | 22, _, _ => exact rfl
              | 23, _, _ => exact rfl
              | 24, _, _ => exact rfl
              | 25, _, _ => exact rfl
              | 26, _, _ => exact rfl
              | 27, _, _ => exact rfl
              | 28, _, _ => exact rfl
              | 29, _, _ => exact rfl
              | 30, _, _ => exact rfl
              | 31, _, _ => exact rfl
              | 32, _, _ => exact rfl
              | 33, _, _ => exact rfl
              | 34, _, _ => exact rfl
              | 35, _, _ => exact rfl
              | 36, _, hw => exact absurd hw (by decide)
              | 37, _, hw => exact absurd hw (by decide)
              | 38, _, hw => exact absurd hw (by decide)
              | 39, _, hw => exact absurd hw (by decide)
              | 40, _, hw => exact absurd hw (by decide)
              | 41, _, hw => exact absurd hw (by decide)
              | 42, _, hw => exact absurd hw (by decide)
              | 43, _, hw => exact absurd hw (by decide)
              | 44, _, hw => exact absurd hw (by decide)
              | 45, _, hw => exact absurd hw (by decide)
              | 46, _, hw => exact absurd hw (by decide)
              | 47, _, hw => exact absurd hw (by decide)
              | 48, _, hw => exact absurd hw (by decide)
              | 49, _, _ => exact rfl
              | 50, _, _ => exact rfl
              | 51, _, _ => exact rfl
              | 52, _, _ => exact rfl
              | 53, _, _ => exact rfl
              | 54, _, _ => exact rfl
              | 55, _, _ => exact rfl
              | 56, _, _ => exact rfl
              | n + 57, h, _ => exact absurd h (by omega)
            · intro a w2 K hsz hdf hkn hb hK
              obtain ⟨x0, x1, x2, x3, x4, x5, x6, x7, x8, x9, x10, x11, x12, x13, x14, x15, x16, x17, x18, x19, x20, x21, x22, x23, x24, x25, x26, x27, x28, x29, x30, x31, x32, x33, x34, x35, x36, x37, x38, x39, x40, x41, x42, x43, x44, x45, x46, x47, x48, x49, x50, x51, x52, x53, x54, x55, x56, rfl⟩ := Rd.act57 hsz hdf
              have k7 := hkn 7 (by decide) (by kernel_rfl)
              obtain rfl : x7 = .pointer (some ⟨W'.heap.size + 1, 0, none⟩) := k7
              have q0_ := (hb.cell (p := ⟨W'.heap.size + 1, 0, none⟩) zN).trans cN
              refine wpOpIn_step rfl (fun K' hK' => ?_)
              go_simp
              refine hK' _ _ ?_
              exact hK _ hb
            · intro a w2 K hsz hdf hkn hb hK
              obtain ⟨x0, x1, x2, x3, x4, x5, x6, x7, x8, x9, x10, x11, x12, x13, x14, x15, x16, x17, x18, x19, x20, x21, x22, x23, x24, x25, x26, x27, x28, x29, x30, x31, x32, x33, x34, x35, x36, x37, x38, x39, x40, x41, x42, x43, x44, x45, x46, x47, x48, x49, x50, x51, x52, x53, x54, x55, x56, rfl⟩ := Rd.act57 hsz hdf
              have k8 := hkn 8 (by decide) (by kernel_rfl)
              obtain rfl : x8 = .pointer (some ⟨Bc, 0, none⟩) := k8
              refine wpOpIn_step rfl (fun K' hK' => ?_)
              go_simp
              refine hK' _ _ ?_
              exact hK _ hb
            · intro a w2 K hsz hdf hkn hb hK
              obtain ⟨x0, x1, x2, x3, x4, x5, x6, x7, x8, x9, x10, x11, x12, x13, x14, x15, x16, x17, x18, x19, x20, x21, x22, x23, x24, x25, x26, x27, x28, x29, x30, x31, x32, x33, x34, x35, x36, x37, x38, x39, x40, x41, x42, x43, x44, x45, x46, x47, x48, x49, x50, x51, x52, x53, x54, x55, x56, rfl⟩ := Rd.act57 hsz hdf
              have k37 := hkn 37 (by decide) (by kernel_rfl)
              obtain rfl : x37 = .pointer (some ⟨Bc, 1, none⟩) := k37
              have q0_ := (hb.cell (p := ⟨Bc, 1, none⟩) zA).trans a1_
              refine wpOpIn_step rfl (fun K' hK' => ?_)
              go_simp
              refine hK' _ _ ?_
              exact hK _ hb
            · intro a w2 K hsz hdf hkn hb hK
              obtain ⟨x0, x1, x2, x3, x4, x5, x6, x7, x8, x9, x10, x11, x12, x13, x14, x15, x16, x17, x18, x19, x20, x21, x22, x23, x24, x25, x26, x27, x28, x29, x30, x31, x32, x33, x34, x35, x36, x37, x38, x39, x40, x41, x42, x43, x44, x45, x46, x47, x48, x49, x50, x51, x52, x53, x54, x55, x56, rfl⟩ := Rd.act57 hsz hdf
              have k3 := hkn 3 (by decide) (by kernel_rfl)
              obtain rfl : x3 = .pointer (some ⟨w.heap.size + 1, 0, none⟩) := k3
              have q0_ := (hb.cell (p := ⟨w.heap.size + 1, 0, none⟩) zT).trans cT
              refine wpOpIn_step rfl (fun K' hK' => ?_)
              go_simp
              refine hK' _ _ ?_
              exact hK _ hb
            · intro a w2 K hsz hdf hkn hb hK
              obtain ⟨x0, x1, x2, x3, x4, x5, x6, x7, x8, x9, x10, x11, x12, x13, x14, x15, x16, x17, x18, x19, x20, x21, x22, x23, x24, x25, x26, x27, x28, x29, x30, x31, x32, x33, x34, x35, x36, x37, x38, x39, x40, x41, x42, x43, x44, x45, x46, x47, x48, x49, x50, x51, x52, x53, x54, x55, x56, rfl⟩ := Rd.act57 hsz hdf
              have k5 := hkn 5 (by decide) (by kernel_rfl)
              obtain rfl : x5 = .pointer (some ⟨Bk, 0, none⟩) := k5
              have q0_ := (hb.cell (p := ⟨Bk, 0, none⟩) zK).trans cK
              refine wpOpIn_step rfl (fun K' hK' => ?_)
              go_simp
              refine hK' _ _ ?_
              exact hK _ hb
            · intro a w2 K hsz hdf hkn hb hK
              obtain ⟨x0, x1, x2, x3, x4, x5, x6, x7, x8, x9, x10, x11, x12, x13, x14, x15, x16, x17, x18, x19, x20, x21, x22, x23, x24, x25, x26, x27, x28, x29, x30, x31, x32, x33, x34, x35, x36, x37, x38, x39, x40, x41, x42, x43, x44, x45, x46, x47, x48, x49, x50, x51, x52, x53, x54, x55, x56, rfl⟩ := Rd.act57 hsz hdf
              have k40 := hkn 40 (by decide) (by kernel_rfl)
              obtain rfl : x40 = .int .i64 (k : Int) := k40
              clear hkT hkI hyI hk24
              refine wpOpIn_step rfl (fun K' hK' => ?_)
              go_simp
              refine hK' _ _ ?_
              exact hK _ hb
            · intro a w2 K hsz hdf hkn hb hK
              obtain ⟨x0, x1, x2, x3, x4, x5, x6, x7, x8, x9, x10, x11, x12, x13, x14, x15, x16, x17, x18, x19, x20, x21, x22, x23, x24, x25, x26, x27, x28, x29, x30, x31, x32, x33, x34, x35, x36, x37, x38, x39, x40, x41, x42, x43, x44, x45, x46, x47, x48, x49, x50, x51, x52, x53, x54, x55, x56, rfl⟩ := Rd.act57 hsz hdf
              have k39 := hkn 39 (by decide) (by kernel_rfl)
              have k41 := hkn 41 (by decide) (by kernel_rfl)
              obtain rfl : x39 = (.slice (some ⟨bt, ot, none⟩) T.n ct) := k39
              obtain rfl : x41 = .int .i64 ((k : Int) + 1) := k41
              refine wpOpIn_step rfl (fun K' hK' => ?_)
              go_simp
              refine hK' _ _ ?_
              exact hK _ hb
            · intro a w2 K hsz hdf hkn hb hK
              obtain ⟨x0, x1, x2, x3, x4, x5, x6, x7, x8, x9, x10, x11, x12, x13, x14, x15, x16, x17, x18, x19, x20, x21, x22, x23, x24, x25, x26, x27, x28, x29, x30, x31, x32, x33, x34, x35, x36, x37, x38, x39, x40, x41, x42, x43, x44, x45, x46, x47, x48, x49, x50, x51, x52, x53, x54, x55, x56, rfl⟩ := Rd.act57 hsz hdf
              have k42 := hkn 42 (by decide) (by kernel_rfl)
              obtain rfl : x42 = .pointer (some ⟨bt, ot + (k + 1), none⟩) := k42
              have q0_ := (hb.cell (p := ⟨bt, ot + (k + 1), none⟩) zt).trans cq
              refine wpOpIn_step rfl (fun K' hK' => ?_)
              go_simp
              refine hK' _ _ ?_
              exact hK _ hb
            · intro a w2 K hsz hdf hkn hb hK
              obtain ⟨x0, x1, x2, x3, x4, x5, x6, x7, x8, x9, x10, x11, x12, x13, x14, x15, x16, x17, x18, x19, x20, x21, x22, x23, x24, x25, x26, x27, x28, x29, x30, x31, x32, x33, x34, x35, x36, x37, x38, x39, x40, x41, x42, x43, x44, x45, x46, x47, x48, x49, x50, x51, x52, x53, x54, x55, x56, rfl⟩ := Rd.act57 hsz hdf
              have k8 := hkn 8 (by decide) (by kernel_rfl)
              obtain rfl : x8 = .pointer (some ⟨Bc, 0, none⟩) := k8
              refine wpOpIn_step rfl (fun K' hK' => ?_)
              go_simp
              refine hK' _ _ ?_
              exact hK _ hb
            · intro a w2 K hsz hdf hkn hb hK
              obtain ⟨x0, x1, x2, x3, x4, x5, x6, x7, x8, x9, x10, x11, x12, x13, x14, x15, x16, x17, x18, x19, x20, x21, x22, x23, x24, x25, x26, x27, x28, x29, x30, x31, x32, x33, x34, x35, x36, x37, x38, x39, x40, x41, x42, x43, x44, x45, x46, x47, x48, x49, x50, x51, x52, x53, x54, x55, x56, rfl⟩ := Rd.act57 hsz hdf
              have k44 := hkn 44 (by decide) (by kernel_rfl)
              obtain rfl : x44 = .pointer (some ⟨Bc, 2, none⟩) := k44
              have q0_ := (hb.cell (p := ⟨Bc, 2, none⟩) zA).trans a2_
              refine wpOpIn_step rfl (fun K' hK' => ?_)
              go_simp
              refine hK' _ _ ?_
              exact hK _ hb
            · intro a w2 K hsz hdf hkn hb hK
              obtain ⟨x0, x1, x2, x3, x4, x5, x6, x7, x8, x9, x10, x11, x12, x13, x14, x15, x16, x17, x18, x19, x20, x21, x22, x23, x24, x25, x26, x27, x28, x29, x30, x31, x32, x33, x34, x35, x36, x37, x38, x39, x40, x41, x42, x43, x44, x45, x46, x47, x48, x49, x50, x51, x52, x53, x54, x55, x56, rfl⟩ := Rd.act57 hsz hdf
              have k43 := hkn 43 (by decide) (by kernel_rfl)
              have k45 := hkn 45 (by decide) (by kernel_rfl)
              obtain rfl : x43 = .slice (some ⟨rn, on_, none⟩) (wdS s) cn := k43
              obtain rfl : x45 = .int .i64 (y : Int) := k45
              refine wpOpIn_step rfl (fun K' hK' => ?_)
              go_simp
              refine hK' _ _ ?_
              exact hK _ hb
            · intro a w2 K hsz hdf hkn hb hK
              obtain ⟨x0, x1, x2, x3, x4, x5, x6, x7, x8, x9, x10, x11, x12, x13, x14, x15, x16, x17, x18, x19, x20, x21, x22, x23, x24, x25, x26, x27, x28, x29, x30, x31, x32, x33, x34, x35, x36, x37, x38, x39, x40, x41, x42, x43, x44, x45, x46, x47, x48, x49, x50, x51, x52, x53, x54, x55, x56, rfl⟩ := Rd.act57 hsz hdf
              have k46 := hkn 46 (by decide) (by kernel_rfl)
              obtain rfl : x46 = .pointer (some ⟨rn, on_ + y, none⟩) := k46
              have q0_ := (hb.cell (p := ⟨rn, on_ + y, none⟩) zr).trans cy
              refine wpOpIn_step rfl (fun K' hK' => ?_)
              go_simp
              refine hK' _ _ ?_
              exact hK _ hb
            · intro a w2 K hsz hdf hkn hb hK
              obtain ⟨x0, x1, x2, x3, x4, x5, x6, x7, x8, x9, x10, x11, x12, x13, x14, x15, x16, x17, x18, x19, x20, x21, x22, x23, x24, x25, x26, x27, x28, x29, x30, x31, x32, x33, x34, x35, x36, x37, x38, x39, x40, x41, x42, x43, x44, x45, x46, x47, x48, x49, x50, x51, x52, x53, x54, x55, x56, rfl⟩ := Rd.act57 hsz hdf
              have k36 := hkn 36 (by decide) (by kernel_rfl)
              have k38 := hkn 38 (by decide) (by kernel_rfl)
              have k47 := hkn 47 (by decide) (by kernel_rfl)
              obtain rfl : x36 = .int .i64 (T.e k i) := k36
              obtain rfl : x38 = .int .i64 (s.gm k * xe.1) := k38
              obtain rfl : x47 = .int .i64 (T.e (k + 1) y) := k47
              refine wpOpIn_step rfl (fun K' hK' => ?_)
              go_simp
              refine ⟨trivial, fun h => (by cases h), ?_⟩
              refine (CallsIn.inRound l (ref76 Fence.wide _ trivial rfl _ _ _ hra hrb _)).mono ?_
              rintro e w' ⟨rfl, hb'⟩
              exact hK' _ _ (hK _ (hb.trans (hb'.mono hb.size)))
            · intro a' w1 hsz' hdf' hX' hb
              obtain rfl := Rd.act_of (L := #[(.agg #[.slice a1 s.n c1, s2, .int .i64 (s.g 0), .int .i64 (s.g 1), .int .i64 (s.g 2), .int .i64 (s.g 3), .int .i64 (s.g 4)]), (.slice (some ⟨bt, ot, none⟩) T.n ct), .pointer (some ⟨w.heap.size, 0, none⟩), .pointer (some ⟨w.heap.size + 1, 0, none⟩), .pointer (some ⟨w.heap.size + 1 + 1, 0, none⟩), .pointer (some ⟨Bk, 0, none⟩), .pointer (some ⟨W'.heap.size, 0, none⟩), .pointer (some ⟨W'.heap.size + 1, 0, none⟩), .pointer (some ⟨Bc, 0, none⟩), f' 9, f' 10, f' 11, f' 12, f' 13, f' 14, f' 15, f' 16, .int .i64 (s.n : Int), .int .i64 (k : Int), f' 19, f' 20, f' 21, f' 22, f' 23, .slice (some ⟨rk, ok_, none⟩) (wdS s) ck_, .int .i64 (wdS s : Int), .int .i64 (i : Int), .bool true, .int .i64 (i : Int), .pointer (some ⟨rk, ok_ + i, none⟩), .int .i64 (T.e k i), (.agg #[.slice a1 s.n c1, s2, .int .i64 (s.g 0), .int .i64 (s.g 1), .int .i64 (s.g 2), .int .i64 (s.g 3), .int .i64 (s.g 4)]), .int .i64 (k : Int), .int .i64 (i : Int), .func (.func 80) #[] #[.pointer (some ⟨W'.heap.size + 1 + 1, 0, none⟩), .pointer (some ⟨W'.heap.size + 1 + 1 + 1, 0, none⟩), .pointer (some ⟨W'.heap.size + 1 + 1 + 2, 0, none⟩)], .agg #[.int .i64 (xe.1 : Int), .int .i64 (s.gm k * xe.1), .int .i64 (s.next k i xe.1)], .int .i64 (T.e k i), .pointer (some ⟨Bc, 1, none⟩), .int .i64 (s.gm k * xe.1), (.slice (some ⟨bt, ot, none⟩) T.n ct), .int .i64 (k : Int), .int .i64 ((k : Int) + 1), .pointer (some ⟨bt, ot + (k + 1), none⟩), .slice (some ⟨rn, on_, none⟩) (wdS s) cn, .pointer (some ⟨Bc, 2, none⟩), .int .i64 (y : Int), .pointer (some ⟨rn, on_ + y, none⟩), .int .i64 (T.e (k + 1) y), .bool (refB (T.e k i) (s.gm k * xe.1) (T.e (k + 1) y)), f' 49, f' 50, f' 51, f' 52, f' 53, f' 54, f' 55, f' 56]) rfl hsz' hdf' hX'
              have hb2 : Below X.heap.size X w1 := (Below.refl _ X).drew.trans hb
              cases hr : refB (T.e k i) (s.gm k * xe.1) (T.e (k + 1) y) with
              | false =>
                gi_wp2
                have hb3 := hb2.mono (B' := W5.heap.size) hzX
                exact ⟨KeepsFrom.of_grownBy (grown_of_below hb2) (fun j e => by cases e), hb3, ⟨fun j hj' => (List.mem_append.1 hj').elim (hp j) (fun e => by rw [List.mem_singleton.1 e, hbad, hr]), hbX.trans hb3⟩⟩
              | true =>
                have d5 := (hb2.cell (p := ⟨Bk, 0, none⟩) zK).trans cK
                have d6 := (hb2.cell (p := ⟨W'.heap.size, 0, none⟩) bIX.lt).trans bIX.cell
                have d8 := (hb2.cell (p := ⟨Bc, 0, none⟩) zA).trans a0_
                have bE2 : Boxed w1 (w.heap.size + 1 + 1) 77 .nilIface := (hb2.block _ bEX.lt).trans bEX
                have dE := bE2.cell
                have fE := bE2.frozen
                gi_wp2
                exact ⟨(KeepsFrom.of_grownBy (grown_of_below hb2) (fun j e => by cases e)).trans ((KeepsOthers.setCell _ _ _).from _), rfl, xe, pre, rfl, hp, hbad.trans hr, bE2.set _, (hbw.trans (hb2.mono hbw.size)).setCell (p := ⟨w.heap.size + 1 + 1, 0, none⟩) (by show w.heap.size ≤ w.heap.size + 1 + 1; omega) _, (hMX.below hb2).set _ (by show w.heap.size + 1 + 1 < _; omega) _⟩
          case done =>
            rintro D ys X hD hys ⟨hp, hbX⟩ hmk
            clear z3 hzW z5
            gi_wp2
            have z3 := HZ3.out
            have hz5 := hB5.size
            refine ⟨⟨_, D :: Ds', i + 1, A65_eq rfl rfl rfl rfl rfl rfl, ?slots, hil, (hbX.block _ bKk5.lt).trans bKk5, Marks.cons (hM5.below hbX) (fun D' h' => Nat.lt_of_lt_of_le (hlM D' h') (Nat.le_trans hz5 hD)) (Nat.le_trans hB35.size hD) hmk, hB35.trans (hbX.mono hB35.size), fun i' hi' l' hl' => ?_⟩, ?_⟩
            case slots => exact ⟨succI i, rfl, rfl, rfl, rfl, rfl⟩
            · by_cases e : i' = i
              · subst e; exact cho_all hys hp l' hl'
              · exact hok2 i' (by omega) l' hl'
            · show wdS s - (RowKit.intOf (.int .i64 ((i : Int) + 1))).toNat < wdS s - (RowKit.intOf (.int .i64 (i : Int))).toNat
              simp only [RowKit.intOf]; omega
          case stop =>
            rintro D c pre X hD ⟨j0, hj0, hpre⟩ ⟨rfl, xe, p0, rfl, hp0, hbad, bX, hbw, hMX⟩ hmk
            gi_wp2
            have hz5 := hB5.size
            exact leave65 (Z := W3.heap.size) (Ds := D :: Ds') (r := some (k, i, xe.1)) rfl rfl bX (Marks.cons hMX (fun D' h' => Nat.lt_of_lt_of_le (hlM D' h') (Nat.le_trans hz5 hD)) (Nat.le_trans hB35.size hD) hmk) (by omega) hbw ⟨⟨hlt, hil, xe.2.2, hbad⟩, hok, hok2, cho_fst hpre hp0⟩
        · obtain rfl : i = wdS s := by omega
          clear z3 hzw
          rw [A65_def (f := f'), g26, g25, g24, g18, g17, g5]
          gi_wp2
          refine ⟨⟨_, Ds', k + 1, A65_eq rfl rfl rfl rfl rfl rfl, ?sk, ?sn, hlt, hM, hB, fun k' hk' i' hi' l' hl' => ?_⟩, ?_⟩
          case sk => exact succI k
          case sn => rfl
          · by_cases e : k' = k
            · subst e; exact hok2 i' hi' l' hl'
            · exact hok k' (by omega) i' hi' l' hl'
          · show s.n - (RowKit.intOf (.int .i64 ((k : Int) + 1))).toNat < s.n - (RowKit.intOf (.int .i64 (k : Int))).toNat
            simp only [RowKit.intOf]; omega
    · obtain rfl : k = s.n := by omega
      have xE := bEW.cell
      have fE := bEW.frozen
      rw [A65_def (f := f), h18, h17]
      gi_wp2
      exact leave65 (Z := W3.heap.size) (r := none) rfl rfl (bEW.set .nilIface) (hM.set _ (by show w.heap.size + 1 + 1 < _; omega) _) (by omega) (hBw.setCell (p := ⟨w.heap.size + 1 + 1, 0, none⟩) (by show w.heap.size ≤ w.heap.size + 1 + 1; omega) _) hok
end
end Go.Proofs.Ytbkjjefjnkkgbaa.sea
