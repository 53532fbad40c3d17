import Derived.Test.YtbkjjefjnkkgbaaSx1
namespace Go.Proofs.Ytbkjjefjnkkgbaa.sea
open Go Go.Ab Go.Proofs Go.RowKit Go.Shelf
attribute [local go_sem] Oper.semAt_some
set_option linter.unusedVariables false
/-- The least of some numbers. -/
def lst (pre : List Nat) : Option Nat := pre.foldl (fun b j => match b with | none => some j | some i => if j < i then some j else some i) none
theorem lst_snoc (pre : List Nat) (j : Nat) : lst (pre ++ [j]) = match lst pre with | none => some j | some i => if j < i then some j else some i := by
  unfold lst; rw [List.foldl_append]; rfl
theorem lst_prL (L : Nat) : ∀ m, lst (prL L m) = if m ≤ L then none else some L
  | 0 => by simp [prL, lst]
  | m + 1 => by
    by_cases h : m < L
    · rw [prL_lo h, lst_prL L m, if_pos (by omega), if_pos (by omega)]
    · rw [prL_hi (by omega), lst_snoc, lst_prL L m, if_neg (by omega : ¬ m + 1 ≤ L)]
      by_cases e : m ≤ L
      · rw [if_pos e]; simp; omega
      · rw [if_neg e]; simp; omega
/-- Three cells. -/
def Blk3 (W : World) (B : Nat) (a b c : Int) : Prop := W.heap[B]? = some (.cells #[.int .i64 a, .int .i64 b, .int .i64 c] 73 (0, 0))
theorem Blk3.lt {W : World} {B : Nat} {a b c : Int} (h : Blk3 W B a b c) : B < W.heap.size := (Array.getElem?_eq_some_iff.1 h).1
theorem Blk3.kept {W W' : World} {row : Option Nat} {B : Nat} {a b c : Int} (h : Blk3 W B a b c) (hg : W.grownBy W' row) (hne : some B ≠ row) : Blk3 W' B a b c := (hg.block B h.lt hne).trans h
theorem Blk3.below {W W' : World} {B : Nat} {a b c : Int} (h : Blk3 W B a b c) (hb : Below W.heap.size W W') : Blk3 W' B a b c := (hb.block B h.lt).trans h
theorem Blk3.cells {W : World} {B : Nat} {a b c : Int} (h : Blk3 W B a b c) : W.cell? ⟨B, 0, none⟩ = some (.int .i64 a) ∧ W.cell? ⟨B, 1, none⟩ = some (.int .i64 b) ∧ W.cell? ⟨B, 2, none⟩ = some (.int .i64 c) := by
  unfold Blk3 at h
  simp [World.cell?, h]
theorem Blk3.frozen {W : World} {B : Nat} {a b c : Int} (h : Blk3 W B a b c) (q : Nat) : W.frozen? ⟨B, q, none⟩ = false := by
  unfold Blk3 at h
  simp [World.frozen?, h]
theorem Blk3.set {W : World} {B : Nat} {a b c : Int} (h : Blk3 W B a b c) (a' b' c' : Int) : Blk3 (((W.setCell ⟨B, 0, none⟩ (.int .i64 a')).setCell ⟨B, 1, none⟩ (.int .i64 b')).setCell ⟨B, 2, none⟩ (.int .i64 c')) B a' b' c' := by
  unfold Blk3 at h ⊢
  simp [World.setCell, Array.getElem?_modify, h]
theorem Blk3.other {W : World} {B : Nat} {a b c : Int} (h : Blk3 W B a b c) {p : Addr} (hp : B ≠ p.block) (u : Value) : Blk3 (W.setCell p u) B a b c := (Below.heap_setCell W p u B hp).trans h
theorem Boxed.far {W : World} {B : Nat} {t : TypeId} {v : Value} (h : Boxed W B t v) {p : Addr} (hp : B ≠ p.block) (u : Value) : Boxed (W.setCell p u) B t v := (Below.heap_setCell W p u B hp).trans h
section
variable {s : Sea}
theorem cho_stops (n : Nat) (hn : 1 ≤ n) (o : s.Ok) {k : Nat} (hk : k < s.n) {x : Int} (hx : 0 ≤ x ∧ x ≤ s.g 2) (Bs Bk Bx : Nat) (s1 s2 : Value) (w : World)
    (hBs : ∀ (q : Nat) (u : Value), #[s1, s2, Value.int .i64 (s.g 0), .int .i64 (s.g 1), .int .i64 (s.g 2), .int .i64 (s.g 3), .int .i64 (s.g 4)][q]? = some u → w.cell? ⟨Bs, q, none⟩ = some u) (n₀ : Nat) (hn₀ : n₀ ≤ w.heap.size) (hBsl : Bs < n₀) (hBkl : Bk < n₀) (hBxl : Bx < n₀)
    (hS : SeaV s w (seaVal s1 s2 s)) (hSn : ∀ W', Below n₀ w W' → n₀ ≤ W'.heap.size → SeaV s W' (seaVal s1 s2 s)) (hcn : ∀ W' : World, Below n₀ w W' → ∀ bm om cm, s2 = .slice (some ⟨bm, om, none⟩) s.m cm → W'.cell? ⟨bm, om + k, none⟩ = some (.int .i64 (s.gm k)))
    (hBk : w.cell? ⟨Bk, 0, none⟩ = some (.int .i64 (k : Int))) (hBx : w.cell? ⟨Bx, 0, none⟩ = some (.int .i64 x)) :
    SeqStopsK Fence.wide n Try.prog 80 #[.pointer (some ⟨Bs, 0, none⟩), .pointer (some ⟨Bk, 0, none⟩), .pointer (some ⟨Bx, 0, none⟩)] (fun j : Nat => enC s k x j) (Below n₀) (fun ys => ys = prL (few s k x (moS s)) (moS s)) (fun pre => ∃ j, j ≤ (moS s) ∧ pre = prL (few s k x (moS s)) j) (moS s) w := fun l J Jx W hW hJ _ hY h0 =>
  cho_in n hn o hk hx l Bs Bk Bx n₀ J Jx s1 s2 (fun pre j W h1 h2 _ _ => hY pre j W h1 h2) W hJ (fun q u hq => (hW.cell (p := ⟨Bs, q, none⟩) (by show Bs < _; omega)).trans (hBs q u hq)) hBsl hBkl hBxl (hS.below hW) (fun W' hb hsz => hSn W' ((hW.mono hn₀).trans hb) hsz) (fun W' hb => hcn W' ((hW.mono hn₀).trans hb)) ((hW.cell (p := ⟨Bk, 0, none⟩) (by show Bk < _; omega)).trans hBk) ((hW.cell (p := ⟨Bx, 0, none⟩) (by show Bx < _; omega)).trans hBx) (Nat.le_trans hn₀ hW.size) h0
/-- A choice. -/
def Cho (s : Sea) (k : Nat) (x : Int) : Type := { j : Nat // s.does k x j = true ∧ j < moS s }
theorem cho_stopsV (n : Nat) (hn : 1 ≤ n) (o : s.Ok) {k : Nat} (hk : k < s.n) {x : Int} (hx : 0 ≤ x ∧ x ≤ s.g 2) (Bs Bk Bx : Nat) (s1 s2 : Value) (w : World)
    (hBs : ∀ (q : Nat) (u : Value), #[s1, s2, Value.int .i64 (s.g 0), .int .i64 (s.g 1), .int .i64 (s.g 2), .int .i64 (s.g 3), .int .i64 (s.g 4)][q]? = some u → w.cell? ⟨Bs, q, none⟩ = some u) (n₀ : Nat) (hn₀ : n₀ ≤ w.heap.size) (hBsl : Bs < n₀) (hBkl : Bk < n₀) (hBxl : Bx < n₀)
    (hS : SeaV s w (seaVal s1 s2 s)) (hSn : ∀ W', Below n₀ w W' → n₀ ≤ W'.heap.size → SeaV s W' (seaVal s1 s2 s)) (hcn : ∀ W' : World, Below n₀ w W' → ∀ bm om cm, s2 = .slice (some ⟨bm, om, none⟩) s.m cm → W'.cell? ⟨bm, om + k, none⟩ = some (.int .i64 (s.gm k)))
    (hBk : w.cell? ⟨Bk, 0, none⟩ = some (.int .i64 (k : Int))) (hBx : w.cell? ⟨Bx, 0, none⟩ = some (.int .i64 x)) :
    SeqStopsK Fence.wide n Try.prog 80 #[.pointer (some ⟨Bs, 0, none⟩), .pointer (some ⟨Bk, 0, none⟩), .pointer (some ⟨Bx, 0, none⟩)] (fun j : Cho s k x => enC s k x j.1) (Below n₀) (fun ys => ys.map (fun j => j.1) = prL (few s k x (moS s)) (moS s)) (fun pre => ∃ j, j ≤ (moS s) ∧ pre.map (fun j => j.1) = prL (few s k x (moS s)) j) (moS s) w := fun l J Jx W hW hJ _ hY h0 =>
  (cho_in n hn o hk hx l Bs Bk Bx n₀ (fun pre X => ∃ pa : List (Cho s k x), pa.map (fun j => j.1) = pre ∧ J pa X) (fun pre X => ∃ pa : List (Cho s k x), pa.map (fun j => j.1) = pre ∧ Jx pa X) s1 s2 (fun pre j W1 h1 h2 hd hj => by
    obtain ⟨pa, rfl, hJ1⟩ := h1
    obtain ⟨fn, tmps, asg, bd, e1, e2⟩ := hY pa ⟨j, hd, hj⟩ W1 hJ1 (by rw [List.length_map] at h2; exact h2)
    refine ⟨fn, tmps, asg, bd, e1, e2.mono ?_⟩
    rintro e W' (⟨a, b, c⟩ | ⟨a, b⟩)
    · exact .inl ⟨a, ⟨pa ++ [⟨j, hd, hj⟩], by rw [List.map_append]; rfl, b⟩, c⟩
    · exact .inr ⟨a, ⟨pa ++ [⟨j, hd, hj⟩], by rw [List.map_append]; rfl, b⟩⟩) W (fun pre A B row h hg hr => by obtain ⟨pa, e, h⟩ := h; exact ⟨pa, e, hJ pa A B row h hg hr⟩) (fun q u hq => (hW.cell (p := ⟨Bs, q, none⟩) (by show Bs < _; omega)).trans (hBs q u hq)) hBsl hBkl hBxl (hS.below hW) (fun W' hb hsz => hSn W' ((hW.mono hn₀).trans hb) hsz) (fun W' hb => hcn W' ((hW.mono hn₀).trans hb)) ((hW.cell (p := ⟨Bk, 0, none⟩) (by show Bk < _; omega)).trans hBk) ((hW.cell (p := ⟨Bx, 0, none⟩) (by show Bx < _; omega)).trans hBx) (Nat.le_trans hn₀ hW.size) ⟨[], rfl, h0⟩).mono (by
    rintro e W' ⟨hv, (⟨ys, e1, pa, e2, hj⟩ | ⟨pre, ⟨j, hj, e1⟩, pa, e2, hjx⟩)⟩
    · exact ⟨hv, .inl ⟨pa, e2.trans e1, hj⟩⟩
    · exact ⟨hv, .inr ⟨pa, ⟨j, hj, e2.trans e1⟩, hjx⟩⟩)
theorem mk62_in (F : Fence) (n : Nat) (h62 : F.fn 71) (hro : F.round = none) (cs : List Value) (k x : Int) (w : World) :
    CallsIn F n Try.prog 71 #[.agg ⟨cs⟩, .int .i64 k, .int .i64 x] w fun e w' => e = .returned (.func (.func 80) #[] #[.pointer (some ⟨w.heap.size, 0, none⟩), .pointer (some ⟨w.heap.size + 1, 0, none⟩), .pointer (some ⟨w.heap.size + 2, 0, none⟩)]) ∧ w' = ((w.alloc (.cells ⟨cs⟩ 27)).alloc (.cells #[.int .i64 k] 3)).alloc (.cells #[.int .i64 x] 2) := by
  refine callsIn_of_wp Try.func71 rfl h62 ?_ hro
  simp only [Try.ntmps71, List.size_toArray, List.length_cons, List.length_nil, Nat.reduceAdd, Nat.reduceSub, Array.replicate_succ, Array.replicate_zero, List.push_toArray, List.append_toArray, List.nil_append, List.cons_append]
  gi_wp2
  go_ret
  exact ⟨rfl, rfl⟩
theorem num63_in (F : Fence) (n : Nat) (h63 : F.fn 72) (hro : F.round = none) (a b c : Int) (w : World) :
    CallsIn F n Try.prog 72 #[.agg #[.int .i64 a, .int .i64 b, .int .i64 c]] w fun e w' => e = .returned (.int .i64 a) ∧ w' = w.alloc (.cells #[.int .i64 a, .int .i64 b, .int .i64 c] 86) := by
  refine callsIn_of_wp Try.func72 rfl h63 ?_ hro
  simp only [Try.ntmps72, List.size_toArray, List.length_cons, List.length_nil, Nat.reduceAdd, Nat.reduceSub, Array.replicate_succ, Array.replicate_zero, List.push_toArray, List.append_toArray, List.nil_append, List.cons_append]
  gi_wp2
  go_ret
  exact ⟨rfl, rfl⟩
end
end Go.Proofs.Ytbkjjefjnkkgbaa.sea
