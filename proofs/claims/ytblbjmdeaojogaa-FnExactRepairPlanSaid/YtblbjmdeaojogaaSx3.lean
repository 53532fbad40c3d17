import Derived.Test.YtblbjmdeaojogaaSx2
import Derived.Test.YtblbjmdeaojogaaRd
namespace Go.Proofs.Ytblbjmdeaojogaa.sea
open Go Go.Ab Go.Proofs Go.RowKit Go.Shelf
attribute [local go_sem] Oper.semAt_some
set_option linter.unusedVariables false
section
variable {s : Sea}
/-- The least choice's cells. -/
def lv (s : Sea) (k : Nat) (x : Int) (m : Option Nat) (q : Nat) : Int := match m with
  | none => 0
  | some j => match q with | 0 => (j : Int) | 1 => s.gm k * j | _ => s.next k x j
theorem blk3_own {β : Type} (B : Nat) (a b c : β → Int) : Own (fun s W => Blk3 W B (a s) (b s) (c s)) := fun s X Y row hs hg hrow =>
  hs.kept hg (fun e' => by obtain ⟨o, ho, hc⟩ := hrow B e'.symm; rw [show X.heap[B]? = _ from hs] at ho; cases ho; cases hc)
theorem boxFar {W : World} {B : Nat} {t : TypeId} {v : Value} (h : Boxed W B t v) (p : Addr) (hp : B ≠ p.block) (u : Value) : Boxed (W.setCell p u) B t v := (Below.heap_setCell W p u B hp).trans h
/-- Behind the stores of a round. -/
theorem fin61 {w W X0 : World} {B0 : Nat} {a b c a' b' c' : Int} {v u : Value} {bv : Bool} (hX : Below W.heap.size W X0) (h4 : Blk3 W (w.heap.size + 1) a b c) (h5 : Boxed W (w.heap.size + 1 + 1) 4 v) (h3 : Boxed W w.heap.size 79 u) (hB : Below w.heap.size w W) :
    KeepsFrom B0 W ((((X0.setCell ⟨w.heap.size + 1, 0, none⟩ (.int .i64 a')).setCell ⟨w.heap.size + 1, 1, none⟩ (.int .i64 b')).setCell ⟨w.heap.size + 1, 2, none⟩ (.int .i64 c')).setCell ⟨w.heap.size + 1 + 1, 0, none⟩ (.bool bv)).drew ∧
    Below w.heap.size W ((((X0.setCell ⟨w.heap.size + 1, 0, none⟩ (.int .i64 a')).setCell ⟨w.heap.size + 1, 1, none⟩ (.int .i64 b')).setCell ⟨w.heap.size + 1, 2, none⟩ (.int .i64 c')).setCell ⟨w.heap.size + 1 + 1, 0, none⟩ (.bool bv)).drew ∧
    Blk3 ((((X0.setCell ⟨w.heap.size + 1, 0, none⟩ (.int .i64 a')).setCell ⟨w.heap.size + 1, 1, none⟩ (.int .i64 b')).setCell ⟨w.heap.size + 1, 2, none⟩ (.int .i64 c')).setCell ⟨w.heap.size + 1 + 1, 0, none⟩ (.bool bv)).drew (w.heap.size + 1) a' b' c' ∧
    Boxed ((((X0.setCell ⟨w.heap.size + 1, 0, none⟩ (.int .i64 a')).setCell ⟨w.heap.size + 1, 1, none⟩ (.int .i64 b')).setCell ⟨w.heap.size + 1, 2, none⟩ (.int .i64 c')).setCell ⟨w.heap.size + 1 + 1, 0, none⟩ (.bool bv)).drew (w.heap.size + 1 + 1) 4 (.bool bv) ∧
    Boxed ((((X0.setCell ⟨w.heap.size + 1, 0, none⟩ (.int .i64 a')).setCell ⟨w.heap.size + 1, 1, none⟩ (.int .i64 b')).setCell ⟨w.heap.size + 1, 2, none⟩ (.int .i64 c')).setCell ⟨w.heap.size + 1 + 1, 0, none⟩ (.bool bv)).drew w.heap.size 79 u ∧
    Below w.heap.size w ((((X0.setCell ⟨w.heap.size + 1, 0, none⟩ (.int .i64 a')).setCell ⟨w.heap.size + 1, 1, none⟩ (.int .i64 b')).setCell ⟨w.heap.size + 1, 2, none⟩ (.int .i64 c')).setCell ⟨w.heap.size + 1 + 1, 0, none⟩ (.bool bv)).drew := by
  have k4 := (h4.below hX).set a' b' c'
  have k5 : Boxed X0 (w.heap.size + 1 + 1) 4 v := (hX.block _ h5.lt).trans h5
  have k3 : Boxed X0 w.heap.size 79 u := (hX.block _ h3.lt).trans h3
  have n1 : w.heap.size + 1 + 1 ≠ w.heap.size + 1 := by omega
  have n2 : w.heap.size ≠ w.heap.size + 1 := by omega
  have n3 : w.heap.size ≠ w.heap.size + 1 + 1 := by omega
  have n4 : w.heap.size + 1 ≠ w.heap.size + 1 + 1 := by omega
  have m5 := (boxFar (boxFar (boxFar k5 ⟨w.heap.size + 1, 0, none⟩ n1 (.int .i64 a')) ⟨w.heap.size + 1, 1, none⟩ n1 (.int .i64 b')) ⟨w.heap.size + 1, 2, none⟩ n1 (.int .i64 c')).set (.bool bv)
  have m3 := boxFar (boxFar (boxFar (boxFar k3 ⟨w.heap.size + 1, 0, none⟩ n2 (.int .i64 a')) ⟨w.heap.size + 1, 1, none⟩ n2 (.int .i64 b')) ⟨w.heap.size + 1, 2, none⟩ n2 (.int .i64 c')) ⟨w.heap.size + 1 + 1, 0, none⟩ n3 (.bool bv)
  have m4 := k4.other (p := ⟨w.heap.size + 1 + 1, 0, none⟩) n4 (.bool bv)
  have hb : Below w.heap.size W ((((X0.setCell ⟨w.heap.size + 1, 0, none⟩ (.int .i64 a')).setCell ⟨w.heap.size + 1, 1, none⟩ (.int .i64 b')).setCell ⟨w.heap.size + 1, 2, none⟩ (.int .i64 c')).setCell ⟨w.heap.size + 1 + 1, 0, none⟩ (.bool bv)) :=
    (((((hX.mono hB.size)).setCell (p := ⟨w.heap.size + 1, 0, none⟩) (by show w.heap.size ≤ w.heap.size + 1; omega) _).setCell (p := ⟨w.heap.size + 1, 1, none⟩) (by show w.heap.size ≤ w.heap.size + 1; omega) _).setCell (p := ⟨w.heap.size + 1, 2, none⟩) (by show w.heap.size ≤ w.heap.size + 1; omega) _).setCell (p := ⟨w.heap.size + 1 + 1, 0, none⟩) (by show w.heap.size ≤ w.heap.size + 1 + 1; omega) _
  refine ⟨?_, hb.drew, m4, m5, m3, (hB.trans hb).drew⟩
  exact ((((KeepsFrom.of_grownBy (grown_of_below hX) (fun j e => by cases e)).trans ((KeepsOthers.setCell _ _ _).from _)).trans ((KeepsOthers.setCell _ _ _).from _)).trans ((KeepsOthers.setCell _ _ _).from _)).trans (((KeepsOthers.setCell _ _ _).trans (KeepsOthers.drew _)).from _)
/-- The same without the draw. -/
theorem fin61n {w W X0 : World} {B0 : Nat} {a b c a' b' c' : Int} {v u : Value} {bv : Bool} (hX : Below W.heap.size W X0) (h4 : Blk3 W (w.heap.size + 1) a b c) (h5 : Boxed W (w.heap.size + 1 + 1) 4 v) (h3 : Boxed W w.heap.size 79 u) (hB : Below w.heap.size w W) :
    KeepsFrom B0 W ((((X0.setCell ⟨w.heap.size + 1, 0, none⟩ (.int .i64 a')).setCell ⟨w.heap.size + 1, 1, none⟩ (.int .i64 b')).setCell ⟨w.heap.size + 1, 2, none⟩ (.int .i64 c')).setCell ⟨w.heap.size + 1 + 1, 0, none⟩ (.bool bv)) ∧
    Below w.heap.size W ((((X0.setCell ⟨w.heap.size + 1, 0, none⟩ (.int .i64 a')).setCell ⟨w.heap.size + 1, 1, none⟩ (.int .i64 b')).setCell ⟨w.heap.size + 1, 2, none⟩ (.int .i64 c')).setCell ⟨w.heap.size + 1 + 1, 0, none⟩ (.bool bv)) ∧
    Blk3 ((((X0.setCell ⟨w.heap.size + 1, 0, none⟩ (.int .i64 a')).setCell ⟨w.heap.size + 1, 1, none⟩ (.int .i64 b')).setCell ⟨w.heap.size + 1, 2, none⟩ (.int .i64 c')).setCell ⟨w.heap.size + 1 + 1, 0, none⟩ (.bool bv)) (w.heap.size + 1) a' b' c' ∧
    Boxed ((((X0.setCell ⟨w.heap.size + 1, 0, none⟩ (.int .i64 a')).setCell ⟨w.heap.size + 1, 1, none⟩ (.int .i64 b')).setCell ⟨w.heap.size + 1, 2, none⟩ (.int .i64 c')).setCell ⟨w.heap.size + 1 + 1, 0, none⟩ (.bool bv)) (w.heap.size + 1 + 1) 4 (.bool bv) ∧
    Boxed ((((X0.setCell ⟨w.heap.size + 1, 0, none⟩ (.int .i64 a')).setCell ⟨w.heap.size + 1, 1, none⟩ (.int .i64 b')).setCell ⟨w.heap.size + 1, 2, none⟩ (.int .i64 c')).setCell ⟨w.heap.size + 1 + 1, 0, none⟩ (.bool bv)) w.heap.size 79 u ∧
    Below w.heap.size w ((((X0.setCell ⟨w.heap.size + 1, 0, none⟩ (.int .i64 a')).setCell ⟨w.heap.size + 1, 1, none⟩ (.int .i64 b')).setCell ⟨w.heap.size + 1, 2, none⟩ (.int .i64 c')).setCell ⟨w.heap.size + 1 + 1, 0, none⟩ (.bool bv)) := by
  have k4 := (h4.below hX).set a' b' c'
  have k5 : Boxed X0 (w.heap.size + 1 + 1) 4 v := (hX.block _ h5.lt).trans h5
  have k3 : Boxed X0 w.heap.size 79 u := (hX.block _ h3.lt).trans h3
  have n1 : w.heap.size + 1 + 1 ≠ w.heap.size + 1 := by omega
  have n2 : w.heap.size ≠ w.heap.size + 1 := by omega
  have n3 : w.heap.size ≠ w.heap.size + 1 + 1 := by omega
  have n4 : w.heap.size + 1 ≠ w.heap.size + 1 + 1 := by omega
  have m5 := (boxFar (boxFar (boxFar k5 ⟨w.heap.size + 1, 0, none⟩ n1 (.int .i64 a')) ⟨w.heap.size + 1, 1, none⟩ n1 (.int .i64 b')) ⟨w.heap.size + 1, 2, none⟩ n1 (.int .i64 c')).set (.bool bv)
  have m3 := boxFar (boxFar (boxFar (boxFar k3 ⟨w.heap.size + 1, 0, none⟩ n2 (.int .i64 a')) ⟨w.heap.size + 1, 1, none⟩ n2 (.int .i64 b')) ⟨w.heap.size + 1, 2, none⟩ n2 (.int .i64 c')) ⟨w.heap.size + 1 + 1, 0, none⟩ n3 (.bool bv)
  have m4 := k4.other (p := ⟨w.heap.size + 1 + 1, 0, none⟩) n4 (.bool bv)
  have hb : Below w.heap.size W ((((X0.setCell ⟨w.heap.size + 1, 0, none⟩ (.int .i64 a')).setCell ⟨w.heap.size + 1, 1, none⟩ (.int .i64 b')).setCell ⟨w.heap.size + 1, 2, none⟩ (.int .i64 c')).setCell ⟨w.heap.size + 1 + 1, 0, none⟩ (.bool bv)) :=
    (((((hX.mono hB.size)).setCell (p := ⟨w.heap.size + 1, 0, none⟩) (by show w.heap.size ≤ w.heap.size + 1; omega) _).setCell (p := ⟨w.heap.size + 1, 1, none⟩) (by show w.heap.size ≤ w.heap.size + 1; omega) _).setCell (p := ⟨w.heap.size + 1, 2, none⟩) (by show w.heap.size ≤ w.heap.size + 1; omega) _).setCell (p := ⟨w.heap.size + 1 + 1, 0, none⟩) (by show w.heap.size ≤ w.heap.size + 1 + 1; omega) _
  refine ⟨?_, hb, m4, m5, m3, hB.trans hb⟩
  exact ((((KeepsFrom.of_grownBy (grown_of_below hX) (fun j e => by cases e)).trans ((KeepsOthers.setCell _ _ _).from _)).trans ((KeepsOthers.setCell _ _ _).from _)).trans ((KeepsOthers.setCell _ _ _).from _)).trans ((KeepsOthers.setCell _ _ _).from _)
theorem keep61 {w W X : World} {B0 : Nat} {a b c : Int} {v u : Value} (hX : Below W.heap.size W X) (h4 : Blk3 W (w.heap.size + 1) a b c) (h5 : Boxed W (w.heap.size + 1 + 1) 4 v) (h3 : Boxed W w.heap.size 79 u) (hB : Below w.heap.size w W) :
    KeepsFrom B0 W X ∧ Below w.heap.size W X ∧ Blk3 X (w.heap.size + 1) a b c ∧ Boxed X (w.heap.size + 1 + 1) 4 v ∧ Boxed X w.heap.size 79 u ∧ Below w.heap.size w X :=
  ⟨KeepsFrom.of_grownBy (grown_of_below hX) (fun j e => by cases e), hX.mono hB.size, h4.below hX, (hX.block _ h5.lt).trans h5, (hX.block _ h3.lt).trans h3, hB.trans (hX.mono hB.size)⟩
/-- The round's slots behind the test, when there was a choice already. -/
def A61 (s : Sea) (k : Nat) (x : Int) (lb : Array Value) (B Ba i j : Nat) : Array Value := #[.func (.func 69) #[] lb, .func (.func 63) #[] #[], undef, .pointer (some ⟨B, 0, none⟩), .pointer (some ⟨B + 1, 0, none⟩), .pointer (some ⟨B + 1 + 1, 0, none⟩), .pointer (some ⟨Ba, 0, none⟩), .func (.func 69) #[] lb, .agg #[.int .i64 (j : Int), .int .i64 (s.gm k * j), .int .i64 (s.next k x j)], .bool true, .bool false, .bool false, .func (.func 63) #[] #[], .agg #[.int .i64 (j : Int), .int .i64 (s.gm k * j), .int .i64 (s.next k x j)], .int .i64 (j : Int), .func (.func 63) #[] #[], .agg #[.int .i64 (i : Int), .int .i64 (s.gm k * i), .int .i64 (s.next k x i)], .int .i64 (i : Int), .bool (decide (j < i)), .bool (decide (j < i)), undef, undef, undef]
set_option maxRecDepth 100000 in
set_option maxHeartbeats 4000000 in
theorem least61_in (n : Nat) (hn : 3 ≤ n) (k : Nat) (x : Int) (lb : Array Value) (w : World)
    (hseq : ∀ W0, Below w.heap.size w W0 → w.heap.size ≤ W0.heap.size → SeqStopsK Fence.wide (n - 1) Try.prog 69 lb (fun j : Nat => enC s k x j) (Below w.heap.size) (fun ys => ys = prL (few s k x (moS s)) (moS s)) (fun pre => ∃ j, j ≤ (moS s) ∧ pre = prL (few s k x (moS s)) j) (moS s) W0) :
    CallsIn Fence.wide n Try.prog 61 #[.func (.func 69) #[] lb, .func (.func 63) #[] #[]] w fun e W' => e = .returned (.tuple #[.agg #[.int .i64 (lv s k x (lst (prL (few s k x (moS s)) (moS s))) 0), .int .i64 (lv s k x (lst (prL (few s k x (moS s)) (moS s))) 1), .int .i64 (lv s k x (lst (prL (few s k x (moS s)) (moS s))) 2)], .bool (lst (prL (few s k x (moS s)) (moS s))).isSome]) ∧ Below w.heap.size w W' := by
  have h1 : 1 ≤ n := by omega
  refine callsIn_of_wp_marks Try.func61 rfl trivial ?_ rfl
  simp only [Try.ntmps61, List.size_toArray, List.length_cons, List.length_nil, Nat.reduceAdd, Nat.reduceSub, Array.replicate_succ, Array.replicate_zero, List.push_toArray, List.append_toArray, List.nil_append, List.cons_append]
  gi_wp2
  have b3 := ((Boxed.new w 79 (.func (.func 63) #[] #[])).alloc (.cells #[.int .i64 0, .int .i64 0, .int .i64 0] 73)).alloc (.cells #[.bool false] 4)
  have b4 : Blk3 (((w.alloc (.cells #[.func (.func 63) #[] #[]] 79)).alloc (.cells #[.int .i64 0, .int .i64 0, .int .i64 0] 73)).alloc (.cells #[.bool false] 4)) (w.heap.size + 1) 0 0 0 := by
    have h : Blk3 ((w.alloc (.cells #[.func (.func 63) #[] #[]] 79)).alloc (.cells #[.int .i64 0, .int .i64 0, .int .i64 0] 73)) (w.heap.size + 1) 0 0 0 := by
      have := World.alloc_heap_new (w.alloc (.cells #[.func (.func 63) #[] #[]] 79)) (.cells #[.int .i64 0, .int .i64 0, .int .i64 0] 73)
      rwa [World.size_alloc] at this
    exact (Below.heap_alloc _ _ _ h.lt).trans h
  have b5 := Boxed.new ((w.alloc (.cells #[.func (.func 63) #[] #[]] 79)).alloc (.cells #[.int .i64 0, .int .i64 0, .int .i64 0] 73)) 4 (.bool false)
  simp only [World.size_alloc] at b5
  have hBel : Below w.heap.size w (((w.alloc (.cells #[.func (.func 63) #[] #[]] 79)).alloc (.cells #[.int .i64 0, .int .i64 0, .int .i64 0] 73)).alloc (.cells #[.bool false] 4)) := (((Below.refl _ w).alloc (Nat.le_refl _) _).alloc (by simp) _).alloc (by simp <;> omega) _
  have hsz : (((w.alloc (.cells #[.func (.func 63) #[] #[]] 79)).alloc (.cells #[.int .i64 0, .int .i64 0, .int .i64 0] 73)).alloc (.cells #[.bool false] 4)).heap.size = w.heap.size + 3 := by simp
  obtain ⟨W0, hW0⟩ : ∃ W0, ((w.alloc (.cells #[.func (.func 63) #[] #[]] 79)).alloc (.cells #[.int .i64 0, .int .i64 0, .int .i64 0] 73)).alloc (.cells #[.bool false] 4) = W0 := ⟨_, rfl⟩
  rw [hW0] at b3 b4 b5 hBel hsz ⊢
  clear hW0
  refine wpIn_rangeFunc_ownH rfl h1 (gf := 69) (lb := lb) rfl trivial (enters_of Try.func69 (by kernel_rfl) rfl)
    (hseq W0 hBel (by omega)) belowK_t (belowK_b (by omega)) (Below.refl _ _) (fun _ => rfl)
    (fun pre W => Blk3 W (w.heap.size + 1) (lv s k x (lst pre) 0) (lv s k x (lst pre) 1) (lv s k x (lst pre) 2) ∧ (Boxed W (w.heap.size + 1 + 1) 4 (.bool (lst pre).isSome) ∧ (Boxed W w.heap.size 79 (.func (.func 63) #[] #[]) ∧ Below w.heap.size w W)))
    (fun _ _ _ => False)
    (OwnFrom.and (Own.from (blk3_own _ _ _ _) _) (OwnFrom.and (Own.from (boxed_own _ _ _) _) (OwnFrom.and (Own.from (boxed_own _ _ _) _) (ownFrom_below (by omega) (by omega)))))
    (fun _ _ _ _ _ hs _ _ => hs)
    ⟨b4, b5, b3, hBel⟩
    (fun j a' W => ∃ Ba, w.heap.size + 1 + 1 < Ba ∧ Blk3 W Ba (j : Int) (s.gm k * j) (s.next k x j) ∧ a' = { tmps := #[.func (.func 69) #[] lb, .func (.func 63) #[] #[], undef, .pointer (some ⟨w.heap.size, 0, none⟩), .pointer (some ⟨w.heap.size + 1, 0, none⟩), .pointer (some ⟨w.heap.size + 1 + 1, 0, none⟩), .pointer (some ⟨Ba, 0, none⟩), .func (.func 69) #[] lb, .agg #[.int .i64 (j : Int), .int .i64 (s.gm k * j), .int .i64 (s.next k x j)], undef, undef, undef, undef, undef, undef, undef, undef, undef, undef, undef, undef, undef, undef], defers := [] })
    (fun j a' _ X Y row hs hg hr => by obtain ⟨Ba, h1, h2, h3⟩ := hs; exact ⟨Ba, h1, h2.kept hg (fun e' => by obtain ⟨o, ho, hc⟩ := (hr Ba e'.symm).2; rw [show X.heap[Ba]? = _ from h2] at ho; cases ho; cases hc), h3⟩)
    ?assign ?body ?done ?stop
  case assign =>
    rintro l pre j W K ⟨h4, h5, h3, hB⟩ hK
    simp only [enC] at hK ⊢
    have hsW := h5.lt
    gi_wp2
    refine hK _ _ ((KeepsOthers.alloc _ _).from _) ((Below.refl _ W).alloc hB.size _) ⟨(Below.heap_alloc _ _ _ h4.lt).trans h4, h5.alloc _, h3.alloc _, hB.alloc hB.size _⟩ ⟨W.heap.size, by omega, World.alloc_heap_new W _, rfl⟩
  case body =>
    rintro l pre j a' W hl _ ⟨h4, h5, h3, hB⟩ ⟨Ba, hBa, hA, rfl⟩ hlt
    obtain ⟨a0, a1, a2⟩ := hA.cells
    obtain ⟨l0, l1, l2⟩ := h4.cells
    have c5 := h5.cell
    have c3 := h3.cell
    have f5 := h5.frozen
    have f40 := h4.frozen 0
    have f41 := h4.frozen 1
    have f42 := h4.frozen 2
    have z1 := hA.lt
    have z5 := h5.lt
    have z3 := h3.lt
    have z4 := h4.lt
    have hd : 1 ≤ n - 1 - 1 := by omega
    have hmx : Try.prog.follows .mixedOrders = true := by kernel_rfl
    cases hls : lst pre with
    | none =>
      have hs2 : lst (pre ++ [j]) = some j := by rw [lst_snoc, hls]
      rw [hls] at c5
      have c5 : W.cell? ⟨w.heap.size + 1 + 1, 0, none⟩ = some (.bool false) := c5
      have HS2 : Hid (lst (pre ++ [j]) = some j) := hs2
      clear hs2 hls
      gi_wp2
      gi_region_with_o (refine ⟨fun _ h => (by cases h), ?_⟩)
      all_goals gi_wp2
      all_goals (try go_bits)
      all_goals (show KeepsFrom _ _ _ ∧ Below _ _ _ ∧ Blk3 _ _ _ _ _ ∧ Boxed _ _ _ _ ∧ Boxed _ _ _ _ ∧ Below _ _ _; rw [HS2.out]; exact fin61 (Below.refl _ W) h4 h5 h3 hB)
    | some i =>
      have e0 : W.cell? ⟨w.heap.size + 1, 0, none⟩ = some (.int .i64 (i : Int)) := by rw [l0, hls]; rfl
      have e1 : W.cell? ⟨w.heap.size + 1, 1, none⟩ = some (.int .i64 (s.gm k * i)) := by rw [l1, hls]; rfl
      have e2 : W.cell? ⟨w.heap.size + 1, 2, none⟩ = some (.int .i64 (s.next k x i)) := by rw [l2, hls]; rfl
      have c5' : W.cell? ⟨w.heap.size + 1 + 1, 0, none⟩ = some (.bool true) := by rw [c5, hls]; rfl
      have HS2 : Hid (lst (pre ++ [j]) = if j < i then some j else some i) := by show _ = _; rw [lst_snoc, hls]
      have HLS : Hid (lst pre = some i) := hls
      clear l0 l1 l2 c5 hls
      gi_wp2
      refine Rd.region hmx (N := 23) (X := fun t => (A61 s k x lb w.heap.size Ba i j).getD t undef) (by kernel_rfl) rfl ?_ (Rd.cons ?_ (Rd.cons ?_ (Rd.cons ?_ (Rd.cons ?_ (Rd.cons ?_ (Rd.cons ?_ (Rd.cons ?_ (Rd.cons ?_ (Rd.cons ?_ (Rd.cons ?_ (Rd.cons ?_ Rd.nil))))))))))) ?_
      · intro t ht hw
        match t, ht, hw with
        | 0, _, _ => exact rfl
        | 1, _, _ => exact rfl
        | 2, _, _ => exact rfl
        | 3, _, _ => exact rfl
        | 4, _, _ => exact rfl
        | 5, _, _ => exact rfl
        | 6, _, _ => exact rfl
        | 7, _, _ => exact rfl
        | 8, _, _ => exact rfl
        | 9, _, hw => exact absurd hw (by decide)
        | 10, _, hw => exact absurd hw (by decide)
        | 11, _, hw => exact absurd hw (by decide)
        | 12, _, hw => exact absurd hw (by decide)
        | 13, _, hw => exact absurd hw (by decide)
        | 14, _, hw => exact absurd hw (by decide)
        | 15, _, hw => exact absurd hw (by decide)
        | 16, _, hw => exact absurd hw (by decide)
        | 17, _, hw => exact absurd hw (by decide)
        | 18, _, hw => exact absurd hw (by decide)
        | 19, _, hw => exact absurd hw (by decide)
        | 20, _, _ => exact rfl
        | 21, _, _ => exact rfl
        | 22, _, _ => exact rfl
        | n + 23, h, _ => exact absurd h (by omega)
      · intro a w1 K hsz hdf hkn hb hK
        obtain ⟨x0, x1, x2, x3, x4, x5, x6, x7, x8, x9, x10, x11, x12, x13, x14, x15, x16, x17, x18, x19, x20, x21, x22, rfl⟩ := Rd.act23 hsz hdf
        have k5 := hkn 5 (by decide) (by kernel_rfl)
        obtain rfl : x5 = .pointer (some ⟨w.heap.size + 1 + 1, 0, none⟩) := k5
        have q0 := (hb.cell (p := ⟨w.heap.size + 1 + 1, 0, none⟩) z5).trans c5'
        refine wpOpIn_step rfl (fun K' hK' => ?_)
        go_simp
        refine hK' _ _ ?_
        exact hK _ hb
      · intro a w1 K hsz hdf hkn hb hK
        obtain ⟨x0, x1, x2, x3, x4, x5, x6, x7, x8, x9, x10, x11, x12, x13, x14, x15, x16, x17, x18, x19, x20, x21, x22, rfl⟩ := Rd.act23 hsz hdf
        have k9 := hkn 9 (by decide) (by kernel_rfl)
        obtain rfl : x9 = .bool true := k9
        refine wpOpIn_step rfl (fun K' hK' => ?_)
        go_simp
        refine hK' _ _ ?_
        exact hK _ hb
      · intro a w1 K hsz hdf hkn hb hK
        obtain ⟨x0, x1, x2, x3, x4, x5, x6, x7, x8, x9, x10, x11, x12, x13, x14, x15, x16, x17, x18, x19, x20, x21, x22, rfl⟩ := Rd.act23 hsz hdf
        have k10 := hkn 10 (by decide) (by kernel_rfl)
        obtain rfl : x10 = .bool false := k10
        refine wpOpIn_step rfl (fun K' hK' => ?_)
        go_simp
        refine hK' _ _ ?_
        exact hK _ hb
      · intro a w1 K hsz hdf hkn hb hK
        obtain ⟨x0, x1, x2, x3, x4, x5, x6, x7, x8, x9, x10, x11, x12, x13, x14, x15, x16, x17, x18, x19, x20, x21, x22, rfl⟩ := Rd.act23 hsz hdf
        have k3 := hkn 3 (by decide) (by kernel_rfl)
        have k11 := hkn 11 (by decide) (by kernel_rfl)
        obtain rfl : x3 = .pointer (some ⟨w.heap.size, 0, none⟩) := k3
        obtain rfl : x11 = .bool false := k11
        have q0 := (hb.cell (p := ⟨w.heap.size, 0, none⟩) z3).trans c3
        refine wpOpIn_step rfl (fun K' hK' => ?_)
        go_simp
        refine hK' _ _ ?_
        exact hK _ hb
      · intro a w1 K hsz hdf hkn hb hK
        obtain ⟨x0, x1, x2, x3, x4, x5, x6, x7, x8, x9, x10, x11, x12, x13, x14, x15, x16, x17, x18, x19, x20, x21, x22, rfl⟩ := Rd.act23 hsz hdf
        have k6 := hkn 6 (by decide) (by kernel_rfl)
        have k11 := hkn 11 (by decide) (by kernel_rfl)
        obtain rfl : x6 = .pointer (some ⟨Ba, 0, none⟩) := k6
        obtain rfl : x11 = .bool false := k11
        have q0 := (hb.cell (p := ⟨Ba, 0, none⟩) z1).trans a0
        have q1 := (hb.cell (p := ⟨Ba, 1, none⟩) z1).trans a1
        have q2 := (hb.cell (p := ⟨Ba, 2, none⟩) z1).trans a2
        refine wpOpIn_step rfl (fun K' hK' => ?_)
        go_simp
        refine hK' _ _ ?_
        exact hK _ hb
      · intro a w1 K hsz hdf hkn hb hK
        obtain ⟨x0, x1, x2, x3, x4, x5, x6, x7, x8, x9, x10, x11, x12, x13, x14, x15, x16, x17, x18, x19, x20, x21, x22, rfl⟩ := Rd.act23 hsz hdf
        have k11 := hkn 11 (by decide) (by kernel_rfl)
        have k12 := hkn 12 (by decide) (by kernel_rfl)
        have k13 := hkn 13 (by decide) (by kernel_rfl)
        obtain rfl : x11 = .bool false := k11
        obtain rfl : x12 = .func (.func 63) #[] #[] := k12
        obtain rfl : x13 = .agg #[.int .i64 (j : Int), .int .i64 (s.gm k * j), .int .i64 (s.next k x j)] := k13
        refine wpOpIn_step rfl (fun K' hK' => ?_)
        go_simp
        gi_wp2_with (refine ⟨trivial, ?_⟩; gi_at_call 63; refine (CallsIn.inRound l (num63_in Fence.wide _ trivial rfl _ _ _ _)).mono ?_; rintro e w' ⟨rfl, rfl⟩)
        exact hb.trans ((Below.refl _ _).alloc hb.size _)
      · intro a w1 K hsz hdf hkn hb hK
        obtain ⟨x0, x1, x2, x3, x4, x5, x6, x7, x8, x9, x10, x11, x12, x13, x14, x15, x16, x17, x18, x19, x20, x21, x22, rfl⟩ := Rd.act23 hsz hdf
        have k3 := hkn 3 (by decide) (by kernel_rfl)
        have k11 := hkn 11 (by decide) (by kernel_rfl)
        obtain rfl : x3 = .pointer (some ⟨w.heap.size, 0, none⟩) := k3
        obtain rfl : x11 = .bool false := k11
        have q0 := (hb.cell (p := ⟨w.heap.size, 0, none⟩) z3).trans c3
        refine wpOpIn_step rfl (fun K' hK' => ?_)
        go_simp
        refine hK' _ _ ?_
        exact hK _ hb
      · intro a w1 K hsz hdf hkn hb hK
        obtain ⟨x0, x1, x2, x3, x4, x5, x6, x7, x8, x9, x10, x11, x12, x13, x14, x15, x16, x17, x18, x19, x20, x21, x22, rfl⟩ := Rd.act23 hsz hdf
        have k4 := hkn 4 (by decide) (by kernel_rfl)
        have k11 := hkn 11 (by decide) (by kernel_rfl)
        obtain rfl : x4 = .pointer (some ⟨w.heap.size + 1, 0, none⟩) := k4
        obtain rfl : x11 = .bool false := k11
        have q0 := (hb.cell (p := ⟨w.heap.size + 1, 0, none⟩) z4).trans e0
        have q1 := (hb.cell (p := ⟨w.heap.size + 1, 1, none⟩) z4).trans e1
        have q2 := (hb.cell (p := ⟨w.heap.size + 1, 2, none⟩) z4).trans e2
        refine wpOpIn_step rfl (fun K' hK' => ?_)
        go_simp
        refine hK' _ _ ?_
        exact hK _ hb
      · intro a w1 K hsz hdf hkn hb hK
        obtain ⟨x0, x1, x2, x3, x4, x5, x6, x7, x8, x9, x10, x11, x12, x13, x14, x15, x16, x17, x18, x19, x20, x21, x22, rfl⟩ := Rd.act23 hsz hdf
        have k11 := hkn 11 (by decide) (by kernel_rfl)
        have k15 := hkn 15 (by decide) (by kernel_rfl)
        have k16 := hkn 16 (by decide) (by kernel_rfl)
        obtain rfl : x11 = .bool false := k11
        obtain rfl : x15 = .func (.func 63) #[] #[] := k15
        obtain rfl : x16 = .agg #[.int .i64 (i : Int), .int .i64 (s.gm k * i), .int .i64 (s.next k x i)] := k16
        refine wpOpIn_step rfl (fun K' hK' => ?_)
        go_simp
        gi_wp2_with (refine ⟨trivial, ?_⟩; gi_at_call 63; refine (CallsIn.inRound l (num63_in Fence.wide _ trivial rfl _ _ _ _)).mono ?_; rintro e w' ⟨rfl, rfl⟩)
        exact hb.trans ((Below.refl _ _).alloc hb.size _)
      · intro a w1 K hsz hdf hkn hb hK
        obtain ⟨x0, x1, x2, x3, x4, x5, x6, x7, x8, x9, x10, x11, x12, x13, x14, x15, x16, x17, x18, x19, x20, x21, x22, rfl⟩ := Rd.act23 hsz hdf
        have k11 := hkn 11 (by decide) (by kernel_rfl)
        have k14 := hkn 14 (by decide) (by kernel_rfl)
        have k17 := hkn 17 (by decide) (by kernel_rfl)
        obtain rfl : x11 = .bool false := k11
        obtain rfl : x14 = .int .i64 (j : Int) := k14
        obtain rfl : x17 = .int .i64 (i : Int) := k17
        refine wpOpIn_step rfl (fun K' hK' => ?_)
        go_simp
        refine hK' _ _ ?_
        exact hK _ hb
      · intro a w1 K hsz hdf hkn hb hK
        obtain ⟨x0, x1, x2, x3, x4, x5, x6, x7, x8, x9, x10, x11, x12, x13, x14, x15, x16, x17, x18, x19, x20, x21, x22, rfl⟩ := Rd.act23 hsz hdf
        have k11 := hkn 11 (by decide) (by kernel_rfl)
        have k18 := hkn 18 (by decide) (by kernel_rfl)
        obtain rfl : x11 = .bool false := k11
        obtain rfl : x18 = .bool (decide (j < i)) := k18
        refine wpOpIn_step rfl (fun K' hK' => ?_)
        go_simp
        refine hK' _ _ ?_
        exact hK _ hb
      · intro a' w1 hsz' hdf' hX' hb
        obtain rfl := Rd.act_of (L := A61 s k x lb w.heap.size Ba i j) rfl hsz' hdf' hX'
        unfold A61
        have hb2 : Below W.heap.size W w1 := (Below.refl _ W).drew.trans hb
        have g5 := (hb2.frozen z5).trans f5
        have g40 := (hb2.frozen (p := ⟨w.heap.size + 1, 0, none⟩) z4).trans f40
        have g41 := (hb2.frozen (p := ⟨w.heap.size + 1, 1, none⟩) z4).trans f41
        have g42 := (hb2.frozen (p := ⟨w.heap.size + 1, 2, none⟩) z4).trans f42
        have b0 := (hb2.cell (p := ⟨Ba, 0, none⟩) z1).trans a0
        have b1 := (hb2.cell (p := ⟨Ba, 1, none⟩) z1).trans a1
        have b2 := (hb2.cell (p := ⟨Ba, 2, none⟩) z1).trans a2
        have d0 := (hb2.cell (p := ⟨w.heap.size + 1, 0, none⟩) z4).trans e0
        have d1 := (hb2.cell (p := ⟨w.heap.size + 1, 1, none⟩) z4).trans e1
        have d2 := (hb2.cell (p := ⟨w.heap.size + 1, 2, none⟩) z4).trans e2
        have d5 := (hb2.cell (p := ⟨w.heap.size + 1 + 1, 0, none⟩) z5).trans c5'
        by_cases hji : j < i
        · have hdj : decide (j < i) = true := decide_eq_true hji
          have hs3 : lst (pre ++ [j]) = some j := by rw [HS2.out, if_pos hji]
          have HS3 : Hid (lst (pre ++ [j]) = some j) := hs3
          clear hs3 hji
          rw [hdj]
          gi_wp2
          show KeepsFrom _ _ _ ∧ Below _ _ _ ∧ Blk3 _ _ _ _ _ ∧ Boxed _ _ _ _ ∧ Boxed _ _ _ _ ∧ Below _ _ _
          rw [HS3.out]
          exact fin61n hb2 h4 h5 h3 hB
        · have hdj : decide (j < i) = false := decide_eq_false hji
          have hs3 : lst (pre ++ [j]) = lst pre := by rw [HS2.out, if_neg hji, HLS.out]
          have HS3 : Hid (lst (pre ++ [j]) = lst pre) := hs3
          clear hs3 hji
          rw [hdj]
          gi_wp2
          show KeepsFrom _ _ _ ∧ Below _ _ _ ∧ Blk3 _ _ _ _ _ ∧ Boxed _ _ _ _ ∧ Boxed _ _ _ _ ∧ Below _ _ _
          rw [HS3.out]
          exact keep61 hb2 h4 h5 h3 hB
  case done =>
    rintro D ys W hD rfl ⟨h4, h5, h3, hB⟩ hK
    obtain ⟨l0, l1, l2⟩ := h4.cells
    have c5 := h5.cell
    have f5 := h5.frozen
    have f40 := h4.frozen 0
    have f41 := h4.frozen 1
    have f42 := h4.frozen 2
    have z4 := h4.lt
    have z5 := h5.lt
    gi_wp2
    refine wpIn_wide.2 ?_
    go_region
    gi_wp2
    obtain ⟨g1, g2, g3, g4, g5, g6⟩ := fin61 (B0 := 0) (a' := lv s k x (lst (prL (few s k x (moS s)) (moS s))) 0) (b' := lv s k x (lst (prL (few s k x (moS s)) (moS s))) 1) (c' := lv s k x (lst (prL (few s k x (moS s)) (moS s))) 2) (bv := (lst (prL (few s k x (moS s)) (moS s))).isSome) (Below.refl _ W) h4 h5 h3 hB
    have hK3 := g1.same D _ (Nat.zero_le _) hK rfl
    generalize ((((W.setCell ⟨w.heap.size + 1, 0, none⟩ (.int .i64 (lv s k x (lst (prL (few s k x (moS s)) (moS s))) 0))).setCell ⟨w.heap.size + 1, 1, none⟩ (.int .i64 (lv s k x (lst (prL (few s k x (moS s)) (moS s))) 1))).setCell ⟨w.heap.size + 1, 2, none⟩ (.int .i64 (lv s k x (lst (prL (few s k x (moS s)) (moS s))) 2))).setCell ⟨w.heap.size + 1 + 1, 0, none⟩ (.bool (lst (prL (few s k x (moS s)) (moS s))).isSome)).drew = X at g1 g2 g3 g4 g5 g6 hK3 ⊢
    refine ⟨by simp, .inl ⟨_, _, rfl, run_takeDeferred hK3, ?_⟩⟩
    have k0 := cell_kept g3.cells.1 (grownBy_putObj' X D (.deferred none)) (fun r e => by cases e; exact ⟨_, hK3, rfl⟩)
    have k1 := cell_kept g3.cells.2.1 (grownBy_putObj' X D (.deferred none)) (fun r e => by cases e; exact ⟨_, hK3, rfl⟩)
    have k2 := cell_kept g3.cells.2.2 (grownBy_putObj' X D (.deferred none)) (fun r e => by cases e; exact ⟨_, hK3, rfl⟩)
    have k5 := cell_kept g4.cell (grownBy_putObj' X D (.deferred none)) (fun r e => by cases e; exact ⟨_, hK3, rfl⟩)
    refine ⟨.tuple #[.agg #[.int .i64 (lv s k x (lst (prL (few s k x (moS s)) (moS s))) 0), .int .i64 (lv s k x (lst (prL (few s k x (moS s)) (moS s))) 1), .int .i64 (lv s k x (lst (prL (few s k x (moS s)) (moS s))) 2)], .bool (lst (prL (few s k x (moS s)) (moS s))).isSome], ?_, rfl, ?_⟩
    · simp [results, Try.f61, go_sem, k0, k1, k2, k5]
    · exact g6.trans (belowK_b (w := w) (Nat.le_refl _) X D _ _ (by omega) hK3 rfl rfl)
  case stop =>
    rintro D c pre W _ _ h _
    exact h.elim
end
end Go.Proofs.Ytblbjmdeaojogaa.sea
