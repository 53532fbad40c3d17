import Derived.Test.YtbkjjefjnkkgbaaSw1
import Derived.Maps.OwnIn
import Derived.Maps.AppendAt
namespace Go.Proofs.Ytbkjjefjnkkgbaa.sea
open Go Go.Ab Go.Proofs Go.RowKit Go.Shelf
attribute [local go_sem] Oper.semAt_some
set_option linter.unusedVariables false
/-- Two boxes, each with a slice that the call owns, in rows of their own. -/
def Two (n₀ B1 B2 k : Nat) (f1 f2 : List Value) (W : World) : Prop := ∃ v1 v2, Boxed W B1 22 v1 ∧ W.ownsRow n₀ 2 1 v1 k f1 ∧ Boxed W B2 22 v2 ∧ W.ownsRow n₀ 2 1 v2 k f2 ∧ (v1.ownBlock = none ∨ v1.ownBlock ≠ v2.ownBlock)
theorem row_keeps {X Y : World} {row : Option Nat} {n₀ k : Nat} {v : Value} {f : List Value} (hr : X.ownsRow n₀ 2 1 v k f) (hg : X.grownBy Y row) (hrow : ∀ r, row = some r → ∃ o : Obj, X.heap[r]? = some o ∧ o.isCells = false) : Y.ownsRow n₀ 2 1 v k f := by
  refine hr.kept hg ?_
  rcases hr.2 with ⟨rfl, _⟩ | ⟨g, cap, cur, rfl, _, hgb, _⟩
  · exact .inl rfl
  · refine .inr fun e' => ?_
    obtain ⟨o, ho, hc⟩ := hrow g (by simpa [Value.ownBlock] using e'.symm)
    rw [hgb] at ho; cases ho; cases hc
theorem box_keeps {X Y : World} {row : Option Nat} {B : Nat} {v : Value} (hv : Boxed X B 22 v) (hg : X.grownBy Y row) (hrow : ∀ r, row = some r → ∃ o : Obj, X.heap[r]? = some o ∧ o.isCells = false) : Boxed Y B 22 v := by
  refine hv.kept hg (fun e' => ?_)
  obtain ⟨o, ho, hc⟩ := hrow B e'.symm
  rw [show X.heap[B]? = _ from hv] at ho; cases ho; cases hc
theorem two_own {β : Type} (n₀ B1 B2 : Nat) (k : β → Nat) (f1 f2 : β → List Value) : Own (fun s W => Two n₀ B1 B2 (k s) (f1 s) (f2 s) W) := by
  rintro s X Y row ⟨v1, v2, h1, r1, h2, r2, hne⟩ hg hrow
  exact ⟨v1, v2, box_keeps h1 hg hrow, row_keeps r1 hg hrow, box_keeps h2 hg hrow, row_keeps r2 hg hrow, hne⟩
theorem flip_ne {α : Type} {a b : Option α} (h : a = none ∨ a ≠ b) : b = none ∨ b ≠ a := by
  rcases h with rfl | h
  · cases b with
    | none => exact .inl rfl
    | some x => exact .inr (by simp)
  · exact .inr h.symm
/-- Behind an append into the one box the other box and its row are as before. -/
theorem two_step {W w1 : World} {n₀ B1 B2 k k2 : Nat} {g1 j1 : Nat} {v1 v2 : Value} {xs ys zs : List Value} {tmp : Obj} (h1 : Boxed W B1 22 v1) (r1 : W.ownsRow n₀ 2 1 v1 k xs) (h2 : Boxed W B2 22 v2) (r2 : W.ownsRow n₀ 2 1 v2 k2 ys) (hne : v1.ownBlock = none ∨ v1.ownBlock ≠ v2.ownBlock) (hB : B2 ≠ B1)
    (bx1 : Boxed w1 B1 22 v1) {m : Nat} (o1 : w1.ownsRow n₀ 2 1 (.slice (some ⟨g1, 0, none⟩) m j1) m zs) (hg : (W.alloc tmp).grownBy w1 v1.ownBlock) (hat : (Value.slice (some ⟨g1, 0, none⟩) m j1).ownBlock = v1.ownBlock ∨ (Value.slice (some ⟨g1, 0, none⟩) m j1).ownBlock = some (W.alloc tmp).heap.size) :
    Boxed (w1.setCell ⟨B1, 0, none⟩ (.slice (some ⟨g1, 0, none⟩) m j1)) B2 22 v2 ∧ (w1.setCell ⟨B1, 0, none⟩ (.slice (some ⟨g1, 0, none⟩) m j1)).ownsRow n₀ 2 1 v2 k2 ys ∧ (Value.slice (some ⟨g1, 0, none⟩) m j1).ownBlock ≠ v2.ownBlock := by
  have a1 : Boxed w1 B2 22 v2 := (h2.alloc tmp).kept hg (h2.not_row (by decide) r1)
  have a2 : w1.ownsRow n₀ 2 1 v2 k2 ys := (r2.alloc tmp).kept hg (flip_ne hne)
  refine ⟨a1.other hB _, a2.kept (grownBy_setCell' w1 B1 _) (.inr (bx1.not_row (by decide) a2).symm), ?_⟩
  rcases hat with e | e
  · rcases hne with h | h
    · rw [h] at e; simp [Value.ownBlock] at e
    · rw [e]; exact h
  · intro e'
    rw [e] at e'
    have := (r2.lt _ e'.symm).2
    simp at this
    omega
theorem size_set (w : World) (p : Addr) (u : Value) : (w.setCell p u).heap.size = w.heap.size := by simp [World.setCell]
theorem cell_one_set (w : World) (p : Addr) (u v : Value) (t : TypeId) : ∀ (j : Nat) (x : Value), [v][j]? = some x → ((w.setCell p u).alloc (.cells #[v] t)).cell? ((⟨w.heap.size, 0, none⟩ : Addr).add j) = some x := by
  have := cell_one_new (w.setCell p u) v t
  rw [size_set] at this
  exact this
theorem row_slice {W : World} {base : Nat} {e : TypeId} {size : Nat} {v : Value} {k : Nat} {xs : List Value} (h : W.ownsRow base e size v k xs) : ∃ a c, v = .slice a k c := by
  rcases h.2 with ⟨rfl, rfl⟩ | ⟨g, cap, _, rfl, _⟩
  · exact ⟨_, _, rfl⟩
  · exact ⟨_, _, rfl⟩
theorem row_base {W : World} {base base' : Nat} {e : TypeId} {size : Nat} {v : Value} {k : Nat} {xs : List Value} (h : W.ownsRow base e size v k xs) (hb : base' ≤ base) : W.ownsRow base' e size v k xs := by
  refine ⟨h.1, ?_⟩
  rcases h.2 with h | ⟨g, cap, cur, h1, h2, h3⟩
  · exact .inl h
  · exact .inr ⟨g, cap, cur, h1, by omega, h3⟩
/-- Behind an append into a box's row what lies below the rows, the box aside, is as before. -/
theorem step_blk {W w1 : World} {n₁ B k : Nat} {v u : Value} {xs : List Value} {tmp : Obj} (r : W.ownsRow n₁ 2 1 v k xs) (hg : (W.alloc tmp).grownBy w1 v.ownBlock) (b : Nat) (h1 : b < n₁) (h2 : b < W.heap.size) (h3 : b ≠ B) : (w1.setCell ⟨B, 0, none⟩ u).heap[b]? = W.heap[b]? := by
  refine (Below.heap_setCell _ _ _ _ h3).trans ((hg.block b (by simp; omega) (fun e => ?_)).trans (Below.heap_alloc _ _ _ h2))
  have := (r.lt b e.symm).1
  omega
theorem Try.info2 : (Try.prog.info? 2).map (fun i => (i.zero, i.size, i.bytes)) = some (some (.int .i64 0), 1, 8) := by kernel_rfl
theorem mk60_in (F : Fence) (n : Nat) (h60 : F.fn 69) (hro : F.round = none) (cs : List Value) (fv : Value) (hone : fv.oneCell' = true) (w : World) :
    CallsIn F n Try.prog 69 #[.agg ⟨cs⟩, fv] w fun e w' => e = .returned (.func (.func 79) #[] #[.pointer (some ⟨w.heap.size, 0, none⟩), .pointer (some ⟨w.heap.size + 1, 0, none⟩)]) ∧ w' = (w.alloc (.cells ⟨cs⟩ 27)).alloc (.cells #[fv] 81) := by
  refine callsIn_of_wp Try.func69 rfl h60 ?_ hro
  simp only [Try.ntmps69, List.size_toArray, List.length_cons, List.length_nil, Nat.reduceAdd, Nat.reduceSub, Array.replicate_succ, Array.replicate_zero, List.push_toArray, List.append_toArray, List.nil_append, List.cons_append]
  gi_wp2
  go_ret
  exact ⟨rfl, rfl⟩

theorem walkP_stops (n : Nat) (hn : 1 ≤ n) {s : Sea} (o : s.Ok) {ch : Nat → Int → Int} (hfit : s.Fits ch) (Bs Bc : Nat) (Bp : Nat) (s1 s2 : Value) (w : World)
    (hBs : ∀ (q : Nat) (u : Value), #[s1, s2, Value.int .i64 (s.g 0), .int .i64 (s.g 1), .int .i64 (s.g 2), .int .i64 (s.g 3), .int .i64 (s.g 4)][q]? = some u → w.cell? ⟨Bs, q, none⟩ = some u) (hBsl : Bs < w.heap.size) (n₀ : Nat) (hn₀ : n₀ ≤ w.heap.size)
    (hS : SeaV s w (seaVal s1 s2 s)) (hSn : ∀ W', Below n₀ w W' → n₀ ≤ W'.heap.size → SeaV s W' (seaVal s1 s2 s)) (hBc : w.cell? ⟨Bc, 0, none⟩ = some (.func (.func 55) #[] #[.pointer (some ⟨Bp, 0, none⟩)])) (hBcl : Bc < w.heap.size) (hch : ChoP s n₀ w Bp ch) :
    SeqStopsK Fence.wide n Try.prog 79 #[.pointer (some ⟨Bs, 0, none⟩), .pointer (some ⟨Bc, 0, none⟩)] (fun x : Nat => #[Value.int .i64 (ch x (s.st ch x)), .int .i64 (s.next x (s.st ch x) (ch x (s.st ch x)))]) (Kp2 n₀ Bs Bc) (fun ys => ys = sel (s.run ch s.n)) (fun pre => ∃ k, k ≤ s.n ∧ pre = sel k) s.n w := fun l J Jx W hW hJ _ hY h0 =>
  walkP_in n hn o hfit l Bs Bc n₀ Bp J Jx s1 s2 hY W hJ (fun q u hq => (hW.cell (p := ⟨Bs, q, none⟩) hBsl).trans (hBs q u hq)) (Nat.lt_of_lt_of_le hBsl hW.size) (hS.below hW) (fun W' hb hsz => hSn W' ((hW.mono hn₀).trans hb) hsz) ((hW.cell (p := ⟨Bc, 0, none⟩) hBcl).trans hBc) (Nat.lt_of_lt_of_le hBcl hW.size) (Nat.le_trans hn₀ hW.size) (fun k x W' hb hsz hk h0 h1 => hch k x W' ((hW.mono hn₀).trans hb) hsz hk h0 h1) h0
set_option maxRecDepth 100000 in
set_option maxHeartbeats 4000000 in
theorem walkedP_in (n : Nat) (hn : 3 ≤ n) {s : Sea} (o : s.Ok) {ch : Nat → Int → Int} (hfit : s.Fits ch) (Bp : Nat) (w : World) (s1 s2 : Value) (hS : SeaV s w (seaVal s1 s2 s)) (hch : ChoP s w.heap.size w Bp ch) :
    CallsIn Fence.wide n Try.prog 54 #[seaVal s1 s2 s, .func (.func 55) #[] #[.pointer (some ⟨Bp, 0, none⟩)]] w fun e W' => ∃ pv sv, e = .returned (.tuple #[pv, sv, .bool (decide ((s.run ch s.n : Int) = s.n))]) ∧ W'.ownsRow w.heap.size 2 1 pv (s.run ch s.n) (intsL (s.lg ch) (s.run ch s.n)) ∧ W'.ownsRow w.heap.size 2 1 sv (s.run ch s.n) (intsL (fun k => s.st ch (k + 1)) (s.run ch s.n)) ∧ Below w.heap.size w W' := by
  have h1 : 1 ≤ n := by omega
  have n2 := o.n2
  obtain ⟨i0, hi, hz0, hz1, hz2⟩ := info_parts Try.info2
  have hS' := hS
  obtain ⟨t1, t2, et, hs1, hs2, hl1, hl2⟩ := hS'
  obtain ⟨a1, c1, e1⟩ := hs1.slice
  have et1 : s1 = t1 := by injection et with et; injection et with et; injection et
  subst et1
  subst e1
  clear et hs1 hs2
  refine callsIn_of_wp_marks Try.func54 rfl trivial ?_ rfl
  simp only [Try.ntmps54, List.size_toArray, List.length_cons, List.length_nil, Nat.reduceAdd, Nat.reduceSub, Array.replicate_succ, Array.replicate_zero, List.push_toArray, List.append_toArray, List.nil_append, List.cons_append]
  gi_wp2_with (refine ⟨trivial, ?_⟩; gi_at_call 69; refine (mk60_in Fence.wide (n - 1) trivial rfl _ _ rfl _).mono ?_; rintro e w' ⟨rfl, rfl⟩)
  have hB1 := Boxed.new (w.alloc (.cells #[.slice a1 s.n c1, s2, .int .i64 (s.g 0), .int .i64 (s.g 1), .int .i64 (s.g 2), .int .i64 (s.g 3), .int .i64 (s.g 4)] 27)) 22 (.slice none 0 0)
  have hB2 := Boxed.new ((w.alloc (.cells #[.slice a1 s.n c1, s2, .int .i64 (s.g 0), .int .i64 (s.g 1), .int .i64 (s.g 2), .int .i64 (s.g 3), .int .i64 (s.g 4)] 27)).alloc (.cells #[.slice none 0 0] 22)) 22 (.slice none 0 0)
  have hBel : Below w.heap.size w (((((w.alloc (.cells #[.slice a1 s.n c1, s2, .int .i64 (s.g 0), .int .i64 (s.g 1), .int .i64 (s.g 2), .int .i64 (s.g 3), .int .i64 (s.g 4)] 27)).alloc (.cells #[.slice none 0 0] 22)).alloc (.cells #[.slice none 0 0] 22)).alloc (.cells #[.slice a1 s.n c1, s2, .int .i64 (s.g 0), .int .i64 (s.g 1), .int .i64 (s.g 2), .int .i64 (s.g 3), .int .i64 (s.g 4)] 27)).alloc (.cells #[.func (.func 55) #[] #[.pointer (some ⟨Bp, 0, none⟩)]] 81)) := (((((Below.refl _ w).alloc (Nat.le_refl _) _).alloc (by simp) _).alloc (by simp <;> omega) _).alloc (by simp <;> omega) _).alloc (by simp <;> omega) _
  have hcs : ∀ (q : Nat) (u : Value), #[.slice a1 s.n c1, s2, Value.int .i64 (s.g 0), .int .i64 (s.g 1), .int .i64 (s.g 2), .int .i64 (s.g 3), .int .i64 (s.g 4)][q]? = some u → (((((w.alloc (.cells #[.slice a1 s.n c1, s2, .int .i64 (s.g 0), .int .i64 (s.g 1), .int .i64 (s.g 2), .int .i64 (s.g 3), .int .i64 (s.g 4)] 27)).alloc (.cells #[.slice none 0 0] 22)).alloc (.cells #[.slice none 0 0] 22)).alloc (.cells #[.slice a1 s.n c1, s2, .int .i64 (s.g 0), .int .i64 (s.g 1), .int .i64 (s.g 2), .int .i64 (s.g 3), .int .i64 (s.g 4)] 27)).alloc (.cells #[.func (.func 55) #[] #[.pointer (some ⟨Bp, 0, none⟩)]] 81)).cell? ⟨w.heap.size + 1 + 1 + 1, q, none⟩ = some u := fun q u hq => by
    have := alloc_cells (s := s) (s1 := .slice a1 s.n c1) (s2 := s2) (((w.alloc (.cells #[.slice a1 s.n c1, s2, .int .i64 (s.g 0), .int .i64 (s.g 1), .int .i64 (s.g 2), .int .i64 (s.g 3), .int .i64 (s.g 4)] 27)).alloc (.cells #[.slice none 0 0] 22)).alloc (.cells #[.slice none 0 0] 22)) q u hq
    simp only [World.size_alloc] at this
    rw [← this]
    exact World.cell?_alloc_lt _ _ _ (by simp)
  have hcb : (((((w.alloc (.cells #[.slice a1 s.n c1, s2, .int .i64 (s.g 0), .int .i64 (s.g 1), .int .i64 (s.g 2), .int .i64 (s.g 3), .int .i64 (s.g 4)] 27)).alloc (.cells #[.slice none 0 0] 22)).alloc (.cells #[.slice none 0 0] 22)).alloc (.cells #[.slice a1 s.n c1, s2, .int .i64 (s.g 0), .int .i64 (s.g 1), .int .i64 (s.g 2), .int .i64 (s.g 3), .int .i64 (s.g 4)] 27)).alloc (.cells #[.func (.func 55) #[] #[.pointer (some ⟨Bp, 0, none⟩)]] 81)).cell? ⟨w.heap.size + 1 + 1 + 1 + 1, 0, none⟩ = some (.func (.func 55) #[] #[.pointer (some ⟨Bp, 0, none⟩)]) := by
    have := (Boxed.new ((((w.alloc (.cells #[.slice a1 s.n c1, s2, .int .i64 (s.g 0), .int .i64 (s.g 1), .int .i64 (s.g 2), .int .i64 (s.g 3), .int .i64 (s.g 4)] 27)).alloc (.cells #[.slice none 0 0] 22)).alloc (.cells #[.slice none 0 0] 22)).alloc (.cells #[.slice a1 s.n c1, s2, .int .i64 (s.g 0), .int .i64 (s.g 1), .int .i64 (s.g 2), .int .i64 (s.g 3), .int .i64 (s.g 4)] 27)) 81 (.func (.func 55) #[] #[.pointer (some ⟨Bp, 0, none⟩)])).cell
    simpa only [World.size_alloc] using this
  have hsb : ∀ (q : Nat) (u : Value), #[.slice a1 s.n c1, s2, Value.int .i64 (s.g 0), .int .i64 (s.g 1), .int .i64 (s.g 2), .int .i64 (s.g 3), .int .i64 (s.g 4)][q]? = some u → (((((w.alloc (.cells #[.slice a1 s.n c1, s2, .int .i64 (s.g 0), .int .i64 (s.g 1), .int .i64 (s.g 2), .int .i64 (s.g 3), .int .i64 (s.g 4)] 27)).alloc (.cells #[.slice none 0 0] 22)).alloc (.cells #[.slice none 0 0] 22)).alloc (.cells #[.slice a1 s.n c1, s2, .int .i64 (s.g 0), .int .i64 (s.g 1), .int .i64 (s.g 2), .int .i64 (s.g 3), .int .i64 (s.g 4)] 27)).alloc (.cells #[.func (.func 55) #[] #[.pointer (some ⟨Bp, 0, none⟩)]] 81)).cell? ⟨w.heap.size, q, none⟩ = some u := fun q u hq => by
    have := alloc_cells (s := s) (s1 := .slice a1 s.n c1) (s2 := s2) w q u hq
    rw [← this]
    rw [World.cell?_alloc_lt _ _ _ (by simp <;> omega), World.cell?_alloc_lt _ _ _ (by simp <;> omega), World.cell?_alloc_lt _ _ _ (by simp <;> omega), World.cell?_alloc_lt _ _ _ (by simp)]
  simp only [World.size_alloc] at hB1 hB2
  have bP := ((hB1.alloc (.cells #[.slice none 0 0] 22)).alloc (.cells #[.slice a1 s.n c1, s2, .int .i64 (s.g 0), .int .i64 (s.g 1), .int .i64 (s.g 2), .int .i64 (s.g 3), .int .i64 (s.g 4)] 27)).alloc (.cells #[.func (.func 55) #[] #[.pointer (some ⟨Bp, 0, none⟩)]] 81)
  have bS := (hB2.alloc (.cells #[.slice a1 s.n c1, s2, .int .i64 (s.g 0), .int .i64 (s.g 1), .int .i64 (s.g 2), .int .i64 (s.g 3), .int .i64 (s.g 4)] 27)).alloc (.cells #[.func (.func 55) #[] #[.pointer (some ⟨Bp, 0, none⟩)]] 81)
  have hsz : (((((w.alloc (.cells #[.slice a1 s.n c1, s2, .int .i64 (s.g 0), .int .i64 (s.g 1), .int .i64 (s.g 2), .int .i64 (s.g 3), .int .i64 (s.g 4)] 27)).alloc (.cells #[.slice none 0 0] 22)).alloc (.cells #[.slice none 0 0] 22)).alloc (.cells #[.slice a1 s.n c1, s2, .int .i64 (s.g 0), .int .i64 (s.g 1), .int .i64 (s.g 2), .int .i64 (s.g 3), .int .i64 (s.g 4)] 27)).alloc (.cells #[.func (.func 55) #[] #[.pointer (some ⟨Bp, 0, none⟩)]] 81)).heap.size = w.heap.size + 5 := by simp
  obtain ⟨W0, hW0⟩ : ∃ W0, ((((w.alloc (.cells #[.slice a1 s.n c1, s2, .int .i64 (s.g 0), .int .i64 (s.g 1), .int .i64 (s.g 2), .int .i64 (s.g 3), .int .i64 (s.g 4)] 27)).alloc (.cells #[.slice none 0 0] 22)).alloc (.cells #[.slice none 0 0] 22)).alloc (.cells #[.slice a1 s.n c1, s2, .int .i64 (s.g 0), .int .i64 (s.g 1), .int .i64 (s.g 2), .int .i64 (s.g 3), .int .i64 (s.g 4)] 27)).alloc (.cells #[.func (.func 55) #[] #[.pointer (some ⟨Bp, 0, none⟩)]] 81) = W0 := ⟨_, rfl⟩
  rw [hW0] at hBel hcs hcb hsb bP bS hsz ⊢
  clear hW0 hB1 hB2
  have hS0 := hS.below hBel
  refine wpIn_rangeFunc_ownG rfl h1 (gf := 79) (lb := #[.pointer (some ⟨w.heap.size + 1 + 1 + 1, 0, none⟩), .pointer (some ⟨w.heap.size + 1 + 1 + 1 + 1, 0, none⟩)]) rfl trivial (enters_of Try.func79 (by kernel_rfl) rfl)
    (walkP_stops (n - 1) (by omega) o hfit (w.heap.size + 1 + 1 + 1) (w.heap.size + 1 + 1 + 1 + 1) Bp (.slice a1 s.n c1) s2 W0 hcs (by omega) w.heap.size (by omega) hS0 (fun W' hb hsz' => hS.below (hBel.trans hb)) hcb (by omega) (fun k x W hb hsz' hk h0 h1 => hch k x W (hBel.trans hb) hsz' hk h0 h1)) Kp2.trans (Kp2.put (by omega) (by omega) (by omega)) (Below.refl _ _) (fun _ => rfl)
    (fun pre W => Two (w.heap.size + 5) (w.heap.size + 1) (w.heap.size + 1 + 1) pre.length (pre.map fun k => .int .i64 (ch k (s.st ch k))) (pre.map fun k => .int .i64 (s.next k (s.st ch k) (ch k (s.st ch k)))) W ∧ (Below w.heap.size W0 W ∧ W.cell? ⟨w.heap.size, 0, none⟩ = some (.slice a1 s.n c1)))
    (fun _ _ _ => False)
    (OwnFrom.and (Own.from (two_own (w.heap.size + 5) (w.heap.size + 1) (w.heap.size + 1 + 1) (fun pre : List Nat => pre.length) (fun pre => pre.map fun k => .int .i64 (ch k (s.st ch k))) (fun pre => pre.map fun k => .int .i64 (s.next k (s.st ch k) (ch k (s.st ch k))))) _) (OwnFrom.and (ownFrom_below (by omega) (by omega)) (Own.from (fun pre A B row hs hg hr => cell_kept hs hg hr) _)))
    (fun _ _ _ _ _ hs _ _ => hs)
    ⟨⟨_, _, bP, World.ownsRow_nil _ _ _ _, bS, World.ownsRow_nil _ _ _ _, .inl rfl⟩, Below.refl _ _, hsb 0 _ rfl⟩
    (fun x => { tmps := #[seaVal (.slice a1 s.n c1) s2 s, .func (.func 55) #[] #[.pointer (some ⟨Bp, 0, none⟩)], .pointer (some ⟨w.heap.size, 0, none⟩), undef, .pointer (some ⟨w.heap.size + 1, 0, none⟩), .pointer (some ⟨w.heap.size + 1 + 1, 0, none⟩), .bool false, .int .i64 (ch x (s.st ch x)), .int .i64 (s.next x (s.st ch x) (ch x (s.st ch x))), .agg #[.slice a1 s.n c1, s2, .int .i64 (s.g 0), .int .i64 (s.g 1), .int .i64 (s.g 2), .int .i64 (s.g 3), .int .i64 (s.g 4)], .func (.func 55) #[] #[.pointer (some ⟨Bp, 0, none⟩)], .func (.func 79) #[] #[.pointer (some ⟨w.heap.size + 1 + 1 + 1, 0, none⟩), .pointer (some ⟨w.heap.size + 1 + 1 + 1 + 1, 0, none⟩)], .int .i64 (ch x (s.st ch x)), .int .i64 (s.next x (s.st ch x) (ch x (s.st ch x))), undef, undef, undef, undef, undef, undef, undef, undef, undef, undef, undef, undef, undef, undef, undef, undef], defers := [] }) ?assign ?body ?done ?stop
  case assign =>
    intro l x W K hK
    gi_wp2
    exact hK
  case body =>
    rintro l pre x W ⟨⟨v1, v2, h1, r1, h2, r2, hne⟩, hB, hq⟩ hlt
    have hsW := hB.size
    have c1' := h1.cell
    have c2' := h2.cell
    have hWs : w.heap.size + 5 ≤ W.heap.size := by have := hsW; omega
    have q1 : (pre.length + 1) * 8 ≤ 140737488355328 := by omega
    have q2 : pre.length + 1 ≤ maxLen := by unfold maxLen; omega
    gi_wp2_with (first
      | (gi_at_builtin; refine wpListIn_append_own_at _ rfl (Operand.tmp 14) (Operand.tmp 16) 22 rfl (w.heap.size + 5) 2 i0 (.int .i64 0) 1 8 Try.underlying22 hi hz0 hz1 hz2 rfl (by decide) _ _ _ rfl (r1.alloc _) ⟨W.heap.size, 0, none⟩ 1 1 [.int .i64 (ch x (s.st ch x))] rfl rfl (cell_one_new _ _ _) (by simp [Value.oneCell']) q2 q1 (by simp <;> omega) ?_; intro v1' w1 o1 g1 _ at1; obtain ⟨k1, j1, rfl⟩ := ownsRow_succ o1; obtain ⟨bx1, bx1', or1, kk1, bb1⟩ := h1.appended (n₀ := w.heap.size + 1) (by decide) (row_base r1 (by omega)) (by omega) (by omega) (row_base o1 (by omega)) g1; clear or1; have or1 := o1.kept (grownBy_setCell' w1 (w.heap.size + 1) (.slice (some ⟨k1, 0, none⟩) (pre.length + 1) j1)) (.inr (bx1.not_row (by decide) o1).symm); have sb1 := fun b h1' h2' h3' => step_blk (B := w.heap.size + 1) (u := .slice (some ⟨k1, 0, none⟩) (pre.length + 1) j1) r1 g1 b h1' h2' h3'; have e1c := bx1.cell; have e1f := bx1.frozen; obtain ⟨m2, m2r, m2n⟩ := two_step h1 r1 h2 r2 hne (by omega) bx1 o1 g1 at1; have e2c := m2.cell; have hz1' := bb1.size; have hz2' := m2.lt; have hz3' : W.heap.size ≤ w1.heap.size := by have := bb1.size; rwa [size_set] at this)
      | (gi_at_builtin; refine wpListIn_append_own_at _ rfl (Operand.tmp 18) (Operand.tmp 20) 22 rfl (w.heap.size + 5) 2 i0 (.int .i64 0) 1 8 Try.underlying22 hi hz0 hz1 hz2 rfl (by decide) _ _ _ rfl (m2r.alloc _) ⟨_, 0, none⟩ 1 1 [.int .i64 (s.next x (s.st ch x) (ch x (s.st ch x)))] rfl rfl (cell_one_set _ _ _ _ _) (by simp [Value.oneCell']) q2 q1 (by simp <;> omega) ?_; intro v2' w2 o2 g2 _ at2; obtain ⟨k2, j2, rfl⟩ := ownsRow_succ o2; obtain ⟨bx2, bx2', or2, kk2, bb2⟩ := m2.appended (n₀ := w.heap.size + 1) (by decide) (row_base m2r (by omega)) (by omega) (by omega) (row_base o2 (by omega)) g2; clear or2; have or2 := o2.kept (grownBy_setCell' w2 (w.heap.size + 1 + 1) (.slice (some ⟨k2, 0, none⟩) (pre.length + 1) j2)) (.inr (bx2.not_row (by decide) o2).symm); have sb2 := fun b h1' h2' h3' => step_blk (B := w.heap.size + 1 + 1) (u := .slice (some ⟨k2, 0, none⟩) (pre.length + 1) j2) m2r g2 b h1' h2' h3'; have e3c := bx2.cell; have e3f := bx2.frozen; obtain ⟨m3, m3r, m3n⟩ := two_step m2 m2r bx1' or1 (.inr m2n.symm) (by omega) bx2 o2 g2 at2))
    refine ⟨(kk1.trans kk2).from _, ⟨(bb1.mono (by omega)).trans (bb2.mono (by omega)), ?_, ?_⟩, ?_, ?_⟩
    · exact (sb2 (w.heap.size + 1 + 1 + 1) (by omega) (by rw [size_set]; omega) (by omega)).trans (sb1 (w.heap.size + 1 + 1 + 1) (by omega) (by omega) (by omega))
    · exact (sb2 (w.heap.size + 1 + 1 + 1 + 1) (by omega) (by rw [size_set]; omega) (by omega)).trans (sb1 (w.heap.size + 1 + 1 + 1 + 1) (by omega) (by omega) (by omega))
    · rw [List.length_append, List.map_append, List.map_append]
      exact ⟨_, _, m3, m3r, bx2', or2, .inr m3n.symm⟩
    · exact ⟨hB.trans ((bb1.mono (by omega)).trans (bb2.mono (by omega))), (World.cell?_of_block (a := ⟨w.heap.size, 0, none⟩) ((sb2 w.heap.size (by omega) (by rw [size_set]; omega) (by omega)).trans (sb1 w.heap.size (by omega) (by omega) (by omega)))).trans hq⟩
  case done =>
    rintro D ys W hD rfl ⟨⟨v1, v2, h1, r1, h2, r2, hne⟩, hB, hq⟩ hK
    have c1' := h1.cell
    have c2' := h2.cell
    obtain ⟨p1, j1, rfl⟩ := row_slice r1
    obtain ⟨p2, j2, rfl⟩ := row_slice r2
    have f1' := h1.frozen
    have f2' := h2.frozen
    have z1 := h1.lt
    have z2 := h2.lt
    rw [sel_length] at c1' c2' h1 h2 r1 r2
    gi_wp2
    refine wpIn_wide.2 ?_
    go_region
    gi_wp2
    have hK1 := (KeepsOthers.setCell W ⟨w.heap.size + 1, 0, none⟩ (.slice p1 (s.run ch s.n) j1)).same D _ hK rfl
    have hK2 := (KeepsOthers.setCell (W.setCell ⟨w.heap.size + 1, 0, none⟩ (.slice p1 (s.run ch s.n) j1)) ⟨w.heap.size + 1 + 1, 0, none⟩ (.slice p2 (s.run ch s.n) j2)).same D _ hK1 rfl
    have b1 := (h1.set (.slice p1 (s.run ch s.n) j1)).other (show w.heap.size + 1 ≠ w.heap.size + 1 + 1 by omega) (.slice p2 (s.run ch s.n) j2)
    have b2 := (h2.other (show w.heap.size + 1 + 1 ≠ w.heap.size + 1 by omega) (.slice p1 (s.run ch s.n) j1)).set (.slice p2 (s.run ch s.n) j2)
    have ra1 := r1.kept (grownBy_setCell' W (w.heap.size + 1) (.slice p1 (s.run ch s.n) j1)) (.inr (h1.not_row (by decide) r1).symm)
    have ra2 := r2.kept (grownBy_setCell' W (w.heap.size + 1) (.slice p1 (s.run ch s.n) j1)) (.inr (h1.not_row (by decide) r2).symm)
    have h2a := h2.other (show w.heap.size + 1 + 1 ≠ w.heap.size + 1 by omega) (.slice p1 (s.run ch s.n) j1)
    have rb1 := ra1.kept (grownBy_setCell' _ (w.heap.size + 1 + 1) (.slice p2 (s.run ch s.n) j2)) (.inr (h2a.not_row (by decide) ra1).symm)
    have rb2 := ra2.kept (grownBy_setCell' _ (w.heap.size + 1 + 1) (.slice p2 (s.run ch s.n) j2)) (.inr (h2a.not_row (by decide) ra2).symm)
    have hBf : Below w.heap.size w ((W.setCell ⟨w.heap.size + 1, 0, none⟩ (.slice p1 (s.run ch s.n) j1)).setCell ⟨w.heap.size + 1 + 1, 0, none⟩ (.slice p2 (s.run ch s.n) j2)) := ((hBel.trans hB).setCell (p := ⟨w.heap.size + 1, 0, none⟩) (by show w.heap.size ≤ w.heap.size + 1; omega) _).setCell (p := ⟨w.heap.size + 1 + 1, 0, none⟩) (by show w.heap.size ≤ w.heap.size + 1 + 1; omega) _
    obtain ⟨X, hX⟩ : ∃ X, ((W.setCell ⟨w.heap.size + 1, 0, none⟩ (.slice p1 (s.run ch s.n) j1)).setCell ⟨w.heap.size + 1 + 1, 0, none⟩ (.slice p2 (s.run ch s.n) j2)) = X := ⟨_, rfl⟩
    rw [hX] at hK2 b1 b2 rb1 rb2 hBf ⊢
    have hK3 : X.drew.heap[D]? = some (.deferred (some [])) := hK2
    refine ⟨by simp, .inl ⟨_, _, rfl, run_takeDeferred hK3, ?_⟩⟩
    have k1 := cell_kept (show X.drew.cell? ⟨w.heap.size + 1, 0, none⟩ = _ from b1.cell) (grownBy_putObj' X.drew D (.deferred none)) (fun r e => by cases e; exact ⟨_, hK3, rfl⟩)
    have k2 := cell_kept (show X.drew.cell? ⟨w.heap.size + 1 + 1, 0, none⟩ = _ from b2.cell) (grownBy_putObj' X.drew D (.deferred none)) (fun r e => by cases e; exact ⟨_, hK3, rfl⟩)
    refine ⟨.tuple #[.slice p1 (s.run ch s.n) j1, .slice p2 (s.run ch s.n) j2, .bool ((s.run ch s.n : Int) == s.n)], ?_, _, _, rfl, ?_, ?_, ?_⟩
    · simp [results, Try.f54, go_sem, k1, k2]
    · exact ownsRow_putObj (W := X.drew) (row_base rb1 (by omega)) _ hK3 rfl
    · exact ownsRow_putObj (W := X.drew) (row_base rb2 (by omega)) _ hK3 rfl
    · exact (hBf.drew).trans (belowK_b (w := w) (Nat.le_refl _) X.drew D _ _ (by omega) hK3 rfl rfl)
  case stop =>
    rintro D c pre W _ _ h _
    exact h.elim
end Go.Proofs.Ytbkjjefjnkkgbaa.sea
