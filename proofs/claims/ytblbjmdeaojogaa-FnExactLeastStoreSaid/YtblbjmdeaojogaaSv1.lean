import Derived.Test.YtblbjmdeaojogaaSv0
import Derived.Test.YtblbjmdeaojogaaSg0
import Derived.Deep.OwnRows
namespace Go.Proofs.Ytblbjmdeaojogaa.sea
open Go Go.Ab Go.Proofs Go.RowKit Go.Shelf
set_option linter.unusedVariables false
/-- How many numbers a row has. -/
def wd (s : Sea) : Nat := (s.g 2).toNat + 1
/-- A row of a table from slot k on lies in the memory, the table's own row in block B. -/
def Tbl (s : Sea) (W : World) (n₀ B k : Nat) : Prop := n₀ ≤ B ∧ ∃ f : Nat → Value, W.rowIs B 22 (s.n + 1) f ∧ ∀ j, k ≤ j → j ≤ s.n → W.ownsRow (B + 1) 2 1 (f j) (wd s) (intsL (vt s j) (wd s))
theorem row_blk {X Y : World} {n₀ k : Nat} {v : Value} {f : List Value} (hr : X.ownsRow n₀ 2 1 v k f) (h : ∀ g, n₀ ≤ g → g < X.heap.size → Y.heap[g]? = X.heap[g]?) : Y.ownsRow n₀ 2 1 v k f := by
  refine ⟨hr.1, ?_⟩
  rcases hr.2 with h0 | ⟨g, cap, cur, rfl, hg, hb, h1, h2, h3, h4⟩
  · exact .inl h0
  · exact .inr ⟨g, cap, cur, rfl, hg, (h g hg (Array.getElem?_eq_some_iff.1 hb).1).trans hb, h1, h2, h3, h4⟩
section
variable {s : Sea} {W W' : World} {n₀ B k : Nat}
theorem Tbl.lt (h : Tbl s W n₀ B k) : B < W.heap.size := by
  obtain ⟨_, f, h, _⟩ := h
  exact h.lt
theorem Tbl.below (h : Tbl s W n₀ B k) (hb : Below W.heap.size W W') : Tbl s W' n₀ B k := by
  have hl := h.lt
  obtain ⟨h0, f, h1, h2⟩ := h
  exact ⟨h0, f, h1.of_block (hb.block B hl), fun j a b => row_below (h2 j a b) hb⟩
theorem Tbl.base {n₁ : Nat} (h : Tbl s W n₀ B k) (hn : n₁ ≤ n₀) : Tbl s W n₁ B k := ⟨Nat.le_trans hn h.1, h.2⟩
theorem Tbl.set (h : Tbl s W n₀ B (k + 1)) {rv : Value} (hr : W.ownsRow (B + 1) 2 1 rv (wd s) (intsL (vt s k) (wd s))) : Tbl s (W.setCell ⟨B, k, none⟩ rv) n₀ B k := by
  obtain ⟨h0, f, h1, h2⟩ := h
  have other : ∀ g, B + 1 ≤ g → g < W.heap.size → (W.setCell ⟨B, k, none⟩ rv).heap[g]? = W.heap[g]? := fun g hg _ => by
    simp only [World.setCell, Array.getElem?_modify]
    rw [if_neg (by show ¬ B = g; omega)]
  refine ⟨h0, _, h1.set k rv, fun j a b => ?_⟩
  by_cases e : j = k
  · subst e
    rw [if_pos rfl]
    exact row_blk hr other
  · rw [if_neg e]
    exact row_blk (h2 j (by omega) b) other
theorem Tbl.new (hn : s.n ≤ 24) (hz : n₀ ≤ W.heap.size) : Tbl s (W.alloc (.cells (madeCells #[.slice none 0 0] (s.n + 1)) 22)) n₀ W.heap.size (s.n + 1) :=
  ⟨hz, _, World.rowIs_made W _ (s.n + 1) 22, fun j a b => absurd a (by omega)⟩
theorem Tbl.read (h : Tbl s W n₀ B k) {j : Nat} (h1 : k ≤ j) (h2 : j ≤ s.n) : ∃ b off cap, W.cell? ⟨B, j, none⟩ = some (.slice (some ⟨b, off, none⟩) (wd s) cap) ∧ wd s ≤ cap ∧ b < W.heap.size ∧ ∀ x, x < wd s → W.cell? ⟨b, off + x, none⟩ = some (.int .i64 (vt s j x)) := by
  obtain ⟨h0, f, hf, hr⟩ := h
  have hc := hf.cell (i := j) (by omega)
  rcases slv_own (hr j h1 h2) with ⟨a', e, e0⟩ | ⟨b, off, cap, e, hcap, hE⟩
  · unfold wd at e0; omega
  · exact ⟨b, off, cap, by rw [hc, e], hcap, hE.1, hE.2⟩
theorem Tbl.frozen (h : Tbl s W n₀ B k) (j : Nat) : W.frozen? ⟨B, j, none⟩ = false := by
  obtain ⟨h0, f, hf, hr⟩ := h
  exact hf.frozen j
end
end Go.Proofs.Ytblbjmdeaojogaa.sea
