import Derived.RangeFuncLeaves
import Derived.RangeFuncRecord
namespace Go.Ab
open Go
set_option linter.unusedVariables false
/-- The mark of a range over a function. -/
def mkD (D : Nat) : Deferred := { target := .collected D, args := #[] }
/-- A function that holds ranges over functions in its loops leaves with a mark for each. -/
theorem leaves_marks {F : Fence} {n : Nat} {P : Program} {fn : Func} {tmps : Array Value} {R : Ending → World → Prop} : ∀ (Ds : List Nat) (w : World), Ds.Nodup → (∀ D, D ∈ Ds → w.heap[D]? = some (.deferred (some []))) →
    (∀ w', (∀ b, b ∉ Ds → w'.heap[b]? = w.heap[b]?) → w'.heap.size = w.heap.size → w'.os = w.os → w'.tape = w.tape → w'.output = w.output → LeavesInM F n P fn tmps R [] .returning w') → LeavesInM F n P fn tmps R (Ds.map mkD) .returning w
  | [], w, _, _, h => h w (fun _ _ => rfl) rfl rfl rfl rfl
  | D :: Ds, w, hn, hd, h => by
    have hD := hd D (by simp)
    have hlt : D < w.heap.size := (Array.getElem?_eq_some_iff.1 hD).1
    have hoth : ∀ b, b ≠ D → (w.putObj D (.deferred none)).heap[b]? = w.heap[b]? := fun b hb => by
      simp [World.putObj, Ne.symm hb]
    refine ⟨by simp, .inl ⟨D, w.putObj D (.deferred none), rfl, run_takeDeferred hD, ?_⟩⟩
    obtain ⟨hn1, hn2⟩ := List.nodup_cons.1 hn
    refine leaves_marks Ds _ hn2 (fun D' h' => ?_) (fun w' h1 h2 h3 h4 h5 => h w' (fun b hb => ?_) ?_ ?_ ?_ ?_)
    · rw [hoth D' (fun e => hn1 (e ▸ h'))]; exact hd D' (by simp [h'])
    · simp only [List.mem_cons, not_or] at hb
      rw [h1 b hb.2, hoth b hb.1]
    · rw [h2]; simp [World.putObj]
    · rw [h3]; rfl
    · rw [h4]; rfl
    · rw [h5]; rfl
end Go.Ab
