import Derived.Test.YtblbjmdeaojogaaSh1
import Derived.Test.YtblbjmdeaojogaaSwH2
namespace Go.Proofs.Ytblbjmdeaojogaa.sea
open Go Go.Ab Go.Proofs Go.RowKit Go.Shelf
attribute [local go_sem] Oper.semAt_some
set_option linter.unusedVariables false
section
variable {s : Sea} {w : World}
theorem run_dec (s : Sea) (ch : Nat → Int → Int) : decide ((s.run ch s.n : Int) = s.n) = s.all ch := by
  cases h : s.all ch with
  | true => rw [Sea.run_eq h]; exact decide_eq_true rfl
  | false => have := Sea.run_lt h; exact decide_eq_false (by omega)
set_option maxRecDepth 100000 in
set_option maxHeartbeats 2000000 in
theorem has56 (ok : s.Ok) {v : Value} (hS : SeaV s w v) :
    Calls Try.prog 56 #[v] w fun e w' => e = .returned (.bool (s.all (chM s))) ∧ Below w.heap.size w w' := by
  have hrun := run_dec s (chM s)
  have hS' := hS
  obtain ⟨s1, s2, rfl, hs1, _⟩ := hS'
  obtain ⟨a1, c1, rfl⟩ := hs1.slice
  have hB : Below w.heap.size w (w.alloc (.cells #[.slice a1 s.n c1, s2, .int .i64 (s.g 0), .int .i64 (s.g 1), .int .i64 (s.g 2), .int .i64 (s.g 3), .int .i64 (s.g 4)] 27)) := (Below.refl _ w).alloc (Nat.le_refl _) _
  have hS1 := hS.below hB
  have q2 := alloc_cells (s := s) (s1 := .slice a1 s.n c1) (s2 := s2) w 2 _ rfl
  go_enter Try.func56, Try.ntmps56
  go_wp2_with (go_at_call 48; refine (callsIn_wide.1 (walkedH_in 3 (Nat.le_refl _) ok (fitsM ok) w.heap.size _ _ _ hS1 (fun k x W hbW hsz hk h0 h1 => most65 w.heap.size ((hbW.cell (p := ⟨w.heap.size, 2, none⟩) (by show w.heap.size < _; simp)).trans q2) _ _))).mono ?_; rintro e w2 ⟨q1, q2', rfl, hr1, hr2, hb2⟩; rw [hrun])
  go_ret
  exact ⟨rfl, hB.trans (hb2.mono (by simp))⟩
end
end Go.Proofs.Ytblbjmdeaojogaa.sea
