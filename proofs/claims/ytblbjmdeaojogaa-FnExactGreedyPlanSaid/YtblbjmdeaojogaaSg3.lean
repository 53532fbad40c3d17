import Derived.Test.YtblbjmdeaojogaaSx4
import Derived.Test.YtblbjmdeaojogaaSwF2
namespace Go.Proofs.Ytblbjmdeaojogaa.sea
open Go Go.Ab Go.Proofs Go.RowKit Go.Shelf
attribute [local go_sem] Oper.semAt_some
set_option linter.unusedVariables false
section
variable {s : Sea} {w : World}
set_option maxHeartbeats 1000000 in
theorem g30_bad (o : okSea s = false) {v : Value} (hS : SeaV s w v) :
    Calls Try.prog 30 #[v] w (SlAns w 0 (s.lg (fw s)) 1) := by
  have hS' := hS
  obtain ⟨s1, s2, rfl, hs1, _⟩ := hS'
  obtain ⟨a1, c1, rfl⟩ := hs1.slice
  have hB : Below w.heap.size w (w.alloc (.cells #[.slice a1 s.n c1, s2, .int .i64 (s.g 0), .int .i64 (s.g 1), .int .i64 (s.g 2), .int .i64 (s.g 3), .int .i64 (s.g 4)] 27)) := (Below.refl _ w).alloc (Nat.le_refl _) _
  have hS1 := hS.below hB
  go_enter Try.func30, Try.ntmps30
  go_wp2_with (first
    | (go_at_call 14; refine (ok14 hS1).mono ?_; rintro e w1 ⟨rfl, hb⟩; rw [o]; obtain ⟨hc, hf⟩ := bcell hb))
  go_ret2
  exact SlAns.nil (hB.trans (hb.mono (by simp <;> omega)))
set_option maxRecDepth 100000 in
set_option maxHeartbeats 2000000 in
theorem g30_go (o : okSea s = true) {v : Value} (hS : SeaV s w v) :
    Calls Try.prog 30 #[v] w (SlAns w (cond (s.all (fw s)) s.n 0) (s.lg (fw s)) (cond (s.all (fw s)) 0 6)) := by
  have ok := okSea_ok o
  have hS' := hS
  obtain ⟨s1, s2, rfl, hs1, _⟩ := hS'
  obtain ⟨a1, c1, rfl⟩ := hs1.slice
  have hB : Below w.heap.size w (w.alloc (.cells #[.slice a1 s.n c1, s2, .int .i64 (s.g 0), .int .i64 (s.g 1), .int .i64 (s.g 2), .int .i64 (s.g 3), .int .i64 (s.g 4)] 27)) := (Below.refl _ w).alloc (Nat.le_refl _) _
  have hS1 := hS.below hB
  go_enter Try.func30, Try.ntmps30
  cases hall : s.all (fw s) with
  | false =>
    have hrun : decide ((s.run (fw s) s.n : Int) = s.n) = false := by
      have := Sea.run_lt hall; exact decide_eq_false (by omega)
    go_wp2_with (first
      | (go_at_call 14; refine (ok14 hS1).mono ?_; rintro e w1 ⟨rfl, hb⟩; rw [o]; obtain ⟨hc, hf⟩ := bcell hb; have hS2 := hS1.below hb; have hwz : w.heap.size + 1 ≤ w1.heap.size := by have := hb.size; simp at this; omega)
      | (go_at_call 48; refine (callsIn_wide.1 (walkedF_in 3 (Nat.le_refl _) ok (fw_fits ok) _ _ _ _ hS2 (fun k x W hbW hsz hk h0 h1 => few52 ok (hS2.below hbW) hk ⟨h0, h1⟩))).mono ?_; rintro e w2 ⟨q1, q2, rfl, hr1, hr2, hb2⟩; rw [hrun]))
    go_ret2
    exact SlAns.nil (hB.trans ((hb.mono (by simp <;> omega)).trans (hb2.mono (by omega))))
  | true =>
    have hrun : decide ((s.run (fw s) s.n : Int) = s.n) = true := by
      rw [Sea.run_eq hall]; exact decide_eq_true rfl
    go_wp2_with (first
      | (go_at_call 14; refine (ok14 hS1).mono ?_; rintro e w1 ⟨rfl, hb⟩; rw [o]; obtain ⟨hc, hf⟩ := bcell hb; have hS2 := hS1.below hb; have hwz : w.heap.size + 1 ≤ w1.heap.size := by have := hb.size; simp at this; omega)
      | (go_at_call 48; refine (callsIn_wide.1 (walkedF_in 3 (Nat.le_refl _) ok (fw_fits ok) _ _ _ _ hS2 (fun k x W hbW hsz hk h0 h1 => few52 ok (hS2.below hbW) hk ⟨h0, h1⟩))).mono ?_; rintro e w2 ⟨q1, q2, rfl, hr1, hr2, hb2⟩; rw [hrun]))
    go_ret2
    rw [Sea.run_eq hall] at hr1
    exact ⟨_, rfl, row_base hr1 (by omega), hB.trans ((hb.mono (by simp <;> omega)).trans (hb2.mono (by omega)))⟩
theorem gp30 {v : Value} (hS : SeaV s w v) : Calls Try.prog 30 #[v] w (SlAns w (gpN s) (s.lg (fw s)) (gpC s)) := by
  unfold gpN gpC
  cases o : okSea s with
  | false => exact g30_bad o hS
  | true => exact g30_go o hS
end
end Go.Proofs.Ytblbjmdeaojogaa.sea
