import Derived.Test.YtblbjmdeaojogaaSr2
namespace Go.Proofs.Ytblbjmdeaojogaa.sea
open Go Go.Ab Go.Proofs Go.RowKit Go.Shelf
attribute [local go_sem] Oper.semAt_some
set_option linter.unusedVariables false
section
variable {s : Sea} {w : World} {gp : Nat → Int}
set_option maxHeartbeats 1000000 in
theorem r31_bad (o : okSea s = false) {v : Value} (hS : SeaV s w v) (pv : Value) :
    Calls Try.prog 31 #[v, pv] w (SlAns3 w 0 (s.lg (rpw s gp)) 0 1) := by
  have hS' := hS
  obtain ⟨s1, s2, rfl, _⟩ := hS'
  have hB : Below w.heap.size w (w.alloc (.cells #[s1, s2, .int .i64 (s.g 0), .int .i64 (s.g 1), .int .i64 (s.g 2), .int .i64 (s.g 3), .int .i64 (s.g 4)] 27)) := (Below.refl _ w).alloc (Nat.le_refl _) _
  have hP := SeaP.box 27 hS
  go_enter Try.func31, Try.ntmps31
  go_wp2_with (go_at_call 36; refine (ok36 hP).mono ?_; rintro e w1 ⟨rfl, hb⟩; rw [o])
  go_ret3
  exact SlAns3.lit (hB.trans (hb.mono hB.size))
set_option maxHeartbeats 1000000 in
theorem r31_len (o : okSea s = true) {v pv : Value} {p : Nat} (hS : SeaV s w v) (hp : SlV gp w.heap.size w pv p) (hle : p ≤ 9223372036854775807) (hl : p ≠ s.n) :
    Calls Try.prog 31 #[v, pv] w (SlAns3 w 0 (s.lg (rpw s gp)) 0 2) := by
  have n2 := (okSea_ok o).n2
  have hS' := hS
  obtain ⟨s1, s2, rfl, hs1, _⟩ := hS'
  obtain ⟨a1, c1, rfl⟩ := hs1.slice
  obtain ⟨a, c, rfl⟩ := hp.slice
  have hB : Below w.heap.size w (w.alloc (.cells #[.slice a1 s.n c1, s2, .int .i64 (s.g 0), .int .i64 (s.g 1), .int .i64 (s.g 2), .int .i64 (s.g 3), .int .i64 (s.g 4)] 27)) := (Below.refl _ w).alloc (Nat.le_refl _) _
  have hP := SeaP.box 27 hS
  go_enter Try.func31, Try.ntmps31
  go_wp2_with (go_at_call 36; refine (ok36 hP).mono ?_; rintro e w1 ⟨rfl, hb⟩; rw [o]; obtain ⟨hc, hf⟩ := bcell hb)
  go_ret3
  exact SlAns3.lit (hB.trans (hb.mono (by simp)))
set_option maxHeartbeats 1000000 in
theorem r31_out (o : okSea s = true) {v pv : Value} {p : Nat} (hS : SeaV s w v) (hp : SlV gp w.heap.size w pv p) (hle : p ≤ 9223372036854775807) (hl : p = s.n) (hB2 : planB s p gp = false) :
    Calls Try.prog 31 #[v, pv] w (SlAns3 w 0 (s.lg (rpw s gp)) 0 2) := by
  have n2 := (okSea_ok o).n2
  subst hl
  have hS' := hS
  obtain ⟨s1, s2, rfl, hs1, _⟩ := hS'
  obtain ⟨a1, c1, rfl⟩ := hs1.slice
  obtain ⟨a, c, rfl⟩ := hp.slice
  have hB : Below w.heap.size w (w.alloc (.cells #[.slice a1 s.n c1, s2, .int .i64 (s.g 0), .int .i64 (s.g 1), .int .i64 (s.g 2), .int .i64 (s.g 3), .int .i64 (s.g 4)] 27)) := (Below.refl _ w).alloc (Nat.le_refl _) _
  have hP := SeaP.box 27 hS
  have hp1 := hp.at hB
  go_enter Try.func31, Try.ntmps31
  go_wp2_with (first
    | (go_at_call 36; refine (ok36 hP).mono ?_; rintro e w1 ⟨rfl, hb⟩; rw [o]; obtain ⟨hc, hf⟩ := bcell hb; have hp2 := hp1.at hb)
    | (go_at_call 53; refine (bnd_any' (s := s) _ _ _ hle _ hp2).mono ?_; rintro e w' ⟨rfl, rfl⟩; rw [hB2]))
  go_ret3
  exact SlAns3.lit (hB.trans (hb.mono (by simp)))
end
end Go.Proofs.Ytblbjmdeaojogaa.sea
