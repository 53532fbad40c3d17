import Derived.Test.YtblbjmdeaojogaaSr2
import Derived.Test.YtblbjmdeaojogaaSwR2
namespace Go.Proofs.Ytblbjmdeaojogaa.sea
open Go Go.Ab Go.Proofs Go.RowKit Go.Shelf
attribute [local go_sem] Oper.semAt_some
set_option linter.unusedVariables false
section
variable {s : Sea} {w : World} {gp : Nat → Int}
set_option maxHeartbeats 1000000 in
theorem r32_bad {v pv : Value} {p : Nat} {c0 : Int} (hck : ckC s p gp = c0) (h0 : c0 = 1 ∨ c0 = 2) (hS : SeaV s w v) (hp : SlV gp w.heap.size w pv p) (hle : p ≤ 9223372036854775807) :
    Calls Try.prog 32 #[v, pv] w (SlAns3 w 0 (s.lg (rpw s gp)) 0 c0) := by
  have hS' := hS
  obtain ⟨s1, s2, rfl, hs1, _⟩ := hS'
  obtain ⟨a1, c1, rfl⟩ := hs1.slice
  obtain ⟨a, c, rfl⟩ := hp.slice
  have hB : Below w.heap.size w ((w.alloc (.cells #[.slice a1 s.n c1, s2, .int .i64 (s.g 0), .int .i64 (s.g 1), .int .i64 (s.g 2), .int .i64 (s.g 3), .int .i64 (s.g 4)] 27)).alloc (.cells #[.slice a p c] 22)) := ((Below.refl _ w).alloc (Nat.le_refl _) _).alloc (by simp) _
  have hS1 := hS.below hB
  have hp1 := hp.at hB
  have hbx := Boxed.new (w.alloc (.cells #[.slice a1 s.n c1, s2, .int .i64 (s.g 0), .int .i64 (s.g 1), .int .i64 (s.g 2), .int .i64 (s.g 3), .int .i64 (s.g 4)] 27)) 22 (.slice a p c)
  simp only [World.size_alloc] at hbx
  rcases h0 with rfl | rfl
  all_goals
    go_enter Try.func32, Try.ntmps32
    go_wp2_with (first
      | (go_at_call 47; refine (ck47 hS1 hp1 hle).mono ?_; rintro e w1 ⟨rfl, hb⟩; rw [hck]; obtain ⟨hc, hf⟩ := bcell hb; have hp2 := hp1.at hb; have hS2 := hS1.below hb; have hwz : w.heap.size + 1 + 1 ≤ w1.heap.size := by have := hb.size; simp at this; omega))
    go_ret3
    exact SlAns3.nil (hB.trans (hb.mono (by simp <;> omega)))
set_option maxRecDepth 100000 in
set_option maxHeartbeats 2000000 in
theorem r32_no {v pv : Value} {p : Nat} (o : okSea s = true) (hpl : planOk s p gp = true) (hall : s.all (rpw s gp) = false) (hS : SeaV s w v) (hp : SlV gp w.heap.size w pv p) (hle : p ≤ 9223372036854775807) :
    Calls Try.prog 32 #[v, pv] w (SlAns3 w 0 (s.lg (rpw s gp)) 0 6) := by
  have hck : ckC s p gp = 0 := by unfold ckC; rw [o, hpl]; rfl
  have ok := okSea_ok o
  have n1 := ok.n1
  have hpn : p = s.n := of_decide_eq_true (cond_both hpl).1
  have hfit := rp_fits (gp := gp) ok (fitsP p hpl)
  subst hpn
  have hrun : decide ((s.run (rpw s gp) s.n : Int) = s.n) = false := by
    have := Sea.run_lt hall; exact decide_eq_false (by omega)
  have hS' := hS
  obtain ⟨s1, s2, rfl, hs1, _⟩ := hS'
  obtain ⟨a1, c1, rfl⟩ := hs1.slice
  rcases hp with ⟨a', e, e0⟩ | ⟨bp, off, cap, rfl, hcap, hE⟩
  · exact absurd e0 (by omega)
  have hp : SlV gp w.heap.size w (.slice (some ⟨bp, off, none⟩) s.n cap) s.n := .inr ⟨bp, off, cap, rfl, hcap, hE⟩
  have hB : Below w.heap.size w ((w.alloc (.cells #[.slice a1 s.n c1, s2, .int .i64 (s.g 0), .int .i64 (s.g 1), .int .i64 (s.g 2), .int .i64 (s.g 3), .int .i64 (s.g 4)] 27)).alloc (.cells #[.slice (some ⟨bp, off, none⟩) s.n cap] 22)) := ((Below.refl _ w).alloc (Nat.le_refl _) _).alloc (by simp) _
  have hS1 := hS.below hB
  have hp1 := hp.at hB
  have hcs : ∀ (q : Nat) (u : Value), #[.slice a1 s.n c1, s2, Value.int .i64 (s.g 0), .int .i64 (s.g 1), .int .i64 (s.g 2), .int .i64 (s.g 3), .int .i64 (s.g 4)][q]? = some u → ((w.alloc (.cells #[.slice a1 s.n c1, s2, .int .i64 (s.g 0), .int .i64 (s.g 1), .int .i64 (s.g 2), .int .i64 (s.g 3), .int .i64 (s.g 4)] 27)).alloc (.cells #[.slice (some ⟨bp, off, none⟩) s.n cap] 22)).cell? ⟨w.heap.size, q, none⟩ = some u := fun q u h => by
    rw [← alloc_cells (s := s) (s1 := .slice a1 s.n c1) (s2 := s2) w q u h]
    exact World.cell?_alloc_lt _ _ _ (by simp)
  have hbx := Boxed.new (w.alloc (.cells #[.slice a1 s.n c1, s2, .int .i64 (s.g 0), .int .i64 (s.g 1), .int .i64 (s.g 2), .int .i64 (s.g 3), .int .i64 (s.g 4)] 27)) 22 (.slice (some ⟨bp, off, none⟩) s.n cap)
  simp only [World.size_alloc] at hbx
  have hbz : bp < w.heap.size := hE.1
  go_enter Try.func32, Try.ntmps32
  go_wp2_with (first
    | (go_at_call 47; refine (ck47 hS1 hp1 hle).mono ?_; rintro e w1 ⟨rfl, hb⟩; rw [hck]; obtain ⟨hc, hf⟩ := bcell hb; have hp2 := hp1.at hb; have hS2 := hS1.below hb; have hwz : w.heap.size + 1 + 1 ≤ w1.heap.size := by have := hb.size; simp at this; omega)
    | (go_at_call 48; refine (callsIn_wide.1 (walkedR_in 3 (Nat.le_refl _) ok hfit (w.heap.size + 1) w.heap.size _ _ _ hS2 (fun k x W hbW hsz hk h0 h1 => rep54 ok _ _ (hS2.below hbW) (w.heap.size + 1) w.heap.size bp off cap ((hbW.cell (p := ⟨w.heap.size + 1, 0, none⟩) (by show w.heap.size + 1 < _; omega)).trans ((hb.cell (p := ⟨w.heap.size + 1, 0, none⟩) (by show w.heap.size + 1 < _; simp)).trans hbx.cell)) ⟨by omega, fun k hk => (hbW.cell (p := ⟨bp, off + k, none⟩) (by show bp < _; omega)).trans ((hb.cell (p := ⟨bp, off + k, none⟩) (by show bp < _; simp; omega)).trans ((hB.cell (p := ⟨bp, off + k, none⟩) hbz).trans (hE.2 k hk)))⟩ (by omega) (by omega) (fun q u hq => (hbW.cell (p := ⟨w.heap.size, q, none⟩) (by show w.heap.size < _; omega)).trans ((hb.cell (p := ⟨w.heap.size, q, none⟩) (by show w.heap.size < _; simp; omega)).trans (hcs q u hq))) hk ⟨h0, h1⟩))).mono ?_; rintro e w2 ⟨q1, q2, rfl, hr1, hr2, hb2⟩; rw [hrun]))
  go_ret3
  exact SlAns3.nil (hB.trans ((hb.mono (by simp <;> omega)).trans (hb2.mono (by omega))))
end
end Go.Proofs.Ytblbjmdeaojogaa.sea
