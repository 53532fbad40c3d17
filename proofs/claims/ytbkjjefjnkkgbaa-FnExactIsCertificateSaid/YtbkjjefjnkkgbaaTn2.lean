import Derived.Test.YtbkjjefjnkkgbaaTm4
import Derived.Test.YtbkjjefjnkkgbaaTke
namespace Go.Proofs.Ytbkjjefjnkkgbaa.sea
open Go Go.Ab Go.Proofs Go.RowKit Go.Shelf
attribute [local go_sem] Oper.semAt_some
set_option linter.unusedVariables false
section
variable {s : Sea} {w : World} {T : Tab}
set_option maxRecDepth 100000 in
set_option maxHeartbeats 4000000 in
theorem chk65_form (n : Nat) (hn : 3 ≤ n) (o : s.Ok) (hf : formB s T = false) {v tv : Value} (hS : SeaV s w v) (hT : TabV T w tv) (hx : TabMx T) :
    CallsIn Fence.wide n Try.prog 65 #[v, tv] w fun e w' => e = .returned (.iface 96 (.agg #[.int .i64 2])) ∧ Below w.heap.size w w' := by
  obtain ⟨s1, s2, rfl, hs1, hs2, hl1, hl2⟩ := hS
  obtain ⟨ta, tc, rfl⟩ := hT.slice
  obtain ⟨W1, hW1⟩ : ∃ W1, W1 = w.alloc (.cells #[s1, s2, .int .i64 (s.g 0), .int .i64 (s.g 1), .int .i64 (s.g 2), .int .i64 (s.g 3), .int .i64 (s.g 4)] 27) := ⟨_, rfl⟩
  obtain ⟨W2, hW2⟩ : ∃ W2, W2 = W1.alloc (.cells #[.slice ta T.n tc] 47) := ⟨_, rfl⟩
  obtain ⟨W3, hW3⟩ : ∃ W3, W3 = W2.alloc (.cells #[.nilIface] 77) := ⟨_, rfl⟩
  have z1 : W1.heap.size = w.heap.size + 1 := by rw [hW1]; simp
  have z2 : W2.heap.size = w.heap.size + 2 := by rw [hW2]; simp [z1]
  have z3 : W3.heap.size = w.heap.size + 3 := by rw [hW3]; simp [z2]
  have hB1 : Below w.heap.size w W1 := by rw [hW1]; exact (Below.refl _ w).alloc (Nat.le_refl _) _
  have hB3 : Below w.heap.size w W3 := by rw [hW3, hW2]; exact (hB1.alloc (by omega) _).alloc (by simp; omega) _
  have hS3 : SeaV s W3 (.agg #[s1, s2, .int .i64 (s.g 0), .int .i64 (s.g 1), .int .i64 (s.g 2), .int .i64 (s.g 3), .int .i64 (s.g 4)]) := ⟨s1, s2, rfl, hs1.at hB3, hs2.at hB3, hl1, hl2⟩
  have hT3 := TabV.below hB3 hT
  have bE : Boxed W3 (w.heap.size + 1 + 1) 77 .nilIface := by
    have := Boxed.new W2 77 .nilIface
    rw [z2, ← hW3] at this; exact this
  refine callsIn_of_wp_marks Try.func65 rfl trivial ?_ rfl
  simp only [Try.ntmps65, List.size_toArray, List.length_cons, List.length_nil, Nat.reduceAdd, Nat.reduceSub, Array.replicate_succ, Array.replicate_zero, List.push_toArray, List.append_toArray, List.nil_append, List.cons_append]
  gi_wp2_with (refine ⟨trivial, fun h => (by cases h), ?_⟩; rw [← hW1, ← hW2, ← hW3]; refine (callsIn_wide.2 (form75 o hS3 hT3 hx.1.1 hx.1.2 hx.2)).mono ?_; rintro e w4 ⟨rfl, hb4⟩; rw [hf]; have hB4 := hB3.trans (hb4.mono (by omega)); have bE4 : Boxed w4 (w.heap.size + 1 + 1) 77 .nilIface := (hb4.block _ (by omega)).trans bE; have x4 := bE4.cell; have y4 := bE4.frozen)
  have hcl := (bE4.set (.iface 96 (.agg #[.int .i64 2]))).cell
  refine ⟨.iface 96 (.agg #[.int .i64 2]), by simp [results, Try.f65, go_sem, hcl], ⟨rfl, hB4.setCell (p := ⟨w.heap.size + 1 + 1, 0, none⟩) (by show w.heap.size ≤ w.heap.size + 1 + 1; omega) _⟩⟩
end
def evS (r : Option (Nat × Nat × Nat)) : Value := .iface 98 (.agg #[.int .i64 ((r.getD (0, 0, 0)).1 : Int), .int .i64 ((r.getD (0, 0, 0)).2.1 : Int), .int .i64 ((r.getD (0, 0, 0)).2.2 : Int)])
/-- What checkTable answers. -/
noncomputable def evC (s : Sea) (T : Tab) : Value := cond (formB s T) (cond (sound s T) .nilIface (evS (Classical.epsilon (FlawIs s T)))) (.iface 96 (.agg #[.int .i64 2]))
theorem evC_of {s : Sea} {T : Tab} (hf : formB s T = true) {r : Option (Nat × Nat × Nat)} (h : FlawIs s T r) : evR r = evC s T := by
  unfold evC
  rw [hf]
  cases hs : sound s T with
  | true => rw [fl_none h hs]; rfl
  | false =>
    obtain ⟨k, i, l, rfl⟩ := fl_some h hs
    have := Classical.epsilon_spec (p := FlawIs s T) ⟨_, h⟩
    rw [FlawIs.uniq this h]
    rfl
theorem chk : Chk evC := by
  refine ⟨fun s T => ⟨fun h => ?_, fun h => ?_⟩, fun {s w T v tv} o hS hT hx => ?_⟩
  · unfold okT at h
    unfold evC
    cases hf : formB s T with
    | false => rw [hf] at h; cases h
    | true => rw [hf] at h; rw [show sound s T = true from h]; rfl
  · unfold okT at h
    unfold evC
    cases hf : formB s T with
    | false => exact ⟨_, _, rfl⟩
    | true => rw [hf] at h; rw [show sound s T = false from h]; exact ⟨_, _, rfl⟩
  · cases hf : formB s T with
    | false =>
      have e : evC s T = .iface 96 (.agg #[.int .i64 2]) := by unfold evC; rw [hf]; rfl
      rw [e]
      exact callsIn_wide.1 (chk65_form 3 (by omega) o hf hS hT hx)
    | true =>
      refine (callsIn_wide.1 (chk65_in 6 (by omega) o hf hS hT hx)).mono ?_
      rintro e w' ⟨r, rfl, hF, hb⟩
      exact ⟨by rw [evC_of hf hF], hb⟩
end Go.Proofs.Ytbkjjefjnkkgbaa.sea
