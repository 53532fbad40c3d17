import Derived.Test.YtbkjjefjnkkgbaaTkd
namespace Go.Proofs.Ytbkjjefjnkkgbaa.sea
open Go Go.Ab Go.Proofs Go.RowKit Go.Shelf
attribute [local go_sem] Oper.semAt_some
set_option linter.unusedVariables false
section
variable {s : Sea} {w : World} {T : Tab} {gp : Nat → Int}
theorem seven {s1 s2 : Value} {W W' : World} {b : Nat} (q : ∀ (k : Nat) (u : Value), #[s1, s2, Value.int .i64 (s.g 0), .int .i64 (s.g 1), .int .i64 (s.g 2), .int .i64 (s.g 3), .int .i64 (s.g 4)][k]? = some u → W.cell? ⟨b, k, none⟩ = some u) (hb : b < W.heap.size) (C : Below W.heap.size W W') :
    W'.cell? ⟨b, 0, none⟩ = some s1 ∧ W'.cell? ⟨b, 1, none⟩ = some s2 ∧ W'.cell? ⟨b, 2, none⟩ = some (.int .i64 (s.g 0)) ∧ W'.cell? ⟨b, 3, none⟩ = some (.int .i64 (s.g 1)) ∧ W'.cell? ⟨b, 4, none⟩ = some (.int .i64 (s.g 2)) ∧ W'.cell? ⟨b, 5, none⟩ = some (.int .i64 (s.g 3)) ∧ W'.cell? ⟨b, 6, none⟩ = some (.int .i64 (s.g 4)) :=
  ⟨(C.cell (p := ⟨b, 0, none⟩) hb).trans (q 0 _ rfl), (C.cell (p := ⟨b, 1, none⟩) hb).trans (q 1 _ rfl), (C.cell (p := ⟨b, 2, none⟩) hb).trans (q 2 _ rfl), (C.cell (p := ⟨b, 3, none⟩) hb).trans (q 3 _ rfl), (C.cell (p := ⟨b, 4, none⟩) hb).trans (q 4 _ rfl), (C.cell (p := ⟨b, 5, none⟩) hb).trans (q 5 _ rfl), (C.cell (p := ⟨b, 6, none⟩) hb).trans (q 6 _ rfl)⟩
theorem box8 (s1 s2 : Value) (W : World) : ∃ W', W' = W.alloc (.cells #[s1, s2, .int .i64 (s.g 0), .int .i64 (s.g 1), .int .i64 (s.g 2), .int .i64 (s.g 3), .int .i64 (s.g 4)] 27) ∧ Below W.heap.size W W' ∧ W.heap.size < W'.heap.size ∧ ∀ (k : Nat) (u : Value), #[s1, s2, Value.int .i64 (s.g 0), .int .i64 (s.g 1), .int .i64 (s.g 2), .int .i64 (s.g 3), .int .i64 (s.g 4)][k]? = some u → W'.cell? ⟨W.heap.size, k, none⟩ = some u :=
  ⟨_, rfl, (Below.refl _ W).alloc (Nat.le_refl _) _, by simp, fun k u h => wcells (s := s) W 27 k u h⟩
set_option maxRecDepth 100000 in
set_option maxHeartbeats 8000000 in
theorem law11 {ev : Sea → Tab → Value} (H : Chk ev) {v pv tv : Value} {p : Nat} (hS : SeaV s w v) (hp : SlV gp w.heap.size w pv p) (hle : p ≤ 9223372036854775807) (hT : TabV T w tv) (hx : TabMx T) :
    Calls Try.prog 11 #[v, pv, tv] w fun e w' => e = .returned (.bool true) ∧ Below w.heap.size w w' := by
  have hS' := hS
  obtain ⟨s1, s2, rfl, _⟩ := hS'
  obtain ⟨pa, pc, rfl⟩ := hp.slice
  obtain ⟨ta, tc, rfl⟩ := hT.slice
  obtain ⟨W0, hW0⟩ : ∃ W0, W0 = w.alloc (.cells #[s1, s2, .int .i64 (s.g 0), .int .i64 (s.g 1), .int .i64 (s.g 2), .int .i64 (s.g 3), .int .i64 (s.g 4)] 24) := ⟨_, rfl⟩
  have hB0 : Below w.heap.size w W0 := by rw [hW0]; exact (Below.refl _ w).alloc (Nat.le_refl _) _
  have hS0 := hS.below hB0
  have hp0 := hp.at hB0
  have hT0 := TabV.below hB0 hT
  have hz0 : w.heap.size < W0.heap.size := by rw [hW0]; simp
  have q (k : Nat) (u : Value) (h : #[s1, s2, Value.int .i64 (s.g 0), .int .i64 (s.g 1), .int .i64 (s.g 2), .int .i64 (s.g 3), .int .i64 (s.g 4)][k]? = some u) : W0.cell? ⟨w.heap.size, k, none⟩ = some u := by rw [hW0]; exact wcells (s := s) w 24 k u h
  by_cases h1 : (1048576 : Int) < (p : Int)
  · go_enter Try.func11, Try.ntmps11
    go_wp2
    go_ret
    exact ⟨rfl, by rw [← hW0]; exact hB0⟩
  · have hp1 : p ≤ 1048576 := by omega
    go_enter Try.func11, Try.ntmps11
    go_wp2_with (first
      | (go_at_call 12; rw [← hW0]; refine (sz11 hS0 (by omega)).mono ?_; rintro e w1 ⟨⟨r, rfl, hr1, hr2, hr3⟩, hb1⟩; have C1 := hb1)
      | (go_at_call 36; refine (sz36 (TabV.below C1 hT0) hx.1.1 hx.1.2 (by omega)).mono ?_; rintro e w2 ⟨⟨r2, rfl, hs1, hs2, hs3⟩, rfl⟩; obtain ⟨q0, q1, q2, q3, q4, q5, q6⟩ := seven q hz0 C1)
      | (go_at_call 14; first
        | (refine (to14 (hS0.below C1) (by have := hr3 (by omega); omega) (by have := hr3 (by omega); omega)).mono ?_; rintro e w3 ⟨⟨v3, rfl, hv3⟩, hb3⟩; have C3 := C1.trans (hb3.mono C1.size))
        | (refine (to14 (hS0.below C6) (by have := hr3 (by omega); omega) (by have := hr3 (by omega); omega)).mono ?_; rintro e w7 ⟨⟨v7, rfl, hv7⟩, hb7⟩; have C7 := C6.trans (hb7.mono C6.size); obtain ⟨t1, t2, rfl, ht1, ht2, _, _⟩ := id hv7; obtain ⟨b1, d1, rfl⟩ := ht1.slice; obtain ⟨b2, d2, rfl⟩ := ht2.slice))
      | (go_at_call 22; first
        | (refine (to21 (hp0.at C3) hp1).mono ?_; rintro e w4 ⟨rfl, hN4, hb4⟩; have C4 := C3.trans (hb4.mono C3.size))
        | (obtain ⟨w8, hw8, hb8, hz8, p⟩ := box8 (s := s) (.slice b1 s.n d1) (.slice b2 s.m d2) w7; rw [← hw8]; have C8 := C7.trans (hb8.mono C7.size); clear hw8; (refine (to21 (hp0.at C8) hp1).mono ?_; rintro e w9 ⟨rfl, hN9, hb9⟩; have C9 := C8.trans (hb9.mono C8.size))))
      | (go_at_call 38; first
        | (refine (to38 (TabV.below C4 hT0) (by have := hs3 (by omega); exact this.1) (by have := hs3 (by omega); exact this.2)).mono ?_; rintro e w5 ⟨⟨v5, rfl, hv5⟩, hb5⟩; have C5 := C4.trans (hb5.mono C4.size))
        | (refine (to38 (TabV.below C9 hT0) (by have := hs3 (by omega); exact this.1) (by have := hs3 (by omega); exact this.2)).mono ?_; rintro e w10 ⟨⟨v10, rfl, hv10⟩, hb10⟩; have C10 := C9.trans (hb10.mono C9.size); have D10 := (hb9.trans (hb10.mono hb9.size)); obtain ⟨p0, p1, p2, p3, p4, p5, p6⟩ := seven p hz8 D10))
      | (go_at_call 37; refine (ic37 (hv3.below (hb4.trans (hb5.mono hb4.size))) (hN4.slv.at hb5) hle hv5 hx).mono ?_; rintro e w6 ⟨rfl, hb6⟩; have C6 := C5.trans (hb6.mono C5.size); clear q0 q1 q2 q3 q4 q5 q6; obtain ⟨q0, q1, q2, q3, q4, q5, q6⟩ := seven q hz0 C6)
      | (go_at_call 39; refine (ic39 H (hv7.below (hb8.trans (D10.mono hb8.size))) (hN9.slv.at hb10) hle hv10 hx).mono ?_; rintro e w11 ⟨rfl, hb11⟩; have C11 := C10.trans (hb11.mono C10.size); have D11 := D10.trans (hb11.mono D10.size); clear q0 q1 q2 q3 q4 q5 q6 p0 p1 p2 p3 p4 p5 p6; obtain ⟨q0, q1, q2, q3, q4, q5, q6⟩ := seven q hz0 C11; obtain ⟨p0, p1, p2, p3, p4, p5, p6⟩ := seven p hz8 D11))
    · go_ret
      exact ⟨rfl, hB0.trans (C1.mono hB0.size)⟩
    · go_ret
      exact ⟨rfl, hB0.trans (C1.mono hB0.size)⟩
    have C11d := C11.drew
    have D11d := D11.drew
    have E11d := (hb10.trans (hb11.mono hb10.size)).drew
    have F11d := hb11.drew
    go_region_with (first
      | (go_at_call 14; refine (to14 (hS0.below C11d) (by have := hr3 (by omega); omega) (by have := hr3 (by omega); omega)).mono ?_; rintro e w12 ⟨⟨v12, rfl, hv12⟩, hb12⟩; have C12 := C11d.trans (hb12.mono C11d.size); have D12 := D11d.trans (hb12.mono D11d.size); have E12 := E11d.trans (hb12.mono E11d.size); have F12 := F11d.trans (hb12.mono F11d.size); obtain ⟨r0, r1, r2, r3, r4, r5, r6⟩ := seven p hz8 D12)
      | (go_at_call 16; refine (eq16 (hv7.below (hb8.trans (D12.mono hb8.size))) hv12).mono ?_; rintro e w13 ⟨rfl, hb13⟩; have C13 := C12.trans (hb13.mono C12.size); have D13 := D12.trans (hb13.mono D12.size); have E13 := E12.trans (hb13.mono E12.size); have F13 := F12.trans (hb13.mono F12.size)))
    all_goals
      go_wp2_with (first
        | (go_at_call 22; refine (to21 (hp0.at C13) hp1).mono ?_; rintro e w14 ⟨rfl, hN14, hb14⟩; have C14 := C13.trans (hb14.mono C13.size); have E14 := E13.trans (hb14.mono E13.size); have F14 := F13.trans (hb14.mono F13.size))
        | (go_at_call 24; refine (eq23 (hN9.slv.at E14) hN14.slv (by omega)).mono ?_; rintro e w15 ⟨rfl, m15, hw15⟩; have hb15 : Below w14.heap.size w14 w15 := (by rw [hw15]; exact drewN_below m15); clear hw15; have C15 := C14.trans (hb15.mono C14.size); have F15 := F14.trans (hb15.mono F14.size))
        | (go_at_call 38; refine (to38 (TabV.below C15 hT0) (by have := hs3 (by omega); exact this.1) (by have := hs3 (by omega); exact this.2)).mono ?_; rintro e w16 ⟨⟨v16, rfl, hv16⟩, hb16⟩; have C16 := C15.trans (hb16.mono C15.size); have F16 := F15.trans (hb16.mono F15.size))
        | (go_at_call 40; refine (eq40 (TabV.below F16 hv10) hv16 (by have := hs3 (by omega); exact this.1) (by have := hs3 (by omega); exact this.2)).mono ?_; rintro e w17 ⟨rfl, m17, hw17⟩; have hb17 : Below w16.heap.size w16 w17 := (by rw [hw17]; exact drewN_below m17); clear hw17; have C17 := C16.trans (hb17.mono C16.size)))
      go_ret
      exact ⟨rfl, hB0.trans (C17.mono hB0.size)⟩
end
end Go.Proofs.Ytbkjjefjnkkgbaa.sea
