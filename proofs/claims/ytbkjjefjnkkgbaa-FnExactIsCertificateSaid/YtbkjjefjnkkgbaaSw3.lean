import Derived.Test.YtbkjjefjnkkgbaaSw2
namespace Go.Proofs.Ytbkjjefjnkkgbaa.sea
open Go Go.Ab Go.Proofs Go.RowKit Go.Shelf
attribute [local go_sem] Oper.semAt_some
set_option linter.unusedVariables false
/-- A plan fits a season. -/
def planB (s : Sea) (p : Nat) (gp : Nat → Int) : Bool := allB p (fun k => inB (gp k) 0 (s.g 0))
def planOk (s : Sea) (p : Nat) (gp : Nat → Int) : Bool := cond (decide (p = s.n)) (planB s p gp) false
def ckC (s : Sea) (p : Nat) (gp : Nat → Int) : Int := cond (okSea s) (cond (planOk s p gp) 0 2) 1
theorem areB' {s : Sea} {gp : Nat → Int} (p : Nat) (a : Option Addr) (cap : Nat) (hle : p ≤ 9223372036854775807) (w : World) (hE : SlV gp w.heap.size w (.slice a p cap) p) :
    Calls Try.prog 44 #[.slice a p cap, .int .i64 0, .int .i64 (s.g 0)] w fun e w' => e = .returned (.bool (planB s p gp)) ∧ Below w.heap.size w w' := areB 0 (s.g 0) p a cap hle w hE
section
variable {s : Sea} {w : World} {gp : Nat → Int}
set_option maxHeartbeats 1000000 in
theorem ck_bad (o : okSea s = false) {v pv : Value} {p : Nat} (hS : SeaV s w v) (hp : SlV gp w.heap.size w pv p) (hle : p ≤ 9223372036854775807)  :
    Calls Try.prog 53 #[v, pv] w fun e w' => e = .returned (.int .i64 1) ∧ Below w.heap.size w w' := by
  have hS' := hS
  obtain ⟨s1, s2, rfl, hs1, _⟩ := hS'
  obtain ⟨a1, c1, rfl⟩ := hs1.slice
  obtain ⟨a, c, rfl⟩ := hp.slice
  have hB : Below w.heap.size w (w.alloc (.cells #[.slice a1 s.n c1, s2, .int .i64 (s.g 0), .int .i64 (s.g 1), .int .i64 (s.g 2), .int .i64 (s.g 3), .int .i64 (s.g 4)] 27)) := (Below.refl _ w).alloc (Nat.le_refl _) _
  have hS1 := hS.below hB
  have hp1 := hp.at hB
  go_enter Try.func53, Try.ntmps53
  go_wp2_with (first
    | (go_at_call 15; refine (ok14 hS1).mono ?_; rintro e w1 ⟨rfl, hb⟩; rw [o]; obtain ⟨hc, hf⟩ := bcell hb; have hp2 := hp1.at hb))
  go_ret
  exact ⟨rfl, hB.trans (hb.mono (by simp))⟩
set_option maxHeartbeats 1000000 in
theorem ck_len (o : okSea s = true) {v pv : Value} {p : Nat} (hS : SeaV s w v) (hp : SlV gp w.heap.size w pv p) (hle : p ≤ 9223372036854775807) (hl : p ≠ s.n) :
    Calls Try.prog 53 #[v, pv] w fun e w' => e = .returned (.int .i64 2) ∧ Below w.heap.size w w' := by
  have n2 := (okSea_ok o).n2
  have hS' := hS
  obtain ⟨s1, s2, rfl, hs1, _⟩ := hS'
  obtain ⟨a1, c1, rfl⟩ := hs1.slice
  obtain ⟨a, c, rfl⟩ := hp.slice
  have hB : Below w.heap.size w (w.alloc (.cells #[.slice a1 s.n c1, s2, .int .i64 (s.g 0), .int .i64 (s.g 1), .int .i64 (s.g 2), .int .i64 (s.g 3), .int .i64 (s.g 4)] 27)) := (Below.refl _ w).alloc (Nat.le_refl _) _
  have hS1 := hS.below hB
  have hp1 := hp.at hB
  go_enter Try.func53, Try.ntmps53
  go_wp2_with (first
    | (go_at_call 15; refine (ok14 hS1).mono ?_; rintro e w1 ⟨rfl, hb⟩; rw [o]; obtain ⟨hc, hf⟩ := bcell hb; have hp2 := hp1.at hb))
  go_ret
  exact ⟨rfl, hB.trans (hb.mono (by simp))⟩
set_option maxHeartbeats 1000000 in
theorem ck_out (o : okSea s = true) {v pv : Value} {p : Nat} (hS : SeaV s w v) (hp : SlV gp w.heap.size w pv p) (hle : p ≤ 9223372036854775807) (hl : p = s.n) (hB2 : planB s p gp = false) :
    Calls Try.prog 53 #[v, pv] w fun e w' => e = .returned (.int .i64 2) ∧ Below w.heap.size w w' := by
  have n2 := (okSea_ok o).n2
  subst hl
  have hS' := hS
  obtain ⟨s1, s2, rfl, hs1, _⟩ := hS'
  obtain ⟨a1, c1, rfl⟩ := hs1.slice
  obtain ⟨a, c, rfl⟩ := hp.slice
  have hB : Below w.heap.size w (w.alloc (.cells #[.slice a1 s.n c1, s2, .int .i64 (s.g 0), .int .i64 (s.g 1), .int .i64 (s.g 2), .int .i64 (s.g 3), .int .i64 (s.g 4)] 27)) := (Below.refl _ w).alloc (Nat.le_refl _) _
  have hS1 := hS.below hB
  have hp1 := hp.at hB
  go_enter Try.func53, Try.ntmps53
  go_wp2_with (first
    | (go_at_call 15; refine (ok14 hS1).mono ?_; rintro e w1 ⟨rfl, hb⟩; rw [o]; obtain ⟨hc, hf⟩ := bcell hb; have hp2 := hp1.at hb)
    | (go_at_call 44; refine (areB' (s := s) _ a c hle _ hp2).mono ?_; rintro e w2 ⟨rfl, hb2⟩; rw [hB2]))
  go_ret
  exact ⟨rfl, hB.trans ((hb.mono (by simp)).trans (hb2.mono (Nat.le_trans hB.size hb.size)))⟩
set_option maxHeartbeats 1000000 in
theorem ck_in (o : okSea s = true) {v pv : Value} {p : Nat} (hS : SeaV s w v) (hp : SlV gp w.heap.size w pv p) (hle : p ≤ 9223372036854775807) (hl : p = s.n) (hB2 : planB s p gp = true) :
    Calls Try.prog 53 #[v, pv] w fun e w' => e = .returned (.int .i64 0) ∧ Below w.heap.size w w' := by
  have n2 := (okSea_ok o).n2
  subst hl
  have hS' := hS
  obtain ⟨s1, s2, rfl, hs1, _⟩ := hS'
  obtain ⟨a1, c1, rfl⟩ := hs1.slice
  obtain ⟨a, c, rfl⟩ := hp.slice
  have hB : Below w.heap.size w (w.alloc (.cells #[.slice a1 s.n c1, s2, .int .i64 (s.g 0), .int .i64 (s.g 1), .int .i64 (s.g 2), .int .i64 (s.g 3), .int .i64 (s.g 4)] 27)) := (Below.refl _ w).alloc (Nat.le_refl _) _
  have hS1 := hS.below hB
  have hp1 := hp.at hB
  go_enter Try.func53, Try.ntmps53
  go_wp2_with (first
    | (go_at_call 15; refine (ok14 hS1).mono ?_; rintro e w1 ⟨rfl, hb⟩; rw [o]; obtain ⟨hc, hf⟩ := bcell hb; have hp2 := hp1.at hb)
    | (go_at_call 44; refine (areB' (s := s) _ a c hle _ hp2).mono ?_; rintro e w2 ⟨rfl, hb2⟩; rw [hB2]))
  go_ret
  exact ⟨rfl, hB.trans ((hb.mono (by simp)).trans (hb2.mono (Nat.le_trans hB.size hb.size)))⟩
theorem ck47 {v pv : Value} {p : Nat} (hS : SeaV s w v) (hp : SlV gp w.heap.size w pv p) (hle : p ≤ 9223372036854775807) : Calls Try.prog 53 #[v, pv] w fun e w' => e = .returned (.int .i64 (ckC s p gp)) ∧ Below w.heap.size w w' := by
  unfold ckC planOk
  cases o : okSea s with
  | false => exact ck_bad o hS hp hle
  | true =>
    by_cases hl : p = s.n
    · rw [decide_eq_true hl]
      cases hB2 : planB s p gp with
      | false => exact ck_out o hS hp hle hl hB2
      | true => exact ck_in o hS hp hle hl hB2
    · rw [decide_eq_false hl]
      exact ck_len o hS hp hle hl
theorem plan49 {p : Nat} {pv : Value} (hp : SlV gp w.heap.size w pv p) (hle : p ≤ 9223372036854775807) (Bp : Nat) (hc : w.cell? ⟨Bp, 0, none⟩ = some pv) (k : Nat) (hk : k < p) (x : Int) :
    Calls Try.prog 55 #[.int .i64 (k : Int), .int .i64 x, .pointer (some ⟨Bp, 0, none⟩)] w fun e w' => e = .returned (.int .i64 (gp k)) ∧ Below w.heap.size w w' := by
  rcases hp with ⟨a, rfl, rfl⟩ | ⟨b, off, cap, rfl, hcap, hE⟩
  · omega
  · have q := hE.2 k hk
    go_enter Try.func55, Try.ntmps55
    go_wp2
    go_ret
    exact ⟨rfl, Below.refl _ _⟩
/-- A slice and a code. -/
def SlAns (w : World) (n : Nat) (gd : Nat → Int) (c : Int) (e : Ending) (w' : World) : Prop := ∃ sv, e = .returned (.tuple #[sv, .int .i64 c]) ∧ w'.ownsRow w.heap.size 2 1 sv n (intsL gd n) ∧ Below w.heap.size w w'
theorem SlAns.nil {w w' : World} {gd : Nat → Int} {c : Int} (hb : Below w.heap.size w w') : SlAns w 0 gd c (.returned (.tuple #[.slice none 0 0, .int .i64 c])) w' := ⟨_, rfl, World.ownsRow_nil _ _ _ _, hb⟩
/-- The plan's logs. -/
abbrev chP (gp : Nat → Int) : Nat → Int → Int := fun k _ => gp k
theorem fitsP (p : Nat) (h : planOk s p gp = true) : s.Fits (chP gp) := fun k x hk _ _ => by
  obtain ⟨h1, h2⟩ := cond_both h
  have h1 := of_decide_eq_true h1
  exact inB_true.1 (allB_true h2 k (by omega))
set_option maxHeartbeats 1000000 in
theorem so_bad {v pv : Value} {p : Nat} {c0 : Int} (hck : ckC s p gp = c0) (h0 : c0 = 1 ∨ c0 = 2) (hS : SeaV s w v) (hp : SlV gp w.heap.size w pv p) (hle : p ≤ 9223372036854775807) :
    Calls Try.prog 23 #[v, pv] w (SlAns w 0 (fun k => s.st (chP gp) (k + 1)) c0) := by
  have hS' := hS
  obtain ⟨s1, s2, rfl, hs1, _⟩ := hS'
  obtain ⟨a1, c1, rfl⟩ := hs1.slice
  obtain ⟨a, c, rfl⟩ := hp.slice
  have hB : Below w.heap.size w ((w.alloc (.cells #[.slice a1 s.n c1, s2, .int .i64 (s.g 0), .int .i64 (s.g 1), .int .i64 (s.g 2), .int .i64 (s.g 3), .int .i64 (s.g 4)] 27)).alloc (.cells #[.slice a p c] 22)) := ((Below.refl _ w).alloc (Nat.le_refl _) _).alloc (by simp) _
  have hS1 := hS.below hB
  have hp1 := hp.at hB
  have hbx := Boxed.new (w.alloc (.cells #[.slice a1 s.n c1, s2, .int .i64 (s.g 0), .int .i64 (s.g 1), .int .i64 (s.g 2), .int .i64 (s.g 3), .int .i64 (s.g 4)] 27)) 22 (.slice a p c)
  simp only [World.size_alloc] at hbx
  rcases h0 with rfl | rfl
  all_goals
    go_enter Try.func23, Try.ntmps23
    go_wp2_with (first
      | (go_at_call 53; refine (ck47 hS1 hp1 hle).mono ?_; rintro e w1 ⟨rfl, hb⟩; rw [hck]; obtain ⟨hc, hf⟩ := bcell hb; have hp2 := hp1.at hb; have hS2 := hS1.below hb; have hwz : w.heap.size + 1 + 1 ≤ w1.heap.size := by have := hb.size; simp at this; omega))
    go_ret2
    exact SlAns.nil (hB.trans (hb.mono (by simp <;> omega)))
set_option maxHeartbeats 1000000 in
theorem so_no {v pv : Value} {p : Nat} (o : okSea s = true) (hpl : planOk s p gp = true) (hall : s.all (chP gp) = false) (hS : SeaV s w v) (hp : SlV gp w.heap.size w pv p) (hle : p ≤ 9223372036854775807) :
    Calls Try.prog 23 #[v, pv] w (SlAns w 0 (fun k => s.st (chP gp) (k + 1)) 4) := by
  have hck : ckC s p gp = 0 := by unfold ckC; rw [o, hpl]; rfl
  have ok := okSea_ok o
  have hpn : p = s.n := of_decide_eq_true (cond_both hpl).1
  have hrun : decide ((s.run (chP gp) s.n : Int) = s.n) = false := by
    have := Sea.run_lt hall; exact decide_eq_false (by omega)
  have hS' := hS
  obtain ⟨s1, s2, rfl, hs1, _⟩ := hS'
  obtain ⟨a1, c1, rfl⟩ := hs1.slice
  obtain ⟨a, c, rfl⟩ := hp.slice
  have hB : Below w.heap.size w ((w.alloc (.cells #[.slice a1 s.n c1, s2, .int .i64 (s.g 0), .int .i64 (s.g 1), .int .i64 (s.g 2), .int .i64 (s.g 3), .int .i64 (s.g 4)] 27)).alloc (.cells #[.slice a p c] 22)) := ((Below.refl _ w).alloc (Nat.le_refl _) _).alloc (by simp) _
  have hS1 := hS.below hB
  have hp1 := hp.at hB
  have hbx := Boxed.new (w.alloc (.cells #[.slice a1 s.n c1, s2, .int .i64 (s.g 0), .int .i64 (s.g 1), .int .i64 (s.g 2), .int .i64 (s.g 3), .int .i64 (s.g 4)] 27)) 22 (.slice a p c)
  simp only [World.size_alloc] at hbx
  have HP : Hid (p = s.n) := hpn
  clear hpn
  go_enter Try.func23, Try.ntmps23
  go_wp2_with (first
    | (go_at_call 53; refine (ck47 hS1 hp1 hle).mono ?_; rintro e w1 ⟨rfl, hb⟩; rw [hck]; obtain ⟨hc, hf⟩ := bcell hb; have hp2 := hp1.at hb; have hS2 := hS1.below hb; have hwz : w.heap.size + 1 + 1 ≤ w1.heap.size := by have := hb.size; simp at this; omega)
    | (go_at_call 54; refine (callsIn_wide.1 (walkedP_in 3 (Nat.le_refl _) ok (fitsP p hpl) (w.heap.size + 1) _ _ _ hS2 (fun k x W hbW hsz hk h0 h1 => plan49 (hp2.at hbW) hle (w.heap.size + 1) ((hbW.cell (p := ⟨w.heap.size + 1, 0, none⟩) (by show w.heap.size + 1 < _; omega)).trans ((hb.cell (p := ⟨w.heap.size + 1, 0, none⟩) (by show w.heap.size + 1 < _; simp)).trans hbx.cell)) k (by rw [HP.out]; exact hk) x))).mono ?_; rintro e w2 ⟨q1, q2, rfl, hr1, hr2, hb2⟩; rw [hrun]))
  go_ret2
  exact SlAns.nil (hB.trans ((hb.mono (by simp <;> omega)).trans (hb2.mono (by omega))))
set_option maxHeartbeats 1000000 in
theorem so_do {v pv : Value} {p : Nat} (o : okSea s = true) (hpl : planOk s p gp = true) (hall : s.all (chP gp) = true) (hS : SeaV s w v) (hp : SlV gp w.heap.size w pv p) (hle : p ≤ 9223372036854775807) :
    Calls Try.prog 23 #[v, pv] w (SlAns w s.n (fun k => s.st (chP gp) (k + 1)) 0) := by
  have hck : ckC s p gp = 0 := by unfold ckC; rw [o, hpl]; rfl
  have ok := okSea_ok o
  have hpn : p = s.n := of_decide_eq_true (cond_both hpl).1
  have hrun : decide ((s.run (chP gp) s.n : Int) = s.n) = true := by
    rw [Sea.run_eq hall]; exact decide_eq_true rfl
  have hS' := hS
  obtain ⟨s1, s2, rfl, hs1, _⟩ := hS'
  obtain ⟨a1, c1, rfl⟩ := hs1.slice
  obtain ⟨a, c, rfl⟩ := hp.slice
  have hB : Below w.heap.size w ((w.alloc (.cells #[.slice a1 s.n c1, s2, .int .i64 (s.g 0), .int .i64 (s.g 1), .int .i64 (s.g 2), .int .i64 (s.g 3), .int .i64 (s.g 4)] 27)).alloc (.cells #[.slice a p c] 22)) := ((Below.refl _ w).alloc (Nat.le_refl _) _).alloc (by simp) _
  have hS1 := hS.below hB
  have hp1 := hp.at hB
  have hbx := Boxed.new (w.alloc (.cells #[.slice a1 s.n c1, s2, .int .i64 (s.g 0), .int .i64 (s.g 1), .int .i64 (s.g 2), .int .i64 (s.g 3), .int .i64 (s.g 4)] 27)) 22 (.slice a p c)
  simp only [World.size_alloc] at hbx
  have HP : Hid (p = s.n) := hpn
  clear hpn
  go_enter Try.func23, Try.ntmps23
  go_wp2_with (first
    | (go_at_call 53; refine (ck47 hS1 hp1 hle).mono ?_; rintro e w1 ⟨rfl, hb⟩; rw [hck]; obtain ⟨hc, hf⟩ := bcell hb; have hp2 := hp1.at hb; have hS2 := hS1.below hb; have hwz : w.heap.size + 1 + 1 ≤ w1.heap.size := by have := hb.size; simp at this; omega)
    | (go_at_call 54; refine (callsIn_wide.1 (walkedP_in 3 (Nat.le_refl _) ok (fitsP p hpl) (w.heap.size + 1) _ _ _ hS2 (fun k x W hbW hsz hk h0 h1 => plan49 (hp2.at hbW) hle (w.heap.size + 1) ((hbW.cell (p := ⟨w.heap.size + 1, 0, none⟩) (by show w.heap.size + 1 < _; omega)).trans ((hb.cell (p := ⟨w.heap.size + 1, 0, none⟩) (by show w.heap.size + 1 < _; simp)).trans hbx.cell)) k (by rw [HP.out]; exact hk) x))).mono ?_; rintro e w2 ⟨q1, q2, rfl, hr1, hr2, hb2⟩; rw [hrun]))
  go_ret2
  rw [Sea.run_eq hall] at hr2
  exact ⟨_, rfl, row_base hr2 (by omega), hB.trans ((hb.mono (by simp <;> omega)).trans (hb2.mono (by omega)))⟩
/-- The code of StoresOf, and how many stores. -/
def soC (s : Sea) (p : Nat) (gp : Nat → Int) : Int := cond (okSea s) (cond (planOk s p gp) (cond (s.all (chP gp)) 0 4) 2) 1
def soN (s : Sea) (p : Nat) (gp : Nat → Int) : Nat := cond (okSea s) (cond (planOk s p gp) (cond (s.all (chP gp)) s.n 0) 0) 0
theorem so22 {v pv : Value} {p : Nat} (hS : SeaV s w v) (hp : SlV gp w.heap.size w pv p) (hle : p ≤ 9223372036854775807) : Calls Try.prog 23 #[v, pv] w (SlAns w (soN s p gp) (fun k => s.st (chP gp) (k + 1)) (soC s p gp)) := by
  unfold soC soN
  cases o : okSea s with
  | false => exact so_bad (by unfold ckC; rw [o]; rfl) (.inl rfl) hS hp hle
  | true =>
    cases hpl : planOk s p gp with
    | false => exact so_bad (by unfold ckC; rw [o, hpl]; rfl) (.inr rfl) hS hp hle
    | true =>
      cases hall : s.all (chP gp) with
      | false => exact so_no o hpl hall hS hp hle
      | true => exact so_do o hpl hall hS hp hle
end
end Go.Proofs.Ytbkjjefjnkkgbaa.sea
