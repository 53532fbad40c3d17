import Derived.Test.YtblbjmdeaojogaaSg0
namespace Go.Proofs.Ytblbjmdeaojogaa.sea
open Go Go.Ab Go.Proofs Go.RowKit Go.Shelf
attribute [local go_sem] Oper.semAt_some
set_option linter.unusedVariables false
section
variable {s : Sea} {w : World}
/-- What the model's search says. -/
def fN (s : Sea) (k : Nat) (x : Int) : Int := cond (s.does k x (fw s k x)) (fw s k x) (-1)
def fX (s : Sea) (k : Nat) (x : Int) : Int := cond (s.does k x (fw s k x)) (s.next k x (fw s k x)) (-1)
set_option maxRecDepth 100000 in
set_option maxHeartbeats 2000000 in
theorem few51 (o : s.Ok) (b : Nat) (hP : SeaP s w b 0) {k : Nat} (hk : k < s.n) {x : Int} (hx : 0 ≤ x ∧ x ≤ s.g 2) :
    Calls Try.prog 51 #[.pointer (some ⟨b, 0, none⟩), .int .i64 (k : Int), .int .i64 x] w fun e w' => e = .returned (.tuple #[.int .i64 (fN s k x), .int .i64 (fX s k x)]) ∧ Below w.heap.size w w' := by
  have hm := moS_eq o
  have hg := o.most
  have hbl := hP.1
  obtain ⟨s1, s2, hs1, hs2, hcs⟩ := hP.cells
  have q2 := hcs 2 _ rfl
  simp only [Nat.zero_add] at q2
  have hd0 := fw_does o k x
  have hle := few_le s k x (moS s)
  go_enter Try.func51, Try.ntmps51
  go_wp2
  go_loopw [8] (fun iv wr => ∃ (j : Nat), j ≤ few s k x (moS s) ∧ iv = .int .i64 (j : Int) ∧ Below w.heap.size w wr)
    (fun iv _ => moS s + 1 - (RowKit.intOf iv).toNat)
  case atStart => exact ⟨0, Nat.zero_le _, rfl, Below.refl _ _⟩
  case round =>
    obtain ⟨j, hj, rfl, hBw⟩ := hrel
    have r2 := (hBw.cell (p := ⟨b, 2, none⟩) hbl).trans q2
    have hPw := hP.below hBw
    have hwz : w.heap.size ≤ wr.heap.size := hBw.size
    by_cases hlt : j < moS s
    · have hjg : (j : Int) ≤ s.g 0 := by omega
      cases hd : s.does k x j with
      | true =>
        have hfj : few s k x (moS s) = j := by
          by_cases e : j < few s k x (moS s)
          · have := few_not s k x e; rw [this] at hd; cases hd
          · omega
        have hfw : fw s k x = (j : Int) := by unfold fw; rw [hfj, decide_eq_true hlt]; rfl
        have HN : Hid (fN s k x = (j : Int)) := by show _ = _; unfold fN; rw [hfw, hd]; rfl
        have HX : Hid (fX s k x = s.next k x j) := by show _ = _; unfold fX; rw [hfw, hd]; rfl
        have hnx := (o.left_bd (of_decide_eq_true hd)).1
        have hnx : 0 ≤ s.next k x j := hnx
        clear hfj hfw hd0
        go_wp2_with (go_at_call 43; refine (after43 o hPw hk hx ⟨by omega, hjg⟩).mono ?_; rintro e w3 ⟨rfl, hb3⟩; rw [hd])
        go_ret2
        exact ⟨by rw [HN.out, HX.out]; rfl, hBw.trans (hb3.mono hwz)⟩
      | false =>
        have hne : j ≠ few s k x (moS s) := fun e => by
          have := few_does s k x (j := moS s) (by omega)
          rw [← e, hd] at this; cases this
        go_wp2_with (go_at_call 43; refine (after43 o hPw hk hx ⟨by omega, hjg⟩).mono ?_; rintro e w3 ⟨rfl, hb3⟩; rw [hd])
        go_roundw
        case rel => exact ⟨j + 1, by omega, by go_num, hBw.trans (hb3.mono hwz)⟩
        case measure => simp [RowKit.intOf]; omega
    · have hfm : ¬ few s k x (moS s) < moS s := by omega
      have hd : s.does k x (fw s k x) = false := by rw [hd0, decide_eq_false hfm]
      have HN : Hid (fN s k x = -1) := by show _ = _; unfold fN; rw [hd]; rfl
      have HX : Hid (fX s k x = -1) := by show _ = _; unfold fX; rw [hd]; rfl
      have hjg : ¬ (j : Int) ≤ s.g 0 := by omega
      clear hfm hd hd0
      go_wp2
      go_ret2
      exact ⟨by rw [HN.out, HX.out]; rfl, hBw⟩
end
end Go.Proofs.Ytblbjmdeaojogaa.sea
