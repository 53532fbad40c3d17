import Derived.Test.YtblbjmdeaojogaaSv2
namespace Go.Proofs.Ytblbjmdeaojogaa.sea
open Go Go.Ab Go.Proofs Go.RowKit Go.Shelf
attribute [local go_sem] Oper.semAt_some
set_option linter.unusedVariables false
section
variable {s : Sea} {w : World}
set_option maxRecDepth 100000 in
set_option maxHeartbeats 8000000 in
theorem best55 (o : s.Ok) (b : Nat) (hP : SeaP s w b 0) :
    Calls Try.prog 55 #[.pointer (some ⟨b, 0, none⟩)] w fun e w' => ∃ pv, e = .returned (.tuple #[pv, .int .i64 (vt s 0 (s.g 3).toNat)]) ∧ Below w.heap.size w w' := by
  have n1 := o.n1
  have n2 := o.n2
  have hmo := o.most
  have hst := o.store
  have hfi := o.first
  have hmS := moS_eq o
  have hwd : ((wd s : Nat) : Int) = s.g 2 + 1 := by unfold wd; omega
  obtain ⟨i0, hi, hzz0, hzz1, hzz2⟩ := own_info
  have hbl := hP.1
  obtain ⟨s1, s2, hs1, hs2, hcs⟩ := hP.cells
  obtain ⟨a1, c1, rfl⟩ := hs1.slice
  have q0 := hcs 0 _ rfl
  have q1 := hcs 1 _ rfl
  have q2 := hcs 2 _ rfl
  have q5 := hcs 5 _ rfl
  simp only [Nat.zero_add] at q0 q1 q2 q5
  rcases hs2 with ⟨a', e, e0⟩ | ⟨bm, om, cm, rfl, hcm, hE⟩
  · exact absurd e0 (by rw [o.m]; omega)
  obtain ⟨f, hf⟩ : ∃ f : Nat, f = (s.g 3).toNat := ⟨_, rfl⟩
  have hf' : s.g 3 = (f : Int) := by omega
  rw [hf'] at q5
  rw [← hf]
  have hfw : f < wd s := by omega
  obtain ⟨C, hC⟩ : ∃ C, Hid (C = vt s 0 f) := ⟨_, rfl⟩
  rw [← hC.out]
  clear hf hf' hcs
  by_cases hC1 : C = -1
  · subst hC1
    go_enter Try.func55, Try.ntmps55
    go_wp2_with (go_at_call 64; refine (vals64 o b hP).mono ?_; rintro e w1 ⟨B, rfl, hT, hb⟩; obtain ⟨rb, ro, rc, hrc, hcap, hrlt, hrx⟩ := hT.read (j := 0) (Nat.le_refl _) (Nat.zero_le _); have hx := hrx f hfw; rw [← hC.out] at hx; have x5 := (hb.cell (p := ⟨b, 5, none⟩) hbl).trans q5; clear hrx hT)
    go_region
    go_wp2
    go_ret2
    exact ⟨_, rfl, hb.drew.alloc hb.size _⟩
  · have hC2 : (C == (-1 : Int)) = false := beq_eq_false_iff_ne.2 hC1
    go_enter Try.func55, Try.ntmps55
    go_wp2_with (go_at_call 64; refine (vals64 o b hP).mono ?_; rintro e w1 ⟨B, rfl, hT, hb⟩; obtain ⟨rb, ro, rc, hrc, hcap, hrlt, hrx⟩ := hT.read (j := 0) (Nat.le_refl _) (Nat.zero_le _); have hx := hrx f hfw; rw [← hC.out] at hx; have x5 := (hb.cell (p := ⟨b, 5, none⟩) hbl).trans q5; clear hrx)
    go_region
    have hbz : b < w1.heap.size := Nat.lt_of_lt_of_le hbl hb.size
    have hrow0 := row_lit w1.drew (base := w1.heap.size) (Nat.le_refl _)
    have hB1 : Below w1.heap.size w1 (w1.drew.alloc (.cells #[] 2)) := (Below.refl _ w1).drew.alloc (Nat.le_refl _) _
    go_wp2
    go_loopw [6, 7, 8] (fun ov av kv wr => ∃ (k a q : Nat) (xs : List Value), k ≤ s.n ∧ q ≤ k ∧ a < wd s ∧ kv = .int .i64 (k : Int) ∧ av = .int .i64 (a : Int) ∧ wr.ownsRow w1.heap.size 2 1 ov q xs ∧ Below w1.heap.size w1 wr)
      (fun _ _ kv _ => s.n - (RowKit.intOf kv).toNat)
    case atStart => exact ⟨0, f, 0, _, Nat.zero_le _, Nat.le_refl _, hfw, rfl, rfl, hrow0, hB1⟩
    case round =>
      obtain ⟨k, a, q, xs, hk, hq, ha, rfl, rfl, hrow, hBk⟩ := hrel
      obtain ⟨wo, rfl⟩ : ∃ wo : World, wo = wr := ⟨_, rfl⟩
      have hBo := hb.trans (hBk.mono hb.size)
      have x0 := (hBo.cell (p := ⟨b, 0, none⟩) hbl).trans q0
      by_cases hlt : k < s.n
      · have hmm : k < s.m := by rw [o.m]; exact hlt
        go_wp2
        go_loopw [6, 7, 9] (fun ov av lv wr => ∃ (l : Nat), l ≤ moS s ∧ lv = .int .i64 (l : Int) ∧ av = .int .i64 (a : Int) ∧ wr.ownsRow w1.heap.size 2 1 ov q xs ∧ Below wo.heap.size wo wr)
          (fun _ _ lv _ => moS s - (RowKit.intOf lv).toNat)
        case atStart => exact ⟨0, Nat.zero_le _, rfl, rfl, hrow, Below.refl _ _⟩
        case round =>
          obtain ⟨l, hl, rfl, rfl, hrl, hBl⟩ := hrel
          have hBx : Below w1.heap.size w1 wr := hBk.trans (hBl.mono hBk.size)
          have hTl := hT.below hBx
          have hBwl := hb.trans (hBx.mono hb.size)
          have x2 := (hBwl.cell (p := ⟨b, 2, none⟩) hbl).trans q2
          have x1 := (hBwl.cell (p := ⟨b, 1, none⟩) hbl).trans q1
          have x5 := (hBwl.cell (p := ⟨bm, om + k, none⟩) hE.1).trans (hE.2 k hmm)
          have hbml : bm < w.heap.size := hE.1
          have hPl := hP.below hBwl
          have hwr : w.heap.size ≤ wr.heap.size := hBwl.size
          have hwo := hBl.size
          have hw1 := hBk.size
          have hag : (a : Int) ≤ s.g 2 := by omega
          by_cases hll : l < moS s
          · have hlg : (l : Int) ≤ s.g 0 := by omega
            cases hd : s.does k a l with
            | false =>
              go_wp2_with (go_at_call 43; refine (after43 o hPl hlt ⟨by omega, hag⟩ ⟨by omega, hlg⟩).mono ?_; rintro e w3 ⟨rfl, hb3⟩; rw [hd])
              go_region
              go_wp2
              go_roundw
              case rel => exact ⟨l + 1, by omega, by go_num, rfl, row_below hrl hb3.drew, (hBl.trans (hb3.mono hBl.size)).drew⟩
              case measure => simp [RowKit.intOf]; omega
            | true =>
              have hnx := o.left_bd (of_decide_eq_true hd)
              have hnx : 0 ≤ s.next k a l ∧ s.next k a l ≤ s.g 2 := hnx
              obtain ⟨y, hy⟩ : ∃ y : Nat, s.next k a l = (y : Int) := ⟨(s.next k a l).toNat, by omega⟩
              have hyw : y < wd s := by omega
              have hGb := vt_bd o (k := k + 1) (by omega) y
              have hone : 0 ≤ s.gm k * (l : Int) ∧ s.gm k * (l : Int) ≤ 20000 := by
                have hp := o.gm k hlt
                exact ⟨Int.mul_nonneg hp.1 (by omega), Int.le_trans (Int.mul_le_mul_of_nonneg_right hp.2 (by omega)) (Int.le_trans (Int.mul_le_mul_of_nonneg_left (show (l : Int) ≤ 20 by omega) (by omega)) (by omega))⟩
              obtain ⟨G, hG⟩ : ∃ G, Hid (G = vt s (k + 1) y) := ⟨_, rfl⟩
              obtain ⟨V, hV⟩ : ∃ V, Hid (V = vt s k a) := ⟨_, rfl⟩
              rw [← hG.out] at hGb
              clear hnx
              by_cases hG1 : G = -1
              · subst hG1
                go_wp2_with (go_at_call 43; refine (after43 o hPl hlt ⟨by omega, hag⟩ ⟨by omega, hlg⟩).mono ?_; rintro e w3 ⟨rfl, hb3⟩; rw [hd, hy]; obtain ⟨rb', ro', rc', hrc', hcap', hrlt', hrx'⟩ := (hTl.below hb3).read (j := k + 1) (Nat.zero_le _) (by omega); have hx' := hrx' y hyw; rw [← hG.out] at hx'; clear hrx')
                go_region
                go_wp2
                go_roundw
                case rel => exact ⟨l + 1, by omega, by go_num, rfl, row_below hrl hb3.drew, (hBl.trans (hb3.mono hBl.size)).drew⟩
                case measure => simp [RowKit.intOf]; omega
              · have hG2 : (G == (-1 : Int)) = false := beq_eq_false_iff_ne.2 hG1
                have hG3 : (G != (-1 : Int)) = true := bne_iff_ne.2 hG1
                have e1 : IntKind.i64.wrap (s.gm k * (l : Int)) = s.gm k * (l : Int) := IntWalk.i64_in _ (by omega)
                have e2 : IntKind.i64.wrap (s.gm k * (l : Int) + G) = s.gm k * (l : Int) + G := IntWalk.i64_in _ (by omega)
                cases he : (s.gm k * (l : Int) + G == V) with
                | false =>
                  go_wp2_with (go_at_call 43; refine (after43 o hPl hlt ⟨by omega, hag⟩ ⟨by omega, hlg⟩).mono ?_; rintro e w3 ⟨rfl, hb3⟩; rw [hd, hy]; obtain ⟨rb', ro', rc', hrc', hcap', hrlt', hrx'⟩ := (hTl.below hb3).read (j := k + 1) (Nat.zero_le _) (by omega); have hx' := hrx' y hyw; rw [← hG.out] at hx'; clear hrx'; obtain ⟨rb2, ro2, rc2, hrc2, hcap2, hrlt2, hrx2⟩ := (hTl.below hb3).read (j := k) (Nat.zero_le _) hk; have hx2 := hrx2 a ha; rw [← hV.out] at hx2; clear hrx2; have hx5 := (hb3.cell (p := ⟨bm, om + k, none⟩) (by show bm < _; omega)).trans x5; have hx1 := (hb3.cell (p := ⟨b, 1, none⟩) (by show b < _; omega)).trans x1)
                  go_region
                  go_wp2
                  go_roundw
                  case rel => exact ⟨l + 1, by omega, by go_num, rfl, row_below hrl hb3.drew, (hBl.trans (hb3.mono hBl.size)).drew⟩
                  case measure => simp [RowKit.intOf]; omega
                | true =>
                  go_wp2_with (go_at_call 43; refine (after43 o hPl hlt ⟨by omega, hag⟩ ⟨by omega, hlg⟩).mono ?_; rintro e w3 ⟨rfl, hb3⟩; rw [hd, hy]; obtain ⟨rb', ro', rc', hrc', hcap', hrlt', hrx'⟩ := (hTl.below hb3).read (j := k + 1) (Nat.zero_le _) (by omega); have hx' := hrx' y hyw; rw [← hG.out] at hx'; clear hrx'; obtain ⟨rb2, ro2, rc2, hrc2, hcap2, hrlt2, hrx2⟩ := (hTl.below hb3).read (j := k) (Nat.zero_le _) hk; have hx2 := hrx2 a ha; rw [← hV.out] at hx2; clear hrx2; have hx5 := (hb3.cell (p := ⟨bm, om + k, none⟩) (by show bm < _; omega)).trans x5; have hx1 := (hb3.cell (p := ⟨b, 1, none⟩) (by show b < _; omega)).trans x1)
                  have hr3 := row_below hrl hb3.drew
                  have hz3 := hb3.size
                  go_region
                  clear e1 e2 he hG2 hG3
                  go_wp2_with (at_builtin; refine wpList_append_own _ rfl _ _ 22 rfl w1.heap.size 2 i0 (.int .i64 0) 1 8 Try.underlying22 hi hzz0 hzz1 hzz2 rfl (by decide) _ _ _ rfl (hr3.alloc _) ⟨w3.drew.heap.size, 0, none⟩ 1 1 [.int .i64 (l : Int)] rfl rfl (cell_one_new _ _ _) (by simp [Value.oneCell']) (by unfold maxLen; omega) (by omega) (by simp <;> omega) ?_; intro v' w4 o4 g4 _)
                  go_roundw
                  case rel => exact ⟨k + 1, y, q + 1, _, by omega, by omega, hyw, by go_num, rfl, o4, ((hBx.trans ((hb3.drew.mono (by omega)).alloc (by simp; omega) _))).grown g4 (by simp <;> omega) (fun q e => (hr3.lt q e).1)⟩
                  case measure => simp [RowKit.intOf]; omega
          · have hgt : ¬ (l : Int) ≤ s.g 0 := by omega
            go_wp2
            go_roundw
            case rel => exact ⟨k + 1, a, q, xs, by omega, by omega, ha, by go_num, rfl, hrl, hBx⟩
            case measure => simp [RowKit.intOf]; omega
      · obtain rfl : k = s.n := by omega
        go_wp2
        go_ret2
        exact ⟨_, rfl, hBo⟩
end
end Go.Proofs.Ytblbjmdeaojogaa.sea
