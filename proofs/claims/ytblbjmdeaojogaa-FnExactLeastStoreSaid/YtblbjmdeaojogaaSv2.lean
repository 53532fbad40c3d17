import Derived.Test.YtblbjmdeaojogaaSv1
namespace Go.Proofs.Ytblbjmdeaojogaa.sea
open Go Go.Ab Go.Proofs Go.RowKit Go.Shelf
attribute [local go_sem] Oper.semAt_some
set_option linter.unusedVariables false
section
variable {s : Sea} {w : World}
theorem info22s : (Try.prog.info? 22).map (fun i => (i.zero, i.size, i.bytes)) = some (some (.slice none 0 0), 1, 24) := by kernel_rfl
theorem info2i : (Try.prog.info? 2).map (fun i => (i.zero, i.size, i.bytes)) = some (some (.int .i64 0), 1, 8) := by kernel_rfl
/-- A row of zeros is the last one. -/
theorem row_zero {s : Sea} (o : s.Ok) (W : World) {base : Nat} (h : base ≤ W.heap.size) : (W.alloc (.cells (madeCells #[.int .i64 0] (wd s)) 2)).ownsRow base 2 1 (.slice (some ⟨W.heap.size, 0, none⟩) (wd s) (wd s)) (wd s) (intsL (vt s s.n) (wd s)) := by
  have hst := o.store
  have h2 : (madeCells #[Value.int .i64 0] (wd s)).toList = intsL (vt s s.n) (wd s) := by
    rw [toList_madeCells_one]
    apply List.ext_getElem?
    intro j
    by_cases hj : j < wd s
    · rw [intsL_get hj, vt_last]; simp [hj]
    · simp [intsL, hj]
  rw [← h2]
  exact World.ownsRow_lit (e := 2) (size := 1) W _ (wd s) h (by unfold maxLen wd; omega) (by rw [size_madeCells]; omega)
set_option maxRecDepth 100000 in
set_option maxHeartbeats 4000000 in
theorem vals64 (o : s.Ok) (b : Nat) (hP : SeaP s w b 0) :
    Calls Try.prog 64 #[.pointer (some ⟨b, 0, none⟩)] w fun e w' => ∃ B, e = .returned (.slice (some ⟨B, 0, none⟩) (s.n + 1) (s.n + 1)) ∧ Tbl s w' w.heap.size B 0 ∧ Below w.heap.size w w' := by
  have n1 := o.n1
  have n2 := o.n2
  have hmo := o.most
  have hst := o.store
  have hmS := moS_eq o
  have hwd : ((wd s : Nat) : Int) = s.g 2 + 1 := by unfold wd; omega
  obtain ⟨i0, hi, hzz0, hzz1, hzz2⟩ := own_info
  have hbl := hP.1
  obtain ⟨s1, s2, hs1, hs2, hcs⟩ := hP.cells
  obtain ⟨a1, c1, rfl⟩ := hs1.slice
  have q0 := hcs 0 _ rfl
  have q1 := hcs 1 _ rfl
  have q2 := hcs 2 _ rfl
  have q4 := hcs 4 _ rfl
  simp only [Nat.zero_add] at q0 q1 q2 q4
  rcases hs2 with ⟨a', e, e0⟩ | ⟨bm, om, cm, rfl, hcm, hE⟩
  · exact absurd e0 (by rw [o.m]; omega)
  have ec : ((s.n + 1 : Nat) : Int) = (s.n : Int) + 1 := by omega
  have hmk80 := run_make_row' (P := Try.prog) 80 22 (.slice none 0 0) 24 Try.underlying80 info22s rfl .i64 .i64 (s.n + 1) (by omega) (by omega)
  have hmk22 := run_make_row' (P := Try.prog) 22 2 (.int .i64 0) 8 Try.underlying22 info2i rfl .i64 .i64 (wd s) (by omega) (by omega)
  rw [ec] at hmk80
  rw [hwd] at hmk22
  obtain ⟨mkT, hmkT⟩ : ∃ mkT : World → World, ∀ w, mkT w = w.alloc (.cells (madeCells #[.slice none 0 0] (s.n + 1)) 22) := ⟨_, fun _ => rfl⟩
  obtain ⟨mkR, hmkR⟩ : ∃ mkR : World → World, ∀ w, mkR w = w.alloc (.cells (madeCells #[.int .i64 0] (wd s)) 2) := ⟨_, fun _ => rfl⟩
  have hT0 : Tbl s (mkT w) w.heap.size w.heap.size (s.n + 1) := by rw [hmkT]; exact Tbl.new n2 (Nat.le_refl _)
  have hB0 : Below w.heap.size w (mkT w) := by rw [hmkT]; exact (Below.refl _ w).alloc (Nat.le_refl _) _
  have hz0 : (mkT w).heap.size = w.heap.size + 1 := by rw [hmkT]; simp
  have hT1 : Tbl s (mkR (mkT w)) w.heap.size w.heap.size (s.n + 1) := by rw [hmkR]; exact hT0.below ((Below.refl _ _).alloc (Nat.le_refl _) _)
  have hB1 : Below w.heap.size w (mkR (mkT w)) := by rw [hmkR]; exact hB0.alloc (by omega) _
  have hrz : (mkR (mkT w)).ownsRow (w.heap.size + 1) 2 1 (.slice (some ⟨w.heap.size + 1, 0, none⟩) (wd s) (wd s)) (wd s) (intsL (vt s s.n) (wd s)) := by
    have := row_zero o (mkT w) (base := w.heap.size + 1) (by omega)
    rw [hz0, ← hmkR] at this
    exact this
  have z4 := (hB0.cell (p := ⟨b, 4, none⟩) hbl).trans q4
  obtain ⟨f1, hf1, hf2⟩ := hT1.2
  have y1 := hf1.cell (i := s.n) (by omega)
  have y2 := hf1.frozen s.n
  have hT2 := hT1.set hrz
  have hB2 := hB1.setCell (p := ⟨w.heap.size, s.n, none⟩) (Nat.le_refl _) (.slice (some ⟨w.heap.size + 1, 0, none⟩) (wd s) (wd s))
  have hmk80' := fun w => (hmk80 w).trans (by rw [← hmkT] : _ = Result.ok _ (mkT w))
  have hmk22' := fun w => (hmk22 w).trans (by rw [← hmkR] : _ = Result.ok _ (mkR w))
  clear hmk80 hmk22 hmkT hmkR hB0 hT0 hrz
  go_enter Try.func64, Try.ntmps64
  go_wp2
  clear hmk80' hmk22' y1 y2 z4 hz0 hT1 hB1 hf2 hf1 f1
  go_loopw [5] (fun kv wr => ∃ (j : Nat) (c : Int), j ≤ s.n ∧ kv = .int .i64 c ∧ c = (j : Int) - 1 ∧ Tbl s wr w.heap.size w.heap.size j ∧ Below w.heap.size w wr)
    (fun kv _ => (RowKit.intOf kv + 1).toNat)
  case atStart => exact ⟨s.n, _, Nat.le_refl _, rfl, by go_num, hT2, hB2⟩
  case round =>
    obtain ⟨j, c, hj, rfl, hc, hT, hBw⟩ := hrel
    cases j with
    | zero =>
      have hc0 : c = -1 := by omega
      subst hc0
      clear hc
      go_wp2
      go_ret
      exact ⟨_, rfl, hT, hBw⟩
    | succ m =>
      have hc0 : c = (m : Int) := by omega
      subst hc0
      clear hc
      have hwz : w.heap.size ≤ wr.heap.size := hBw.size
      have hTl := hT.lt
      obtain ⟨wo, rfl⟩ : ∃ wo : World, wo = wr := ⟨_, rfl⟩
      have hrow0 := row_lit wo (Nat.le_refl _)
      have hBr0 : Below wo.heap.size wo (wo.alloc (.cells #[] 2)) := (Below.refl _ _).alloc (Nat.le_refl _) _
      go_wp2
      go_loopw [6, 7] (fun rv iv wr => ∃ (i : Nat), i ≤ wd s ∧ iv = .int .i64 (i : Int) ∧ wr.ownsRow wo.heap.size 2 1 rv i (intsL (vt s m) i) ∧ Below wo.heap.size wo wr)
        (fun _ iv _ => wd s - (RowKit.intOf iv).toNat)
      case atStart => exact ⟨0, Nat.zero_le _, rfl, hrow0, hBr0⟩
      case round =>
        obtain ⟨i, hi', rfl, hrow, hBi⟩ := hrel
        obtain ⟨wi, rfl⟩ : ∃ wi : World, wi = wr := ⟨_, rfl⟩
        have hTi := hT.below hBi
        have hBwi := hBw.trans (hBi.mono hwz)
        have x4 := (hBwi.cell (p := ⟨b, 4, none⟩) hbl).trans q4
        by_cases hlt : i < wd s
        · have hle : (i : Int) ≤ s.g 2 := by omega
          have hmn : m < s.n := by omega
          have hmm : m < s.m := by rw [o.m]; omega
          obtain ⟨F, hF⟩ : ∃ F, F = vl s (s.n - (m + 1)) (m + 1) := ⟨_, rfl⟩
          have hFv : ∀ x : Nat, vt s (m + 1) x = F x := fun x => by rw [hF]; rfl
          have hFb : ∀ y, 0 ≤ y → y ≤ s.g 2 → -1 ≤ F y ∧ F y ≤ 480000 := fun y _ _ => by
            have := vl_bd o (s.n - (m + 1)) (m + 1) y (by omega)
            rw [← hF] at this
            omega
          have hlast : vt s m i = vj s m F i (moS s) := by rw [vt_at hmn, hF]
          have hwi : w.heap.size ≤ wi.heap.size := Nat.le_trans hwz hBi.size
          clear hF
          go_wp2
          go_loopw [8, 9] (fun av lv wr => ∃ (l : Nat) (V : Int), l ≤ moS s ∧ lv = .int .i64 (l : Int) ∧ av = .int .i64 V ∧ Hid (V = vj s m F i l) ∧ Below wi.heap.size wi wr)
            (fun _ lv _ => moS s - (RowKit.intOf lv).toNat)
          case atStart => exact ⟨0, _, Nat.zero_le _, rfl, rfl, rfl, Below.refl _ _⟩
          case round =>
            obtain ⟨l, V, hl, rfl, rfl, hV, hBl⟩ := hrel
            have hTl' := hTi.below hBl
            have hBwl := hBwi.trans (hBl.mono hwi)
            have x2 := (hBwl.cell (p := ⟨b, 2, none⟩) hbl).trans q2
            have x1 := (hBwl.cell (p := ⟨b, 1, none⟩) hbl).trans q1
            have x5 := (hBwl.cell (p := ⟨bm, om + m, none⟩) hE.1).trans (hE.2 m (by rw [o.m]; exact hmn))
            have hbml : bm < w.heap.size := hE.1
            have hPl := hP.below hBwl
            have hwr : w.heap.size ≤ wr.heap.size := hBwl.size
            by_cases hll : l < moS s
            · have hlg : (l : Int) ≤ s.g 0 := by omega
              cases hd : s.does m i l with
              | false =>
                have HV : Hid (V = vj s m F i (l + 1)) := by show _ = _; rw [hV.out, vj, hd]; rfl
                go_wp2_with (go_at_call 43; refine (after43 o hPl hmn ⟨by omega, hle⟩ ⟨by omega, hlg⟩).mono ?_; rintro e w3 ⟨rfl, hb3⟩; rw [hd])
                go_roundw
                case rel => exact ⟨l + 1, _, by omega, by go_num, rfl, HV, hBl.trans (hb3.mono hBl.size)⟩
                case measure => simp [RowKit.intOf]; omega
              | true =>
                have hnx := o.left_bd (of_decide_eq_true hd)
                have hnx : 0 ≤ s.next m i l ∧ s.next m i l ≤ s.g 2 := hnx
                obtain ⟨y, hy⟩ : ∃ y : Nat, s.next m i l = (y : Int) := ⟨(s.next m i l).toNat, by omega⟩
                have hyw : y < wd s := by omega
                have hFy := hFb y (by omega) (by omega)
                by_cases hF1 : F (y : Int) = -1
                · have HV : Hid (V = vj s m F i (l + 1)) := by show _ = _; rw [hV.out, vj, hd, hy, decide_eq_true hF1]; rfl
                  clear hnx hFy hFb
                  go_wp2_with (go_at_call 43; refine (after43 o hPl hmn ⟨by omega, hle⟩ ⟨by omega, hlg⟩).mono ?_; rintro e w3 ⟨rfl, hb3⟩; rw [hd, hy]; have hT3 := hTl'.below hb3; obtain ⟨rb, ro, rc, hrc, hcap, hrlt, hrx⟩ := hT3.read (j := m + 1) (Nat.le_refl _) (by omega); have hx := hrx y hyw; rw [hFv, hF1] at hx)
                  go_roundw
                  case rel => exact ⟨l + 1, _, by omega, by go_num, rfl, HV, hBl.trans (hb3.mono hBl.size)⟩
                  case measure => simp [RowKit.intOf]; omega
                · have hbv := vj_bd o hmn (B := 480000) (by omega) hFb i l hl
                  have hc := vc_bd o hmn hFb hll hd (by rw [hy]; exact hF1)
                  rw [hy] at hc
                  have e1 : IntKind.i64.wrap (s.gm m * (l : Int)) = s.gm m * (l : Int) := IntWalk.i64_in _ (by omega)
                  have e2 : IntKind.i64.wrap (s.gm m * (l : Int) + F (y : Int)) = s.gm m * (l : Int) + F (y : Int) := IntWalk.i64_in _ (by omega)
                  have hcv : vc s m F i l = s.gm m * (l : Int) + F (y : Int) := by unfold vc; rw [hy]
                  have hvs : vj s m F i (l + 1) = cond (decide (vj s m F i l = -1)) (s.gm m * (l : Int) + F (y : Int)) (cond (decide (s.gm m * (l : Int) + F (y : Int) < vj s m F i l)) (s.gm m * (l : Int) + F (y : Int)) (vj s m F i l)) := by rw [vj, hd, hy, decide_eq_false hF1, hcv]; rfl
                  rw [← hV.out] at hvs hbv
                  obtain ⟨G, hG⟩ : ∃ G, Hid (G = F (y : Int)) := ⟨_, rfl⟩
                  rw [← hG.out] at hvs hF1 e2 hc hFy
                  have hF2 : (G == (-1 : Int)) = false := beq_eq_false_iff_ne.2 hF1
                  clear hnx hFb hcv
                  by_cases hv1 : V = -1
                  · have HV : Hid (s.gm m * (l : Int) + G = vj s m F i (l + 1)) := by show _ = _; rw [hvs, decide_eq_true hv1]; rfl
                    clear hvs hbv hFy
                    go_wp2_with (go_at_call 43; refine (after43 o hPl hmn ⟨by omega, hle⟩ ⟨by omega, hlg⟩).mono ?_; rintro e w3 ⟨rfl, hb3⟩; rw [hd, hy]; have hT3 := hTl'.below hb3; obtain ⟨rb, ro, rc, hrc, hcap, hrlt, hrx⟩ := hT3.read (j := m + 1) (Nat.le_refl _) (by omega); have hx := hrx y hyw; rw [hFv, ← hG.out] at hx; clear hrx hT3; have hx5 := (hb3.cell (p := ⟨bm, om + m, none⟩) (by show bm < _; omega)).trans x5; have hx1 := (hb3.cell (p := ⟨b, 1, none⟩) (by show b < _; omega)).trans x1)
                    go_region
                    go_wp2
                    go_roundw
                    case rel => exact ⟨l + 1, _, by omega, by go_num, rfl, HV, (hBl.trans (hb3.mono hBl.size)).drew⟩
                    case measure => simp [RowKit.intOf]; omega
                  · by_cases hv2 : s.gm m * (l : Int) + G < V
                    · have HV : Hid (s.gm m * (l : Int) + G = vj s m F i (l + 1)) := by show _ = _; rw [hvs, decide_eq_false hv1, decide_eq_true hv2]; rfl
                      clear hvs hbv hFy
                      go_wp2_with (go_at_call 43; refine (after43 o hPl hmn ⟨by omega, hle⟩ ⟨by omega, hlg⟩).mono ?_; rintro e w3 ⟨rfl, hb3⟩; rw [hd, hy]; have hT3 := hTl'.below hb3; obtain ⟨rb, ro, rc, hrc, hcap, hrlt, hrx⟩ := hT3.read (j := m + 1) (Nat.le_refl _) (by omega); have hx := hrx y hyw; rw [hFv, ← hG.out] at hx; clear hrx hT3; have hx5 := (hb3.cell (p := ⟨bm, om + m, none⟩) (by show bm < _; omega)).trans x5; have hx1 := (hb3.cell (p := ⟨b, 1, none⟩) (by show b < _; omega)).trans x1)
                      go_region
                      go_wp2
                      go_roundw
                      case rel => exact ⟨l + 1, _, by omega, by go_num, rfl, HV, (hBl.trans (hb3.mono hBl.size)).drew⟩
                      case measure => simp [RowKit.intOf]; omega
                    · have hv3 : (V == (-1 : Int)) = false := beq_eq_false_iff_ne.2 hv1
                      have HV : Hid (V = vj s m F i (l + 1)) := by show _ = _; rw [hvs, decide_eq_false hv1, decide_eq_false hv2]; rfl
                      clear hvs hbv hFy
                      go_wp2_with (go_at_call 43; refine (after43 o hPl hmn ⟨by omega, hle⟩ ⟨by omega, hlg⟩).mono ?_; rintro e w3 ⟨rfl, hb3⟩; rw [hd, hy]; have hT3 := hTl'.below hb3; obtain ⟨rb, ro, rc, hrc, hcap, hrlt, hrx⟩ := hT3.read (j := m + 1) (Nat.le_refl _) (by omega); have hx := hrx y hyw; rw [hFv, ← hG.out] at hx; clear hrx hT3; have hx5 := (hb3.cell (p := ⟨bm, om + m, none⟩) (by show bm < _; omega)).trans x5; have hx1 := (hb3.cell (p := ⟨b, 1, none⟩) (by show b < _; omega)).trans x1)
                      go_region
                      go_wp2
                      go_roundw
                      case rel => exact ⟨l + 1, _, by omega, by go_num, rfl, HV, (hBl.trans (hb3.mono hBl.size)).drew⟩
                      case measure => simp [RowKit.intOf]; omega
            · obtain rfl : l = moS s := by omega
              have hgt : ¬ ((moS s : Nat) : Int) ≤ s.g 0 := by omega
              have hr3 := row_below hrow hBl
              have hzi := hBi.size
              have hzl := hBl.size
              obtain rfl : V = vt s m i := hV.out.trans hlast.symm
              clear hV hlast
              go_wp2_with (at_builtin; refine wpList_append_own _ rfl _ _ 22 rfl wo.heap.size 2 i0 (.int .i64 0) 1 8 Try.underlying22 hi hzz0 hzz1 hzz2 rfl (by decide) _ _ _ rfl (hr3.alloc _) ⟨wr.heap.size, 0, none⟩ 1 1 [.int .i64 (vt s m i)] rfl rfl (cell_one_new _ _ _) (by simp [Value.oneCell']) (by unfold maxLen; omega) (by omega) (by simp <;> omega) ?_; intro v' w4 o4 g4 _)
              go_roundw
              case rel => exact ⟨i + 1, by omega, by go_num, by rw [intsL_succ]; exact o4, (hBi.trans ((hBl.mono hzi).alloc (by omega) _)).grown g4 (by simp <;> omega) (fun q e => (hr3.lt q e).1)⟩
              case measure => simp [RowKit.intOf]; omega
        · obtain rfl : i = wd s := by omega
          have hgt : ¬ ((wd s : Nat) : Int) ≤ s.g 2 := by omega
          obtain ⟨ar, cr, er⟩ := (slv_own hrow).slice
          subst er
          obtain ⟨ft, hft, hft2⟩ := hTi.2
          have y1 := hft.cell (i := m) (by omega)
          have y2 := hft.frozen m
          go_wp2
          go_roundw
          case rel => exact ⟨m, _, by omega, rfl, by go_num, hTi.set (row_base hrow (by omega)), hBwi.setCell (p := ⟨w.heap.size, m, none⟩) (Nat.le_refl _) _⟩
          case measure => simp [RowKit.intOf]
end
end Go.Proofs.Ytblbjmdeaojogaa.sea
