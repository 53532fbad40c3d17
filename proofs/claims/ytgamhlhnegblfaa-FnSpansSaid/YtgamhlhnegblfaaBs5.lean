import Derived.Test.YtgamhlhnegblfaaBs4
namespace Go.Proofs.Ytgamhlhnegblfaa.ab
open Go Go.Ab Go.Proofs Go.RowKit
set_option linter.unusedVariables false
set_option linter.unusedSimpArgs false
set_option maxRecDepth 100000
theorem out_lo {k a z : Nat} {v w : Int} (ha : Iz k a v) (hz : Iz k z w) (h : v ≤ w) : fleB .f32 (dnW a) z = true := by
  obtain ⟨d1, d2, d3⟩ := dn_le ha.1 ha.num
  rw [fle_key .f32 d2 hz.num]
  have := iz_le ha hz
  rw [fle_key .f32 ha.num hz.num, decide_eq_true h] at this
  have := of_decide_eq_true this
  exact decide_eq_true (by omega)
theorem out_hi {k a z : Nat} {v w : Int} (ha : Iz k a v) (hz : Iz k z w) (h : w ≤ v) : fleB .f32 z (upW a) = true := by
  obtain ⟨d1, d2, _⟩ := up_key ha.1 ha.num
  have d3 := up_ge ha.1 ha.num
  rw [fle_key .f32 hz.num d2]
  have := iz_le hz ha
  rw [fle_key .f32 hz.num ha.num, decide_eq_true h] at this
  have := of_decide_eq_true this
  exact decide_eq_true (by omega)
theorem out_mid {k a b : Nat} {v w : Int} (ha : Iz k a v) (hb : Iz k b w) (h : v ≤ w) : fleB .f32 (dnW a) (upW b) = true := by
  obtain ⟨d1, d2, d3⟩ := dn_le ha.1 ha.num
  obtain ⟨u1, u2, _⟩ := up_key hb.1 hb.num
  have u3 := up_ge hb.1 hb.num
  rw [fle_key .f32 d2 u2]
  have := iz_le ha hb
  rw [fle_key .f32 ha.num hb.num, decide_eq_true h] at this
  have := of_decide_eq_true this
  exact decide_eq_true (by omega)
theorem le_t {k x y : Nat} {v w : Int} (hx : Iz k x v) (hy : Iz k y w) (h : v ≤ w) : fleB .f32 x y = true := by rw [iz_le hx hy]; exact decide_eq_true h
theorem le_f {k x y : Nat} {v w : Int} (hx : Iz k x v) (hy : Iz k y w) (h : ¬ v ≤ w) : fleB .f32 x y = false := by rw [iz_le hx hy]; exact decide_eq_false h
theorem lt_t {k x y : Nat} {v w : Int} (hx : Iz k x v) (hy : Iz k y w) (h : v < w) : fltB .f32 x y = true := by rw [iz_lt hx hy]; exact decide_eq_true h
theorem lt_f {k x y : Nat} {v w : Int} (hx : Iz k x v) (hy : Iz k y w) (h : ¬ v < w) : fltB .f32 x y = false := by rw [iz_lt hx hy]; exact decide_eq_false h
/-- The lesser one, the greater one. -/
theorem iz_min {k x y : Nat} {v w : Int} (hx : Iz k x v) (hy : Iz k y w) : ∃ u, Iz k (cond (fltB .f32 y x) y x) u ∧ u ≤ v ∧ u ≤ w ∧ (u = v ∨ u = w) := by
  rw [iz_lt hy hx]
  by_cases h : w < v
  · rw [decide_eq_true h]; exact ⟨w, hy, by omega, by omega, Or.inr rfl⟩
  · rw [decide_eq_false h]; exact ⟨v, hx, by omega, by omega, Or.inl rfl⟩
theorem iz_max {k x y : Nat} {v w : Int} (hx : Iz k x v) (hy : Iz k y w) : ∃ u, Iz k (cond (fltB .f32 x y) y x) u ∧ v ≤ u ∧ w ≤ u ∧ (u = v ∨ u = w) := by
  rw [iz_lt hx hy]
  by_cases h : v < w
  · rw [decide_eq_true h]; exact ⟨w, hy, by omega, by omega, Or.inr rfl⟩
  · rw [decide_eq_false h]; exact ⟨v, hx, by omega, by omega, Or.inl rfl⟩
theorem iz_mlL {k p q r s : Nat} {a b c d : Int} (hp : Iz k p a) (hq : Iz k q b) (hr : Iz k r c) (hs : Iz k s d) : ∃ u, Iz k (mlL p q r s) u ∧ u ≤ a ∧ u ≤ b ∧ u ≤ c ∧ u ≤ d := by
  obtain ⟨u1, g1, a1, a2, _⟩ := iz_min hp hq
  obtain ⟨u2, g2, b1, b2, _⟩ := iz_min g1 hr
  obtain ⟨u3, g3, c1, c2, _⟩ := iz_min g2 hs
  exact ⟨u3, g3, by omega, by omega, by omega, c2⟩
theorem iz_mlH {k p q r s : Nat} {a b c d : Int} (hp : Iz k p a) (hq : Iz k q b) (hr : Iz k r c) (hs : Iz k s d) : ∃ u, Iz k (mlH p q r s) u ∧ a ≤ u ∧ b ≤ u ∧ c ≤ u ∧ d ≤ u := by
  obtain ⟨u1, g1, a1, a2, _⟩ := iz_max hp hq
  obtain ⟨u2, g2, b1, b2, _⟩ := iz_max g1 hr
  obtain ⟨u3, g3, c1, c2, _⟩ := iz_max g2 hs
  exact ⟨u3, g3, by omega, by omega, by omega, c2⟩
theorem lin_lo {a l h y v : Int} (h1 : l ≤ y) (h2 : y ≤ h) (v1 : v ≤ a * l) (v2 : v ≤ a * h) : v ≤ a * y := by
  rcases Int.le_total 0 a with g | g
  · exact Int.le_trans v1 (Int.mul_le_mul_of_nonneg_left h1 g)
  · exact Int.le_trans v2 (Int.mul_le_mul_of_nonpos_left g h2)
theorem lin_hi {a l h y v : Int} (h1 : l ≤ y) (h2 : y ≤ h) (v1 : a * l ≤ v) (v2 : a * h ≤ v) : a * y ≤ v := by
  rcases Int.le_total 0 a with g | g
  · exact Int.le_trans (Int.mul_le_mul_of_nonneg_left h2 g) v2
  · exact Int.le_trans (Int.mul_le_mul_of_nonpos_left g h1) v1
theorem bi_lo {l1 h1 x l2 h2 y v : Int} (a1 : l1 ≤ x) (a2 : x ≤ h1) (b1 : l2 ≤ y) (b2 : y ≤ h2) (v1 : v ≤ l1 * l2) (v2 : v ≤ l1 * h2) (v3 : v ≤ h1 * l2) (v4 : v ≤ h1 * h2) : v ≤ x * y := by
  have c1 := lin_lo b1 b2 v1 v2
  have c2 := lin_lo b1 b2 v3 v4
  rw [Int.mul_comm] at c1 c2
  rw [Int.mul_comm]
  exact lin_lo a1 a2 c1 c2
theorem bi_hi {l1 h1 x l2 h2 y v : Int} (a1 : l1 ≤ x) (a2 : x ≤ h1) (b1 : l2 ≤ y) (b2 : y ≤ h2) (v1 : l1 * l2 ≤ v) (v2 : l1 * h2 ≤ v) (v3 : h1 * l2 ≤ v) (v4 : h1 * h2 ≤ v) : x * y ≤ v := by
  have c1 := lin_hi b1 b2 v1 v2
  have c2 := lin_hi b1 b2 v3 v4
  rw [Int.mul_comm] at c1 c2
  rw [Int.mul_comm]
  exact lin_hi a1 a2 c1 c2
theorem abs_mul {a b : Int} (ha : -1536 ≤ a ∧ a ≤ 1536) (hb : -1536 ≤ b ∧ b ≤ 1536) : (a * b).natAbs < 16777216 := by
  rw [Int.natAbs_mul]
  have h1 : a.natAbs ≤ 1536 := by omega
  have h2 : b.natAbs ≤ 1536 := by omega
  exact Nat.lt_of_le_of_lt (Nat.mul_le_mul h1 h2) (by decide)
theorem dn_num {k a : Nat} {v : Int} (ha : Iz k a v) : feqB .f32 (dnW a) (dnW a) = true := feq_num (dn_le ha.1 ha.num).2.1
theorem up_num {k a : Nat} {v : Int} (ha : Iz k a v) : feqB .f32 (upW a) (upW a) = true := feq_num (up_key ha.1 ha.num).2.1
theorem fin_iz {k a : Nat} {v : Int} (ha : Iz k a v) : finF a = true := by unfold finF; exact decide_eq_true ha.2.1
theorem one_one : feqB .f32 1065353216 1065353216 = true := feq_num (by rw [nan32]; decide)
theorem zero_one : feqB .f32 0 1065353216 = false := by rw [feqB_eq]; decide +kernel
theorem one_zero : feqB .f32 1065353216 0 = false := by rw [feqB_eq]; decide +kernel
theorem zero_zero : feqB .f32 0 0 = true := feq_num (by rw [nan32]; decide)
noncomputable def VF (A L1 H1 X L2 H2 Y : Nat) : Bool := bif bif !decide (nbF (upW A) = nbF (upW A)) then true else bif !decide (nbF (fneg .f32 (upW (fneg .f32 A))) = nbF (fneg .f32 (upW (fneg .f32 A)))) then true else bif fltB .f32 (upW A) A then true else bif fltB .f32 A (fneg .f32 (upW (fneg .f32 A))) then true else bif feqB .f32 A A then bif feqB .f32 (upW A) (fneg .f32 (upW (fneg .f32 A))) then !!feqB .f32 (fop .sub .f32 A A) (fop .sub .f32 A A) else false else false then false else bif bif !bif fleB .f32 L1 H1 then bif fleB .f32 L1 X then fleB .f32 X H1 else false else false then true else bif !bif fleB .f32 L2 H2 then bif fleB .f32 L2 Y then fleB .f32 Y H2 else false else false then true else bif !bif fleB .f32 (dnW (fop .add .f32 L1 L2)) (upW (fop .add .f32 H1 H2)) then bif fleB .f32 (dnW (fop .add .f32 L1 L2)) (fop .add .f32 X Y) then fleB .f32 (fop .add .f32 X Y) (upW (fop .add .f32 H1 H2)) else false else false then true else bif !bif fleB .f32 (dnW (fop .sub .f32 L1 H2)) (upW (fop .sub .f32 H1 L2)) then bif fleB .f32 (dnW (fop .sub .f32 L1 H2)) (fop .sub .f32 X Y) then fleB .f32 (fop .sub .f32 X Y) (upW (fop .sub .f32 H1 L2)) else false else false then true else !bif fleB .f32 (dnW (mlL (fop .mul .f32 L1 L2) (fop .mul .f32 L1 H2) (fop .mul .f32 H1 L2) (fop .mul .f32 H1 H2))) (upW (mlH (fop .mul .f32 L1 L2) (fop .mul .f32 L1 H2) (fop .mul .f32 H1 L2) (fop .mul .f32 H1 H2))) then bif fleB .f32 (dnW (mlL (fop .mul .f32 L1 L2) (fop .mul .f32 L1 H2) (fop .mul .f32 H1 L2) (fop .mul .f32 H1 H2))) (fop .mul .f32 X Y) then fleB .f32 (fop .mul .f32 X Y) (upW (mlH (fop .mul .f32 L1 L2) (fop .mul .f32 L1 H2) (fop .mul .f32 H1 L2) (fop .mul .f32 H1 H2))) else false else false then false else bif bif !bif feqB .f32 (dnW (mlL (fop .mul .f32 L1 L2) (fop .mul .f32 L1 H2) (fop .mul .f32 H1 L2) (fop .mul .f32 H1 H2))) (dnW (mlL (fop .mul .f32 L1 L2) (fop .mul .f32 L1 H2) (fop .mul .f32 H1 L2) (fop .mul .f32 H1 H2))) then bif feqB .f32 (upW (mlH (fop .mul .f32 L1 L2) (fop .mul .f32 L1 H2) (fop .mul .f32 H1 L2) (fop .mul .f32 H1 H2))) (upW (mlH (fop .mul .f32 L1 L2) (fop .mul .f32 L1 H2) (fop .mul .f32 H1 L2) (fop .mul .f32 H1 H2))) then true else false else false then true else bif !feqB .f32 (fop .sub .f32 H1 L1) (fop .sub .f32 H1 L1) then true else fltB .f32 (fop .sub .f32 H1 L1) 0 then false else bif bif !bif fleB .f32 (jL L1 L2) (jH H1 H2) then bif fleB .f32 (jL L1 L2) X then fleB .f32 X (jH H1 H2) else false else false then true else bif !bif fleB .f32 (jL L1 L2) (jH H1 H2) then bif fleB .f32 (jL L1 L2) Y then fleB .f32 Y (jH H1 H2) else false else false then true else bif bif fleB .f32 L1 H1 then bif fleB .f32 L1 Y then fleB .f32 Y H1 else false else false then bif (bif !fleB .f32 (mL L1 L2) (mH H1 H2) then Int.ofNat 6 else Int.ofNat 0) != Int.ofNat 0 then true else !bif fleB .f32 (bif !fleB .f32 (mL L1 L2) (mH H1 H2) then 0 else mL L1 L2) (bif !fleB .f32 (mL L1 L2) (mH H1 H2) then 0 else mH H1 H2) then bif fleB .f32 (bif !fleB .f32 (mL L1 L2) (mH H1 H2) then 0 else mL L1 L2) Y then fleB .f32 Y (bif !fleB .f32 (mL L1 L2) (mH H1 H2) then 0 else mH H1 H2) else false else false else false then false else bif bif decide ((bif !fleB .f32 (mL L1 L2) (mH H1 H2) then Int.ofNat 6 else Int.ofNat 0) = Int.ofNat 0) then bif !bif fleB .f32 L1 H1 then bif fleB .f32 L1 (bif !fleB .f32 (mL L1 L2) (mH H1 H2) then 0 else mL L1 L2) then fleB .f32 (bif !fleB .f32 (mL L1 L2) (mH H1 H2) then 0 else mL L1 L2) H1 else false else false then true else bif !bif fleB .f32 L2 H2 then bif fleB .f32 L2 (bif !fleB .f32 (mL L1 L2) (mH H1 H2) then 0 else mL L1 L2) then fleB .f32 (bif !fleB .f32 (mL L1 L2) (mH H1 H2) then 0 else mL L1 L2) H2 else false else false then true else bif !bif fleB .f32 L1 H1 then bif fleB .f32 L1 (bif !fleB .f32 (mL L1 L2) (mH H1 H2) then 0 else mH H1 H2) then fleB .f32 (bif !fleB .f32 (mL L1 L2) (mH H1 H2) then 0 else mH H1 H2) H1 else false else false then true else !bif fleB .f32 L2 H2 then bif fleB .f32 L2 (bif !fleB .f32 (mL L1 L2) (mH H1 H2) then 0 else mH H1 H2) then fleB .f32 (bif !fleB .f32 (mL L1 L2) (mH H1 H2) then 0 else mH H1 H2) H2 else false else false else false then false else bif !feqB .f32 (sL L1 H1 L2 H2) 1065353216 then bif !feqB .f32 (sH L1 H1 L2 H2) 0 then bif decide ((bif !fleB .f32 (mL L1 L2) (mH H1 H2) then Int.ofNat 6 else Int.ofNat 0) = Int.ofNat 0) then true else bif decide ((bif !fleB .f32 (mL L1 L2) (mH H1 H2) then Int.ofNat 6 else Int.ofNat 0) = Int.ofNat 6) then bif fltB .f32 H1 L2 then true else fltB .f32 H2 L1 else false else bif fleB .f32 Y X then bif decide ((bif !fleB .f32 (mL L1 L2) (mH H1 H2) then Int.ofNat 6 else Int.ofNat 0) = Int.ofNat 0) then true else bif decide ((bif !fleB .f32 (mL L1 L2) (mH H1 H2) then Int.ofNat 6 else Int.ofNat 0) = Int.ofNat 6) then bif fltB .f32 H1 L2 then true else fltB .f32 H2 L1 else false else false else bif fltB .f32 X Y then bif !feqB .f32 (sH L1 H1 L2 H2) 0 then bif decide ((bif !fleB .f32 (mL L1 L2) (mH H1 H2) then Int.ofNat 6 else Int.ofNat 0) = Int.ofNat 0) then true else bif decide ((bif !fleB .f32 (mL L1 L2) (mH H1 H2) then Int.ofNat 6 else Int.ofNat 0) = Int.ofNat 6) then bif fltB .f32 H1 L2 then true else fltB .f32 H2 L1 else false else bif fleB .f32 Y X then bif decide ((bif !fleB .f32 (mL L1 L2) (mH H1 H2) then Int.ofNat 6 else Int.ofNat 0) = Int.ofNat 0) then true else bif decide ((bif !fleB .f32 (mL L1 L2) (mH H1 H2) then Int.ofNat 6 else Int.ofNat 0) = Int.ofNat 6) then bif fltB .f32 H1 L2 then true else fltB .f32 H2 L1 else false else false else false
noncomputable def NF (n m : Nat) (A L1 H1 X L2 H2 Y : Nat) : Bool := (bif bif andN true ((Nat.add 0 n).ble n) then true else false then ndc (bif !decide (nbF (upW A) = nbF (upW A)) then true else bif !decide (nbF (fneg .f32 (upW (fneg .f32 A))) = nbF (fneg .f32 (upW (fneg .f32 A)))) then true else bif fltB .f32 (upW A) A then true else bif fltB .f32 A (fneg .f32 (upW (fneg .f32 A))) then true else bif feqB .f32 A A then bif feqB .f32 (upW A) (fneg .f32 (upW (fneg .f32 A))) then !!feqB .f32 (fop .sub .f32 A A) (fop .sub .f32 A A) else false else false) true (bif bif andN (andN (andN (andN (andN (andN (andN (andN true ((Nat.add 0 n).ble n)) ((Nat.add 0 m).ble m)) ((Nat.add 0 m).ble m)) ((Nat.add 0 n).ble n)) (fleB .f32 L1 H1 && fleB .f32 L2 H2 && !nanB .f32 (fop .add .f32 L1 L2) && !nanB .f32 (fop .add .f32 H1 H2))) (fleB .f32 L1 H1 && fleB .f32 L2 H2 && !nanB .f32 (fop .sub .f32 L1 H2) && !nanB .f32 (fop .sub .f32 H1 L2))) (fleB .f32 L1 H1 && fleB .f32 L2 H2 && !nanB .f32 (fop .mul .f32 L1 L2) && !nanB .f32 (fop .mul .f32 L1 H2) && !nanB .f32 (fop .mul .f32 H1 L2) && !nanB .f32 (fop .mul .f32 H1 H2))) (fleB .f32 L1 H1) then true else false then ndc (bif !bif fleB .f32 L1 H1 then bif fleB .f32 L1 X then fleB .f32 X H1 else false else false then true else bif !bif fleB .f32 L2 H2 then bif fleB .f32 L2 Y then fleB .f32 Y H2 else false else false then true else bif !bif fleB .f32 (dnW (fop .add .f32 L1 L2)) (upW (fop .add .f32 H1 H2)) then bif fleB .f32 (dnW (fop .add .f32 L1 L2)) (fop .add .f32 X Y) then fleB .f32 (fop .add .f32 X Y) (upW (fop .add .f32 H1 H2)) else false else false then true else bif !bif fleB .f32 (dnW (fop .sub .f32 L1 H2)) (upW (fop .sub .f32 H1 L2)) then bif fleB .f32 (dnW (fop .sub .f32 L1 H2)) (fop .sub .f32 X Y) then fleB .f32 (fop .sub .f32 X Y) (upW (fop .sub .f32 H1 L2)) else false else false then true else !bif fleB .f32 (dnW (mlL (fop .mul .f32 L1 L2) (fop .mul .f32 L1 H2) (fop .mul .f32 H1 L2) (fop .mul .f32 H1 H2))) (upW (mlH (fop .mul .f32 L1 L2) (fop .mul .f32 L1 H2) (fop .mul .f32 H1 L2) (fop .mul .f32 H1 H2))) then bif fleB .f32 (dnW (mlL (fop .mul .f32 L1 L2) (fop .mul .f32 L1 H2) (fop .mul .f32 H1 L2) (fop .mul .f32 H1 H2))) (fop .mul .f32 X Y) then fleB .f32 (fop .mul .f32 X Y) (upW (mlH (fop .mul .f32 L1 L2) (fop .mul .f32 L1 H2) (fop .mul .f32 H1 L2) (fop .mul .f32 H1 H2))) else false else false) true (bif bif andN (andN true (fleB .f32 L1 H1 && fleB .f32 L2 H2 && !nanB .f32 (fop .mul .f32 L1 L2) && !nanB .f32 (fop .mul .f32 L1 H2) && !nanB .f32 (fop .mul .f32 H1 L2) && !nanB .f32 (fop .mul .f32 H1 H2))) (fleB .f32 L1 H1 && finF (fop .sub .f32 H1 L1)) then true else false then ndc (bif !bif feqB .f32 (dnW (mlL (fop .mul .f32 L1 L2) (fop .mul .f32 L1 H2) (fop .mul .f32 H1 L2) (fop .mul .f32 H1 H2))) (dnW (mlL (fop .mul .f32 L1 L2) (fop .mul .f32 L1 H2) (fop .mul .f32 H1 L2) (fop .mul .f32 H1 H2))) then bif feqB .f32 (upW (mlH (fop .mul .f32 L1 L2) (fop .mul .f32 L1 H2) (fop .mul .f32 H1 L2) (fop .mul .f32 H1 H2))) (upW (mlH (fop .mul .f32 L1 L2) (fop .mul .f32 L1 H2) (fop .mul .f32 H1 L2) (fop .mul .f32 H1 H2))) then true else false else false then true else bif !feqB .f32 (fop .sub .f32 H1 L1) (fop .sub .f32 H1 L1) then true else fltB .f32 (fop .sub .f32 H1 L1) 0) true (bif bif andN (andN true (fleB .f32 L1 H1 && fleB .f32 L2 H2)) (fleB .f32 L1 H1 && fleB .f32 L2 H2) then true else false then ndc (bif !bif fleB .f32 (jL L1 L2) (jH H1 H2) then bif fleB .f32 (jL L1 L2) X then fleB .f32 X (jH H1 H2) else false else false then true else bif !bif fleB .f32 (jL L1 L2) (jH H1 H2) then bif fleB .f32 (jL L1 L2) Y then fleB .f32 Y (jH H1 H2) else false else false then true else bif bif fleB .f32 L1 H1 then bif fleB .f32 L1 Y then fleB .f32 Y H1 else false else false then bif (bif !fleB .f32 (mL L1 L2) (mH H1 H2) then Int.ofNat 6 else Int.ofNat 0) != Int.ofNat 0 then true else !bif fleB .f32 (bif !fleB .f32 (mL L1 L2) (mH H1 H2) then 0 else mL L1 L2) (bif !fleB .f32 (mL L1 L2) (mH H1 H2) then 0 else mH H1 H2) then bif fleB .f32 (bif !fleB .f32 (mL L1 L2) (mH H1 H2) then 0 else mL L1 L2) Y then fleB .f32 Y (bif !fleB .f32 (mL L1 L2) (mH H1 H2) then 0 else mH H1 H2) else false else false else false) true (ndc (bif decide ((bif !fleB .f32 (mL L1 L2) (mH H1 H2) then Int.ofNat 6 else Int.ofNat 0) = Int.ofNat 0) then bif !bif fleB .f32 L1 H1 then bif fleB .f32 L1 (bif !fleB .f32 (mL L1 L2) (mH H1 H2) then 0 else mL L1 L2) then fleB .f32 (bif !fleB .f32 (mL L1 L2) (mH H1 H2) then 0 else mL L1 L2) H1 else false else false then true else bif !bif fleB .f32 L2 H2 then bif fleB .f32 L2 (bif !fleB .f32 (mL L1 L2) (mH H1 H2) then 0 else mL L1 L2) then fleB .f32 (bif !fleB .f32 (mL L1 L2) (mH H1 H2) then 0 else mL L1 L2) H2 else false else false then true else bif !bif fleB .f32 L1 H1 then bif fleB .f32 L1 (bif !fleB .f32 (mL L1 L2) (mH H1 H2) then 0 else mH H1 H2) then fleB .f32 (bif !fleB .f32 (mL L1 L2) (mH H1 H2) then 0 else mH H1 H2) H1 else false else false then true else !bif fleB .f32 L2 H2 then bif fleB .f32 L2 (bif !fleB .f32 (mL L1 L2) (mH H1 H2) then 0 else mH H1 H2) then fleB .f32 (bif !fleB .f32 (mL L1 L2) (mH H1 H2) then 0 else mH H1 H2) H2 else false else false else false) true (bif bif andN true (fleB .f32 L1 H1 && fleB .f32 L2 H2) then true else false then true else false)) else false) else false) else false) else false)
theorem up_dn' {a : Nat} (hw : a < 4294967296) : (cond (feqB .f32 a a) (cond (feqB .f32 (upW a) (fneg .f32 (upW (fneg .f32 a)))) (!!feqB .f32 (fop .sub .f32 a a) (fop .sub .f32 a a)) false) false) = false := by
  have h := up_dn hw
  unfold dnW at h
  generalize feqB .f32 a a = x at *
  generalize feqB .f32 (upW a) (fneg .f32 (upW (fneg .f32 a))) = y at *
  generalize feqB .f32 (fop .sub .f32 a a) (fop .sub .f32 a a) = z at *
  cases x <;> cases y <;> cases z <;> simp_all
set_option maxHeartbeats 4000000 in
theorem form_true {n m A L1 H1 X L2 H2 Y : Nat} {l1 h1 x l2 h2 y : Int} (hA : A < 4294967296) (i1 : Iz 7 L1 l1) (i2 : Iz 7 H1 h1) (i3 : Iz 7 X x) (i4 : Iz 7 L2 l2) (i5 : Iz 7 H2 h2) (i6 : Iz 7 Y y)
    (r1 : -1024 ≤ l1) (r2 : l1 ≤ x) (r3 : x ≤ h1) (r4 : h1 ≤ 1536) (r5 : -1024 ≤ l2) (r6 : l2 ≤ y) (r7 : y ≤ h2) (r8 : h2 ≤ 1536) : VF A L1 H1 X L2 H2 Y = true ∧ NF n m A L1 H1 X L2 H2 Y = true := by
  have a1 := up_flt hA
  have a2 := dn_flt hA
  unfold dnW at a2
  have a3 : feqB .f32 A A = false ∨ feqB .f32 (upW A) (fneg .f32 (upW (fneg .f32 A))) = false ∨ feqB .f32 (fop .sub .f32 A A) (fop .sub .f32 A A) = false := by
    have h := up_dn' hA
    revert h
    generalize feqB .f32 A A = u
    generalize feqB .f32 (upW A) (fneg .f32 (upW (fneg .f32 A))) = v
    generalize feqB .f32 (fop .sub .f32 A A) (fop .sub .f32 A A) = z
    cases u <;> cases v <;> cases z <;> simp
  have e1 := le_t i1 i2 (by omega)
  have e2 := le_t i1 i3 (by omega)
  have e3 := le_t i3 i2 (by omega)
  have e4 := le_t i4 i5 (by omega)
  have e5 := le_t i4 i6 (by omega)
  have e6 := le_t i6 i5 (by omega)
  have p1 := iz_add i1 i4 (by omega) (by decide)
  have p2 := iz_add i2 i5 (by omega) (by decide)
  have p3 := iz_add i3 i6 (by omega) (by decide)
  have s1 := out_mid p1 p2 (by omega)
  have s2 := out_lo p1 p3 (by omega)
  have s3 := out_hi p2 p3 (by omega)
  have m1 := iz_sub i1 i5 (by omega) (by decide)
  have m2 := iz_sub i2 i4 (by omega) (by decide)
  have m3 := iz_sub i3 i6 (by omega) (by decide)
  have s4 := out_mid m1 m2 (by omega)
  have s5 := out_lo m1 m3 (by omega)
  have s6 := out_hi m2 m3 (by omega)
  have t1 := iz_mul i1 i4 (abs_mul ⟨by omega, by omega⟩ ⟨by omega, by omega⟩) (by decide)
  have t2 := iz_mul i1 i5 (abs_mul ⟨by omega, by omega⟩ ⟨by omega, by omega⟩) (by decide)
  have t3 := iz_mul i2 i4 (abs_mul ⟨by omega, by omega⟩ ⟨by omega, by omega⟩) (by decide)
  have t4 := iz_mul i2 i5 (abs_mul ⟨by omega, by omega⟩ ⟨by omega, by omega⟩) (by decide)
  have t5 := iz_mul i3 i6 (abs_mul ⟨by omega, by omega⟩ ⟨by omega, by omega⟩) (by decide)
  obtain ⟨ul, gl, ul1, ul2, ul3, ul4⟩ := iz_mlL t1 t2 t3 t4
  obtain ⟨uh, gh, uh1, uh2, uh3, uh4⟩ := iz_mlH t1 t2 t3 t4
  have s7 := out_mid gl gh (by omega)
  have s8 := out_lo gl t5 (bi_lo r2 r3 r6 r7 ul1 ul2 ul3 ul4)
  have s9 := out_hi gh t5 (bi_hi r2 r3 r6 r7 uh1 uh2 uh3 uh4)
  have f1 := dn_num gl
  have f2 := up_num gh
  have w1 := iz_sub i2 i1 (by omega) (by decide)
  have f3 := feq_num w1.num
  have z0 : Iz 7 0 0 := ⟨by decide, by decide, by rw [Int.zero_mul]; decide +kernel⟩
  have f4 := lt_f w1 z0 (by omega)
  have f5 := fin_iz w1
  obtain ⟨ja, jaI, ja1, ja2, ja3⟩ := iz_min i1 i4
  obtain ⟨jb, jbI, jb1, jb2, jb3⟩ := iz_max i2 i5
  obtain ⟨ma, maI, ma1, ma2, ma3⟩ := iz_max i1 i4
  obtain ⟨mb, mbI, mb1, mb2, mb3⟩ := iz_min i2 i5
  have jaI : Iz 7 (jL L1 L2) ja := jaI
  have jbI : Iz 7 (jH H1 H2) jb := jbI
  have maI : Iz 7 (mL L1 L2) ma := maI
  have mbI : Iz 7 (mH H1 H2) mb := mbI
  have j1 := le_t jaI jbI (by omega)
  have j2 := le_t jaI i3 (by omega)
  have j3 := le_t i3 jbI (by omega)
  have j4 := le_t jaI i6 (by omega)
  have j5 := le_t i6 jbI (by omega)
  have q1 := p1.num
  have q2 := p2.num
  have q3 := m1.num
  have q4 := m2.num
  have q5 := t1.num
  have q6 := t2.num
  have q7 := t3.num
  have q8 := t4.num
  have n1 : (Nat.add 0 n).ble n = true := by rw [show Nat.add 0 n = n from Nat.zero_add n]; exact Nat.ble_eq_true_of_le (Nat.le_refl _)
  have n2 : (Nat.add 0 m).ble m = true := by rw [show Nat.add 0 m = m from Nat.zero_add m]; exact Nat.ble_eq_true_of_le (Nat.le_refl _)
  by_cases hM : ma ≤ mb
  · have c0 := le_t maI mbI hM
    have d1 := le_t i1 maI (by omega)
    have d2 := le_t maI i2 (by omega)
    have d3 := le_t i4 maI (by omega)
    have d4 := le_t maI i5 (by omega)
    have d5 := le_t i1 mbI (by omega)
    have d6 := le_t mbI i2 (by omega)
    have d7 := le_t i4 mbI (by omega)
    have d8 := le_t mbI i5 (by omega)
    have b1 := lt_f i2 i4 (by omega)
    have g1 : fleB .f32 L1 Y = false ∨ fleB .f32 Y H1 = false ∨ (fleB .f32 (mL L1 L2) Y = true ∧ fleB .f32 Y (mH H1 H2) = true) := by
      by_cases k1 : l1 ≤ y
      · by_cases k2 : y ≤ h1
        · exact Or.inr (Or.inr ⟨le_t maI i6 (by omega), le_t i6 mbI (by omega)⟩)
        · exact Or.inr (Or.inl (le_f i6 i2 k2))
      · exact Or.inl (le_f i1 i6 k1)
    by_cases hL : h2 ≤ l1
    · have b2 := le_t i5 i1 hL
      have b3 := le_t i6 i3 (by omega)
      have b5 := lt_f i3 i6 (by omega)
      constructor
      · unfold VF; unfold sL sH; rcases a3 with a3 | a3 | a3 <;> rcases g1 with g1 | g1 | ⟨g1, g2⟩ <;> simp_all [a1, a2, a3, e1, e2, e3, e4, e5, e6, s1, s2, s3, s4, s5, s6, s7, s8, s9, f1, f2, f3, f4, f5, j1, j2, j3, j4, j5, q1, q2, q3, q4, q5, q6, q7, q8, ndc_eq, andN, g1, c0, d1, d2, d3, d4, d5, d6, d7, d8, b1, b2, b3, b5, one_one, zero_one, one_zero, zero_zero]
      · unfold NF; simp only [n1, n2]; clear n1 n2; rcases a3 with a3 | a3 | a3 <;> rcases g1 with g1 | g1 | ⟨g1, g2⟩ <;> simp_all [a1, a2, a3, e1, e2, e3, e4, e5, e6, s1, s2, s3, s4, s5, s6, s7, s8, s9, f1, f2, f3, f4, f5, j1, j2, j3, j4, j5, q1, q2, q3, q4, q5, q6, q7, q8, ndc_eq, andN, g1, c0, d1, d2, d3, d4, d5, d6, d7, d8]
    · have b2 := le_f i5 i1 hL
      constructor
      · unfold VF; unfold sL sH; rcases a3 with a3 | a3 | a3 <;> rcases g1 with g1 | g1 | ⟨g1, g2⟩ <;> simp_all [a1, a2, a3, e1, e2, e3, e4, e5, e6, s1, s2, s3, s4, s5, s6, s7, s8, s9, f1, f2, f3, f4, f5, j1, j2, j3, j4, j5, q1, q2, q3, q4, q5, q6, q7, q8, ndc_eq, andN, g1, c0, d1, d2, d3, d4, d5, d6, d7, d8, b1, b2, one_one, zero_one, one_zero, zero_zero]
      · unfold NF; simp only [n1, n2]; clear n1 n2; rcases a3 with a3 | a3 | a3 <;> rcases g1 with g1 | g1 | ⟨g1, g2⟩ <;> simp_all [a1, a2, a3, e1, e2, e3, e4, e5, e6, s1, s2, s3, s4, s5, s6, s7, s8, s9, f1, f2, f3, f4, f5, j1, j2, j3, j4, j5, q1, q2, q3, q4, q5, q6, q7, q8, ndc_eq, andN, g1, c0, d1, d2, d3, d4, d5, d6, d7, d8]
  · have c0 := le_f maI mbI hM
    have g1 : fleB .f32 L1 Y = false ∨ fleB .f32 Y H1 = false := by
      by_cases k1 : l1 ≤ y
      · exact Or.inr (le_f i6 i2 (by omega))
      · exact Or.inl (le_f i1 i6 k1)
    rcases (show h1 < l2 ∨ ¬ h1 < l2 ∧ h2 < l1 by omega) with hL | ⟨hL, hR⟩
    · have b1 := lt_t i2 i4 hL
      have b3 := lt_t i3 i6 (by omega)
      constructor
      · unfold VF; unfold sL sH; rcases a3 with a3 | a3 | a3 <;> rcases g1 with g1 | g1 <;> simp [a1, a2, a3, e1, e2, e3, e4, e5, e6, s1, s2, s3, s4, s5, s6, s7, s8, s9, f1, f2, f3, f4, f5, j1, j2, j3, j4, j5, q1, q2, q3, q4, q5, q6, q7, q8, ndc_eq, andN, g1, c0, b1, b3, one_one, zero_one, one_zero, zero_zero]
      · unfold NF; simp only [n1, n2]; clear n1 n2; rcases a3 with a3 | a3 | a3 <;> rcases g1 with g1 | g1 <;> simp [a1, a2, a3, e1, e2, e3, e4, e5, e6, s1, s2, s3, s4, s5, s6, s7, s8, s9, f1, f2, f3, f4, f5, j1, j2, j3, j4, j5, q1, q2, q3, q4, q5, q6, q7, q8, ndc_eq, andN, g1, c0]
    · have b1 := lt_f i2 i4 hL
      have b2 := le_t i5 i1 (by omega)
      have b3 := le_t i6 i3 (by omega)
      have b4 := lt_t i5 i1 hR
      have b5 := lt_f i3 i6 (by omega)
      constructor
      · unfold VF; unfold sL sH; rcases a3 with a3 | a3 | a3 <;> rcases g1 with g1 | g1 <;> simp [a1, a2, a3, e1, e2, e3, e4, e5, e6, s1, s2, s3, s4, s5, s6, s7, s8, s9, f1, f2, f3, f4, f5, j1, j2, j3, j4, j5, q1, q2, q3, q4, q5, q6, q7, q8, ndc_eq, andN, g1, c0, b1, b2, b3, b4, b5, one_one, zero_one, one_zero, zero_zero]
      · unfold NF; simp only [n1, n2]; clear n1 n2; rcases a3 with a3 | a3 | a3 <;> rcases g1 with g1 | g1 <;> simp [a1, a2, a3, e1, e2, e3, e4, e5, e6, s1, s2, s3, s4, s5, s6, s7, s8, s9, f1, f2, f3, f4, f5, j1, j2, j3, j4, j5, q1, q2, q3, q4, q5, q6, q7, q8, ndc_eq, andN, g1, c0]
end Go.Proofs.Ytgamhlhnegblfaa.ab
