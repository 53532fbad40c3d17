import Derived.Test.YtgamhlhnegblfaaBs2
namespace Go.Proofs.Ytgamhlhnegblfaa.ab
open Go Go.Ab Go.Proofs Go.RowKit
set_option linter.unusedVariables false
set_option linter.unusedSimpArgs false
theorem w64_id {t : Int} (h0 : 0 ≤ t) (h : t < 9223372036854775808) : IntKind.i64.wrap t = t := by
  unfold IntKind.wrap
  simp [IntKind.bits, IntKind.signed]
  omega
theorem w64_idn {t : Int} (h0 : -9223372036854775808 ≤ t) (h : t < 9223372036854775808) : IntKind.i64.wrap t = t := by
  unfold IntKind.wrap
  simp [IntKind.bits, IntKind.signed]
  omega
theorem u64_id {t : Int} (h0 : 0 ≤ t) (h : t < 18446744073709551616) : IntKind.u64.wrap t = t := by
  unfold IntKind.wrap
  simp [IntKind.bits, IntKind.signed]
  omega
theorem low8 (s : Int) : (BitVec.ofInt 64 s &&& BitVec.ofInt 64 (Int.ofNat 255)).toNat ≤ 255 := by
  rw [BitVec.toNat_and]
  exact Nat.le_trans Nat.and_le_right (by decide)
/-- A byte, or what stands for one behind the end. -/
theorem drawn_nn {c1 c2 : Bool} {g s : Int} (hg : 0 ≤ g ∧ g ≤ 255 ∨ c2 = false) :
    0 ≤ (cond c1 (cond c2 (IntKind.i64.wrap g) (Int.ofNat 0)) (IntKind.i64.wrap (IntKind.u64.wrap (Int.ofNat (BitVec.ofInt 64 s &&& BitVec.ofInt 64 (Int.ofNat 255)).toNat)))) := by
  cases c1
  · have h := low8 s
    simp only [cond_false, Int.ofNat_eq_natCast] at h ⊢
    rw [u64_id (by omega) (by omega), w64_id (by omega) (by omega)]; omega
  · cases c2
    · simp
    · rcases hg with hg | hg
      · simp only [cond_true]
        rw [w64_id (by omega) (by omega)]; omega
      · cases hg
theorem tmod_rng {z : Int} (h : 0 ≤ z) {m : Int} (hm : 0 < m) : 0 ≤ z.tmod m ∧ z.tmod m < m := ⟨Int.tmod_nonneg m h, Int.tmod_lt_of_pos z hm⟩
theorem iz_coarse {k x : Nat} {v : Int} (j : Nat) (hx : Iz (k + j) x (v * ((2 ^ j : Nat) : Int))) (h : k + j ≤ 149) : Iz k x v := by
  refine ⟨hx.1, hx.2.1, ?_⟩
  rw [hx.2.2, Int.mul_assoc, ← Int.natCast_mul, ← Nat.pow_add]
  congr 3; omega
theorem r4 : FloatKind.f32.format.read 1082130432 = .number false 8388608 (((2 : Nat) : Int) - 23) := by decide +kernel
theorem r8 : FloatKind.f32.format.read 1090519040 = .number false 8388608 (((3 : Nat) : Int) - 23) := by decide +kernel
theorem r16 : FloatKind.f32.format.read 1098907648 = .number false 8388608 (((4 : Nat) : Int) - 23) := by decide +kernel
theorem lt_dec {k n : Nat} {b : Bool} (h : decide (Int.ofNat k < Int.ofNat n) = b) : k < n ∨ b = false := by
  by_cases g : k < n
  · exact Or.inl g
  · have g' : ¬ Int.ofNat k < Int.ofNat n := fun h => g (Int.ofNat_lt.1 h)
    rw [decide_eq_false g'] at h; exact Or.inr h.symm
/-- The span that is drawn. -/
theorem span_facts (n : Nat) (gd : Nat → Nat → Int) (hb : ∀ k, k < n → 0 ≤ gd k 0 ∧ gd k 0 ≤ 255) : ∃ p q : Int, 0 ≤ p ∧ p ≤ 64 ∧ 0 ≤ q ∧ q ≤ 32 ∧ Iz 7 (lo0 n gd) ((p - 32) * 32) ∧ Iz 7 (hi0 n gd) ((p - 32) * 32 + q * 16) := by
  have hlo : ∃ z : Int, 0 ≤ z ∧ lo0 n gd = fop .quo .f32 (ofInt .f32 (IntKind.i64.wrap ((z.tmod (Int.ofNat 65)).sub (Int.ofNat 32)))) 1082130432 := by
    refine ⟨_, ?_, rfl⟩
    exact drawn_nn ((lt_dec rfl).elim (fun h => Or.inl (hb 0 h)) Or.inr)
  obtain ⟨z, hz, elo⟩ := hlo
  have hhi : ∃ y : Int, 0 ≤ y ∧ hi0 n gd = fop .add .f32 (lo0 n gd) (fop .quo .f32 (ofInt .f32 (y.tmod (Int.ofNat 33))) 1090519040) := by
    refine ⟨_, ?_, rfl⟩
    exact drawn_nn ((lt_dec rfl).elim (fun h => Or.inl (hb 1 h)) Or.inr)
  obtain ⟨y, hy, ehi⟩ := hhi
  obtain ⟨p0, p1⟩ := tmod_rng hz (m := Int.ofNat 65) (by decide)
  obtain ⟨q0, q1⟩ := tmod_rng hy (m := Int.ofNat 33) (by decide)
  refine ⟨z.tmod (Int.ofNat 65), y.tmod (Int.ofNat 33), p0, by simp at p1 ⊢; omega, q0, by simp at q1 ⊢; omega, ?_⟩
  rw [ehi, elo]
  generalize z.tmod (Int.ofNat 65) = p at *
  generalize y.tmod (Int.ofNat 33) = q at *
  simp only [Int.ofNat_eq_natCast] at p1 q1
  have e1 : IntKind.i64.wrap (p.sub (Int.ofNat 32)) = p - 32 := w64_idn (t := p - 32) (by omega) (by omega)
  rw [e1]
  have a1 := iz_fine 5 (iz_quo (iz_int (p - 32) (by omega)) r4 (by omega) (by decide)) (by decide)
  have b1 := iz_fine 4 (iz_quo (iz_int q (by omega)) r8 (by omega) (by decide)) (by decide)
  have a1 : Iz 7 _ ((p - 32) * 32) := a1
  have b1 : Iz 7 _ (q * 16) := b1
  exact ⟨a1, iz_add a1 b1 (by omega) (by decide)⟩
theorem at_facts (n : Nat) (gd : Nat → Nat → Int) (hb : ∀ k, k < n → 0 ≤ gd k 0 ∧ gd k 0 ≤ 255) : 0 ≤ at0 n gd ∧ at0 n gd ≤ 16 := by
  unfold at0
  cases n with
  | zero => rw [decide_eq_true (show Int.ofNat 0 ≥ Int.ofNat 0 by decide)]; simp
  | succ n =>
    have h : ¬ Int.ofNat 0 ≥ Int.ofNat (n + 1) := by simp only [Int.ofNat_eq_natCast]; omega
    rw [decide_eq_false h]
    simp only [cond_false]
    obtain ⟨h0, h1⟩ := hb 0 (by omega)
    rw [w64_id (by omega) (by omega)]
    obtain ⟨q0, q1⟩ := tmod_rng h0 (m := Int.ofNat 17) (by decide)
    simp only [Int.ofNat_eq_natCast] at q0 q1 ⊢
    omega
/-- A number within the span. -/
theorem x_facts {L H : Nat} {l q m : Int} (hl : -1024 ≤ l ∧ l ≤ 1024) (hq : 0 ≤ q ∧ q ≤ 32) (hm : 0 ≤ m ∧ m ≤ 16) (hL : Iz 7 L l) (hH : Iz 7 H (l + q * 16)) :
    Iz 7 (fop .add .f32 L (fop .mul .f32 (fop .quo .f32 (ofInt .f32 m) 1098907648) (fop .sub .f32 H L))) (l + m * q) := by
  have a1 : Iz 4 _ m := iz_quo (iz_int m (by omega)) r16 (by omega) (by decide)
  have b1 := iz_sub hH hL (by omega) (by decide)
  have e : l + q * 16 - l = q * 16 := by omega
  rw [e] at b1
  have hmq : 0 ≤ m * q ∧ m * q ≤ 512 := ⟨Int.mul_nonneg hm.1 hq.1, by
    have h1 := Int.mul_le_mul hm.2 hq.2 hq.1 (by omega : (0 : Int) ≤ 16)
    omega⟩
  have e2 : m * (q * 16) = (m * q) * ((2 ^ 4 : Nat) : Int) := by rw [Int.mul_assoc]; rfl
  have c1 := iz_mul a1 b1 (by rw [e2]; simp; omega) (by decide)
  rw [e2] at c1
  have c2 := iz_coarse (k := 7) 4 c1 (by decide)
  exact iz_add hL c2 (by omega) (by decide)
end Go.Proofs.Ytgamhlhnegblfaa.ab
