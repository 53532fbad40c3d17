import Derived.Test.YtblbjmdeaojogaaSv5
import Derived.Test.YtblbjmdeaojogaaGf


import Derived.Test.YtblbjmdeaojogaaGd
import Derived.Test.YtblbjmdeaojogaaProg
namespace Go.Proofs.Ytblbjmdeaojogaa.ab10
open Go Go.Ab Go.Proofs Go.Proofs.Ytblbjmdeaojogaa.sea
set_option maxRecDepth 100000
set_option linter.unusedVariables false
theorem mixed : Try.prog.follows .mixedOrders = true := by kernel_rfl
theorem elInt_ne (f : Nat → Nat) (g : Nat → Int) (f' : Nat → Nat) (g' : Nat → Int) : (g 0 != g' 0) = !elInt f g f' g' := by unfold elInt; simp

noncomputable def G0 : List (Nat × Ctr) := []
theorem g0 : Ab.Good Try.prog G0 := good_nil _

/-- laws.szInt64S -/
noncomputable def G1 : List (Nat × Ctr) := (35, inl Try.prog G0 100 Try.f35) :: G0
theorem g1 : Ab.Good Try.prog G1 := good_cons (inl_sat g0 mixed Try.func35 Try.call35 100) g0

/-- laws.szSeason -/
noncomputable def G2 : List (Nat × Ctr) := (11, inl Try.prog G1 100 Try.f11) :: G1
theorem g2 : Ab.Good Try.prog G2 := good_cons (inl_sat g1 mixed Try.func11 Try.call11 100) g1


theorem cpy21step (fd : Nat → Nat → Nat) (gd : Nat → Nat → Int) (bd : Nat → Nat → Bool) (wr : Bool) (m : Num) (a n : Nat) (j : Nat) (hj : j < n) (hn : n ≤ 140737488355328) (han : a + n ≤ m.val) : Run Try.prog Try.f21.ntmps (cL (cK (cB (cA (cB (cB (bodyOf Try.f21))))))) (stR [.vec 0 1 a (.sym n), .bad, .bad, .vec 1 1 0 (.sym n), .sint .i64 (Int.ofNat j)] [⟨[.int .i64], m, fd, gd, bd, false⟩, rowJ [.int .i64] n a ⟨[.int .i64], m, fd, gd, bd, wr⟩ [.int .i64 0] j]) (.normal, (stR [.vec 0 1 a (.sym n), .bad, .bad, .vec 1 1 0 (.sym n), .sint .i64 (Int.ofNat (j + 1))] [⟨[.int .i64], m, fd, gd, bd, false⟩, rowJ [.int .i64] n a ⟨[.int .i64], m, fd, gd, bd, wr⟩ [.int .i64 0] (j + 1)])) := by
  have c1 : Nat.ble (j + 1) n = true := Nat.ble_eq_true_of_le hj
  have c2 : Nat.ble (Nat.add a j + 1) m.val = true := Nat.ble_eq_true_of_le (by show a + j + 1 ≤ m.val; omega)
  have c4 : Nat.ble (Nat.add 0 j + 1) n = true := Nat.ble_eq_true_of_le (by show 0 + j + 1 ≤ n; omega)
  refine Run.to g2 mixed 60 [true] (by kernel_rfl) ?_ ?_ (by kernel_rfl) (by kernel_rfl) ?_ ?_ (by kernel_rfl)
  · have e : wBs (wayO [true] (stR [.vec 0 1 a (.sym n), .bad, .bad, .vec 1 1 0 (.sym n), .sint .i64 (Int.ofNat j)] [⟨[.int .i64], m, fd, gd, bd, false⟩, rowJ [.int .i64] n a ⟨[.int .i64], m, fd, gd, bd, wr⟩ [.int .i64 0] j]) (Ab.ev Try.prog G2 Try.f21.ntmps 60 (cL (cK (cB (cA (cB (cB (bodyOf Try.f21))))))) (stR [.vec 0 1 a (.sym n), .bad, .bad, .vec 1 1 0 (.sym n), .sint .i64 (Int.ofNat j)] [⟨[.int .i64], m, fd, gd, bd, false⟩, rowJ [.int .i64] n a ⟨[.int .i64], m, fd, gd, bd, wr⟩ [.int .i64 0] j]) Dl.nil)) = [decide (Int.ofNat j < Int.ofNat n)] := by kernel_rfl
    rw [e, dec_lt hj]
  · have e : wNd (wayO [true] (stR [.vec 0 1 a (.sym n), .bad, .bad, .vec 1 1 0 (.sym n), .sint .i64 (Int.ofNat j)] [⟨[.int .i64], m, fd, gd, bd, false⟩, rowJ [.int .i64] n a ⟨[.int .i64], m, fd, gd, bd, wr⟩ [.int .i64 0] j]) (Ab.ev Try.prog G2 Try.f21.ntmps 60 (cL (cK (cB (cA (cB (cB (bodyOf Try.f21))))))) (stR [.vec 0 1 a (.sym n), .bad, .bad, .vec 1 1 0 (.sym n), .sint .i64 (Int.ofNat j)] [⟨[.int .i64], m, fd, gd, bd, false⟩, rowJ [.int .i64] n a ⟨[.int .i64], m, fd, gd, bd, wr⟩ [.int .i64 0] j]) Dl.nil)) = (andN (andN (andN (andN (true) (Nat.ble (j + 1) n)) (Nat.ble (Nat.add a j + 1) m.val)) (Nat.ble (j + 1) n)) (Nat.ble (Nat.add 0 j + 1) n)) := by kernel_rfl
    rw [e, c1, c2, c4]; rfl
  · refine ⟨Or.inr (ge_eq (by kernel_rfl)), Or.inl rfl, Or.inl rfl, Or.inr (ge_eq (by kernel_rfl)), Or.inr (ge_eq ?_), trivial⟩
    have e : (wS (wayO [true] (stR [.vec 0 1 a (.sym n), .bad, .bad, .vec 1 1 0 (.sym n), .sint .i64 (Int.ofNat j)] [⟨[.int .i64], m, fd, gd, bd, false⟩, rowJ [.int .i64] n a ⟨[.int .i64], m, fd, gd, bd, wr⟩ [.int .i64 0] j]) (Ab.ev Try.prog G2 Try.f21.ntmps 60 (cL (cK (cB (cA (cB (cB (bodyOf Try.f21))))))) (stR [.vec 0 1 a (.sym n), .bad, .bad, .vec 1 1 0 (.sym n), .sint .i64 (Int.ofNat j)] [⟨[.int .i64], m, fd, gd, bd, false⟩, rowJ [.int .i64] n a ⟨[.int .i64], m, fd, gd, bd, wr⟩ [.int .i64 0] j]) Dl.nil))).get 4 = .sint .i64 (IntKind.i64.wrap (Int.ofNat j + 1)) := by kernel_rfl
    rw [e, wrap_next hj hn]
  · exact ⟨⟨⟨[.int .i64], m, fd, gd, bd, false⟩, by kernel_rfl, VcLe.refl _⟩, ⟨(rowJ [.int .i64] n a ⟨[.int .i64], m, fd, gd, bd, wr⟩ [.int .i64 0] j).put (Nat.add 0 j) 0 (encC (fd (Nat.add a j)) (gd (Nat.add a j)) (bd (Nat.add a j)) 0 [.int .i64]), by kernel_rfl, rowJ_next [.int .i64] n a ⟨[.int .i64], m, fd, gd, bd, wr⟩ [.int .i64 0] j⟩, trivial⟩

theorem cpy21end (fd : Nat → Nat → Nat) (gd : Nat → Nat → Int) (bd : Nat → Nat → Bool) (wr : Bool) (m : Num) (a n : Nat) : Run Try.prog Try.f21.ntmps (cL (cK (cB (cA (cB (cB (bodyOf Try.f21))))))) (stR [.vec 0 1 a (.sym n), .bad, .bad, .vec 1 1 0 (.sym n), .sint .i64 (Int.ofNat n)] [⟨[.int .i64], m, fd, gd, bd, false⟩, rowJ [.int .i64] n a ⟨[.int .i64], m, fd, gd, bd, wr⟩ [.int .i64 0] n]) (.exit 0, (stR [.vec 0 1 a (.sym n), .bad, .bad, .vec 1 1 0 (.sym n), .sint .i64 (Int.ofNat n)] [⟨[.int .i64], m, fd, gd, bd, false⟩, rowJ [.int .i64] n a ⟨[.int .i64], m, fd, gd, bd, wr⟩ [.int .i64 0] n])) := by
  refine Run.to g2 mixed 60 [false] (by kernel_rfl) ?_ (by kernel_rfl) (by kernel_rfl) (by kernel_rfl) ?_ ?_ (by kernel_rfl)
  · have e : wBs (wayO [false] (stR [.vec 0 1 a (.sym n), .bad, .bad, .vec 1 1 0 (.sym n), .sint .i64 (Int.ofNat n)] [⟨[.int .i64], m, fd, gd, bd, false⟩, rowJ [.int .i64] n a ⟨[.int .i64], m, fd, gd, bd, wr⟩ [.int .i64 0] n]) (Ab.ev Try.prog G2 Try.f21.ntmps 60 (cL (cK (cB (cA (cB (cB (bodyOf Try.f21))))))) (stR [.vec 0 1 a (.sym n), .bad, .bad, .vec 1 1 0 (.sym n), .sint .i64 (Int.ofNat n)] [⟨[.int .i64], m, fd, gd, bd, false⟩, rowJ [.int .i64] n a ⟨[.int .i64], m, fd, gd, bd, wr⟩ [.int .i64 0] n]) Dl.nil)) = [decide (Int.ofNat n < Int.ofNat n)] := by kernel_rfl
    rw [e, dec_irr]
  · exact ⟨Or.inr (ge_eq (by kernel_rfl)), Or.inl rfl, Or.inl rfl, Or.inr (ge_eq (by kernel_rfl)), Or.inr (ge_eq (by kernel_rfl)), trivial⟩
  · exact ⟨⟨⟨[.int .i64], m, fd, gd, bd, false⟩, by kernel_rfl, VcLe.refl _⟩, ⟨rowJ [.int .i64] n a ⟨[.int .i64], m, fd, gd, bd, wr⟩ [.int .i64 0] n, by kernel_rfl, VcLe.refl _⟩, trivial⟩

theorem cpy21 (i a n : Nat) (v : Vc) (hs : v.sh = [.int .i64]) (han : a + n ≤ v.n.val) (hb : n * 8 ≤ 140737488355328) (hn : n ≤ 140737488355328) : OnRows Try.prog 21 [⟨i, 1, a, .sym n⟩] [] [v] ⟨.vec 1 1 0 (.sym n), [], [], [⟨[], false, some (cpyR [.int .i64] (.sym n) a v)⟩], true, none⟩ := by
  obtain ⟨sh, m, fd, gd, bd, wr⟩ := v
  have hs : sh = [.int .i64] := hs
  subst hs
  have h0 : Run Try.prog Try.f21.ntmps (cA (bodyOf Try.f21)) ((viewS [⟨[.int .i64], m, fd, gd, bd, wr⟩]).start Try.f21.ntmps [.vec 0 1 a (.sym n)]) (.normal, stR [.vec 0 1 a (.sym n)] [⟨[.int .i64], m, fd, gd, bd, false⟩]) :=
    Run.to g2 mixed 60 [] (by kernel_rfl) (by kernel_rfl) (by kernel_rfl) (by kernel_rfl) (by kernel_rfl) ⟨Or.inr (ge_eq (by kernel_rfl)), trivial⟩ ⟨⟨_, rfl, VcLe.refl _⟩, trivial⟩ (by kernel_rfl)
  have b1 : Nat.ble (Nat.mul (Nat.add n 0) 8) 140737488355328 = true := Nat.ble_eq_true_of_le (by show (n + 0) * 8 ≤ _; omega)
  have b2 : Nat.ble (Nat.add n 0) 140737488355328 = true := Nat.ble_eq_true_of_le (by show n + 0 ≤ _; omega)
  have h1 : Run Try.prog Try.f21.ntmps (cA (cB (bodyOf Try.f21))) (stR [.vec 0 1 a (.sym n)] [⟨[.int .i64], m, fd, gd, bd, false⟩]) (.normal, stR [.vec 0 1 a (.sym n), .bad, .bad, .vec 1 1 0 (.sym n)] [⟨[.int .i64], m, fd, gd, bd, false⟩, rowJ [.int .i64] n a ⟨[.int .i64], m, fd, gd, bd, wr⟩ [.int .i64 0] 0]) := by
    refine Run.to g2 mixed 60 [] (by kernel_rfl) (by kernel_rfl) ?_ (by kernel_rfl) (by kernel_rfl) ⟨Or.inr (ge_eq (by kernel_rfl)), Or.inl rfl, Or.inl rfl, Or.inr (ge_eq (by kernel_rfl)), trivial⟩ ⟨⟨⟨[.int .i64], m, fd, gd, bd, false⟩, by kernel_rfl, VcLe.refl _⟩, ⟨Vc.all [.int .i64] (.sym n) [.int .i64 0], by kernel_rfl, rowJ_zero _ _ _ _ _⟩, trivial⟩ (by kernel_rfl)
    have e : wNd (wayO [] (stR [.vec 0 1 a (.sym n)] [⟨[.int .i64], m, fd, gd, bd, false⟩]) (Ab.ev Try.prog G2 Try.f21.ntmps 60 (cA (cB (bodyOf Try.f21))) (stR [.vec 0 1 a (.sym n)] [⟨[.int .i64], m, fd, gd, bd, false⟩]) Dl.nil)) = (cond (Nat.ble (Nat.mul (Nat.add n 0) 8) 140737488355328 && Nat.ble (Nat.add n 0) 140737488355328) true false) := by kernel_rfl
    rw [e, b1, b2]; rfl
  have h2 : Run Try.prog Try.f21.ntmps (cA (cA (cB (cB (bodyOf Try.f21))))) (stR [.vec 0 1 a (.sym n), .bad, .bad, .vec 1 1 0 (.sym n)] [⟨[.int .i64], m, fd, gd, bd, false⟩, rowJ [.int .i64] n a ⟨[.int .i64], m, fd, gd, bd, wr⟩ [.int .i64 0] 0]) (.normal, (stR [.vec 0 1 a (.sym n), .bad, .bad, .vec 1 1 0 (.sym n), .sint .i64 (Int.ofNat 0)] [⟨[.int .i64], m, fd, gd, bd, false⟩, rowJ [.int .i64] n a ⟨[.int .i64], m, fd, gd, bd, wr⟩ [.int .i64 0] 0])) :=
    Run.to g2 mixed 60 [] (by kernel_rfl) (by kernel_rfl) (by kernel_rfl) (by kernel_rfl) (by kernel_rfl) ⟨Or.inr (ge_eq (by kernel_rfl)), Or.inl rfl, Or.inl rfl, Or.inr (ge_eq (by kernel_rfl)), Or.inr (ge_int (by kernel_rfl)), trivial⟩ ⟨⟨⟨[.int .i64], m, fd, gd, bd, false⟩, by kernel_rfl, VcLe.refl _⟩, ⟨rowJ [.int .i64] n a ⟨[.int .i64], m, fd, gd, bd, wr⟩ [.int .i64 0] 0, by kernel_rfl, VcLe.refl _⟩, trivial⟩ (by kernel_rfl)
  have h3 : Run Try.prog Try.f21.ntmps (.loop (cL (cK (cB (cA (cB (cB (bodyOf Try.f21)))))))) (stR [.vec 0 1 a (.sym n), .bad, .bad, .vec 1 1 0 (.sym n), .sint .i64 (Int.ofNat 0)] [⟨[.int .i64], m, fd, gd, bd, false⟩, rowJ [.int .i64] n a ⟨[.int .i64], m, fd, gd, bd, wr⟩ [.int .i64 0] 0]) (.exit 0, (stR [.vec 0 1 a (.sym n), .bad, .bad, .vec 1 1 0 (.sym n), .sint .i64 (Int.ofNat n)] [⟨[.int .i64], m, fd, gd, bd, false⟩, rowJ [.int .i64] n a ⟨[.int .i64], m, fd, gd, bd, wr⟩ [.int .i64 0] n])) := Run.loop n (fun j => (stR [.vec 0 1 a (.sym n), .bad, .bad, .vec 1 1 0 (.sym n), .sint .i64 (Int.ofNat j)] [⟨[.int .i64], m, fd, gd, bd, false⟩, rowJ [.int .i64] n a ⟨[.int .i64], m, fd, gd, bd, wr⟩ [.int .i64 0] j])) (fun j => rfl) (fun j hj => cpy21step fd gd bd wr m a n j hj hn han) (cpy21end fd gd bd wr m a n) (by intro h; cases h)
  have h6 : Run Try.prog Try.f21.ntmps (cB (cB (cB (bodyOf Try.f21)))) (stR [.vec 0 1 a (.sym n), .bad, .bad, .vec 1 1 0 (.sym n), .sint .i64 (Int.ofNat n)] [⟨[.int .i64], m, fd, gd, bd, false⟩, rowJ [.int .i64] n a ⟨[.int .i64], m, fd, gd, bd, wr⟩ [.int .i64 0] n]) (.ret, stR [.bad, .bad, .vec 1 1 0 (.sym n)] [⟨[.int .i64], m, fd, gd, bd, false⟩, cpyR [.int .i64] (.sym n) a ⟨[.int .i64], m, fd, gd, bd, wr⟩]) :=
    Run.to g2 mixed 60 [] (by kernel_rfl) (by kernel_rfl) (by kernel_rfl) (by kernel_rfl) (by kernel_rfl) ⟨Or.inl rfl, Or.inl rfl, Or.inr (ge_eq (by kernel_rfl)), trivial⟩ ⟨⟨⟨[.int .i64], m, fd, gd, bd, false⟩, by kernel_rfl, VcLe.refl _⟩, ⟨rowJ [.int .i64] n a ⟨[.int .i64], m, fd, gd, bd, wr⟩ [.int .i64 0] n, by kernel_rfl, rowJ_all _ _ _ _ _⟩, trivial⟩ (by kernel_rfl)
  have hr : Run Try.prog Try.f21.ntmps (bodyOf Try.f21) ((viewS [⟨[.int .i64], m, fd, gd, bd, wr⟩]).start Try.f21.ntmps [.vec 0 1 a (.sym n)]) (.ret, stR [.bad, .bad, .vec 1 1 0 (.sym n)] [⟨[.int .i64], m, fd, gd, bd, false⟩, cpyR [.int .i64] (.sym n) a ⟨[.int .i64], m, fd, gd, bd, wr⟩]) := by
    have hB : (bodyOf Try.f21) = .seq (cA (bodyOf Try.f21)) (.seq (cA (cB (bodyOf Try.f21))) (.seq (.seq (cA (cA (cB (cB (bodyOf Try.f21))))) (.block 0 (.loop (cL (cK (cB (cA (cB (cB (bodyOf Try.f21)))))))))) (cB (cB (cB (bodyOf Try.f21)))))) := by kernel_rfl
    rw [hB]
    exact Run.seq h0 (Nat.le_refl _) (Run.seq h1 (by show (1 : Nat) ≤ 2; decide) (Run.seq (Run.seq h2 (Nat.le_refl _) (Run.block h3)) (Nat.le_refl _) h6))
  intro M w0 ρ w vs hM hv
  have b3 : Nat.ble (0 + n) n = true := Nat.ble_eq_true_of_le (by omega)
  have key : Calls Try.prog 21 ⟨vs⟩ w (Res M w0 ρ (viewS [⟨[.int .i64], m, fd, gd, bd, wr⟩]) ⟨.vec 1 1 0 (.sym n), [], [], [⟨[], false, some (shiftV (cpyR [.int .i64] (.sym n) a ⟨[.int .i64], m, fd, gd, bd, wr⟩) 0 (.sym n))⟩], Nat.ble (0 + n) n, none⟩) :=
    Run.calls (fr := ⟨none, some ⟨.vec 1 1 0 (.sym n), [shiftV (cpyR [.int .i64] (.sym n) a ⟨[.int .i64], m, fd, gd, bd, wr⟩) 0 (.sym n)], [], []⟩, Nat.ble (0 + n) n⟩) Try.func21 (by kernel_rfl) hr (ahv := []) (avv := []) (by kernel_rfl) rfl (by show Nat.ble (0 + n) n = true; exact b3) ⟨⟨[⟨[], false, some (cpyR [.int .i64] (.sym n) a ⟨[.int .i64], m, fd, gd, bd, wr⟩)⟩], rfl⟩, fun i o => rfl, fun i => rfl⟩ (Nat.le_of_ble_eq_true (by kernel_rfl)) hM hv
  rw [shift_cpy, b3] at key
  exact key
/-- laws.toInt64S -/
noncomputable def G3 : List (Nat × Ctr) := (21, cpyC [.int .i64] 8) :: G2
theorem g3 : Ab.Good Try.prog G3 := good_cons (sat_cpy Try.call21 (by decide) (fun i a n v hs han hb hn => cpy21 i a n v hs han hb hn)) g2

/-- laws.toSeason -/
noncomputable def G4 : List (Nat × Ctr) := (13, inl Try.prog G3 100 Try.f13) :: G3
theorem g4 : Ab.Good Try.prog G4 := good_cons (inl_sat g3 mixed Try.func13 Try.call13 100) g3


theorem eqs23step (fd : Nat → Nat → Nat) (gd : Nat → Nat → Int) (bd : Nat → Nat → Bool) (wr : Bool) (m : Num) (fd' : Nat → Nat → Nat) (gd' : Nat → Nat → Int) (bd' : Nat → Nat → Bool) (wr' : Bool) (m' : Num) (a a' n n' : Nat) (j : Nat) (hj : j < n) (hnn : n = n') (hn : n ≤ 140737488355328) (han : a + n ≤ m.val) (han' : a' + n' ≤ m'.val) (hp : (elInt (fd (Nat.add a j)) (gd (Nat.add a j)) (fd' (Nat.add a' j)) (gd' (Nat.add a' j))) = true) : Run Try.prog Try.f23.ntmps (cL (cK (cB (cA (cB (cB (bodyOf Try.f23))))))) (stR [.vec 0 1 a (.sym n), .vec 1 1 a' (.sym n'), .bad, .bad, .bad, .sint .i64 (Int.ofNat j)] [⟨[.int .i64], m, fd, gd, bd, false⟩, ⟨[.int .i64], m', fd', gd', bd', false⟩]) (.normal, (stR [.vec 0 1 a (.sym n), .vec 1 1 a' (.sym n'), .bad, .bad, .bad, .sint .i64 (Int.ofNat (j + 1))] [⟨[.int .i64], m, fd, gd, bd, false⟩, ⟨[.int .i64], m', fd', gd', bd', false⟩])) := by
  have c1 : Nat.ble (j + 1) n = true := Nat.ble_eq_true_of_le hj
  have c2 : Nat.ble (Nat.add a j + 1) m.val = true := Nat.ble_eq_true_of_le (by show a + j + 1 ≤ m.val; omega)
  have c3 : Nat.ble (j + 1) n' = true := Nat.ble_eq_true_of_le (by omega)
  have c4 : Nat.ble (Nat.add a' j + 1) m'.val = true := Nat.ble_eq_true_of_le (by show a' + j + 1 ≤ m'.val; omega)
  refine Run.to g4 mixed 60 [true, false] (by kernel_rfl) ?_ ?_ (by kernel_rfl) (by kernel_rfl) ?_ ⟨⟨⟨[.int .i64], m, fd, gd, bd, false⟩, by kernel_rfl, VcLe.refl _⟩, ⟨⟨[.int .i64], m', fd', gd', bd', false⟩, by kernel_rfl, VcLe.refl _⟩, trivial⟩ (by kernel_rfl)
  · have e : wBs (wayO [true, false] (stR [.vec 0 1 a (.sym n), .vec 1 1 a' (.sym n'), .bad, .bad, .bad, .sint .i64 (Int.ofNat j)] [⟨[.int .i64], m, fd, gd, bd, false⟩, ⟨[.int .i64], m', fd', gd', bd', false⟩]) (Ab.ev Try.prog G4 Try.f23.ntmps 60 (cL (cK (cB (cA (cB (cB (bodyOf Try.f23))))))) (stR [.vec 0 1 a (.sym n), .vec 1 1 a' (.sym n'), .bad, .bad, .bad, .sint .i64 (Int.ofNat j)] [⟨[.int .i64], m, fd, gd, bd, false⟩, ⟨[.int .i64], m', fd', gd', bd', false⟩]) Dl.nil)) = [decide (Int.ofNat j < Int.ofNat n), (gd (Nat.add a j) 0 != gd' (Nat.add a' j) 0)] := by kernel_rfl
    rw [e, dec_lt hj, elInt_t hp]
  · have e : wNd (wayO [true, false] (stR [.vec 0 1 a (.sym n), .vec 1 1 a' (.sym n'), .bad, .bad, .bad, .sint .i64 (Int.ofNat j)] [⟨[.int .i64], m, fd, gd, bd, false⟩, ⟨[.int .i64], m', fd', gd', bd', false⟩]) (Ab.ev Try.prog G4 Try.f23.ntmps 60 (cL (cK (cB (cA (cB (cB (bodyOf Try.f23))))))) (stR [.vec 0 1 a (.sym n), .vec 1 1 a' (.sym n'), .bad, .bad, .bad, .sint .i64 (Int.ofNat j)] [⟨[.int .i64], m, fd, gd, bd, false⟩, ⟨[.int .i64], m', fd', gd', bd', false⟩]) Dl.nil)) = (cond (andN (andN (andN (andN (true) (Nat.ble (j + 1) n)) (Nat.ble (Nat.add a j + 1) m.val)) (Nat.ble (j + 1) n')) (Nat.ble (Nat.add a' j + 1) m'.val)) (true) false) := by kernel_rfl
    rw [e, c1, c2, c3, c4]; rfl
  · refine ⟨Or.inr (ge_eq (by kernel_rfl)), Or.inr (ge_eq (by kernel_rfl)), Or.inl rfl, Or.inl rfl, Or.inl rfl, Or.inr (ge_eq ?_), trivial⟩
    have e : (wS (wayO [true, false] (stR [.vec 0 1 a (.sym n), .vec 1 1 a' (.sym n'), .bad, .bad, .bad, .sint .i64 (Int.ofNat j)] [⟨[.int .i64], m, fd, gd, bd, false⟩, ⟨[.int .i64], m', fd', gd', bd', false⟩]) (Ab.ev Try.prog G4 Try.f23.ntmps 60 (cL (cK (cB (cA (cB (cB (bodyOf Try.f23))))))) (stR [.vec 0 1 a (.sym n), .vec 1 1 a' (.sym n'), .bad, .bad, .bad, .sint .i64 (Int.ofNat j)] [⟨[.int .i64], m, fd, gd, bd, false⟩, ⟨[.int .i64], m', fd', gd', bd', false⟩]) Dl.nil))).get 5 = .sint .i64 (IntKind.i64.wrap (Int.ofNat j + 1)) := by kernel_rfl
    rw [e, wrap_next hj hn]

theorem eqs23ret (fd : Nat → Nat → Nat) (gd : Nat → Nat → Int) (bd : Nat → Nat → Bool) (wr : Bool) (m : Num) (fd' : Nat → Nat → Nat) (gd' : Nat → Nat → Int) (bd' : Nat → Nat → Bool) (wr' : Bool) (m' : Num) (a a' n n' : Nat) (j : Nat) (hj : j < n) (hnn : n = n') (hn : n ≤ 140737488355328) (han : a + n ≤ m.val) (han' : a' + n' ≤ m'.val) (hp : (elInt (fd (Nat.add a j)) (gd (Nat.add a j)) (fd' (Nat.add a' j)) (gd' (Nat.add a' j))) = false) : Run Try.prog Try.f23.ntmps (cL (cK (cB (cA (cB (cB (bodyOf Try.f23))))))) (stR [.vec 0 1 a (.sym n), .vec 1 1 a' (.sym n'), .bad, .bad, .bad, .sint .i64 (Int.ofNat j)] [⟨[.int .i64], m, fd, gd, bd, false⟩, ⟨[.int .i64], m', fd', gd', bd', false⟩]) (.ret, (stR [.bad, .bad, .bad, .bad, .sbool false] [⟨[.int .i64], m, fd, gd, bd, false⟩, ⟨[.int .i64], m', fd', gd', bd', false⟩])) := by
  have c1 : Nat.ble (j + 1) n = true := Nat.ble_eq_true_of_le hj
  have c2 : Nat.ble (Nat.add a j + 1) m.val = true := Nat.ble_eq_true_of_le (by show a + j + 1 ≤ m.val; omega)
  have c3 : Nat.ble (j + 1) n' = true := Nat.ble_eq_true_of_le (by omega)
  have c4 : Nat.ble (Nat.add a' j + 1) m'.val = true := Nat.ble_eq_true_of_le (by show a' + j + 1 ≤ m'.val; omega)
  refine Run.to g4 mixed 60 [true, true] (by kernel_rfl) ?_ ?_ (by kernel_rfl) (by kernel_rfl) ⟨Or.inl rfl, Or.inl rfl, Or.inl rfl, Or.inl rfl, Or.inr (ge_bool (by kernel_rfl)), trivial⟩ ⟨⟨⟨[.int .i64], m, fd, gd, bd, false⟩, by kernel_rfl, VcLe.refl _⟩, ⟨⟨[.int .i64], m', fd', gd', bd', false⟩, by kernel_rfl, VcLe.refl _⟩, trivial⟩ (by kernel_rfl)
  · have e : wBs (wayO [true, true] (stR [.vec 0 1 a (.sym n), .vec 1 1 a' (.sym n'), .bad, .bad, .bad, .sint .i64 (Int.ofNat j)] [⟨[.int .i64], m, fd, gd, bd, false⟩, ⟨[.int .i64], m', fd', gd', bd', false⟩]) (Ab.ev Try.prog G4 Try.f23.ntmps 60 (cL (cK (cB (cA (cB (cB (bodyOf Try.f23))))))) (stR [.vec 0 1 a (.sym n), .vec 1 1 a' (.sym n'), .bad, .bad, .bad, .sint .i64 (Int.ofNat j)] [⟨[.int .i64], m, fd, gd, bd, false⟩, ⟨[.int .i64], m', fd', gd', bd', false⟩]) Dl.nil)) = [decide (Int.ofNat j < Int.ofNat n), (gd (Nat.add a j) 0 != gd' (Nat.add a' j) 0)] := by kernel_rfl
    rw [e, dec_lt hj, elInt_f hp]
  · have e : wNd (wayO [true, true] (stR [.vec 0 1 a (.sym n), .vec 1 1 a' (.sym n'), .bad, .bad, .bad, .sint .i64 (Int.ofNat j)] [⟨[.int .i64], m, fd, gd, bd, false⟩, ⟨[.int .i64], m', fd', gd', bd', false⟩]) (Ab.ev Try.prog G4 Try.f23.ntmps 60 (cL (cK (cB (cA (cB (cB (bodyOf Try.f23))))))) (stR [.vec 0 1 a (.sym n), .vec 1 1 a' (.sym n'), .bad, .bad, .bad, .sint .i64 (Int.ofNat j)] [⟨[.int .i64], m, fd, gd, bd, false⟩, ⟨[.int .i64], m', fd', gd', bd', false⟩]) Dl.nil)) = (cond (andN (andN (andN (andN (true) (Nat.ble (j + 1) n)) (Nat.ble (Nat.add a j + 1) m.val)) (Nat.ble (j + 1) n')) (Nat.ble (Nat.add a' j + 1) m'.val)) (true) false) := by kernel_rfl
    rw [e, c1, c2, c3, c4]; rfl

theorem eqs23end (fd : Nat → Nat → Nat) (gd : Nat → Nat → Int) (bd : Nat → Nat → Bool) (wr : Bool) (m : Num) (fd' : Nat → Nat → Nat) (gd' : Nat → Nat → Int) (bd' : Nat → Nat → Bool) (wr' : Bool) (m' : Num) (a a' n n' : Nat) : Run Try.prog Try.f23.ntmps (cL (cK (cB (cA (cB (cB (bodyOf Try.f23))))))) (stR [.vec 0 1 a (.sym n), .vec 1 1 a' (.sym n'), .bad, .bad, .bad, .sint .i64 (Int.ofNat n)] [⟨[.int .i64], m, fd, gd, bd, false⟩, ⟨[.int .i64], m', fd', gd', bd', false⟩]) (.exit 0, (stR [.vec 0 1 a (.sym n), .vec 1 1 a' (.sym n'), .bad, .bad, .bad, .sint .i64 (Int.ofNat n)] [⟨[.int .i64], m, fd, gd, bd, false⟩, ⟨[.int .i64], m', fd', gd', bd', false⟩])) := by
  refine Run.to g4 mixed 60 [false] (by kernel_rfl) ?_ (by kernel_rfl) (by kernel_rfl) (by kernel_rfl) ⟨Or.inr (ge_eq (by kernel_rfl)), Or.inr (ge_eq (by kernel_rfl)), Or.inl rfl, Or.inl rfl, Or.inl rfl, Or.inr (ge_eq (by kernel_rfl)), trivial⟩ ⟨⟨⟨[.int .i64], m, fd, gd, bd, false⟩, by kernel_rfl, VcLe.refl _⟩, ⟨⟨[.int .i64], m', fd', gd', bd', false⟩, by kernel_rfl, VcLe.refl _⟩, trivial⟩ (by kernel_rfl)
  have e : wBs (wayO [false] (stR [.vec 0 1 a (.sym n), .vec 1 1 a' (.sym n'), .bad, .bad, .bad, .sint .i64 (Int.ofNat n)] [⟨[.int .i64], m, fd, gd, bd, false⟩, ⟨[.int .i64], m', fd', gd', bd', false⟩]) (Ab.ev Try.prog G4 Try.f23.ntmps 60 (cL (cK (cB (cA (cB (cB (bodyOf Try.f23))))))) (stR [.vec 0 1 a (.sym n), .vec 1 1 a' (.sym n'), .bad, .bad, .bad, .sint .i64 (Int.ofNat n)] [⟨[.int .i64], m, fd, gd, bd, false⟩, ⟨[.int .i64], m', fd', gd', bd', false⟩]) Dl.nil)) = [decide (Int.ofNat n < Int.ofNat n)] := by kernel_rfl
  rw [e, dec_irr]

theorem eqs23 (i i' a a' n n' : Nat) (v v' : Vc) (hs : v.sh = [.int .i64]) (hs' : v'.sh = [.int .i64]) (han : a + n ≤ v.n.val) (han' : a' + n' ≤ v'.n.val) (hn : n ≤ 140737488355328) : OnRows Try.prog 23 [⟨i, 1, a, .sym n⟩, ⟨i', 1, a', .sym n'⟩] [] [v, v'] ⟨.sbool (eqRows elInt v v' a a' n n'), [], [], [], true, none⟩ := by
  obtain ⟨sh, m, fd, gd, bd, wr⟩ := v
  have hs : sh = [.int .i64] := hs
  subst hs
  obtain ⟨sh', m', fd', gd', bd', wr'⟩ := v'
  have hs' : sh' = [.int .i64] := hs'
  subst hs'
  have rr : VecsLe (stR [.vec 0 1 a (.sym n), .vec 1 1 a' (.sym n')] [⟨[.int .i64], m, fd, gd, bd, false⟩, ⟨[.int .i64], m', fd', gd', bd', false⟩]) 0 [⟨[.int .i64], m, fd, gd, bd, false⟩, ⟨[.int .i64], m', fd', gd', bd', false⟩] := ⟨⟨⟨[.int .i64], m, fd, gd, bd, false⟩, rfl, VcLe.refl _⟩, ⟨⟨[.int .i64], m', fd', gd', bd', false⟩, rfl, VcLe.refl _⟩, trivial⟩
  have h0 : Run Try.prog Try.f23.ntmps (cA (bodyOf Try.f23)) ((viewS [⟨[.int .i64], m, fd, gd, bd, wr⟩, ⟨[.int .i64], m', fd', gd', bd', wr'⟩]).start Try.f23.ntmps [.vec 0 1 a (.sym n), .vec 1 1 a' (.sym n')]) (.normal, stR [.vec 0 1 a (.sym n), .vec 1 1 a' (.sym n')] [⟨[.int .i64], m, fd, gd, bd, false⟩, ⟨[.int .i64], m', fd', gd', bd', false⟩]) :=
    Run.to g4 mixed 60 [] (by kernel_rfl) (by kernel_rfl) (by kernel_rfl) (by kernel_rfl) (by kernel_rfl) ⟨Or.inr (ge_eq (by kernel_rfl)), Or.inr (ge_eq (by kernel_rfl)), trivial⟩ ⟨⟨⟨[.int .i64], m, fd, gd, bd, false⟩, by kernel_rfl, VcLe.refl _⟩, ⟨⟨[.int .i64], m', fd', gd', bd', false⟩, by kernel_rfl, VcLe.refl _⟩, trivial⟩ (by kernel_rfl)
  have ebT : wBs (wayO [true] (stR [.vec 0 1 a (.sym n), .vec 1 1 a' (.sym n')] [⟨[.int .i64], m, fd, gd, bd, false⟩, ⟨[.int .i64], m', fd', gd', bd', false⟩]) (Ab.ev Try.prog G4 Try.f23.ntmps 60 (cA (cB (bodyOf Try.f23))) (stR [.vec 0 1 a (.sym n), .vec 1 1 a' (.sym n')] [⟨[.int .i64], m, fd, gd, bd, false⟩, ⟨[.int .i64], m', fd', gd', bd', false⟩]) Dl.nil)) = [Int.ofNat n != Int.ofNat n'] := by kernel_rfl
  have ebF : wBs (wayO [false] (stR [.vec 0 1 a (.sym n), .vec 1 1 a' (.sym n')] [⟨[.int .i64], m, fd, gd, bd, false⟩, ⟨[.int .i64], m', fd', gd', bd', false⟩]) (Ab.ev Try.prog G4 Try.f23.ntmps 60 (cA (cB (bodyOf Try.f23))) (stR [.vec 0 1 a (.sym n), .vec 1 1 a' (.sym n')] [⟨[.int .i64], m, fd, gd, bd, false⟩, ⟨[.int .i64], m', fd', gd', bd', false⟩]) Dl.nil)) = [Int.ofNat n != Int.ofNat n'] := by kernel_rfl
  have hr : Run Try.prog Try.f23.ntmps (bodyOf Try.f23) ((viewS [⟨[.int .i64], m, fd, gd, bd, wr⟩, ⟨[.int .i64], m', fd', gd', bd', wr'⟩]).start Try.f23.ntmps [.vec 0 1 a (.sym n), .vec 1 1 a' (.sym n')]) (.ret, (stR [.bad, .bad, .bad, .bad, .sbool (eqRows elInt ⟨[.int .i64], m, fd, gd, bd, wr⟩ ⟨[.int .i64], m', fd', gd', bd', wr'⟩ a a' n n')] [⟨[.int .i64], m, fd, gd, bd, false⟩, ⟨[.int .i64], m', fd', gd', bd', false⟩])) := by
    have hB : (bodyOf Try.f23) = .seq (cA (bodyOf Try.f23)) (.seq (cA (cB (bodyOf Try.f23))) (.seq (.seq (cA (cA (cB (cB (bodyOf Try.f23))))) (.block 0 (.loop (cL (cK (cB (cA (cB (cB (bodyOf Try.f23)))))))))) (cB (cB (cB (bodyOf Try.f23)))))) := by kernel_rfl
    rw [hB]
    refine Run.seq h0 (Nat.le_refl _) ?_
    unfold eqRows
    by_cases hnn : n = n'
    · have hne : (Int.ofNat n != Int.ofNat n') = false := by rw [hnn]; simp
      have h1 : Run Try.prog Try.f23.ntmps (cA (cB (bodyOf Try.f23))) (stR [.vec 0 1 a (.sym n), .vec 1 1 a' (.sym n')] [⟨[.int .i64], m, fd, gd, bd, false⟩, ⟨[.int .i64], m', fd', gd', bd', false⟩]) (.normal, stR [.vec 0 1 a (.sym n), .vec 1 1 a' (.sym n')] [⟨[.int .i64], m, fd, gd, bd, false⟩, ⟨[.int .i64], m', fd', gd', bd', false⟩]) := by
        refine Run.to g4 mixed 60 [false] (by kernel_rfl) ?_ (by kernel_rfl) (by kernel_rfl) (by kernel_rfl) ⟨Or.inr (ge_eq (by kernel_rfl)), Or.inr (ge_eq (by kernel_rfl)), trivial⟩ ⟨⟨⟨[.int .i64], m, fd, gd, bd, false⟩, by kernel_rfl, VcLe.refl _⟩, ⟨⟨[.int .i64], m', fd', gd', bd', false⟩, by kernel_rfl, VcLe.refl _⟩, trivial⟩ (by kernel_rfl)
        rw [ebF, hne]
      have h2 : Run Try.prog Try.f23.ntmps (cA (cA (cB (cB (bodyOf Try.f23))))) (stR [.vec 0 1 a (.sym n), .vec 1 1 a' (.sym n')] [⟨[.int .i64], m, fd, gd, bd, false⟩, ⟨[.int .i64], m', fd', gd', bd', false⟩]) (.normal, (stR [.vec 0 1 a (.sym n), .vec 1 1 a' (.sym n'), .bad, .bad, .bad, .sint .i64 (Int.ofNat 0)] [⟨[.int .i64], m, fd, gd, bd, false⟩, ⟨[.int .i64], m', fd', gd', bd', false⟩])) :=
        Run.to g4 mixed 60 [] (by kernel_rfl) (by kernel_rfl) (by kernel_rfl) (by kernel_rfl) (by kernel_rfl) ⟨Or.inr (ge_eq (by kernel_rfl)), Or.inr (ge_eq (by kernel_rfl)), Or.inl rfl, Or.inl rfl, Or.inl rfl, Or.inr (ge_int (by kernel_rfl)), trivial⟩ ⟨⟨⟨[.int .i64], m, fd, gd, bd, false⟩, by kernel_rfl, VcLe.refl _⟩, ⟨⟨[.int .i64], m', fd', gd', bd', false⟩, by kernel_rfl, VcLe.refl _⟩, trivial⟩ (by kernel_rfl)
      rw [hne]
      show Run Try.prog Try.f23.ntmps _ _ (.ret, (stR [.bad, .bad, .bad, .bad, .sbool (allB n (fun j => elAt elInt ⟨[.int .i64], m, fd, gd, bd, wr⟩ ⟨[.int .i64], m', fd', gd', bd', wr'⟩ a a' j))] [⟨[.int .i64], m, fd, gd, bd, false⟩, ⟨[.int .i64], m', fd', gd', bd', false⟩]))
      refine Run.seq h1 (Nat.le_refl _) ?_
      cases hall : allB n (fun j => elAt elInt ⟨[.int .i64], m, fd, gd, bd, wr⟩ ⟨[.int .i64], m', fd', gd', bd', wr'⟩ a a' j) with
      | true =>
        have hp := allB_true hall
        have h3 : Run Try.prog Try.f23.ntmps (.loop (cL (cK (cB (cA (cB (cB (bodyOf Try.f23)))))))) (stR [.vec 0 1 a (.sym n), .vec 1 1 a' (.sym n'), .bad, .bad, .bad, .sint .i64 (Int.ofNat 0)] [⟨[.int .i64], m, fd, gd, bd, false⟩, ⟨[.int .i64], m', fd', gd', bd', false⟩]) (.exit 0, (stR [.vec 0 1 a (.sym n), .vec 1 1 a' (.sym n'), .bad, .bad, .bad, .sint .i64 (Int.ofNat n)] [⟨[.int .i64], m, fd, gd, bd, false⟩, ⟨[.int .i64], m', fd', gd', bd', false⟩])) := Run.loop n (fun j => (stR [.vec 0 1 a (.sym n), .vec 1 1 a' (.sym n'), .bad, .bad, .bad, .sint .i64 (Int.ofNat j)] [⟨[.int .i64], m, fd, gd, bd, false⟩, ⟨[.int .i64], m', fd', gd', bd', false⟩])) (fun j => rfl) (fun j hj => eqs23step fd gd bd wr m fd' gd' bd' wr' m' a a' n n' j hj hnn hn han han' (hp j hj)) (eqs23end fd gd bd wr m fd' gd' bd' wr' m' a a' n n') (by intro h; cases h)
        have h6 : Run Try.prog Try.f23.ntmps (cB (cB (cB (bodyOf Try.f23)))) (stR [.vec 0 1 a (.sym n), .vec 1 1 a' (.sym n'), .bad, .bad, .bad, .sint .i64 (Int.ofNat n)] [⟨[.int .i64], m, fd, gd, bd, false⟩, ⟨[.int .i64], m', fd', gd', bd', false⟩]) (.ret, (stR [.bad, .bad, .bad, .bad, .sbool true] [⟨[.int .i64], m, fd, gd, bd, false⟩, ⟨[.int .i64], m', fd', gd', bd', false⟩])) :=
          Run.to g4 mixed 60 [] (by kernel_rfl) (by kernel_rfl) (by kernel_rfl) (by kernel_rfl) (by kernel_rfl) ⟨Or.inl rfl, Or.inl rfl, Or.inl rfl, Or.inl rfl, Or.inr (ge_bool (by kernel_rfl)), trivial⟩ ⟨⟨⟨[.int .i64], m, fd, gd, bd, false⟩, by kernel_rfl, VcLe.refl _⟩, ⟨⟨[.int .i64], m', fd', gd', bd', false⟩, by kernel_rfl, VcLe.refl _⟩, trivial⟩ (by kernel_rfl)
        exact Run.seq (Run.seq h2 (Nat.le_refl _) (Run.block h3)) (Nat.le_refl _) h6
      | false =>
        obtain ⟨j, hj, hpj, hpk⟩ := allB_false hall
        have h3 : Run Try.prog Try.f23.ntmps (.loop (cL (cK (cB (cA (cB (cB (bodyOf Try.f23)))))))) (stR [.vec 0 1 a (.sym n), .vec 1 1 a' (.sym n'), .bad, .bad, .bad, .sint .i64 (Int.ofNat 0)] [⟨[.int .i64], m, fd, gd, bd, false⟩, ⟨[.int .i64], m', fd', gd', bd', false⟩]) (.ret, (stR [.bad, .bad, .bad, .bad, .sbool false] [⟨[.int .i64], m, fd, gd, bd, false⟩, ⟨[.int .i64], m', fd', gd', bd', false⟩])) := Run.loop j (fun j => (stR [.vec 0 1 a (.sym n), .vec 1 1 a' (.sym n'), .bad, .bad, .bad, .sint .i64 (Int.ofNat j)] [⟨[.int .i64], m, fd, gd, bd, false⟩, ⟨[.int .i64], m', fd', gd', bd', false⟩])) (fun j => rfl) (fun k hk => eqs23step fd gd bd wr m fd' gd' bd' wr' m' a a' n n' k (by omega) hnn hn han han' (hpk k hk)) (eqs23ret fd gd bd wr m fd' gd' bd' wr' m' a a' n n' j hj hnn hn han han' hpj) (by intro h; cases h)
        exact Run.seq_out (Run.seq h2 (Nat.le_refl _) (Run.block_out h3 (by intro h; cases h))) (by intro h; cases h)
    · have hne : (Int.ofNat n != Int.ofNat n') = true := by
        simp only [bne_iff_ne, ne_eq]
        intro h
        exact hnn (Int.ofNat.inj h)
      rw [hne]
      have h1 : Run Try.prog Try.f23.ntmps (cA (cB (bodyOf Try.f23))) (stR [.vec 0 1 a (.sym n), .vec 1 1 a' (.sym n')] [⟨[.int .i64], m, fd, gd, bd, false⟩, ⟨[.int .i64], m', fd', gd', bd', false⟩]) (.ret, (stR [.bad, .bad, .bad, .bad, .sbool false] [⟨[.int .i64], m, fd, gd, bd, false⟩, ⟨[.int .i64], m', fd', gd', bd', false⟩])) := by
        refine Run.to g4 mixed 60 [true] (by kernel_rfl) ?_ (by kernel_rfl) (by kernel_rfl) (by kernel_rfl) ⟨Or.inl rfl, Or.inl rfl, Or.inl rfl, Or.inl rfl, Or.inr (ge_bool (by kernel_rfl)), trivial⟩ ⟨⟨⟨[.int .i64], m, fd, gd, bd, false⟩, by kernel_rfl, VcLe.refl _⟩, ⟨⟨[.int .i64], m', fd', gd', bd', false⟩, by kernel_rfl, VcLe.refl _⟩, trivial⟩ (by kernel_rfl)
        rw [ebT, hne]
      exact Run.seq_out h1 (by intro h; cases h)
  intro M w0 ρ w vs hM hv
  exact Run.calls (fr := ⟨none, some ⟨.sbool (eqRows elInt ⟨[.int .i64], m, fd, gd, bd, wr⟩ ⟨[.int .i64], m', fd', gd', bd', wr'⟩ a a' n n'), [], [], []⟩, true⟩) Try.func23 (by kernel_rfl) hr (ahv := []) (avv := []) (by kernel_rfl) rfl rfl ⟨⟨[], rfl⟩, fun i o => rfl, fun i => rfl⟩ (Nat.le_of_ble_eq_true (by kernel_rfl)) hM hv
/-- laws.eqInt64S -/
noncomputable def G5 : List (Nat × Ctr) := (23, orC (eqC [.int .i64] elInt) (inl Try.prog G4 100 Try.f23)) :: G4
theorem g5 : Ab.Good Try.prog G5 := good_cons (sat_or (sat_eq Try.call23 (fun i i' a a' n n' v v' hs hs' han han' hn => eqs23 i i' a a' n n' v v' hs hs' han han' hn)) (inl_sat g4 mixed Try.func23 Try.call23 100) rfl rfl) g4

/-- laws.eqSeason -/
noncomputable def G6 : List (Nat × Ctr) := (15, inl Try.prog G5 100 Try.f15) :: G5
theorem g6 : Ab.Good Try.prog G6 := good_cons (inl_sat g5 mixed Try.func15 Try.call15 100) g5

/-- spec.LeastStore -/
noncomputable def G7 : List (Nat × Ctr) := (33, lsK) :: G6
theorem g7 : Ab.Good Try.prog G7 := good_cons (sat33) g6

/-- impl.LeastStore -/
noncomputable def G8 : List (Nat × Ctr) := (34, lsK) :: G7
theorem g8 : Ab.Good Try.prog G8 := good_cons (sat34) g7

noncomputable def GG : List (Nat × Ctr) := G8
theorem gg : Ab.Good Try.prog GG := g8

end Go.Proofs.Ytblbjmdeaojogaa.ab10
