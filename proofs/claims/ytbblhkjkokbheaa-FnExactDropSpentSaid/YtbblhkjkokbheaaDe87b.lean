import Derived.Test.YtbblhkjkokbheaaDe87a
namespace Go.Proofs.Ytbblhkjkokbheaa.ab
open Go Go.Ab Go.Proofs Go.RowKit
set_option linter.unusedVariables false
set_option linter.unusedSimpArgs false
set_option maxRecDepth 100000
noncomputable def spR (fd : Nat → Nat → Nat) (a j : Nat) : Bool := spO (wL (fd (Nat.add a j)))
noncomputable abbrev N141 : Nat := Try.f141.ntmps
noncomputable abbrev X141 : Code := cL (cK (cB (cA (cB (bodyOf Try.f141)))))
noncomputable abbrev R141 (m : Num) (fd : Nat → Nat → Nat) (gd : Nat → Nat → Int) (bd : Nat → Nat → Bool) : Vc := ⟨wSh, m, fd, gd, bd, false⟩
noncomputable abbrev I141 (m : Num) (fd : Nat → Nat → Nat) (gd : Nat → Nat → Int) (bd : Nat → Nat → Bool) (a n j : Nat) : St := stR [.vec 0 18 a (.sym n), .fn (.func 88) [] [], .bad, .bad, .bad, .bad, .bad, .sint .i64 (Int.ofNat n), .sint .i64 (Int.ofNat j)] [R141 m fd gd bd]
section
variable (fd : Nat → Nat → Nat) (gd : Nat → Nat → Int) (bd : Nat → Nat → Bool) (m : Num) (a n : Nat)
set_option maxHeartbeats 4000000 in
set_option maxRecDepth 1000000 in
theorem step141 (j : Nat) (hj : j < n) (hn : n ≤ 140737488355328) (han : a + n ≤ m.val) (hb : spR fd a j = false) : Run Try.prog N141 X141 (I141 m fd gd bd a n j) (.normal, I141 m fd gd bd a n (j + 1)) := by
  have c1 : Nat.ble (j + 1) n = true := Nat.ble_eq_true_of_le hj
  have c2 : Nat.ble (Nat.add a j + 1) m.val = true := Nat.ble_eq_true_of_le (by show a + j + 1 ≤ m.val; omega)
  refine Run.to d2 mixed87 100 [true, false] (by kernel_rfl) ?_ ?_ (by kernel_rfl) (by kernel_rfl) ⟨Or.inr (ge_eq (by kernel_rfl)), Or.inr (ge_eq (by kernel_rfl)), Or.inl rfl, Or.inl rfl, Or.inl rfl, Or.inl rfl, Or.inl rfl, Or.inr (ge_eq (by kernel_rfl)), Or.inr (ge_eq ?_), trivial⟩ ⟨⟨R141 m fd gd bd, by kernel_rfl, VcLe.refl _⟩, trivial⟩ (by kernel_rfl)
  · have e : wBs (wayO [true, false] (I141 m fd gd bd a n j) (Ab.ev Try.prog D2 N141 100 X141 (I141 m fd gd bd a n j) Dl.nil)) = [decide (Int.ofNat j < Int.ofNat n), spR fd a j] := by kernel_rfl
    rw [e, dec_lt hj, hb]
  · have e : wNd (wayO [true, false] (I141 m fd gd bd a n j) (Ab.ev Try.prog D2 N141 100 X141 (I141 m fd gd bd a n j) Dl.nil)) = cond (andN (andN true (true && Nat.ble (j + 1) n)) (Nat.ble (Nat.add a j + 1) m.val)) true false := by kernel_rfl
    rw [e, c1, c2]; rfl
  · have e : (wS (wayO [true, false] (I141 m fd gd bd a n j) (Ab.ev Try.prog D2 N141 100 X141 (I141 m fd gd bd a n j) Dl.nil))).get 8 = .sint .i64 (IntKind.i64.wrap (Int.ofNat j + 1)) := by kernel_rfl
    rw [e, wrap_next hj hn]
set_option maxHeartbeats 4000000 in
set_option maxRecDepth 1000000 in
theorem hit141 (j : Nat) (hj : j < n) (han : a + n ≤ m.val) (hb : spR fd a j = true) : Run Try.prog N141 X141 (I141 m fd gd bd a n j) (.ret, stR [.bad, .bad, .bad, .bad, .sint .i64 (Int.ofNat j)] [R141 m fd gd bd]) := by
  have c1 : Nat.ble (j + 1) n = true := Nat.ble_eq_true_of_le hj
  have c2 : Nat.ble (Nat.add a j + 1) m.val = true := Nat.ble_eq_true_of_le (by show a + j + 1 ≤ m.val; omega)
  refine Run.to d2 mixed87 100 [true, true] (by kernel_rfl) ?_ ?_ (by kernel_rfl) (by kernel_rfl) ⟨Or.inl rfl, Or.inl rfl, Or.inl rfl, Or.inl rfl, Or.inr (ge_eq (by kernel_rfl)), trivial⟩ ⟨⟨R141 m fd gd bd, by kernel_rfl, VcLe.refl _⟩, trivial⟩ (by kernel_rfl)
  · have e : wBs (wayO [true, true] (I141 m fd gd bd a n j) (Ab.ev Try.prog D2 N141 100 X141 (I141 m fd gd bd a n j) Dl.nil)) = [decide (Int.ofNat j < Int.ofNat n), spR fd a j] := by kernel_rfl
    rw [e, dec_lt hj, hb]
  · have e : wNd (wayO [true, true] (I141 m fd gd bd a n j) (Ab.ev Try.prog D2 N141 100 X141 (I141 m fd gd bd a n j) Dl.nil)) = cond (andN (andN true (true && Nat.ble (j + 1) n)) (Nat.ble (Nat.add a j + 1) m.val)) true false := by kernel_rfl
    rw [e, c1, c2]; rfl
set_option maxHeartbeats 4000000 in
set_option maxRecDepth 1000000 in
theorem end141 : Run Try.prog N141 X141 (I141 m fd gd bd a n n) (.exit 0, I141 m fd gd bd a n n) := by
  refine Run.to d2 mixed87 100 [false] (by kernel_rfl) ?_ (by kernel_rfl) (by kernel_rfl) (by kernel_rfl) ⟨Or.inr (ge_eq (by kernel_rfl)), Or.inr (ge_eq (by kernel_rfl)), Or.inl rfl, Or.inl rfl, Or.inl rfl, Or.inl rfl, Or.inl rfl, Or.inr (ge_eq (by kernel_rfl)), Or.inr (ge_eq (by kernel_rfl)), trivial⟩ ⟨⟨R141 m fd gd bd, by kernel_rfl, VcLe.refl _⟩, trivial⟩ (by kernel_rfl)
  have e : wBs (wayO [false] (I141 m fd gd bd a n n) (Ab.ev Try.prog D2 N141 100 X141 (I141 m fd gd bd a n n) Dl.nil)) = [decide (Int.ofNat n < Int.ofNat n)] := by kernel_rfl
  rw [e, dec_irr]
end
set_option maxHeartbeats 4000000 in
set_option maxRecDepth 1000000 in
theorem idx141 (i a n : Nat) (v : Vc) (hs : v.sh = wSh) (han : a + n ≤ v.n.val) (hn : n ≤ 140737488355328) : OnRows Try.prog 141 [⟨i, 18, a, .sym n⟩] [.fn (.func 88) [] []] [v] ⟨.sint .i64 (ffst (spR v.fd a) n), [], [], [], true, none⟩ := by
  obtain ⟨sh, m, fd, gd, bd, wr⟩ := v
  have hs : sh = wSh := hs
  subst hs
  have h1 : Run Try.prog N141 (cA (bodyOf Try.f141)) ((viewS [(⟨wSh, m, fd, gd, bd, wr⟩ : Vc)]).start N141 [.vec 0 18 a (.sym n), .fn (.func 88) [] []]) (.normal, stR [.vec 0 18 a (.sym n), .fn (.func 88) [] []] [R141 m fd gd bd]) :=
    Run.to d2 mixed87 100 [] (by kernel_rfl) (by kernel_rfl) (by kernel_rfl) (by kernel_rfl) (by kernel_rfl) ⟨Or.inr (ge_eq (by kernel_rfl)), Or.inr (ge_eq (by kernel_rfl)), trivial⟩ ⟨⟨R141 m fd gd bd, by kernel_rfl, VcLe.refl _⟩, trivial⟩ (by kernel_rfl)
  have h2 : Run Try.prog N141 (cA (cA (cB (bodyOf Try.f141)))) (stR [.vec 0 18 a (.sym n), .fn (.func 88) [] []] [R141 m fd gd bd]) (.normal, I141 m fd gd bd a n 0) :=
    Run.to d2 mixed87 100 [] (by kernel_rfl) (by kernel_rfl) (by kernel_rfl) (by kernel_rfl) (by kernel_rfl) ⟨Or.inr (ge_eq (by kernel_rfl)), Or.inr (ge_eq (by kernel_rfl)), Or.inl rfl, Or.inl rfl, Or.inl rfl, Or.inl rfl, Or.inl rfl, Or.inr (ge_eq (by kernel_rfl)), Or.inr (ge_int (by kernel_rfl)), trivial⟩ ⟨⟨R141 m fd gd bd, by kernel_rfl, VcLe.refl _⟩, trivial⟩ (by kernel_rfl)
  have hB : bodyOf Try.f141 = .seq (cA (bodyOf Try.f141)) (.seq (.seq (cA (cA (cB (bodyOf Try.f141)))) (.block 0 (.loop X141))) (cB (cB (bodyOf Try.f141)))) := by kernel_rfl
  intro M w0 ρ w vs hM hv
  rcases first_ex (b := spR fd a) n with h | ⟨k, hk, hb, h⟩
  · have h3 : Run Try.prog N141 (.loop X141) (I141 m fd gd bd a n 0) (.exit 0, I141 m fd gd bd a n n) := Run.loop n (fun j => I141 m fd gd bd a n j) (fun j => rfl) (fun j hj => step141 fd gd bd m a n j hj hn han (h j hj)) (end141 fd gd bd m a n) (by intro h; cases h)
    have h6 : Run Try.prog N141 (cB (cB (bodyOf Try.f141))) (I141 m fd gd bd a n n) (.ret, stR [.bad, .bad, .bad, .bad, .sint .i64 (-1)] [R141 m fd gd bd]) :=
      Run.to d2 mixed87 100 [] (by kernel_rfl) (by kernel_rfl) (by kernel_rfl) (by kernel_rfl) (by kernel_rfl) ⟨Or.inl rfl, Or.inl rfl, Or.inl rfl, Or.inl rfl, Or.inr (ge_int (by kernel_rfl)), trivial⟩ ⟨⟨R141 m fd gd bd, by kernel_rfl, VcLe.refl _⟩, trivial⟩ (by kernel_rfl)
    have hr : Run Try.prog N141 (bodyOf Try.f141) ((viewS [(⟨wSh, m, fd, gd, bd, wr⟩ : Vc)]).start N141 [.vec 0 18 a (.sym n), .fn (.func 88) [] []]) (.ret, stR [.bad, .bad, .bad, .bad, .sint .i64 (-1)] [R141 m fd gd bd]) := by
      rw [hB]
      exact Run.seq h1 (Nat.le_refl _) (Run.seq (Run.seq h2 (Nat.le_refl _) (Run.block h3)) (Nat.le_refl _) h6)
    have e : ffst (spR fd a) n = -1 := ffst_none h
    show Calls Try.prog 141 ⟨vs⟩ w (Res M w0 ρ (viewS [(⟨wSh, m, fd, gd, bd, wr⟩ : Vc)]) ⟨.sint .i64 (ffst (spR fd a) n), [], [], [], true, none⟩)
    rw [e]
    exact Run.calls (fr := ⟨none, some ⟨.sint .i64 (-1), [], [], []⟩, true⟩) Try.func141 (by kernel_rfl) hr (ahv := []) (avv := []) (by kernel_rfl) rfl rfl ⟨⟨[], rfl⟩, fun i o => rfl, fun i => rfl⟩ (Nat.le_of_ble_eq_true (by kernel_rfl)) hM hv
  · have h3 : Run Try.prog N141 (.loop X141) (I141 m fd gd bd a n 0) (.ret, stR [.bad, .bad, .bad, .bad, .sint .i64 (Int.ofNat k)] [R141 m fd gd bd]) := Run.loop k (fun j => I141 m fd gd bd a n j) (fun j => rfl) (fun j hj => step141 fd gd bd m a n j (by omega) hn han (h j hj)) (hit141 fd gd bd m a n k hk han hb) (by intro h; cases h)
    have hr : Run Try.prog N141 (bodyOf Try.f141) ((viewS [(⟨wSh, m, fd, gd, bd, wr⟩ : Vc)]).start N141 [.vec 0 18 a (.sym n), .fn (.func 88) [] []]) (.ret, stR [.bad, .bad, .bad, .bad, .sint .i64 (Int.ofNat k)] [R141 m fd gd bd]) := by
      rw [hB]
      exact Run.seq h1 (Nat.le_refl _) (Run.seq_out (Run.seq h2 (Nat.le_refl _) (Run.block_out h3 (by intro h; cases h))) (by intro h; cases h))
    have e : ffst (spR fd a) n = Int.ofNat k := ffst_some hb h hk
    show Calls Try.prog 141 ⟨vs⟩ w (Res M w0 ρ (viewS [(⟨wSh, m, fd, gd, bd, wr⟩ : Vc)]) ⟨.sint .i64 (ffst (spR fd a) n), [], [], [], true, none⟩)
    rw [e]
    exact Run.calls (fr := ⟨none, some ⟨.sint .i64 (Int.ofNat k), [], [], []⟩, true⟩) Try.func141 (by kernel_rfl) hr (ahv := []) (avv := []) (by kernel_rfl) rfl rfl ⟨⟨[], rfl⟩, fun i o => rfl, fun i => rfl⟩ (Nat.le_of_ble_eq_true (by kernel_rfl)) hM hv
/-- slices.IndexFunc at spent logs -/
noncomputable def ifC : Ctr := ⟨fun args S => match args with
  | [.vec i e a (.sym n), .fn (.func g) [] []] => match S.vec i with
    | some v => match Nat.beq g 88 && (Nat.beq e 18 && eqSh wSh v.sh) with
      | true => some ⟨.sint .i64 (ffst (spR v.fd a) n), [], [], [], Nat.ble (Nat.add a n) v.n.val && Nat.ble n 140737488355328, none⟩
      | false => none
    | none => none
  | _ => none, none⟩
theorem sat141 : Sat Try.prog 141 ifC := by
  refine sat_rd Try.call141 rfl (fun args S out hfn hnd hex => ?_)
  simp only [ifC] at hfn
  split at hfn
  case h_2 => cases hfn
  rename_i i e a n g
  split at hfn
  case h_2 => cases hfn
  rename_i v hvec
  split at hfn
  case h_2 => cases hfn
  rename_i hb
  simp only [Bool.and_eq_true] at hb
  obtain ⟨h1, h2, h3⟩ := hb
  have h1 := Nat.eq_of_beq_eq_true h1
  have h2 := Nat.eq_of_beq_eq_true h2
  subst h1; subst h2
  cases hfn
  have hnd : (Nat.ble (Nat.add a n) v.n.val && Nat.ble n 140737488355328) = true := hnd
  have hnd2 := hnd
  rw [Bool.and_eq_true] at hnd2
  refine ⟨[⟨i, 18, a, .sym n⟩], [.fn (.func 88) [] []], [v], _, rfl, rfl, by simp only [rowsAt, hvec], idx141 i a n v (eqSh_eq h3).symm (Nat.le_of_ble_eq_true hnd2.1) (Nat.le_of_ble_eq_true hnd2.2), rfl, by rw [hnd], fun ρ u h => h⟩
end Go.Proofs.Ytbblhkjkokbheaa.ab
