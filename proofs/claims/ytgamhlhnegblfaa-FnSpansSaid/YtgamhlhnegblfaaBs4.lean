import Derived.Test.YtgamhlhnegblfaaBs3
namespace Go.Proofs.Ytgamhlhnegblfaa.ab
open Go Go.Ab Go.Proofs Go.RowKit
set_option linter.unusedVariables false
set_option linter.unusedSimpArgs false
set_option maxRecDepth 100000
/-- A function of one row of bytes that is read. -/
noncomputable def rowC0 (g : Nat → (Nat → Nat → Int) → AVal) : Ctr := ⟨fun args S => match args with
  | [.vec i e a (.sym n)] => match S.vec i with
    | some v => match Nat.beq e 1 && eqSh [.int .u8] v.sh with
      | true => some ⟨g n (fun k o => v.gd (Nat.add a k) o), [], [], [], Nat.ble (Nat.add a n) v.n.val, none⟩
      | false => none
    | none => none
  | _ => none, none⟩
noncomputable def rowC2 (g : Nat → (Nat → Nat → Int) → AVal) : Ctr := ⟨fun args S => match args with
  | [.vec i e a (.sym n), .int .i64 z, .int .i64 y] => match S.vec i with
    | some v => match Nat.beq e 1 && (eqSh [.int .u8] v.sh && (decide (z = 0) && decide (y = 17))) with
      | true => some ⟨g n (fun k o => v.gd (Nat.add a k) o), [], [], [], Nat.ble (Nat.add a n) v.n.val, none⟩
      | false => none
    | none => none
  | _ => none, none⟩
theorem sat_row0 {f : FuncId} {fn : Func} (hf : Try.prog.funcs[f]? = some fn) (hcall : ∀ (args : Array Value) (w : World), (callFunc f args).run Try.prog w = .ok (.enter f args) w) {g : Nat → (Nat → Nat → Int) → AVal} {N0 : Nat → (Nat → Nat → Int) → Bool}
    (he : ∀ n fd gd bd, evBody Try.prog KK 100 fn [.vec 0 1 0 (.sym n)] (viewS [⟨[.int .u8], .sym n, fd, gd, bd, false⟩]) = some ⟨g n gd, [], [], [], N0 n gd, none⟩) (hn : ∀ n gd, N0 n gd = true) (hfl : ∀ n gd, (g n gd).flat = true) : Sat Try.prog f (rowC0 g) :=
  sat_rdA kk mixed hf hcall rfl 100 (fun args S out hfn hnd hex => by
    simp only [rowC0] at hfn
    split at hfn
    · rename_i i e a n
      split at hfn
      · rename_i v hv
        split at hfn
        · rename_i hc
          simp only [Bool.and_eq_true] at hc
          have he1 := Nat.eq_of_beq_eq_true hc.1
          have hsh := eqSh_eq hc.2
          cases hfn
          subst he1
          have hnd : Nat.ble (Nat.add a n) v.n.val = true := hnd
          refine ⟨[.vec i 1 a (.sym n)], [shiftV v a (.sym n)], g n (fun k o => v.gd (Nat.add a k) o), fun ρ vs h => h, rfl, ?_, ?_, hfl _ _, rfl, fun ρ u h => h⟩
          · have hl : lenL v.sh = 1 := by rw [← hsh]; rfl
            simp only [idsA, rowsI, hv]
            rw [hl]
            have : (Nat.beq 1 1 && Nat.ble (Nat.add a (Num.sym n).val) v.n.val) = true := by rw [Bool.and_eq_true]; exact ⟨rfl, hnd⟩
            rw [this]
          · obtain ⟨sh, vn, fd, gd, bd, wr⟩ := v
            simp only at hsh
            subst hsh
            have := he n (fun k o => fd (Nat.add a k) o) (fun k o => gd (Nat.add a k) o) (fun k o => bd (Nat.add a k) o)
            rw [hn] at this
            exact this
        · cases hfn
      · cases hfn
    · cases hfn)
theorem sat_row2 {f : FuncId} {fn : Func} (hf : Try.prog.funcs[f]? = some fn) (hcall : ∀ (args : Array Value) (w : World), (callFunc f args).run Try.prog w = .ok (.enter f args) w) {g : Nat → (Nat → Nat → Int) → AVal} {N0 : Nat → (Nat → Nat → Int) → Bool}
    (he : ∀ n fd gd bd, evBody Try.prog KK 100 fn [.vec 0 1 0 (.sym n), .int .i64 0, .int .i64 17] (viewS [⟨[.int .u8], .sym n, fd, gd, bd, false⟩]) = some ⟨g n gd, [], [], [], N0 n gd, none⟩) (hn : ∀ n gd, N0 n gd = true) (hfl : ∀ n gd, (g n gd).flat = true) : Sat Try.prog f (rowC2 g) :=
  sat_rdA kk mixed hf hcall rfl 100 (fun args S out hfn hnd hex => by
    simp only [rowC2] at hfn
    split at hfn
    · rename_i i e a n z y
      split at hfn
      · rename_i v hv
        split at hfn
        · rename_i hc
          simp only [Bool.and_eq_true, decide_eq_true_eq] at hc
          obtain ⟨h1, h2, rfl, rfl⟩ := hc
          have he1 := Nat.eq_of_beq_eq_true h1
          have hsh := eqSh_eq h2
          cases hfn
          subst he1
          have hnd : Nat.ble (Nat.add a n) v.n.val = true := hnd
          refine ⟨[.vec i 1 a (.sym n), .int .i64 0, .int .i64 17], [shiftV v a (.sym n)], g n (fun k o => v.gd (Nat.add a k) o), fun ρ vs h => h, rfl, ?_, ?_, hfl _ _, rfl, fun ρ u h => h⟩
          · have hl : lenL v.sh = 1 := by rw [← hsh]; rfl
            simp only [idsA, rowsI, hv]
            rw [hl]
            have : (Nat.beq 1 1 && Nat.ble (Nat.add a (Num.sym n).val) v.n.val) = true := by rw [Bool.and_eq_true]; exact ⟨rfl, hnd⟩
            rw [this]
          · obtain ⟨sh, vn, fd, gd, bd, wr⟩ := v
            simp only at hsh
            subst hsh
            have := he n (fun k o => fd (Nat.add a k) o) (fun k o => gd (Nat.add a k) o) (fun k o => bd (Nat.add a k) o)
            rw [hn] at this
            exact this
        · cases hfn
      · cases hfn
    · cases hfn)
noncomputable def L1 : List (Nat × Ctr) := (41, rowC0 fun n gd => .flt .f32 (any0 n gd)) :: KK
theorem l1 : Ab.Good Try.prog L1 := good_cons (sat_row0 Try.func41 Try.call41 e41 N41_t (fun _ _ => rfl)) kk
noncomputable def L2 : List (Nat × Ctr) := (43, rowC0 fun n gd => .agg [.flt .f32 (lo0 n gd), .flt .f32 (hi0 n gd)]) :: L1
theorem l2 : Ab.Good Try.prog L2 := good_cons (sat_row0 Try.func43 Try.call43 e43 N43_t (fun _ _ => rfl)) l1
noncomputable def L3 : List (Nat × Ctr) := (44, rowC2 fun n gd => .sint .i64 (at0 n gd)) :: L2
theorem l3 : Ab.Good Try.prog L3 := good_cons (sat_row2 Try.func44 Try.call44 e44 N44_t (fun _ _ => rfl)) l2
noncomputable def L4 : List (Nat × Ctr) := (40, inl Try.prog L3 100 Try.f40) :: L3
theorem l4 : Ab.Good Try.prog L4 := good_cons (inl_sat l3 mixed Try.func40 Try.call40 100) l3
end Go.Proofs.Ytgamhlhnegblfaa.ab
