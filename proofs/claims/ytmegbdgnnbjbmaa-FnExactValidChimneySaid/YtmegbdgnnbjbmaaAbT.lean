import Derived.Test.YtmegbdgnnbjbmaaAbR
namespace Go.Ab
open Go Go.RowKit
set_option linter.unusedVariables false
/-! ### Rows that are copied -/
def cA : Code → Code | .seq a _ => a | _ => .skip
def cB : Code → Code | .seq _ b => b | _ => .skip
def cK : Code → Code | .block _ c => c | _ => .skip
def cL : Code → Code | .loop c => c | _ => .skip
def bodyOf (fn : Func) : Code := match fn.body with | some c => c | none => .skip

theorem dec_lt {j n : Nat} (h : j < n) : decide (Int.ofNat j < Int.ofNat n) = true := decide_eq_true (by show (j : Int) < (n : Int); omega)
theorem dec_irr {n : Nat} : decide (Int.ofNat n < Int.ofNat n) = false := decide_eq_false (by show ¬ (n : Int) < (n : Int); omega)
def roV1 (v : Vc) : Vc := ⟨v.sh, v.n, v.fd, v.gd, v.bd, false⟩
/-- So many elements are copied. -/
def rowJ (sh : List CK) (n a : Nat) (v : Vc) (z : List AVal) (j : Nat) : Vc :=
  ⟨sh, .sym n, fun k o => cond (Nat.ble (k + 1) j) (v.fd (Nat.add a k) o) (wF (nth o z)), fun k o => cond (Nat.ble (k + 1) j) (v.gd (Nat.add a k) o) (wG (nth o z)), fun k o => cond (Nat.ble (k + 1) j) (v.bd (Nat.add a k) o) (wB (nth o z)), true⟩
/-- A copy. -/
def cpyR (sh : List CK) (n : Num) (a : Nat) (v : Vc) : Vc :=
  ⟨sh, n, fun k o => v.fd (Nat.add a k) o, fun k o => v.gd (Nat.add a k) o, fun k o => v.bd (Nat.add a k) o, true⟩

theorem shift_cpy (sh : List CK) (n : Num) (a : Nat) (v : Vc) : shiftV (cpyR sh n a v) 0 n = cpyR sh n a v := by
  simp [shiftV, cpyR]

theorem rowJ_zero (sh : List CK) (n a : Nat) (v : Vc) (z : List AVal) : VcLe (Vc.all sh (.sym n) z) (rowJ sh n a v z 0) :=
  ⟨rfl, Nat.le_refl _, fun h => h, fun k o c _ _ => by cases c <;> rfl⟩

theorem rowJ_all (sh : List CK) (n a : Nat) (v : Vc) (z : List AVal) : VcLe (rowJ sh n a v z n) (cpyR sh (.sym n) a v) :=
  ⟨rfl, Nat.le_refl _, fun h => h, fun k o c hk _ => by
    have hk : k < n := hk
    have e : Nat.ble (k + 1) n = true := Nat.ble_eq_true_of_le (by omega)
    cases c <;> simp only [Vc.mkA, rowJ, cpyR, e, cond_true]⟩

theorem nth_encC (fd : Nat → Nat) (gd : Nat → Int) (bd : Nat → Bool) : ∀ (sh : List CK) (o q : Nat) (c : CK), nthC q sh = some c → nth q (encC fd gd bd o sh) = match c with | .f32 => .flt .f32 (fd (o + q)) | .int t => .sint t (gd (o + q)) | .bool => .sbool (bd (o + q))
  | [], o, q, c, h => by cases q <;> cases h
  | d :: sh, o, 0, c, h => by
    simp only [nthC, Option.some.injEq] at h
    subst h
    cases d <;> rfl
  | d :: sh, o, q + 1, c, h => by
    have := nth_encC fd gd bd sh (o + 1) q c (by simpa [nthC] using h)
    have e : o + 1 + q = o + (q + 1) := by omega
    rw [e] at this
    cases d <;> exact this

theorem lenL_encC (fd : Nat → Nat) (gd : Nat → Int) (bd : Nat → Bool) : ∀ (sh : List CK) (o : Nat), lenL (encC fd gd bd o sh) = lenL sh
  | [], o => rfl
  | d :: sh, o => by cases d <;> exact congrArg Nat.succ (lenL_encC fd gd bd sh (o + 1))

theorem rowJ_next (sh : List CK) (n a : Nat) (v : Vc) (z : List AVal) (j : Nat) :
    VcLe ((rowJ sh n a v z j).put (Nat.add 0 j) 0 (encC (v.fd (Nat.add a j)) (v.gd (Nat.add a j)) (v.bd (Nat.add a j)) 0 sh)) (rowJ sh n a v z (j + 1)) := by
  refine ⟨rfl, Nat.le_refl _, fun h => h, fun k o c hk hc => ?_⟩
  have ho : o < lenL sh := nthC_lt hc
  rw [put_mkA, lenL_encC]
  have e0 : Nat.add 0 j = j := Nat.zero_add j
  rw [e0]
  by_cases hkj : k = j
  · subst hkj
    rw [if_pos (inSeg_true.2 ⟨rfl, Nat.zero_le _, by omega⟩), Nat.sub_zero, nth_encC _ _ _ sh 0 o c hc]
    have e : Nat.ble (k + 1) (k + 1) = true := Nat.ble_eq_true_of_le (Nat.le_refl _)
    cases c <;> simp only [Vc.mkA, rowJ, e, cond_true, Nat.zero_add] <;> rfl
  · rw [if_neg (fun h => hkj (inSeg_true.1 h).1)]
    have e : Nat.ble (k + 1) j = Nat.ble (k + 1) (j + 1) := by
      cases h1 : Nat.ble (k + 1) j <;> cases h2 : Nat.ble (k + 1) (j + 1) <;> first | rfl | skip
      · have := Nat.le_of_ble_eq_true h2
        have h3 : ¬ (k + 1 ≤ j) := fun h => by rw [Nat.ble_eq_true_of_le h] at h1; cases h1
        omega
      · have := Nat.le_of_ble_eq_true h1
        have h3 : ¬ (k + 1 ≤ j + 1) := fun h => by rw [Nat.ble_eq_true_of_le h] at h2; cases h2
        omega
    cases c <;> simp only [Vc.mkA, rowJ, e]

/-- The contract of a copy. -/
def cpyC (sh : List CK) (by_ : Nat) : Ctr := ⟨fun args S => match args with
  | [.vec i e a n] => match S.vec i with
    | some v => match Nat.beq e (lenL sh) && eqSh sh v.sh with
      | true => some ⟨.vec S.hp.length (lenL sh) 0 n, [], [], [⟨[], false, some (cpyR sh n a v)⟩], needN n (.lit 0) by_ && Nat.ble (Nat.add a n.val) v.n.val, none⟩
      | false => none
    | none => none
  | _ => none, none⟩

section
variable {P : Program}
/-- How many is a number that is not told. -/
theorem onRows_sym {f : FuncId} {i e a : Nat} {n : Num} {v : Vc} {sh : List CK} {u : Vc} (hn : n.ok) (h : OnRows P f [⟨i, e, a, .sym n.val⟩] [] [v] ⟨.vec 1 e 0 (.sym n.val), [], [], [⟨[], false, some (cpyR sh (.sym n.val) a u)⟩], true, none⟩) :
    OnRows P f [⟨i, e, a, n⟩] [] [v] ⟨.vec 1 e 0 n, [], [], [⟨[], false, some (cpyR sh n a u)⟩], true, none⟩ := by
  intro M w0 ρ w vs hM hv
  have hv' : VL ρ (vws 0 [⟨i, e, a, .sym n.val⟩] ++ []) vs := by
    have hv : VL ρ [.vec 0 e a n] vs := hv
    show VL ρ [.vec 0 e a (.sym n.val)] vs
    unfold VL at hv ⊢
    obtain ⟨x, vs', rfl, h1, h2⟩ := hv
    refine ⟨x, vs', rfl, ?_, h2⟩
    unfold V at h1 ⊢
    obtain ⟨_, k2, base, c, k3, k4⟩ := h1
    exact ⟨trivial, k2, base, c, k3, k4⟩
  refine (h M w0 ρ w vs hM hv').mono ?_
  intro en w' hr
  cases en with
  | outgrown => exact hr.elim
  | panicked ch => obtain ⟨v, u, hp, _⟩ := hr; cases hp
  | returned x =>
    obtain ⟨_, ρ', hx, hu, hm'⟩ := hr
    refine ⟨fun b v h => (by cases h), ρ', hx, ?_, ?_⟩
    · simp only at hu ⊢
      unfold V at hu ⊢
      obtain ⟨_, k2, base, c, k3, k4⟩ := hu
      exact ⟨hn, k2, base, c, k3, k4⟩
    · have hblk : ∀ (m : Num) (i : Nat) (x : Vc), ((viewS [v]).put [] [] [⟨[], false, some (cpyR sh m a u)⟩]).vec i = some x → (i = 0 ∧ x = roV1 v) ∨ (i = 1 ∧ x = cpyR sh m a u) := by
        intro m i x hx
        match i with
        | 0 => left; exact ⟨rfl, by simpa [St.vec, St.blk, St.put, St.ext, viewS, roBs, roB, nthB, vlookL, vlook1, roV1] using hx.symm⟩
        | 1 => right; exact ⟨rfl, by simpa [St.vec, St.blk, St.put, St.ext, viewS, roBs, roB, nthB, vlookL, vlook1] using hx.symm⟩
        | i + 2 => simp [St.vec, St.blk, St.put, St.ext, viewS, roBs, roB, nthB] at hx
      have hcell : ∀ (m : Num) (i o : Nat) (x : AVal), ¬ ((viewS [v]).put [] [] [⟨[], false, some (cpyR sh m a u)⟩]).cell i o = some x := by
        intro m i o x hx
        have := cell_off hx
        match i with
        | 0 => simp [St.blk, St.put, St.ext, viewS, roBs, roB, nthB] at this
        | 1 => simp [St.blk, St.put, St.ext, viewS, roBs, roB, nthB] at this
        | i + 2 => simp [St.blk, St.put, St.ext, viewS, roBs, roB, nthB] at this
      refine mem_of hm' rfl (hcell n) (fun i x hx => ?_) (fun i o => rfl) (fun i x hx => by simp [St.put, St.ext, viewS, vlookL, vlook1] at hx)
      rcases hblk n i x hx with ⟨rfl, rfl⟩ | ⟨rfl, rfl⟩
      · exact ⟨roV1 v, rfl, VcLe.refl _⟩
      · exact ⟨cpyR sh (.sym n.val) a u, rfl, ⟨rfl, Nat.le_refl _, fun h => h, fun k o c _ _ => by cases c <;> rfl⟩⟩

/-- A function that copies. -/
theorem sat_cpy {f : FuncId} {sh : List CK} {by_ : Nat} (hcall : ∀ (args : Array Value) (w : World), (callFunc f args).run P w = .ok (.enter f args) w) (hsh : 1 ≤ lenL sh)
    (h : ∀ (i a n : Nat) (v : Vc), v.sh = sh → a + n ≤ v.n.val → n * by_ ≤ 140737488355328 → n ≤ 140737488355328 → OnRows P f [⟨i, lenL sh, a, .sym n⟩] [] [v] ⟨.vec 1 (lenL sh) 0 (.sym n), [], [], [⟨[], false, some (cpyR sh (.sym n) a v)⟩], true, none⟩) : Sat P f (cpyC sh by_) :=
  sat_new hcall rfl (fun args S out hfn hnd hv => by
    simp only [cpyC] at hfn
    split at hfn
    · rename_i i e a n
      split at hfn
      · rename_i v hvec
        split at hfn
        · rename_i hb
          cases hfn
          simp only [Bool.and_eq_true] at hb hnd
          have he := Nat.eq_of_beq_eq_true hb.1
          have hs := (eqSh_eq hb.2).symm
          obtain ⟨h1, h2⟩ := hnd
          unfold needN at h1
          simp only [Bool.and_eq_true] at h1
          have n1 := Nat.le_of_ble_eq_true h1.1
          have n2 := Nat.le_of_ble_eq_true h1.2
          have n3 := Nat.le_of_ble_eq_true h2
          have ez : (Num.lit 0).val = 0 := rfl
          rw [ez] at n1 n2
          simp only [Nat.add_eq, Nat.add_zero, Nat.mul_eq] at n1 n2 n3
          subst he
          have hok : n.ok := by
            obtain ⟨ρ, vs, hv⟩ := hv
            unfold VL at hv
            obtain ⟨x, vs', rfl, k1, _⟩ := hv
            unfold V at k1
            exact k1.1
          have hand : (needN n (.lit 0) by_ && Nat.ble (Nat.add a n.val) v.n.val) = true := by
            unfold needN
            simp only [Bool.and_eq_true]
            exact ⟨⟨h1.1, h1.2⟩, h2⟩
          rw [hand]
          exact ⟨[⟨i, lenL sh, a, n⟩], [], [v], lenL sh, n, cpyR sh n a v, rfl, rfl, by simp [rowsAt, hvec], rfl, hsh, onRows_sym hok (h i a n.val v hs n3 n1 n2), rfl⟩
        · cases hfn
      · cases hfn
    · cases hfn)
end
end Go.Ab
