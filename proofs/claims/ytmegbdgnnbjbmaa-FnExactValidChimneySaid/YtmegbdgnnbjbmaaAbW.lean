import Derived.Test.YtmegbdgnnbjbmaaAbV
import Derived.Test.YtmegbdgnnbjbmaaFp
namespace Go.Ab
open Go Go.RowKit
set_option linter.unusedVariables false
/-! ### An element that is pointed to -/
theorem vcells_get {v : Vc} {k : Nat} : ∀ (n o : Nat) (l : List AVal), v.cellsAt k o n = some l → l.length = n ∧ ∀ (q : Nat) (x : AVal), l[q]? = some x → ∃ c, nthC (o + q) v.sh = some c ∧ x = v.mkA k (o + q) c
  | 0, o, l, h => by simp [Vc.cellsAt] at h; subst h; exact ⟨rfl, fun q x hx => by simp at hx⟩
  | n + 1, o, l, h => by
    unfold Vc.cellsAt at h
    split at h
    · rename_i c hc
      split at h
      · rename_i r hr; cases h
        obtain ⟨h1, h2⟩ := vcells_get n (o + 1) r hr
        refine ⟨by simp [h1], fun q x hx => ?_⟩
        cases q with
        | zero => simp at hx; exact ⟨c, hc, hx.symm⟩
        | succ q =>
          have := h2 q x (by simpa using hx)
          have e : o + (q + 1) = o + 1 + q := by omega
          rw [e]; exact this
      · cases h
    · cases h

theorem vcells_flat {v : Vc} {k : Nat} : ∀ (n o : Nat) (l : List AVal), v.cellsAt k o n = some l → AVal.flat.flatL l = true
  | 0, o, l, h => by simp [Vc.cellsAt] at h; subst h; rfl
  | n + 1, o, l, h => by
    unfold Vc.cellsAt at h
    split at h
    · rename_i c hc
      split at h
      · rename_i r hr; cases h
        have := vcells_flat n (o + 1) r hr
        unfold AVal.flat.flatL
        cases c <;> simp only [Vc.mkA, AVal.flat, this]
      · cases h
    · cases h

theorem vview_mem {M : Addr → Prop} {w0 : World} {ρ : Rho} {S : St} {w : World} (hM : Mem M w0 ρ S w) {i k n : Nat} {vc : Vc} {l : List AVal} (hS : S.vec i = some vc) (hk : k < vc.n.val) (hc : vc.cellsAt k 0 n = some l) (hn : 1 ≤ n) {v : Value} (hv : V ρ (.vptr i (lenL vc.sh) k 0) v) :
    ∃ ρ1, Mem NoM w ρ1 (St1 l) w ∧ V ρ1 (.ptr 0 0) v := by
  obtain ⟨hl, hget⟩ := vcells_get n 0 l hc
  have hfl := vcells_flat n 0 l hc
  unfold V at hv
  obtain ⟨r, b, hr, hve⟩ := hv
  have hlt := hM.hp.lt i r b hr
  have hwb : ∀ j, ((St1 l).blk j).wr = false := fun j => by
    cases j with
    | zero => rfl
    | succ j => unfold St.blk St1; simp only [nthB]
  have hvn : ∀ j vc, ¬ (St1 l).vec j = some vc := fun j vc h => by
    obtain ⟨u, hu⟩ := vec_blk h
    cases j with
    | zero => cases hu
    | succ j => unfold St.blk St1 at hu; simp only [nthB] at hu; cases hu
  refine ⟨⟨fun j => if j = 0 then some (r, b + k * lenL vc.sh) else none, fun _ => 0, fun _ => false⟩, ⟨⟨fun j q x hx => ?_, fun j vc _ _ _ _ _ h => (hvn j vc h).elim, fun j q x r b _ hw => ?_, fun j vc _ _ _ h => (hvn j vc h).elim, fun j vc _ _ h => (hvn j vc h).elim, fun j k r b b' _ hw => ?_, fun j p hp => ?_, fun j h => by (cases h), fun j q x h => by (simp [St1, hlookL] at h), fun j x h => by (simp [St1, vlookL] at h), fun j r' b' hp => ?_⟩, Fr.refl _ _, ⟨fun j q x r b _ hw => ?_, fun j vc _ _ _ h => (hvn j vc h).elim⟩⟩, ?_⟩
  · obtain ⟨rfl, hq⟩ := st1_cell hx
    obtain ⟨c, hcq, rfl⟩ := hget q x hq
    rw [Nat.zero_add] at hcq ⊢
    obtain ⟨u, k2, k3⟩ := hM.hp.vcell i vc r b k q c hS hr hk hcq
    exact ⟨r, b + k * lenL vc.sh, u, rfl, by rw [Nat.add_assoc]; exact k2, V_flat _ _ (by cases c <;> rfl) k3⟩
  · rw [hwb j] at hw; cases hw
  · rcases wrB_iff.1 hw with ⟨q, x, hx, hw⟩ | ⟨vc, hx, _⟩
    · rw [hwb j] at hw; cases hw
    · exact (hvn j vc hx).elim
  · dsimp only at hp
    split at hp
    · rename_i hj; subst hj; show 0 < ([_] : List Blk).length; simp
    · cases hp
  · dsimp only at hp
    split at hp
    · cases hp; exact hlt
    · cases hp
  · rw [hwb j] at hw; cases hw
  · unfold V
    exact ⟨r, b + k * lenL vc.sh, rfl, by rw [hve]; simp⟩

/-- The words of a row fit. -/
theorem row_wf {M : Addr → Prop} {w0 : World} {ρ : Rho} {S : St} {w : World} (hM : Mem M w0 ρ S w) {i k o : Nat} {vc : Vc} {p : Nat × Nat} (hS : S.vec i = some vc) (hk : k < vc.n.val) (hr : ρ i = some p) (hc : nthC o vc.sh = some .f32) : wfW .f32 (vc.fd k o) := by
  obtain ⟨u, _, h2⟩ := hM.hp.vcell i vc p.1 p.2 k o .f32 hS hr hk hc
  exact V_wf h2

def flSh : List CK := [.f32, .f32, .f32, .f32, .int .i64]
noncomputable def flV (v : Vc) (k : Nat) : Bool := flI (v.fd k 0) (v.fd k 1) (v.fd k 2) (v.fd k 3)

/-- Whether a flue that is pointed to is valid for itself. -/
noncomputable def fluC : Ctr := ⟨fun args S => match args with
  | [.vptr i e k o] => match S.vec i with
    | some v => match Nat.beq e 5 && (Nat.beq o 0 && eqSh flSh v.sh) with
      | true => some ⟨.sbool (flV v k), [], [], [], Nat.ble (k + 1) v.n.val, none⟩
      | false => none
    | none => none
  | _ => none, none⟩

section
variable {P : Program}
theorem sat_flu {Γ : List (Nat × Ctr)} (hΓ : Good P Γ) (hm : P.follows .mixedOrders = true) {f : FuncId} {fn : Func} (hf : P.funcs[f]? = some fn)
    (hcall : ∀ (args : Array Value) (w : World), (callFunc f args).run P w = .ok (.enter f args) w)
    (he : ∀ (h w t d : Nat) (z : Int), evBody P Γ 100 fn [.ptr 0 0] (St1 [.flt .f32 h, .flt .f32 w, .flt .f32 t, .flt .f32 d, .sint .i64 z]) = some ⟨.sbool (flS h w t d), [], [], [], true, none⟩) : Sat P f fluC := by
  refine ⟨hcall, fun args S out hfn hnd M w0 ρ w vs hM hv => ?_⟩
  simp only [fluC] at hfn
  split at hfn
  · rename_i i e k o
    split at hfn
    · rename_i v hvec
      split at hfn
      · rename_i hb
        cases hfn
        simp only [Bool.and_eq_true] at hb hnd
        have e1 := Nat.eq_of_beq_eq_true hb.1
        have e2 := Nat.eq_of_beq_eq_true hb.2.1
        have hs := (eqSh_eq hb.2.2).symm
        subst e1; subst e2
        have hk : k < v.n.val := Nat.le_of_ble_eq_true hnd
        have hlen : lenL v.sh = 5 := by rw [hs]; rfl
        have hs' : SatC P f (inl P Γ 100 fn) := inl_sat hΓ hm hf hcall 100
        unfold VL at hv
        obtain ⟨u, vs', rfl, hv1, hv2⟩ := hv
        have hc : v.cellsAt k 0 5 = some [.flt .f32 (v.fd k 0), .flt .f32 (v.fd k 1), .flt .f32 (v.fd k 2), .flt .f32 (v.fd k 3), .sint .i64 (v.gd k 4)] := by
          obtain ⟨sh, n, fd, gd, bd, wr⟩ := v
          have hs : sh = flSh := hs
          subst hs
          rfl
        obtain ⟨ρ1, hM1, hv3⟩ := vview_mem hM hvec hk hc (by decide) (by rw [hlen]; exact hv1)
        have hvl : VL ρ1 [.ptr 0 0] (u :: vs') := by
          unfold VL at hv2 ⊢
          subst hv2
          exact ⟨u, [], rfl, hv3, by unfold VL; rfl⟩
        have hp : ∃ p, ρ i = some p := by
          unfold V at hv1
          obtain ⟨r, b, hr, _⟩ := hv1
          exact ⟨_, hr⟩
        obtain ⟨p, hp⟩ := hp
        have w0' := row_wf hM (o := 0) hvec hk hp (by rw [hs]; rfl)
        have w1' := row_wf hM (o := 1) hvec hk hp (by rw [hs]; rfl)
        refine (hs'.sat [.ptr 0 0] _ _ (he _ _ _ _ _) rfl NoM w ρ1 w _ hM1 hvl).mono ?_
        intro e w' hr
        cases e with
        | outgrown => exact hr.elim
        | panicked ch =>
          obtain ⟨v, u, hp, _⟩ := hr
          cases hp
        | returned x =>
          obtain ⟨_, ρ', _, hu, hm'⟩ := hr
          refine ⟨fun b v h => (by cases h), ρ, ExtS.refl _ _, ?_, (hM.quiet hm'.fr).put_nil⟩
          have : V ρ (.sbool (flS (v.fd k 0) (v.fd k 1) (v.fd k 2) (v.fd k 3))) x := V_flat _ _ rfl hu
          rw [fl_eq w0' w1'] at this
          exact this
      · cases hfn
    · cases hfn
  · cases hfn
end

/-! ### Chimneys -/
/-- What is wrong with a flue, as the program asks. -/
noncomputable def badI (v : Vc) (a n k : Nat) : Bool := cond (!flV v (Nat.add a k)) true (cond (!(v.gd (Nat.add a k) 4 == -1)) (cond (cond (decide (0 ≤ v.gd (Nat.add a k) 4)) (decide (v.gd (Nat.add a k) 4 < Int.ofNat n)) false) (!(v.gd (Nat.add a (v.gd (Nat.add a k) 4).toNat) 4 == -1)) true) false)
/-- .. and as the model asks. -/
noncomputable def badS (v : Vc) (a n k : Nat) : Bool := cond (v.gd (Nat.add a k) 4 == -1) false (cond (!(cond (decide (v.gd (Nat.add a k) 4 ≥ 0)) (decide (v.gd (Nat.add a k) 4 ≤ IntKind.i64.wrap (Int.ofNat n - 1))) false)) true (cond (v.gd (Nat.add a k) 4 == Int.ofNat k) true (!(v.gd (Nat.add a (v.gd (Nat.add a k) 4).toNat) 4 == -1))))

theorem bad_eq {v : Vc} {a n k : Nat} (hn : n ≤ 140737488355328) (hk : k < n) : cond (!flV v (Nat.add a k)) true (badS v a n k) = badI v a n k := by
  unfold badS badI
  have hw : IntKind.i64.wrap (Int.ofNat n - 1) = Int.ofNat n - 1 := IntWalk.i64_in _ (by show _ ≤ (n : Int) - 1 ∧ (n : Int) - 1 ≤ _; omega)
  rw [hw]
  cases h1 : flV v (Nat.add a k) with
  | false => rfl
  | true =>
    show cond _ _ _ = cond _ _ _
    by_cases h2 : v.gd (Nat.add a k) 4 = -1
    · have h2' : (v.gd (Nat.add a k) 4 == -1) = true := by rw [h2]; rfl
      rw [h2']; rfl
    · have h2' : (v.gd (Nat.add a k) 4 == -1) = false := by simpa using h2
      rw [h2']
      show cond (!(cond _ _ _)) true _ = cond (cond _ _ _) _ true
      generalize hz : v.gd (Nat.add a k) 4 = z at *
      by_cases h3 : 0 ≤ z
      · have d1 : decide (z ≥ 0) = true := decide_eq_true h3
        have d2 : decide (0 ≤ z) = true := decide_eq_true h3
        rw [d1]
        by_cases h4 : z < Int.ofNat n
        · have d3 : decide (z < Int.ofNat n) = true := decide_eq_true h4
          have d4 : decide (z ≤ Int.ofNat n - 1) = true := decide_eq_true (by omega)
          rw [d3, d4]
          show cond (z == Int.ofNat k) true _ = _
          by_cases h5 : z = Int.ofNat k
          · have e5 : (z == Int.ofNat k) = true := by simpa using h5
            rw [e5]
            show true = _
            have : z.toNat = k := by rw [h5]; rfl
            rw [this, hz]
            rw [h2']; rfl
          · have e5 : (z == Int.ofNat k) = false := by simpa using h5
            rw [e5]; rfl
        · have d3 : decide (z < Int.ofNat n) = false := decide_eq_false h4
          have d4 : decide (z ≤ Int.ofNat n - 1) = false := decide_eq_false (by omega)
          rw [d3, d4]; rfl
      · have d1 : decide (z ≥ 0) = false := decide_eq_false h3
        have d2 : decide (0 ≤ z) = false := decide_eq_false h3
        rw [d1]; rfl

noncomputable def chimV (v : Vc) (a n : Nat) : Bool := cond (cond (decide (Int.ofNat n < 1)) true (decide (Int.ofNat n > 6))) false (allB n (fun k => !badI v a n k))

/-- Whether a chimney is valid. -/
noncomputable def chimC : Ctr := ⟨fun args S => match args with
  | [.vec i e a n] => match S.vec i with
    | some v => match Nat.beq e 5 && eqSh flSh v.sh with
      | true => some ⟨.sbool (chimV v a n.val), [], [], [], Nat.ble n.val 140737488355328 && Nat.ble (Nat.add a n.val) v.n.val, none⟩
      | false => none
    | none => none
  | _ => none, none⟩

section
variable {P : Program}
theorem onRows_sym1 {f : FuncId} {i e a : Nat} {n : Num} {vcs : List Vc} {out : Out} (h : OnRows P f [⟨i, e, a, .sym n.val⟩] [] vcs out) : OnRows P f [⟨i, e, a, n⟩] [] vcs out := by
  intro M w0 ρ w vs hM hv
  refine h M w0 ρ w vs hM ?_
  have hv : VL ρ [.vec 0 e a n] vs := hv
  show VL ρ [.vec 0 e a (.sym n.val)] vs
  unfold VL at hv ⊢
  obtain ⟨x, vs', rfl, h1, h2⟩ := hv
  refine ⟨x, _, rfl, ?_, h2⟩
  unfold V at h1 ⊢
  obtain ⟨_, k2, base, c, k3, k4⟩ := h1
  exact ⟨trivial, k2, base, c, k3, k4⟩

theorem sat_chim {f : FuncId} (hcall : ∀ (args : Array Value) (w : World), (callFunc f args).run P w = .ok (.enter f args) w)
    (h : ∀ (i a n : Nat) (v : Vc), v.sh = flSh → a + n ≤ v.n.val → n ≤ 140737488355328 → OnRows P f [⟨i, 5, a, .sym n⟩] [] [v] ⟨.sbool (chimV v a n), [], [], [], true, none⟩) : Sat P f chimC :=
  sat_rd hcall rfl (fun args S out hfn hnd hv => by
    simp only [chimC] at hfn
    split at hfn
    · rename_i i e a n
      split at hfn
      · rename_i v hvec
        split at hfn
        · rename_i hb
          cases hfn
          simp only [Bool.and_eq_true] at hb hnd
          have he := Nat.eq_of_beq_eq_true hb.1
          have hs := (eqSh_eq hb.2).symm
          have n1 := Nat.le_of_ble_eq_true hnd.1
          have n2 := Nat.le_of_ble_eq_true hnd.2
          simp only [Nat.add_eq] at n2
          subst he
          have hand : (Nat.ble n.val 140737488355328 && Nat.ble (Nat.add a n.val) v.n.val) = true := by
            simp only [Bool.and_eq_true]; exact hnd
          rw [hand]
          exact ⟨[⟨i, 5, a, n⟩], [], [v], .sbool (chimV v a n.val), rfl, rfl, by simp [rowsAt, hvec], onRows_sym1 (h i a n.val v hs n2 n1), rfl, rfl, fun ρ u hu => hu⟩
        · cases hfn
      · cases hfn
    · cases hfn)
end
end Go.Ab
