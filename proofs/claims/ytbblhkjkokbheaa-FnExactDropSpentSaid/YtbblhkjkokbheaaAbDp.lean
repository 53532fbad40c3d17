import Derived.Test.YtbblhkjkokbheaaAbPn
namespace Go.Ab
open Go Go.RowKit
set_option linter.unusedVariables false
/-! ### DropSpent: the answers by names -/
noncomputable def dsS (p : Prm) : Bool := stvB p.fd 0 p.n p.b p.d p.u p.s p.h
noncomputable def dsQ (p : Prm) : Nat → Bool := fun k => fleB .f32 1015021568 (fuW (p.fd k))
noncomputable def dsN (p : Prm) : Nat := cond (dsS p) (kpN (dsQ p) p.n) 0
noncomputable def dsV (p : Prm) (x : Nat) : Nat := cond (dsS p) x 0
noncomputable def dsI (p : Prm) (x : Int) : Int := cond (dsS p) x 0
noncomputable def dsC (p : Prm) : Int := cond (dsS p) (IntKind.i64.wrap ((Int.ofNat p.n).sub (Int.ofNat (kpN (dsQ p) p.n)))) 0
noncomputable def dsD (p : Prm) : Int := cond (dsS p) 0 1
theorem DN_ex : ∃ f, f = dsN := ⟨_, rfl⟩
noncomputable def DN : Prm → Nat := Classical.choose DN_ex
theorem DN_eq : DN = dsN := Classical.choose_spec DN_ex
theorem DV_ex : ∃ f, f = dsV := ⟨_, rfl⟩
noncomputable def DV : Prm → Nat → Nat := Classical.choose DV_ex
theorem DV_eq : DV = dsV := Classical.choose_spec DV_ex
theorem DI_ex : ∃ f, f = dsI := ⟨_, rfl⟩
noncomputable def DI : Prm → Int → Int := Classical.choose DI_ex
theorem DI_eq : DI = dsI := Classical.choose_spec DI_ex
theorem DC_ex : ∃ f, f = dsC := ⟨_, rfl⟩
noncomputable def DC : Prm → Int := Classical.choose DC_ex
theorem DC_eq : DC = dsC := Classical.choose_spec DC_ex
theorem DD_ex : ∃ f, f = dsD := ⟨_, rfl⟩
noncomputable def DD : Prm → Int := Classical.choose DD_ex
theorem DD_eq : DD = dsD := Classical.choose_spec DD_ex
def dsA (k : Nat) (n : Num) (b d : Nat) (s h : Int) (u : Nat) (X Y : AVal) : AVal := .tuple [.agg [.vec k 18 0 n, .flt .f32 b, .flt .f32 d, .sint .i8 s, .sint .i64 h, .flt .f32 u], X, Y]
noncomputable def dsW (p : Prm) (l : Unit) (K : Nat) : AVal := dsA K (.sym (DN p)) (DV p p.b) (DV p p.d) (DI p p.s) (DI p p.h) (DV p p.u) (.sint .i64 (DC p)) (.sint .i64 (DD p))
theorem ds_conv {p : Prm} {n : Num} {b d u : Nat} {s h : Int} {X Y : AVal} (hn : n.val = DN p) (hb : b = DV p p.b) (hd : d = DV p p.d) (hs : s = DI p p.s) (hh : h = DI p p.h) (hu : u = DV p p.u)
    (hX : ∀ (ρ1 ρ2 : Rho) v, V ρ1 X v → V ρ2 (.sint .i64 (DC p)) v) (hY : ∀ (ρ1 ρ2 : Rho) v, V ρ1 Y v → V ρ2 (.sint .i64 (DD p)) v) :
    ∀ (ρ1 ρ2 : Rho) (k K : Nat), (∀ x, V ρ1 (.vec k 18 0 (.sym (DN p))) x → V ρ2 (.vec K 18 0 (.sym (DN p))) x) → ∀ v, V ρ1 (dsA k n b d s h u X Y) v → V ρ2 (dsW p () K) v := by
  subst hb; subst hd; subst hs; subst hh; subst hu
  intro ρ1 ρ2 k K hv v hu
  unfold dsW
  unfold dsA at hu ⊢
  unfold V at hu ⊢
  obtain ⟨vs, rfl, hl⟩ := hu
  refine ⟨vs, rfl, ?_⟩
  unfold VL at hl ⊢
  obtain ⟨v, vs', rfl, h1, h2⟩ := hl
  refine ⟨v, vs', rfl, ?_, ?_⟩
  · unfold V at h1 ⊢
    obtain ⟨us, rfl, h3⟩ := h1
    refine ⟨us, rfl, ?_⟩
    unfold VL at h3 ⊢
    obtain ⟨x, us', rfl, h4, h5⟩ := h3
    refine ⟨x, us', rfl, ?_, VL_flat' _ _ rfl h5⟩
    have h6 := vec_sym h4
    rw [hn] at h6
    exact hv x h6
  · unfold VL at h2 ⊢
    obtain ⟨x, vs'', rfl, h3, h4⟩ := h2
    refine ⟨x, vs'', rfl, hX _ _ _ h3, ?_⟩
    unfold VL at h4 ⊢
    obtain ⟨y, vs3, rfl, h5, h6⟩ := h4
    exact ⟨y, vs3, rfl, hY _ _ _ h5, VL_flat' _ _ rfl h6⟩
theorem int_conv {z : Int} {k : IntKind} (ρ1 ρ2 : Rho) (v : Value) (h : V ρ1 (.int k z) v) : V ρ2 (.sint k z) v := by
  unfold V at h ⊢; exact h
theorem sint_conv {z : Int} {k : IntKind} (ρ1 ρ2 : Rho) (v : Value) (h : V ρ1 (.sint k z) v) : V ρ2 (.sint k z) v := by
  unfold V at h ⊢; exact h
def dsZ : AVal := .tuple [.agg [.vec 1 18 0 (.lit 0), .flt .f32 0, .flt .f32 0, .int .i8 (Int.ofNat 0), .int .i64 (Int.ofNat 0), .flt .f32 0], .int .i64 (Int.ofNat 0), .int .i64 (Int.ofNat 1)]
theorem ds_convZ {p : Prm} (hS : dsS p = false) : ∀ (ρ1 ρ2 : Rho) (K : Nat), ρ1 1 = none → ρ2.kn K = true → ∀ u, V ρ1 dsZ u → V ρ2 (dsW p () K) u := by
  intro ρ1 ρ2 K h1 hk u hu
  unfold dsW
  rw [DN_eq, DV_eq, DI_eq, DC_eq, DD_eq]
  unfold dsN dsV dsI dsC dsD dsA
  rw [hS]
  unfold dsZ at hu
  unfold V at hu ⊢
  obtain ⟨vs, rfl, hl⟩ := hu
  refine ⟨vs, rfl, ?_⟩
  unfold VL at hl ⊢
  obtain ⟨v, vs', rfl, g1, g2⟩ := hl
  refine ⟨v, vs', rfl, ?_, ?_⟩
  · unfold V at g1 ⊢
    obtain ⟨us, rfl, g3⟩ := g1
    refine ⟨us, rfl, ?_⟩
    unfold VL at g3 ⊢
    obtain ⟨x, us', rfl, g4, g5⟩ := g3
    refine ⟨x, us', rfl, ?_, ?_⟩
    · unfold V at g4 ⊢
      obtain ⟨_, _, base, c, q1, q2⟩ := g4
      rcases q2 with ⟨q2, _⟩ | ⟨r, b, q2, _⟩
      · exact ⟨trivial, hk, base, c, q1, Or.inl ⟨q2, rfl⟩⟩
      · rw [h1] at q2; cases q2
    · unfold VL at g5 ⊢
      obtain ⟨x1, us1, rfl, k1, g5⟩ := g5
      refine ⟨x1, us1, rfl, by unfold V at k1 ⊢; exact k1, ?_⟩
      unfold VL at g5 ⊢
      obtain ⟨x1, us1, rfl, k1, g5⟩ := g5
      refine ⟨x1, us1, rfl, by unfold V at k1 ⊢; exact k1, ?_⟩
      unfold VL at g5 ⊢
      obtain ⟨x1, us1, rfl, k1, g5⟩ := g5
      refine ⟨x1, us1, rfl, by unfold V at k1 ⊢; exact k1, ?_⟩
      unfold VL at g5 ⊢
      obtain ⟨x1, us1, rfl, k1, g5⟩ := g5
      refine ⟨x1, us1, rfl, by unfold V at k1 ⊢; exact k1, ?_⟩
      exact VL_flat' _ _ rfl g5
  · unfold VL at g2 ⊢
    obtain ⟨x1, us1, rfl, k1, g5⟩ := g2
    refine ⟨x1, us1, rfl, by unfold V at k1 ⊢; exact k1, ?_⟩
    unfold VL at g5 ⊢
    obtain ⟨x1, us1, rfl, k1, g5⟩ := g5
    exact ⟨x1, us1, rfl, by unfold V at k1 ⊢; exact k1, VL_flat' _ _ rfl g5⟩
theorem trR_n (q : Nat → Bool) (fd : Nat → Nat → Nat) : ∀ (m k c : Nat) (v : Vc), v.sh = wSh → (trR q fd m k c v).n.val = tW q (fun c => c) m k c
  | 0, k, c, v, h => rfl
  | m + 1, k, c, v, h => by
    have h1 := trR_fd.trR_sh q fd m (k + 1) (c + 1) (joinW fd k c v) rfl
    have h2 := trR_fd.trR_sh q fd m (k + 1) c v h
    have i1 := trR_n q fd m (k + 1) (c + 1) (joinW fd k c v) rfl
    have i2 := trR_n q fd m (k + 1) c v h
    have e : (trR q fd (m + 1) k c v).n = mergeNum (q k) (trR q fd m (k + 1) (c + 1) (joinW fd k c v)).n (trR q fd m (k + 1) c v).n := by
      show (mergeVr (q k) (trR q fd m (k + 1) (c + 1) (joinW fd k c v)) (trR q fd m (k + 1) c v)).n = _
      generalize trR q fd m (k + 1) (c + 1) (joinW fd k c v) = A at h1
      generalize trR q fd m (k + 1) c v = B at h2
      obtain ⟨s1, n1, f1, g1, b1, w1⟩ := A
      obtain ⟨s2, n2, f2, g2, b2, w2⟩ := B
      have h1 : s1 = wSh := h1
      have h2 : s2 = wSh := h2
      subst h1; subst h2
      rfl
    rw [e, mergeNum_val, i1, i2]
    show _ = cond (q k) (tW q (fun c => c) m (k + 1) (c + 1)) (tW q (fun c => c) m (k + 1) c)
    cases q k <;> rfl
/-- The row as the specification makes it. -/
noncomputable def dsT (p : Prm) : Vc := trR (dsQ p) p.fd p.n 0 0 zero18
theorem DFs_ex : ∃ f : Prm → Nat → Nat → Nat, f = fun p => (dsT p).fd := ⟨_, rfl⟩
noncomputable def DFs : Prm → Nat → Nat → Nat := Classical.choose DFs_ex
theorem DFs_eq : DFs = fun p => (dsT p).fd := Classical.choose_spec DFs_ex
theorem DGs_ex : ∃ f : Prm → Nat → Nat → Int, f = fun p => (dsT p).gd := ⟨_, rfl⟩
noncomputable def DGs : Prm → Nat → Nat → Int := Classical.choose DGs_ex
theorem DGs_eq : DGs = fun p => (dsT p).gd := Classical.choose_spec DGs_ex
theorem DBs_ex : ∃ f : Prm → Nat → Nat → Bool, f = fun p => (dsT p).bd := ⟨_, rfl⟩
noncomputable def DBs : Prm → Nat → Nat → Bool := Classical.choose DBs_ex
theorem DBs_eq : DBs = fun p => (dsT p).bd := Classical.choose_spec DBs_ex
noncomputable def dsRs (p : Prm) (l : Unit) : Vc := ⟨wSh, .sym (DN p), DFs p, DGs p, DBs p, true⟩
theorem dsT_n (p : Prm) : (dsT p).n.val = kpN (dsQ p) p.n := by
  unfold dsT
  rw [trR_n _ _ _ _ _ _ rfl]
  have := tW_eq (dsQ p) (fun c => c) p.n 0
  rw [show kpN (dsQ p) 0 = 0 from rfl, Nat.zero_add] at this
  exact this
theorem dsT_fd (p : Prm) {j o : Nat} (hj : j < kpN (dsQ p) p.n) (ho : o < 18) : (dsT p).fd j o = kpR (dsQ p) p.fd p.n j o := by
  have h := trR_fd (dsQ p) p.fd p.n 0 zero18 rfl (fun j o hj => absurd hj (Nat.not_lt_zero _))
  rw [show kpN (dsQ p) 0 = 0 from rfl, Nat.zero_add] at h
  exact h.2 j o hj ho
theorem tW_p {α : Type} (p : Prm) (g : Nat → α) : tW (dsQ p) g p.n 0 0 = g (kpN (dsQ p) p.n) := by
  have := tW_eq (dsQ p) g p.n 0
  rw [show kpN (dsQ p) 0 = 0 from rfl, Nat.zero_add] at this
  exact this
/-- A log of a valid stove. -/
theorem dsS_log {p : Prm} (h : dsS p = true) {j : Nat} (hj : j < p.n) : vOp (wL (p.fd j)) = true :=
  chain_w p.n 0 (stv_chain h) j (Nat.zero_le _) (by omega)
def decU : List AVal → Option Unit
  | [] => some ()
  | _ => none
theorem decU_spec {more : List AVal} {l : Unit} (h : decU more = some l) : more = [] := by
  unfold decU at h
  split at h
  · rfl
  · cases h
theorem stv_le6 {p : Prm} (h1 : dsS p = true) : p.n ≤ 6 := by
  by_cases k : 7 ≤ p.n
  · unfold dsS stvB at h1
    rw [Nat.ble_eq_true_of_le k] at h1
    cases h1
  · omega
end Go.Ab
