import Derived.Test.YtmegbdgnnbjbmaaAbS3
namespace Go.Ab
open Go Go.RowKit

/-! ### 4. One operation -/
section
variable {P : Program} (w : World)

theorem kd_underlying {t : TypeId} {k : Kd} (h : kd P t = some k) : ∃ d, P.underlying t = some d := by
  unfold kd at h
  split at h <;> first | (exact ⟨_, ‹_›⟩) | cases h

theorem run_isAgg {t : TypeId} {k : Kd} (h : kd P t = some k) : (isAgg t).run P w = .ok k.isAgg w := by
  unfold kd at h
  unfold isAgg
  split at h <;> (try cases h) <;> (rename_i hu; simp only [Sem.run_bind, run_underlying hu, Result.andThen_ok])
  all_goals first
    | rfl
    | (rename_i d _; cases d <;> first | rfl | (exfalso; simp_all))

theorem run_sizeOf {t : TypeId} {n : Nat} (h : tsize P t = some n) : (sizeOf t).run P w = .ok n w := by
  unfold tsize at h
  split at h
  · rename_i i hi; cases h; simp [sizeOf, typeInfo, hi]
  · cases h

theorem run_zeroValue {t : TypeId} {z : Value} (h : tzero P t = some z) : (zeroValue t).run P w = .ok z w := by
  unfold tzero at h
  split at h
  · rename_i i hi; simp [zeroValue, typeInfo, hi, h]
  · cases h

theorem kd_struct {t : TypeId} {fs : List Field} (h : kd P t = some (.struct fs)) : P.underlying t = some (.struct fs.toArray) := by
  unfold kd at h
  split at h <;> first | (cases h; done) | skip
  simp only [Option.some.injEq, Kd.struct.injEq] at h
  subst h; assumption
theorem kd_arr {t : TypeId} {n e : Nat} (h : kd P t = some (.arr n e)) : P.underlying t = some (.array n e) := by
  unfold kd at h
  split at h <;> first | (cases h; done) | skip
  simp only [Option.some.injEq, Kd.arr.injEq] at h
  obtain ⟨rfl, rfl⟩ := h; assumption
theorem kd_slice {t : TypeId} {e : Nat} (h : kd P t = some (.slice e)) : P.underlying t = some (.slice e) := by
  unfold kd at h
  split at h <;> first | (cases h; done) | skip
  simp only [Option.some.injEq, Kd.slice.injEq] at h
  subst h; assumption
theorem kd_int {t : TypeId} {k : IntKind} (h : kd P t = some (.int k)) : P.underlying t = some (.int k) := by
  unfold kd at h
  split at h <;> first | (cases h; done) | skip
  simp only [Option.some.injEq, Kd.int.injEq] at h
  subst h; assumption
theorem kd_flt {t : TypeId} {k : FloatKind} (h : kd P t = some (.flt k)) : P.underlying t = some (.float k) := by
  unfold kd at h
  split at h <;> first | (cases h; done) | skip
  simp only [Option.some.injEq, Kd.flt.injEq] at h
  subst h; assumption
theorem isBoolT_spec {t : TypeId} (h : isBoolT P t = true) : P.underlying t = some .bool := by
  unfold isBoolT at h
  split at h
  · rename_i hk
    unfold kd at hk
    split at hk <;> first | (cases hk; done) | assumption
  · cases h

theorem fieldOf_get : ∀ (fs : List Field) (n : Nat) (f : Field), fieldOf fs n = some f → fs[n]? = some f
  | [], _, _, h => by simp [fieldOf] at h
  | x :: fs, 0, f, h => by simpa [fieldOf] using h
  | x :: fs, n + 1, f, h => by simpa [fieldOf] using fieldOf_get fs n f (by simpa [fieldOf] using h)

/-- The old blocks lie where they lay. -/
def ExtS (n : Nat) (ρ ρ' : Rho) : Prop := Ext ρ ρ' ∧ (∀ i, i < n → ρ' i = ρ i) ∧ (∀ i, i < n → ρ'.kn i = ρ.kn i)
theorem ExtS.refl (n : Nat) (ρ : Rho) : ExtS n ρ ρ := ⟨Ext.refl ρ, fun _ _ => rfl, fun _ _ => rfl⟩
theorem ExtS.trans {n : Nat} {a b c : Rho} (h : ExtS n a b) (k : ExtS n b c) : ExtS n a c := ⟨h.1.trans k.1, fun i hi => (k.2.1 i hi).trans (h.2.1 i hi), fun i hi => (k.2.2 i hi).trans (h.2.2 i hi)⟩
theorem ExtS.mono {n m : Nat} {a b : Rho} (h : ExtS n a b) (k : m ≤ n) : ExtS m a b := ⟨h.1, fun i hi => h.2.1 i (by omega), fun i hi => h.2.2 i (by omega)⟩
theorem upd_extS {ρ : Rho} {n : Nat} (h : ∀ i p, ρ i = some p → i < n) (p : Nat × Nat) (c : Nat) : ExtS n ρ (upd ρ n p c) := ⟨upd_ext h p c, fun i hi => upd_old ρ (by omega) p c, fun i hi => upd_okn ρ (by omega) p c⟩
theorem ExtS.known {n : Nat} {ρ ρ' : Rho} (h : ExtS n ρ ρ') (hd : ∀ i p, ρ i = some p → i < n) (hk : ∀ i, ρ.kn i = true → i < n) : Known n ρ ρ' := ⟨h.2.1, fun i p hi hp => (h.1.at_ i p hp).2, hd, hk⟩

/-- What an answer says: the value, the cells written, the blocks made; or a panic. -/
def OpOk (P : Program) (o : Oper) (a : Act) (S : St) (w : World) (M : Addr → Prop) (w0 : World) (ρ : Rho) (out : Out) : Prop :=
  out.nd = true → ∀ (next : Act → World → Prop) (Q : Exit → Act → World → Prop),
    (∀ u w' ρ', ExtS S.hp.length ρ ρ' → (∀ b v, out.pn = some (b, v) → b = false) → V ρ' out.v u → Mem M w0 ρ' (S.put out.hv out.vv out.nw) w' → next (a.put o.dst u) w') →
    (∀ v u w', out.pn = some (true, v) → V ρ v u → Mem M w0 ρ S w' → Q (.panic [{ v := u, recovered := false }]) a w') → o.wp P a w next Q

variable {o : Oper} {a : Act} {S : St} {M : Addr → Prop} {w0 : World} {ρ : Rho}

/-- A plain value, in the world that it got but for draws. -/
theorem OpOk.pureC {c : Bool} {x : AVal} {u : Value} {w' : World} (h : Mem M w0 ρ S w) (hd : c = true → Drawn w w') (hrun : c = true → (execOp a.eval o).run P w = .ok (.value u) w') (hv : c = true → V ρ x u) :
    OpOk P o a S w M w0 ρ ⟨x, [], [], [], c, none⟩ := by
  intro hc next Q hn _
  have hc : c = true := hc
  unfold Oper.wp
  rw [hrun hc, Oper.upon_value]
  have hf := Fr.drawn (hd hc)
  exact hn u w' ρ (ExtS.refl _ _) (fun b v hb => by cases hb) (hv hc) (h.quiet hf).put_nil

theorem OpOk.pure {x : AVal} {u : Value} {w' : World} (h : Mem M w0 ρ S w) (hd : Drawn w w') (hrun : (execOp a.eval o).run P w = .ok (.value u) w') (hv : V ρ x u) :
    OpOk P o a S w M w0 ρ ⟨x, [], [], [], true, none⟩ := OpOk.pureC w h (fun _ => hd) (fun _ => hrun) (fun _ => hv)

theorem OpOk.pure0 {x : AVal} {u : Value} (h : Mem M w0 ρ S w) (hrun : (execOp a.eval o).run P w = .ok (.value u) w) (hv : V ρ x u) :
    OpOk P o a S w M w0 ρ ⟨x, [], [], [], true, none⟩ := OpOk.pure w h (Or.inl rfl) hrun hv

theorem OpOk.need {c : Bool} {x : AVal} {u : Value} (h : Mem M w0 ρ S w) (hrun : c = true → (execOp a.eval o).run P w = .ok (.value u) w) (hv : c = true → V ρ x u) :
    OpOk P o a S w M w0 ρ ⟨x, [], [], [], c, none⟩ := OpOk.pureC w h (fun _ => Or.inl rfl) hrun hv

/-- A number with a lower bound is a number. -/
theorem unlint_V {x : AVal} {v : Value} (h : V ρ x v) : V ρ (unlint x) v := by
  unfold unlint
  split
  · unfold V at h ⊢; exact h.1
  · exact h

theorem arith_run {op : BinOp} {k : IntKind} {x y n : Int} (h : arith op k x y = some n) (t : TypeId) : (binOp op t (.int k x) (.int k y)).run P w = .ok (.int k n) w := by
  cases op <;> simp only [arith] at h <;> first | (cases h; done) | skip
  all_goals (cases h; first | (simp [binOp, Op.intArith]; done) | (simp only [binOp, ne_eq, not_true_eq_false, if_false]; rfl))

theorem icmp_run {op : BinOp} {k : IntKind} {x y : Int} {c : Bool} (h : icmp op x y = some c) (t : TypeId) : (binOp op t (.int k x) (.int k y)).run P w = .ok (.bool c) w := by
  cases op <;> simp only [icmp] at h <;> first | (cases h; done) | skip
  all_goals (cases h; simp [binOp, Op.intCmp])

theorem beqV_run {op : BinOp} {x y c : Bool} (h : beqV op x y = some c) {t : TypeId} (ht : isBoolT P t = true) : (binOp op t (.bool x) (.bool y)).run P w = .ok (.bool c) w := by
  cases op <;> simp only [beqV] at h <;> first | (cases h; done) | skip
  · cases h; exact run_eql_bool w t x y (isBoolT_spec ht)
  · cases h; exact run_neq_bool w t x y (isBoolT_spec ht)

theorem evC_sound {op : BinOp} {c d : Bool} {k : IntKind} {a b a' b' : Int} {z : AVal} (h : evC op c d k a b = some z) (ha : c = true → a' = a) (hb : d = true → b' = b) (t : TypeId) :
    ∃ r, (binOp op t (.int k a') (.int k b')).run P w = .ok r w ∧ V ρ z r := by
  unfold evC at h
  split at h
  · rename_i n hn; cases h
    obtain ⟨n', hn'⟩ : ∃ n', arith op k a' b' = some n' := by
      cases op <;> simp only [arith] at hn ⊢ <;> first | exact ⟨_, rfl⟩ | cases hn
    refine ⟨_, arith_run w hn' t, ?_⟩
    unfold V
    refine ⟨n', rfl, fun hcd => ?_⟩
    simp only [Bool.and_eq_true] at hcd
    rw [ha hcd.1, hb hcd.2, hn] at hn'
    exact (Option.some.inj hn').symm
  · split at h
    · rename_i e he; cases h
      obtain ⟨e', he'⟩ : ∃ e', icmp op a' b' = some e' := by
        cases op <;> simp only [icmp] at he ⊢ <;> first | exact ⟨_, rfl⟩ | cases he
      refine ⟨_, icmp_run w he' t, ?_⟩
      unfold V
      refine ⟨e', rfl, fun hcd => ?_⟩
      simp only [Bool.and_eq_true] at hcd
      rw [ha hcd.1, hb hcd.2, he] at he'
      exact (Option.some.inj he').symm
    · cases h

/-- 'x op y'. -/
theorem evBin0_sound {t : TypeId} {op : BinOp} {x y z : AVal} {u v : Value} (h : evBin0 P t op x y = some z) (hx : V ρ x u) (hy : V ρ y v) :
    ∃ r w', (binOp op t u v).run P w = .ok r w' ∧ V ρ z r ∧ Drawn w w' ∧ (∀ (p q : Operand), eqGuard op t p q u v = Pure.pure ()) := by
  unfold evBin0 at h
  split at h
  all_goals first | (cases h; done) | skip
  all_goals (unfold V at hx hy)
  -- integers
  case h_1 | h_2 | h_3 | h_4 =>
    subst hx; subst hy
    split at h
    · rename_i hk; have hk := of_decide_eq_true hk; subst hk
      split at h
      · rename_i n hn; cases h
        exact ⟨_, w, arith_run w hn t, by unfold V; rfl, Or.inl rfl, fun p q => eqGuard_at_int ..⟩
      · split at h
        · rename_i c hc; cases h
          exact ⟨_, w, icmp_run w hc t, by unfold V; rfl, Or.inl rfl, fun p q => eqGuard_at_int ..⟩
        · cases h
    · cases h
  -- integers that are as told under a condition
  case h_5 | h_6 =>
    obtain ⟨n', rfl, hn⟩ := hx
    subst hy
    split at h
    · rename_i hk; have hk := of_decide_eq_true hk; subst hk
      obtain ⟨r, h1, h2⟩ := evC_sound (P := P) (ρ := ρ) w h hn (fun _ => rfl) t
      exact ⟨r, w, h1, h2, Or.inl rfl, fun p q => eqGuard_at_int ..⟩
    · cases h
  case h_7 | h_8 =>
    obtain ⟨n', rfl, hn⟩ := hy
    subst hx
    split at h
    · rename_i hk; have hk := of_decide_eq_true hk; subst hk
      obtain ⟨r, h1, h2⟩ := evC_sound (P := P) (ρ := ρ) w h (fun _ => rfl) hn t
      exact ⟨r, w, h1, h2, Or.inl rfl, fun p q => eqGuard_at_int ..⟩
    · cases h
  case h_9 =>
    obtain ⟨n', rfl, hn⟩ := hx
    obtain ⟨m', rfl, hm⟩ := hy
    split at h
    · rename_i hk; have hk := of_decide_eq_true hk; subst hk
      obtain ⟨r, h1, h2⟩ := evC_sound (P := P) (ρ := ρ) w h hn hm t
      exact ⟨r, w, h1, h2, Or.inl rfl, fun p q => eqGuard_at_int ..⟩
    · cases h
  -- floats
  case h_10 =>
    obtain ⟨a', rfl, ha, wa, wa'⟩ := hx
    obtain ⟨b', rfl, hb, wb, wb'⟩ := hy
    split at h
    · rename_i hk; have hk := of_decide_eq_true hk; subst hk
      split at h
      · rename_i hop; cases h
        obtain ⟨r, w', h1, h2, h2w, h3⟩ := run_fop (P := P) w op t _ hop ha hb
        exact ⟨_, w', h1, by unfold V; exact ⟨r, rfl, h2, fop_wf .., h2w⟩, h3, fun p q => eqGuard_at_float ..⟩
      · split at h
        · rename_i c hc; cases h
          exact ⟨_, w, run_fcmp w op t _ hc ha hb, by unfold V; rfl, Or.inl rfl, fun p q => eqGuard_at_float ..⟩
        · cases h
    · cases h
  -- bools
  all_goals
    subst hx; subst hy
    split at h
    · rename_i ht
      split at h
      · rename_i c hc; cases h
        exact ⟨_, w, beqV_run w hc ht, by unfold V; rfl, Or.inl rfl, fun p q => eqGuard_at_bool ..⟩
      · cases h
    · cases h

theorem cmpLint_sound {t : TypeId} {op : BinOp} {x y : AVal} {b : Bool} {u v : Value} (h : cmpLint op x y = some b) (hx : V ρ x u) (hy : V ρ y v) :
    (binOp op t u v).run P w = .ok (.bool b) w ∧ (∀ (p q : Operand), eqGuard op t p q u v = Pure.pure ()) := by
  unfold cmpLint at h
  split at h
  · rename_i k lo n k' c
    unfold V at hx hy
    obtain ⟨rfl, hlo⟩ := hx
    subst hy
    split at h
    · rename_i hk; have hk := of_decide_eq_true hk; subst hk
      refine ⟨?_, fun p q => eqGuard_at_int ..⟩
      have hl : (lo : Int) ≤ Int.ofNat n := Int.ofNat_le.2 hlo
      cases op <;> simp only at h <;> try (cases h; done)
      all_goals
        split at h <;> try (cases h; done)
        rename_i hc
        have hc := of_decide_eq_true hc
        have hc2 := hc
        simp only [Int.ofNat_eq_natCast] at hc2 hl
        cases h
        refine icmp_run w ?_ t
        simp only [icmp, Option.some.injEq, Int.ofNat_eq_natCast]
        first
          | (exact decide_eq_true (by omega))
          | (exact decide_eq_false (by omega))
          | (rw [beq_eq_false_iff_ne]; omega)
          | (rw [bne_iff_ne]; omega)
    · cases h
  · rename_i k' c k lo n
    unfold V at hx hy
    obtain ⟨rfl, hlo⟩ := hy
    subst hx
    split at h
    · rename_i hk; have hk := of_decide_eq_true hk; subst hk
      refine ⟨?_, fun p q => eqGuard_at_int ..⟩
      have hl : (lo : Int) ≤ Int.ofNat n := Int.ofNat_le.2 hlo
      cases op <;> simp only at h <;> try (cases h; done)
      all_goals
        split at h <;> try (cases h; done)
        rename_i hc
        have hc := of_decide_eq_true hc
        have hc2 := hc
        simp only [Int.ofNat_eq_natCast] at hc2 hl
        cases h
        refine icmp_run w ?_ t
        simp only [icmp, Option.some.injEq, Int.ofNat_eq_natCast]
        first
          | (exact decide_eq_true (by omega))
          | (exact decide_eq_false (by omega))
          | (rw [beq_eq_false_iff_ne]; omega)
          | (rw [bne_iff_ne]; omega)
    · cases h
  · cases h

theorem evBin_sound {t : TypeId} {op : BinOp} {x y z : AVal} {u v : Value} (h : evBin P t op x y = some z) (hx : V ρ x u) (hy : V ρ y v) :
    ∃ r w', (binOp op t u v).run P w = .ok r w' ∧ V ρ z r ∧ Drawn w w' ∧ (∀ (p q : Operand), eqGuard op t p q u v = Pure.pure ()) := by
  unfold evBin at h
  split at h
  · rename_i b hb; cases h
    obtain ⟨h1, h2⟩ := cmpLint_sound (P := P) w (t := t) hb hx hy
    exact ⟨_, w, h1, by unfold V; rfl, Or.inl rfl, h2⟩
  · exact evBin0_sound w h (unlint_V hx) (unlint_V hy)

theorem evUn_sound {op : UnOp} {x z : AVal} {u : Value} (h : evUn op x = some z) (hx : V ρ x u) : ∃ r, (Op.unary op u).run P w = .ok r w ∧ V ρ z r := by
  unfold evUn at h
  split at h
  all_goals first | (cases h; done) | skip
  all_goals (cases h; unfold V at hx)
  case h_1 | h_2 => subst hx; exact ⟨_, rfl, by unfold V; rfl⟩
  case h_3 => obtain ⟨b', rfl, hb⟩ := hx; exact ⟨_, rfl, by unfold V; exact ⟨!b', rfl, fun h => by rw [hb h]⟩⟩
  case h_4 | h_5 => subst hx; exact ⟨_, rfl, by unfold V; rfl⟩
  case h_6 k b =>
    obtain ⟨b', rfl, hb, wb, wb'⟩ := hx
    refine ⟨_, rfl, ?_⟩
    unfold V
    refine ⟨_, rfl, ?_, fneg_wf wb, fneg_wf wb'⟩
    unfold fneg
    rcases hb with rfl | ⟨h1, h2⟩
    · exact Or.inl rfl
    · right
      exact ⟨neg_nan h1, neg_nan h2⟩
where
  neg_nan {k : FloatKind} {b : Nat} (h : isNaNW k b = true) : isNaNW k (Op.negFloat k b) = true := by
    have key : Op.negFloat k b % k.format.signWeight = b % k.format.signWeight := by
      unfold Op.negFloat
      show (b ^^^ 2 ^ (k.format.exponentBits + k.format.fractionBits)) % 2 ^ (k.format.exponentBits + k.format.fractionBits) = b % 2 ^ (k.format.exponentBits + k.format.fractionBits)
      rw [Nat.xor_mod_two_pow]; simp
    obtain ⟨s, f, hr⟩ := isNaN_read h
    unfold isNaNW
    unfold Ieee.Format.read at hr ⊢
    simp only [key]
    simp only at hr
    split at hr
    · cases hr
    · rename_i h1
      split at hr
      · cases hr
      · rename_i h2
        split at hr
        · cases hr
        · rename_i h3
          rw [if_neg h1, if_neg h2, if_neg h3]; rfl
end
end Go.Ab
