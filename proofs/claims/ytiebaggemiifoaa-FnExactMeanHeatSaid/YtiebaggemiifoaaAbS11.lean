import Derived.Test.YtiebaggemiifoaaAbS10
namespace Go.Ab
open Go Go.RowKit

/-! ### 9. A function -/
section
variable {P : Program} {ρ : Rho}

/-- One result. -/
def resOne (a : Act) : ResultVar → Sem Value
  | .tmp t => pure (a.tmps.getD t undef)
  | .cell x t => do loadVar t (← asAddr (a.tmps.getD x undef))

theorem getRes_run {N : Nat} {M : Addr → Prop} {w0 : World} {S : St} {a : Act} {w : World} (hR : Rel N M w0 ρ S a w) : ∀ (rs : List ResultVar) (vs : List AVal), getRes P S rs = some vs →
    ∃ us : List Value, Sem.run P (rs.mapM (resOne a)) w = .ok us w ∧ VL ρ vs us
  | [], vs, h => by simp [getRes] at h; subst h; exact ⟨[], by simp, by simp [VL]⟩
  | .tmp t :: r, vs, h => by
    simp only [getRes] at h
    split at h
    · rename_i vs' hvs; cases h
      obtain ⟨us, h1, h2⟩ := getRes_run hR r vs' hvs
      refine ⟨a.tmps.getD t undef :: us, ?_, by unfold VL; exact ⟨_, us, rfl, hR.fr t, h2⟩⟩
      simp only [List.mapM_cons, resOne, Sem.run_bind, Sem.run_pure, Result.andThen_ok, h1]
    · cases h
  | .cell x t :: r, vs, h => by
    simp only [getRes] at h
    split at h
    · rename_i i o hp
      have hx := hR.fr x
      rw [hp] at hx; unfold V at hx
      obtain ⟨rr, b, hr, hxe⟩ := hx
      split at h
      · rename_i k n vs' hk hn hvs
        obtain ⟨us, h1, h2⟩ := getRes_run hR r vs' hvs
        obtain ⟨l1, l2⟩ := run_loadAt (P := P) w (o := o) hR.mem.hp hk hn hr
        have hload : ∀ v, (Instr.loadAt t (.pointer (some ⟨rr, b + o, none⟩))).run P w = .ok v w → (loadVar t ⟨rr, b + o, none⟩).run P w = .ok v w := by
          intro v hv
          simpa [Instr.loadAt, Instr.sureAddr] using hv
        split at h
        · rename_i ha
          split at h
          · rename_i cs hcs; cases h
            obtain ⟨zs, k1, k2⟩ := l1 cs ha hcs
            refine ⟨.agg ⟨zs⟩ :: us, ?_, by unfold VL; exact ⟨_, us, rfl, by unfold V; exact ⟨zs, rfl, k2⟩, h2⟩⟩
            simp only [List.mapM_cons, resOne, Sem.run_bind, Sem.run_pure, Result.andThen_ok, h1, hxe, asAddr, hload _ k1]
          · cases h
        · rename_i ha
          split at h
          · rename_i z hz; cases h
            obtain ⟨u, k1, k2⟩ := l2 z ha hz
            refine ⟨u :: us, ?_, by unfold VL; exact ⟨_, us, rfl, k2, h2⟩⟩
            simp only [List.mapM_cons, resOne, Sem.run_bind, Sem.run_pure, Result.andThen_ok, h1, hxe, asAddr, hload _ k1]
          · cases h
      · cases h
    · cases h

theorem one_V {vs : List AVal} {us : List Value} (h : VL ρ vs us) : V ρ (one vs) (if h : (us.toArray).size = 1 then us.toArray[0] else .tuple us.toArray) := by
  have hl := VL_length _ _ h
  unfold one
  split
  · rename_i v
    unfold VL at h
    obtain ⟨u, us', rfl, h1, h2⟩ := h
    unfold VL at h2; subst h2
    simpa using h1
  · rename_i hne
    have : ¬ us.toArray.size = 1 := by
      intro h1
      have h2 : vs.length = 1 := by rw [← hl]; simpa using h1
      match vs, h2, hne with
      | [x], _, hne => exact hne x rfl
    rw [dif_neg this]
    unfold V
    exact ⟨us, rfl, h⟩

theorem results_run {N : Nat} {M : Addr → Prop} {w0 : World} {S : St} {a : Act} {w : World} {fn : Func} (hR : Rel N M w0 ρ S a w) {vs : List AVal} (h : getRes P S fn.results.toList = some vs) :
    ∃ u, (results fn a.tmps).run P w = .ok u w ∧ V ρ (one vs) u := by
  obtain ⟨us, h1, h2⟩ := getRes_run hR fn.results.toList vs h
  refine ⟨_, ?_, one_V h2⟩
  unfold results
  change Sem.run P (do let vs ← fn.results.mapM (resOne a); pure (if h : vs.size = 1 then vs[0] else Value.tuple vs)) w = _
  rw [Array.mapM_eq_mapM_toList]
  simp only [Sem.run_bind, Sem.run_map, h1, Result.andThen_ok, Sem.run_pure]

theorem resT_out (rs : List ResultVar) : ∀ (t : Tr) (S : St) (v : AVal), resT P rs S t = some v → (∀ id, (t.out S).1 ≠ .exit id) ∧ ∃ vs, getRes P (t.out S).2 rs = some vs ∧ ∀ ρ u, V ρ (one vs) u → V ρ v u
  | .leaf e d, S, v, h => by
    simp only [resT] at h
    split at h
    · cases h
    · rename_i hne
      split at h
      · rename_i vs hvs; cases h
        exact ⟨fun id => hne id, vs, hvs, fun _ _ h => h⟩
      · cases h
  | .node d b l r, S, v, h => by
    simp only [resT] at h
    split at h
    · rename_i x hx
      split at h
      · rename_i y hy; cases h
        simp only [Tr.out]
        cases b with
        | true =>
          obtain ⟨h1, vs, h2, h3⟩ := resT_out rs l (S.ext d) x hx
          exact ⟨h1, vs, h2, fun ρ u hu => mergeV_true _ _ _ (h3 ρ u hu)⟩
        | false =>
          obtain ⟨h1, vs, h2, h3⟩ := resT_out rs r (S.ext d) y hy
          exact ⟨h1, vs, h2, fun ρ u hu => mergeV_false _ _ _ (h3 ρ u hu)⟩
      · cases h
    · cases h

theorem undefs_VL (ρ : Rho) : ∀ n : Nat, VL ρ (undefs n) (List.replicate n undef)
  | 0 => by simp [undefs, VL]
  | n + 1 => by
    simp only [undefs, List.replicate_succ]
    unfold VL
    exact ⟨undef, _, rfl, by unfold V; rfl, undefs_VL ρ n⟩

theorem nth_out : ∀ (l : List AVal) (i : Nat), l.length ≤ i → nth i l = .bad
  | [], i, _ => by cases i <;> rfl
  | x :: l, 0, h => by simp at h
  | x :: l, i + 1, h => by simpa [nth] using nth_out l i (by simpa using h)

theorem roB_len : ∀ (bl : List (List AVal)) (b : Bool), (roB bl b).length = bl.length
  | [], _ => rfl
  | c :: r, b => by simp [roB, roB_len r b]

theorem roB_get : ∀ (bl : List (List AVal)) (b : Bool) (i : Nat), (∃ c, bl[i]? = some c ∧ nthB i (roB bl b) = ⟨c, b⟩) ∨ (bl.length ≤ i ∧ nthB i (roB bl b) = ⟨[], false⟩)
  | [], b, i => by right; cases i <;> simp [roB, nthB]
  | c :: r, b, 0 => by left; exact ⟨c, rfl, rfl⟩
  | c :: r, b, i + 1 => by
    rcases roB_get r b i with ⟨c', h1, h2⟩ | ⟨h1, h2⟩
    · left; exact ⟨c', by simpa using h1, by simpa [roB, nthB] using h2⟩
    · right; exact ⟨by simpa using h1, by simpa [roB, nthB] using h2⟩

/-- The state in which a call begins. -/
theorem start_rel {n : Nat} {args : List AVal} {vs : List Value} {bl : List (List AVal)} {wr : Bool} {w : World} (hv : VL ρ args vs) (hn : args.length ≤ n) (hpre : Pre ρ w bl) (hw : wr = true → PreW ρ w bl) :
    Rel n (if wr then ViewA ρ bl else NoM) w ρ ((St.start n args bl wr).ext Dl.nil) { tmps := ⟨vs⟩ ++ Array.replicate (n - (⟨vs⟩ : Array Value).size) undef, defers := [] } w := by
  have hl := VL_length _ _ hv
  have hsz : (⟨vs⟩ : Array Value).size = args.length := by simpa using hl
  have hcell : ∀ i o x, (St.start n args bl wr).cell i o = some x → ∃ c, bl[i]? = some c ∧ c[o]? = some x ∧ ((St.start n args bl wr).blk i).wr = wr := by
    intro i o x hx
    have hoff := cell_off hx
    unfold St.cell at hx
    rw [Nat.ble_eq_true_of_le hoff] at hx
    simp only [St.start, hlookL, St.blk] at hx hoff ⊢
    rcases roB_get bl wr i with ⟨c, h1, h2⟩ | ⟨h1, h2⟩
    · rw [h2] at hx hoff ⊢
      simp only at hx hoff
      refine ⟨c, h1, ?_, rfl⟩
      rw [nth_get c o hoff]; exact hx
    · rw [h2] at hoff; simp at hoff
  have hwr : ∀ i, ((St.start n args bl wr).blk i).wr = true → wr = true ∧ ∃ c, bl[i]? = some c := by
    intro i hi
    simp only [St.start, St.blk] at hi
    rcases roB_get bl wr i with ⟨c, h1, h2⟩ | ⟨h1, h2⟩
    · rw [h2] at hi; exact ⟨hi, c, h1⟩
    · rw [h2] at hi; cases hi
  apply Rel.nil
  refine ⟨fun t => ?_, ?_, rfl, ⟨⟨fun i o x hx => ?_, fun i o x r b hx hwi hr => ?_, fun i j r b b' hij hwi hr hr' => ?_, fun i p hp => ?_, fun i o x hx => ?_, hpre.lt⟩, Fr.refl _ _, fun i o x r b hx hwi hr => ?_⟩⟩
  · have hVL : VL ρ (args ++ undefs (n - args.length)) (vs ++ List.replicate (n - args.length) undef) := VL_append _ _ _ _ hv (undefs_VL ρ _)
    have hget : (St.start n args bl wr).get t = nth t (args ++ undefs (n - args.length)) := rfl
    rw [hget]
    have harr : ((⟨vs⟩ : Array Value) ++ Array.replicate (n - (⟨vs⟩ : Array Value).size) undef).getD t undef = (vs ++ List.replicate (n - args.length) undef)[t]?.getD undef := by
      rw [Array.getD_eq_getD_getElem?, hsz, ← Array.getElem?_toList]
      simp
    rw [harr]
    by_cases ht : t < (args ++ undefs (n - args.length)).length
    · obtain ⟨v, h1, h2⟩ := VL_nth _ _ hVL t ht
      rw [h1]; exact h2
    · rw [nth_out _ _ (by omega)]; unfold V; trivial
  · simp [hsz]; omega
  · obtain ⟨c, h1, h2, _⟩ := hcell i o x hx
    obtain ⟨r, b, hr, hrow⟩ := hpre.row i c h1
    obtain ⟨v, h3, h4⟩ := hrow o x h2
    exact ⟨r, b, v, hr, h3, h4⟩
  · obtain ⟨hwt, _⟩ := hwr i hwi
    obtain ⟨c, h1, h2, _⟩ := hcell i o x hx
    exact (hw hwt).frz i c r b o x h1 hr h2
  · obtain ⟨hwt, _⟩ := hwr i hwi
    exact (hw hwt).dis i j r b b' hij hr hr'
  · simp only [St.start]; rw [roB_len]; exact hpre.dom i p hp
  · simp [St.start, hlookL] at hx
  · obtain ⟨hwt, _⟩ := hwr i hwi
    obtain ⟨c, h1, h2, _⟩ := hcell i o x hx
    left
    rw [hwt]
    exact ⟨i, c, r, b, o, x, h1, hr, h2, rfl⟩

/-- WHAT THE EVALUATOR SAYS OF A FUNCTION IS SO: a reader. -/
theorem sat_of_evFn {Γ : List (Nat × Ctr)} (hΓ : ∀ f c, lookC f Γ = some c → Sat P f c) (hdraw : DrawSound P) {f : FuncId} {fn : Func} {c : Ctr} (hf : P.funcs[f]? = some fn)
    (hcall : ∀ (args : Array Value) (w : World), (callFunc f args).run P w = .ok (.enter f args) w)
    (h : ∀ args bl v res, c.fn args bl = some (v, res) → res = none ∧ ∃ fuel, evFn P Γ fuel fn args bl = some v) (hx : c.x = none) : Sat P f c := by
  have key : SatC P f c → Sat P f c := fun h => by unfold Sat; rw [hx]; exact h
  refine key ⟨hcall, fun args bl v res hfn ρ w vs hv hpre _ => ?_⟩
  obtain ⟨rfl, fuel, he⟩ := h args bl v res hfn
  unfold evFn at he
  split at he
  · rename_i body hbody
    split at he
    · rename_i hn
      have hn := Nat.le_of_ble_eq_true hn
      split at he
      · rename_i t ht
        split at he
        · rename_i v' hv'
          split at he
          · rename_i hflat; cases he
            have hR := start_rel (wr := false) hv hn hpre (fun h => by cases h)
            obtain ⟨hex, rvs, hres, hrv⟩ := resT_out _ t _ _ hv'
            refine calls_of_wp hf hbody ?_
            refine (ev_sound hΓ hdraw fuel body _ _ t ht ρ _ w _ hR ?_).1
            intro ρ' a' w' hext hr'
            obtain ⟨u, hu1, hu2⟩ := results_run hr' hres
            have post : a'.defers = [] ∧ ∃ val, (results fn a'.tmps).run P w' = .ok val w' ∧ (∃ u, Ending.returned val = .returned u ∧ V ρ v u ∧ PostC ρ bl none w w') :=
              ⟨hr'.df, u, hu1, u, rfl, V_flat _ _ hflat (hrv ρ' u hu2), hr'.mem.fr⟩
            cases hee : (t.out (St.start fn.ntmps args bl false)).1 with
            | normal => exact post
            | ret => exact post
            | exit id => exact absurd hee (hex id)
          · cases he
        · cases he
      · cases he
    · cases he
  · cases he

theorem flatLL_get : ∀ (l : List (List AVal)) (j : Nat) (c : List AVal), flatLL l = true → l[j]? = some c → AVal.flat.flatL c = true
  | [], j, c, _, h => by simp at h
  | x :: l, j, c, hf, h => by
    simp only [flatLL] at hf
    split at hf
    · rename_i hx
      cases j with
      | zero => simp at h; subst h; exact hx
      | succ j => exact flatLL_get l j c hf (by simpa using h)
    · cases hf

/-- What the views hold, read off a state. -/
def Holds (ρ : Rho) (w : World) (l : List (List AVal)) : Prop := ∀ j cs, l[j]? = some cs → ∀ r b, ρ j = some (r, b) → ∀ o x, cs[o]? = some x → ∃ v, w.cell? ⟨r, b + o, none⟩ = some v ∧ V ρ x v

theorem endViews_holds {S : St} {w : World} (h : Hp ρ S w) : ∀ (bl : List (List AVal)) (k : Nat) (l : List (List AVal)), endViews S k bl = some l →
    l.length = bl.length ∧ (∀ j cs, l[j]? = some cs → ∀ r b, ρ (k + j) = some (r, b) → ∀ o x, cs[o]? = some x → ∃ v, w.cell? ⟨r, b + o, none⟩ = some v ∧ V ρ x v)
  | [], k, l, he => by simp [endViews] at he; subst he; exact ⟨rfl, fun j cs h => by simp at h⟩
  | c :: bl, k, l, he => by
    simp only [endViews] at he
    split at he
    · rename_i cs hcs
      split at he
      · rename_i l' hl'; cases he
        obtain ⟨h1, h2⟩ := endViews_holds h bl (k + 1) l' hl'
        refine ⟨by simp [h1], fun j cs' hj r b hr o x hx => ?_⟩
        cases j with
        | zero =>
          simp at hj; subst hj
          obtain ⟨us, k1, k2, k3⟩ := h.cellsAt hr c.length 0 cs hcs
          obtain ⟨v, m1, m2⟩ := VL_get cs us k2 o x hx
          exact ⟨v, by simpa using k3 o v m1, m2⟩
        | succ j =>
          have e : k + (j + 1) = k + 1 + j := by omega
          rw [e] at hr
          exact h2 j cs' (by simpa using hj) r b hr o x hx
      · cases he
    · cases he

theorem mergeL_get (b : Bool) : ∀ (xs ys : List AVal), xs.length = ys.length → ∀ (o : Nat) (z : AVal), (mergeV.mergeL b xs ys)[o]? = some z → ∃ x y, xs[o]? = some x ∧ ys[o]? = some y ∧ z = mergeV b x y
  | [], [], _, o, z, h => by simp [mergeV.mergeL] at h
  | [], _ :: _, hl, _, _, _ => by simp at hl
  | _ :: _, [], hl, _, _, _ => by simp at hl
  | x :: xs, y :: ys, hl, o, z, h => by
    simp only [mergeV.mergeL] at h
    cases o with
    | zero => simp at h; exact ⟨x, y, rfl, rfl, h.symm⟩
    | succ o => simpa using mergeL_get b xs ys (by simpa using hl) o z (by simpa using h)

theorem mergeLL_get (b : Bool) : ∀ (xs ys l : List (List AVal)), mergeLL b xs ys = some l → xs.length = l.length ∧ ys.length = l.length ∧
    ∀ (j : Nat) (c : List AVal), l[j]? = some c → ∃ x y, xs[j]? = some x ∧ ys[j]? = some y ∧ x.length = y.length ∧ c = mergeV.mergeL b x y
  | [], [], l, h => by simp [mergeLL] at h; subst h; exact ⟨rfl, rfl, fun j c h => by simp at h⟩
  | [], _ :: _, l, h => by simp [mergeLL] at h
  | _ :: _, [], l, h => by simp [mergeLL] at h
  | x :: xs, y :: ys, l, h => by
    simp only [mergeLL] at h
    split at h
    · rename_i hl
      have hl := Nat.eq_of_beq_eq_true hl
      split at h
      · rename_i l' hl'; cases h
        obtain ⟨h1, h2, h3⟩ := mergeLL_get b xs ys l' hl'
        refine ⟨by simp [h1], by simp [h2], fun j c hj => ?_⟩
        cases j with
        | zero => simp at hj; exact ⟨x, y, rfl, rfl, hl, hj.symm⟩
        | succ j => simpa using h3 j c (by simpa using hj)
      · cases h
    · cases h

theorem resW_out (rs : List ResultVar) (bl : List (List AVal)) : ∀ (t : Tr) (S : St) (v : AVal) (l : List (List AVal)), resW P rs bl S t = some (v, l) → (∀ id, (t.out S).1 ≠ .exit id) ∧ ∃ vs, getRes P (t.out S).2 rs = some vs ∧
    (∀ ρ u, V ρ (one vs) u → V ρ v u) ∧ ∃ l0, endViews (t.out S).2 0 bl = some l0 ∧ l0.length = l.length ∧
      ∀ (ρ : Rho) (j : Nat) (c : List AVal), l[j]? = some c → ∃ c0, l0[j]? = some c0 ∧ ∀ (o : Nat) (x : AVal), c[o]? = some x → ∃ x0, c0[o]? = some x0 ∧ ∀ u, V ρ x0 u → V ρ x u
  | .leaf e d, S, v, l, h => by
    simp only [resW] at h
    split at h
    · cases h
    · rename_i hne
      split at h
      · rename_i vs l0 hvs hl0; cases h
        exact ⟨fun id => hne id, vs, hvs, fun _ _ h => h, _, hl0, rfl, fun ρ j c hj => ⟨c, hj, fun o x hx => ⟨x, hx, fun _ h => h⟩⟩⟩
      · cases h
  | .node d b t1 t2, S, v, l, h => by
    simp only [resW] at h
    split at h
    · rename_i x xs y ys hx hy
      split at h
      · rename_i l' hl'; cases h
        obtain ⟨m1, m2, m3⟩ := mergeLL_get b xs ys _ hl'
        simp only [Tr.out]
        cases b with
        | true =>
          obtain ⟨h1, vs, h2, h3, l0, h4, h4l, h5⟩ := resW_out rs bl t1 (S.ext d) x xs hx
          refine ⟨h1, vs, h2, fun ρ u hu => mergeV_true _ _ _ (h3 ρ u hu), l0, h4, by omega, fun ρ j c hj => ?_⟩
          obtain ⟨cx, cy, k1, k2, k3, rfl⟩ := m3 j c hj
          obtain ⟨c0, n1, n2⟩ := h5 ρ j cx k1
          refine ⟨c0, n1, fun o z hz => ?_⟩
          obtain ⟨zx, zy, p1, p2, rfl⟩ := mergeL_get true cx cy k3 o z hz
          obtain ⟨x0, q1, q2⟩ := n2 o zx p1
          exact ⟨x0, q1, fun u hu => mergeV_true _ _ _ (q2 u hu)⟩
        | false =>
          obtain ⟨h1, vs, h2, h3, l0, h4, h4l, h5⟩ := resW_out rs bl t2 (S.ext d) y ys hy
          refine ⟨h1, vs, h2, fun ρ u hu => mergeV_false _ _ _ (h3 ρ u hu), l0, h4, by omega, fun ρ j c hj => ?_⟩
          obtain ⟨cx, cy, k1, k2, k3, rfl⟩ := m3 j c hj
          obtain ⟨c0, n1, n2⟩ := h5 ρ j cy k2
          refine ⟨c0, n1, fun o z hz => ?_⟩
          obtain ⟨zx, zy, p1, p2, rfl⟩ := mergeL_get false cx cy k3 o z hz
          obtain ⟨x0, q1, q2⟩ := n2 o zy p2
          exact ⟨x0, q1, fun u hu => mergeV_false _ _ _ (q2 u hu)⟩
      · cases h
    · cases h

/-- A writer. -/
theorem sat_of_evFnW {Γ : List (Nat × Ctr)} (hΓ : ∀ f c, lookC f Γ = some c → Sat P f c) (hdraw : DrawSound P) {f : FuncId} {fn : Func} {c : Ctr} (hf : P.funcs[f]? = some fn)
    (hcall : ∀ (args : Array Value) (w : World), (callFunc f args).run P w = .ok (.enter f args) w)
    (h : ∀ args bl v res, c.fn args bl = some (v, res) → ∃ bl', res = some bl' ∧ ∃ fuel, evFnW P Γ fuel fn args bl = some (v, bl')) (hx : c.x = none) : Sat P f c := by
  have key : SatC P f c → Sat P f c := fun h => by unfold Sat; rw [hx]; exact h
  refine key ⟨hcall, fun args bl v res hfn ρ w vs hv hpre hprew => ?_⟩
  obtain ⟨bl', rfl, fuel, he⟩ := h args bl v res hfn
  have hprew := hprew rfl
  unfold evFnW at he
  split at he
  · rename_i body hbody
    split at he
    · rename_i hn
      have hn := Nat.le_of_ble_eq_true hn
      split at he
      · rename_i t ht
        split at he
        · rename_i v' l' hv'
          split at he
          · rename_i hflat; cases he
            simp only [Bool.and_eq_true] at hflat
            obtain ⟨hflat, hfl⟩ := hflat
            have hR := start_rel (wr := true) hv hn hpre (fun _ => hprew)
            obtain ⟨hex, rvs, hres, hrv, l0, hl0, hlen, hcells⟩ := resW_out _ _ t _ _ _ hv'
            refine calls_of_wp hf hbody ?_
            refine (ev_sound hΓ hdraw fuel body _ _ t ht ρ _ w _ hR ?_).1
            intro ρ' a' w' hext hr'
            obtain ⟨u, hu1, hu2⟩ := results_run hr' hres
            have hrow : CRow ρ w' bl' := by
              intro j cs hj
              obtain ⟨hlb, hhold⟩ := endViews_holds hr'.mem.hp bl 0 l0 hl0
              have hjb : j < bl.length := by rw [← hlb, hlen]; exact (List.getElem?_eq_some_iff.1 hj).1
              obtain ⟨r, b, hr, _⟩ := hpre.row j bl[j] (List.getElem?_eq_getElem hjb)
              refine ⟨r, b, hr, fun o x hx => ?_⟩
              obtain ⟨c0, n1, n2⟩ := hcells ρ' j cs hj
              obtain ⟨x0, q1, q2⟩ := n2 o x hx
              obtain ⟨v0, m1, m2⟩ := hhold j c0 n1 r b (by rw [Nat.zero_add]; exact hext _ _ hr) o x0 q1
              exact ⟨v0, m1, V_flat _ _ (flatL_get cs o x (flatLL_get bl' j cs hfl hj) hx) (q2 v0 m2)⟩
            have hfr : Fr (ViewA ρ bl) w w' := by simpa using hr'.mem.fr
            have post : a'.defers = [] ∧ ∃ val, (results fn a'.tmps).run P w' = .ok val w' ∧ (∃ u, Ending.returned val = .returned u ∧ V ρ v u ∧ PostC ρ bl (some bl') w w') :=
              ⟨hr'.df, u, hu1, u, rfl, V_flat _ _ hflat (hrv ρ' u hu2), hfr, hrow⟩
            cases hee : (t.out (St.start fn.ntmps args bl true)).1 with
            | normal => exact post
            | ret => exact post
            | exit id => exact absurd hee (hex id)
          · cases he
        · cases he
      · cases he
    · cases he
  · cases he
end
end Go.Ab
