import Derived.Test.YtmegbdgnnbjbmaaAbK
namespace Go.Ab
open Go Go.RowKit
set_option linter.unusedVariables false
section
variable {P : Program}
/-! lists of floats -/
def decF : List AVal → Option (List Nat)
  | [] => some []
  | .flt .f32 a :: r => match decF r with | some l => some (a :: l) | none => none
  | _ :: _ => none

def encF : List Nat → List AVal
  | [] => []
  | a :: r => .flt .f32 a :: encF r

theorem decF_spec : ∀ (l : List AVal) (ns : List Nat), decF l = some ns → l = encF ns
  | [], ns, h => by simp [decF] at h; subst h; rfl
  | x :: r, ns, h => by
    unfold decF at h
    split at h
    · rename_i heq; simp at heq
    · rename_i a r' heq
      simp only [List.cons.injEq] at heq
      obtain ⟨rfl, rfl⟩ := heq
      split at h
      · rename_i l hl; cases h
        rw [decF_spec r l hl]; rfl
      · cases h
    · cases h

/-- So many floats. -/
def decN (n : Nat) (l : List AVal) : Option (List Nat) := match decF l with
  | some ns => match Nat.beq ns.length n with | true => some ns | false => none
  | none => none

theorem decN_spec {n : Nat} {l : List AVal} {ns : List Nat} (h : decN n l = some ns) : l = encF ns ∧ ns.length = n := by
  unfold decN at h
  split at h
  · rename_i ns' hd
    split at h
    · rename_i hb; cases h
      exact ⟨decF_spec l _ hd, Nat.eq_of_beq_eq_true hb⟩
    · cases h
  · cases h

theorem len4 {l : List Nat} (h : l.length = 4) : ∃ a b c d, l = [a, b, c, d] := by
  match l, h with
  | [a, b, c, d], _ => exact ⟨a, b, c, d, rfl⟩
theorem len6 {l : List Nat} (h : l.length = 6) : ∃ a b c d e f, l = [a, b, c, d, e, f] := by
  match l, h with
  | [a, b, c, d, e, f], _ => exact ⟨a, b, c, d, e, f, rfl⟩
theorem len7 {l : List Nat} (h : l.length = 7) : ∃ a b c d e f g, l = [a, b, c, d, e, f, g] := by
  match l, h with
  | [a, b, c, d, e, f, g], _ => exact ⟨a, b, c, d, e, f, g, rfl⟩
theorem len18 {l : List Nat} (h : l.length = 18) : ∃ a0 a1 a2 a3 a4 a5 b0 b1 b2 b3 b4 b5 c0 c1 c2 c3 c4 c5, l = [a0, a1, a2, a3, a4, a5, b0, b1, b2, b3, b4, b5, c0, c1, c2, c3, c4, c5] := by
  match l, h with
  | [a0, a1, a2, a3, a4, a5, b0, b1, b2, b3, b4, b5, c0, c1, c2, c3, c4, c5], _ => exact ⟨a0, a1, a2, a3, a4, a5, b0, b1, b2, b3, b4, b5, c0, c1, c2, c3, c4, c5, rfl⟩

theorem VL_wf {ρ : Rho} : ∀ (ns : List Nat) (vs : List Value), VL ρ (encF ns) vs → ∀ n ∈ ns, wfW .f32 n
  | [], _, _, n, hn => by simp at hn
  | a :: r, _, h, n, hn => by
    unfold encF VL at h
    obtain ⟨v, vs', rfl, h1, h2⟩ := h
    rcases List.mem_cons.1 hn with rfl | hn
    · exact V_wf h1
    · exact VL_wf r vs' h2 n hn

/-! arguments -/
theorem enc_of_floats {ρ : Rho} : ∀ (vs : List Value), (∀ v ∈ vs, ∃ b, v = .float .f32 b ∧ wfW .f32 b) → ∃ ns, ns.length = vs.length ∧ VL ρ (encF ns) vs
  | [], _ => ⟨[], rfl, by simp [encF, VL]⟩
  | v :: vs, h => by
    obtain ⟨b, rfl, hb⟩ := h v (by simp)
    obtain ⟨ns, h1, h2⟩ := enc_of_floats vs (fun v hv => h v (by simp [hv]))
    refine ⟨b :: ns, by simp [h1], ?_⟩
    unfold encF VL
    exact ⟨_, vs, rfl, by unfold V; exact ⟨b, rfl, sameW.refl _ _, hb, hb⟩, h2⟩

/-- A struct or an array of floats, opened. -/
theorem open_floats {W : World} {r : Reach} {base n : Nat} {t f : TypeId} {v : Value} (hagg : (match P.underlying t with | some (.struct _) | some (.array _ _) => true | _ => false) = true)
    (hct : P.cellTypes P.depth t = some (List.replicate n f)) (hn : P.cellsOf t = n) (hf : P.underlying f = some (.float .f32)) (h : Value.okWide P W r base t v) :
    ∃ ns vs, ns.length = n ∧ v = .agg ⟨vs⟩ ∧ VL noRho (encF ns) vs := by
  unfold Value.okWide at h
  have h' : ∃ cs, v = .agg cs ∧ cs.size = P.cellsOf t ∧ Row.okWide P W r base t cs := by
    cases hu : P.underlying t with
    | none => rw [hu] at hagg; cases hagg
    | some d => rw [hu] at hagg h; cases d <;> first | exact h | cases hagg
  obtain ⟨cs, rfl, hsz, ts, hts, _, hcells⟩ := h'
  rw [hct] at hts; cases hts
  obtain ⟨vs⟩ := cs
  have hlen : vs.length = n := by simpa [hn] using hsz
  obtain ⟨ns, h1, h2⟩ := enc_of_floats (ρ := noRho) vs (fun v hv => by
    obtain ⟨i, hi, he⟩ := List.mem_iff_getElem.1 hv
    obtain ⟨u, hu, hok⟩ := hcells i v (by simp [hi, he])
    have hu' : u = f := by
      rw [List.length_replicate] at hu
      have := List.mem_of_getElem? hu
      exact (List.mem_replicate.1 this).2
    subst hu'
    unfold Cell.okWide at hok
    rw [hf] at hok
    cases v <;> simp [Cell.ok, hf] at hok
    obtain ⟨rfl, hb⟩ := hok
    exact ⟨_, rfl, hb⟩)
  exact ⟨ns, vs, by omega, rfl, h2⟩

theorem agg_V {ρ : Rho} {xs : List AVal} {vs : List Value} (h : VL ρ xs vs) : V ρ (.agg xs) (.agg ⟨vs⟩) := by
  unfold V; exact ⟨vs, rfl, h⟩
theorem flt_V {ρ : Rho} (k : FloatKind) {b : Nat} (hb : wfW k b) : V ρ (.flt k b) (.float k b) := by
  unfold V; exact ⟨b, rfl, sameW.refl _ _, hb, hb⟩
theorem sint_V {ρ : Rho} (k : IntKind) (n : Int) : V ρ (.sint k n) (.int k n) := by unfold V; rfl
theorem VL_nil {ρ : Rho} : VL ρ [] [] := by simp [VL]
theorem VL_cons {ρ : Rho} {x : AVal} {v : Value} {xs : List AVal} {vs : List Value} (h : V ρ x v) (hs : VL ρ xs vs) : VL ρ (x :: xs) (v :: vs) := by
  unfold VL; exact ⟨v, vs, rfl, h, hs⟩

/-- A condition that is met. -/
theorem cbool_say {ρ : Rho} {c b : Bool} {u : Value} (hc : c = true) (h : V ρ (.cbool c b) u) : V ρ (.sbool b) u := by
  unfold V at h ⊢
  obtain ⟨b', rfl, hb⟩ := h
  rw [hb hc]
theorem cint_say {ρ : Rho} {c : Bool} {k : IntKind} {n : Int} {u : Value} (hc : c = true) (h : V ρ (.cint c k n) u) : V ρ (.sint k n) u := by
  unfold V at h ⊢
  obtain ⟨b', rfl, hb⟩ := h
  rw [hb hc]
theorem encF_flat : ∀ ns : List Nat, AVal.flat.flatL (encF ns) = true
  | [] => rfl
  | a :: ns => by
    unfold encF AVal.flat.flatL
    simp only [AVal.flat, encF_flat ns]

/-- One block that is read. -/
def St1 (l : List AVal) : St := ⟨[], [], [⟨l, false, none⟩], [], [], []⟩

theorem cellsAt_get {S : St} {i : Nat} : ∀ (n o : Nat) (l : List AVal), S.cellsAt i o n = some l → l.length = n ∧ ∀ (q : Nat) (x : AVal), l[q]? = some x → S.cell i (o + q) = some x
  | 0, o, l, h => by simp [St.cellsAt] at h; subst h; exact ⟨rfl, fun q x hx => by simp at hx⟩
  | n + 1, o, l, h => by
    unfold St.cellsAt at h
    split at h
    · rename_i v hv
      split at h
      · rename_i r hr; cases h
        obtain ⟨h1, h2⟩ := cellsAt_get n (o + 1) r hr
        refine ⟨by simp [h1], fun q x hx => ?_⟩
        cases q with
        | zero => simp at hx; subst hx; exact hv
        | succ q =>
          have := h2 q x (by simpa using hx)
          have e : o + (q + 1) = o + 1 + q := by omega
          rw [e]; exact this
      · cases h
    · cases h

theorem flatL_at : ∀ (l : List AVal) (q : Nat) (x : AVal), AVal.flat.flatL l = true → l[q]? = some x → x.flat = true
  | [], q, x, _, h => by simp at h
  | c :: l, q, x, hf, h => by
    unfold AVal.flat.flatL at hf
    split at hf
    · rename_i hc
      cases q with
      | zero => simp at h; subst h; exact hc
      | succ q => exact flatL_at l q x hf (by simpa using h)
    · cases hf

theorem st1_cell {l : List AVal} {i o : Nat} {x : AVal} (h : (St1 l).cell i o = some x) : i = 0 ∧ l[o]? = some x := by
  have hoff := cell_off h
  cases i with
  | zero =>
    have hoff : o < l.length := hoff
    unfold St.cell at h
    have e : ((St1 l).blk 0).cells = l := rfl
    rw [e, Nat.ble_eq_true_of_le hoff] at h
    simp only [St1, hlookL, Option.some.injEq] at h
    exact ⟨rfl, by rw [← h]; exact (nth_get l o hoff)⟩
  | succ i =>
    exfalso
    have e : ((St1 l).blk (i + 1)).cells.length = 0 := by unfold St.blk St1; simp only [nthB]; rfl
    omega

theorem view_mem {M : Addr → Prop} {w0 : World} {ρ : Rho} {S : St} {w : World} (hM : Mem M w0 ρ S w) {i o n : Nat} {l : List AVal} (hc : S.cellsAt i o n = some l) (hn : 1 ≤ n) (hfl : AVal.flat.flatL l = true) {v : Value} (hv : V ρ (.ptr i o) v) :
    ∃ ρ1, Mem NoM w ρ1 (St1 l) w ∧ V ρ1 (.ptr 0 0) v := by
  obtain ⟨hl, hget⟩ := cellsAt_get n o l hc
  unfold V at hv
  obtain ⟨r, b, hr, hve⟩ := hv
  have hlt := hM.hp.lt i r b hr
  have hwb : ∀ j, ((St1 l).blk j).wr = false := fun j => by
    cases j with
    | zero => rfl
    | succ j => unfold St.blk St1; simp only [nthB]
  have hvn : ∀ j vc, ¬ (St1 l).vec j = some vc := fun j vc h => by
    obtain ⟨u, hu⟩ := vec_blk h
    cases j with
    | zero => cases hu
    | succ j => unfold St.blk St1 at hu; simp only [nthB] at hu; cases hu
  refine ⟨⟨fun j => if j = 0 then some (r, b + o) else none, fun _ => 0, fun _ => false⟩, ⟨⟨fun j q x hx => ?_, fun j vc _ _ _ _ _ h => (hvn j vc h).elim, fun j q x r b _ hw => ?_, fun j vc _ _ _ h => (hvn j vc h).elim, fun j vc _ _ h => (hvn j vc h).elim, fun j k r b b' _ hw => ?_, fun j p hp => ?_, fun j h => by (cases h), fun j q x h => by (simp [St1, hlookL] at h), fun j x h => by (simp [St1, vlookL] at h), fun j r' b' hp => ?_⟩, Fr.refl _ _, ⟨fun j q x r b _ hw => ?_, fun j vc _ _ _ h => (hvn j vc h).elim⟩⟩, ?_⟩
  · obtain ⟨rfl, hq⟩ := st1_cell hx
    obtain ⟨r', b', u, k1, k2, k3⟩ := hM.hp.cell i (o + q) x (hget q x hq)
    rw [hr] at k1
    cases k1
    exact ⟨r, b + o, u, rfl, by rw [Nat.add_assoc]; exact k2, V_flat _ _ (flatL_at l q x hfl hq) k3⟩
  · rw [hwb j] at hw; cases hw
  · rcases wrB_iff.1 hw with ⟨q, x, hx, hw⟩ | ⟨vc, hx, _⟩
    · rw [hwb j] at hw; cases hw
    · exact (hvn j vc hx).elim
  · dsimp only at hp
    split at hp
    · rename_i hj; subst hj; show 0 < ([_] : List Blk).length; simp
    · cases hp
  · dsimp only at hp
    split at hp
    · cases hp; exact hlt
    · cases hp
  · rw [hwb j] at hw; cases hw
  · unfold V
    exact ⟨r, b + o, rfl, hve⟩

/-- A contract over what a pointer points to. -/
theorem sat_view {n : Nat} {Γ : List (Nat × Ctr)} (hΓ : Good P Γ) (hm : P.follows .mixedOrders = true) {f : FuncId} {fn : Func} {c : Ctr} (hf : P.funcs[f]? = some fn)
    (hcall : ∀ (args : Array Value) (w : World), (callFunc f args).run P w = .ok (.enter f args) w)
    (h : ∀ args S out, c.fn args S = some out → out.nd = true → ∃ i o l, args = [.ptr i o] ∧ S.cellsAt i o n = some l ∧ AVal.flat.flatL l = true ∧ ∃ fuel v0, evBody P Γ fuel fn [.ptr 0 0] (St1 l) = some ⟨v0, [], [], [], true, none⟩ ∧ v0.flat = true ∧ out = ⟨out.v, [], [], [], true, none⟩ ∧ ∀ ρ u, V ρ v0 u → V ρ out.v u) (hx : c.x = none) (hn1 : 1 ≤ n := by decide) : Sat P f c := by
  unfold Sat
  rw [hx]
  refine ⟨hcall, fun args S out hfn hnd M w0 ρ w vs hM hv => ?_⟩
  obtain ⟨i, o, l, rfl, hl, hfl, fuel, v0, he, hf0, hout, hsay⟩ := h args S out hfn hnd
  have hs : SatC P f (inl P Γ fuel fn) := inl_sat hΓ hm hf hcall fuel
  unfold VL at hv
  obtain ⟨v, vs', rfl, hv1, hv2⟩ := hv
  obtain ⟨ρ1, hM1, hv3⟩ := view_mem hM hl hn1 hfl hv1
  have hvl : VL ρ1 [.ptr 0 0] (v :: vs') := by
    unfold VL at hv2 ⊢
    subst hv2
    exact ⟨v, [], rfl, hv3, by unfold VL; rfl⟩
  refine (hs.sat [.ptr 0 0] (St1 l) _ he rfl NoM w ρ1 w _ hM1 hvl).mono ?_
  intro e w' hr
  cases e with
  | outgrown => exact hr.elim
  | panicked ch =>
    obtain ⟨v, u, hp, _⟩ := hr
    cases hp
  | returned u =>
    obtain ⟨_, ρ', _, hu, hm'⟩ := hr
    rw [hout]
    exact ⟨fun b v h => (by cases h), ρ, ExtS.refl _ _, hsay ρ u (V_flat _ _ hf0 hu), (hM.quiet hm'.fr).put_nil⟩
end
end Go.Ab
