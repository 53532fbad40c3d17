import Derived.Test.YtgamhlhnegblfaaGf
import Derived.Test.YtgamhlhnegblfaaGd
namespace Go.Ab
open Go Go.RowKit
set_option linter.unusedVariables false
/-! ### Slices of whole numbers that are read -/
/-- The numbers of a block. -/
def Ints (gd : Nat → Int) (n₀ : Nat) (W : World) (b off len : Nat) : Prop := b < n₀ ∧ ∀ k, k < len → W.cell? ⟨b, off + k, none⟩ = some (.int .i64 (gd k))
/-- A slice value that holds them. -/
def SlV (gd : Nat → Int) (n₀ : Nat) (W : World) (sv : Value) (len : Nat) : Prop :=
  (∃ a, sv = .slice a 0 0 ∧ len = 0) ∨ ∃ b off cap, sv = .slice (some ⟨b, off, none⟩) len cap ∧ len ≤ cap ∧ Ints gd n₀ W b off len
section
variable {gd : Nat → Int}
theorem Ints.below {n₀ : Nat} {A B : World} (h : Below n₀ A B) {b off len : Nat} (k : Ints gd n₀ A b off len) : Ints gd n₀ B b off len :=
  ⟨k.1, fun j hj => (h.cell (p := ⟨b, _, none⟩) k.1).trans (k.2 j hj)⟩
theorem SlV.below {n₀ : Nat} {A B : World} (h : Below n₀ A B) {sv : Value} {len : Nat} : SlV gd n₀ A sv len → SlV gd n₀ B sv len
  | .inl e => .inl e
  | .inr ⟨b, off, cap, e, hc, k⟩ => .inr ⟨b, off, cap, e, hc, k.below h⟩
theorem Ints.wider {n₀ n₁ : Nat} {W : World} (hn : n₀ ≤ n₁) {b off len : Nat} (k : Ints gd n₀ W b off len) : Ints gd n₁ W b off len := ⟨Nat.lt_of_lt_of_le k.1 hn, k.2⟩
theorem SlV.wider {n₀ n₁ : Nat} {W : World} {sv : Value} {len : Nat} (hn : n₀ ≤ n₁) : SlV gd n₀ W sv len → SlV gd n₁ W sv len
  | .inl e => .inl e
  | .inr ⟨b, off, cap, e, hc, k⟩ => .inr ⟨b, off, cap, e, hc, k.wider hn⟩
/-- From the caller's world on. -/
theorem SlV.at {A B : World} (h : Below A.heap.size A B) {sv : Value} {len : Nat} (k : SlV gd A.heap.size A sv len) : SlV gd B.heap.size B sv len := (k.below h).wider h.size
theorem SlV.slice {n₀ : Nat} {W : World} {sv : Value} {len : Nat} (h : SlV gd n₀ W sv len) : ∃ a c, sv = .slice a len c := by
  rcases h with ⟨a, rfl, rfl⟩ | ⟨b, off, cap, rfl, _⟩
  · exact ⟨_, _, rfl⟩
  · exact ⟨_, _, rfl⟩
end
theorem slv_of {ρ : Rho} {S : St} {w : World} (hM : Hp ρ S w) {i a : Nat} {n : Num} {vc : Vc} (hvec : S.vec i = some vc) (hsh : vc.sh = [.int .i64]) {v : Value} (hV : V ρ (.vec i 1 a n) v) (han : a + n.val ≤ vc.n.val) :
    SlV (fun k => vc.gd (a + k) 0) w.heap.size w v n.val := by
  unfold V at hV
  obtain ⟨hn, hk, base, c, rfl, hc⟩ := hV
  rcases hc with ⟨rfl, h0⟩ | ⟨r, b, hr, rfl, rfl, hcap⟩
  · exact Or.inl ⟨base, by rw [h0], h0⟩
  · refine Or.inr ⟨r, b + a * 1, _, rfl, by omega, hM.lt i r b hr, fun k hk => ?_⟩
    have hkn : a + k < vc.n.val := by omega
    have hl : lenL vc.sh = 1 := by rw [hsh]; rfl
    obtain ⟨u, h1, h2⟩ := hM.vcell i vc r b (a + k) 0 (.int .i64) hvec hr hkn (by rw [hsh]; rfl)
    rw [hl] at h1
    have e : b + ((a + k) * 1 + 0) = b + a * 1 + k := by omega
    rw [e] at h1
    simp only [Vc.mkA] at h2
    unfold V at h2
    subst h2
    exact h1
structure IRow where
  sv : Value
  n : Nat
  gd : Nat → Int
/-- The row. -/
def IRow.vc (x : IRow) : Vc := ⟨[.int .i64], .sym x.n, fun _ _ => 0, fun k _ => x.gd k, fun _ _ => false, false⟩
def posOf : Value → Option (Nat × Nat)
  | .slice (some a) _ (c + 1) => some (a.block, a.off)
  | _ => none
def capOf : Value → Nat
  | .slice _ _ c => c
  | _ => 0
def rhoI (xs : List IRow) : Rho := ⟨fun j => match xs[j]? with | some x => posOf x.sv | none => none, fun j => match xs[j]? with | some x => capOf x.sv | none => 0, fun j => match xs[j]? with | some _ => true | none => false⟩
theorem rhoI_at {xs : List IRow} {W : World} (h : ∀ x, x ∈ xs → SlV x.gd W.heap.size W x.sv x.n) {j r b : Nat} (hr : rhoI xs j = some (r, b)) : ∃ x, xs[j]? = some x ∧ Ints x.gd W.heap.size W r b x.n := by
  unfold rhoI at hr
  simp only at hr
  split at hr
  · rename_i x hx
    refine ⟨x, hx, ?_⟩
    have hm := List.mem_of_getElem? hx
    rcases h x hm with ⟨a, e, e0⟩ | ⟨b', off, cap, e, hc, k⟩
    · rw [e] at hr; cases a <;> cases hr
    · rw [e] at hr
      cases cap with
      | zero => cases hr
      | succ c => cases hr; exact k
  · cases hr
theorem mem_ints_V {W : World} (xs : List IRow) (h : ∀ x, x ∈ xs → SlV x.gd W.heap.size W x.sv x.n) : ∀ (j : Nat) (x : IRow), xs[j]? = some x → V (rhoI xs) (.vec j 1 0 (.sym x.n)) x.sv := by
  intro j x hx
  unfold V
  have hk : (rhoI xs).kn j = true := by unfold rhoI; simp only [hx]
  have hm := List.mem_of_getElem? hx
  refine ⟨trivial, hk, ?_⟩
  rcases h x hm with ⟨a, e, e0⟩ | ⟨b', off, cap, e, hc, k⟩
  · exact ⟨a, 0, by rw [e, e0]; rfl, Or.inl ⟨rfl, e0⟩⟩
  · have hcp : (rhoI xs).cap j = cap := by unfold rhoI; simp only [hx, e]; rfl
    refine ⟨_, cap, by rw [e]; rfl, ?_⟩
    cases cap with
    | zero => exact Or.inl ⟨rfl, by show x.n = 0; omega⟩
    | succ c =>
      have hat : rhoI xs j = some (b', off) := by unfold rhoI; simp only [hx, e]; rfl
      refine Or.inr ⟨b', off, hat, by simp, by rw [hcp]; rfl, ?_⟩
      rw [hcp]
      show 0 + x.n ≤ c + 1
      omega
theorem mem_ints {W : World} (xs : List IRow) (h : ∀ x, x ∈ xs → SlV x.gd W.heap.size W x.sv x.n) : ∃ ρ, Mem NoM W ρ (viewS (xs.map IRow.vc)) W ∧ ∀ (j : Nat) (x : IRow), xs[j]? = some x → V ρ (.vec j 1 0 (.sym x.n)) x.sv := by
  refine ⟨rhoI xs, ⟨⟨fun i o x hx => (view_cell hx).elim, fun i vc r b k o c hvc hr hk hc => ?_, fun i o x r b hx => (view_cell hx).elim, fun i vc r b q hvc hw => ?_, fun i vc r b hvc hw => ?_, fun i j r b b' _ hw => (view_wr hw).elim, fun i p hp => ?_, fun i hi => ?_, fun i o x hx => by (simp [viewS, hlookL] at hx), fun i x hx => by (simp [viewS, vlookL] at hx), fun i r b hr => ?_⟩, Fr.refl _ _, ⟨fun i o x r b hx => (view_cell hx).elim, fun i vc r b q hvc hw => ?_⟩⟩, ?_⟩
  · obtain ⟨u, hu, rfl⟩ := view_vec hvc
    obtain ⟨x, hx, hI⟩ := rhoI_at h hr
    rw [List.getElem?_map, hx] at hu
    simp only [Option.map_some, Option.some.injEq] at hu
    subst hu
    have hk : k < x.n := hk
    cases o with
    | zero =>
      have hc : CK.int .i64 = c := by simpa [IRow.vc, nthC] using hc
      subst hc
      refine ⟨.int .i64 (x.gd k), ?_, by unfold V Vc.mkA; rfl⟩
      have := hI.2 k hk
      simpa [IRow.vc, lenL] using this
    | succ o => simp [IRow.vc, nthC] at hc
  · obtain ⟨u, hu, rfl⟩ := view_vec hvc; cases hw
  · obtain ⟨u, hu, rfl⟩ := view_vec hvc; cases hw
  · show i < (roBs (xs.map IRow.vc)).length
    rw [roBs_len, List.length_map]
    unfold rhoI at hp
    simp only at hp
    split at hp
    · rename_i x hx; exact is_lt hx
    · cases hp
  · show i < (roBs (xs.map IRow.vc)).length
    rw [roBs_len, List.length_map]
    unfold rhoI at hi
    simp only at hi
    split at hi
    · rename_i x hx; exact is_lt hx
    · cases hi
  · obtain ⟨x, hx, hI⟩ := rhoI_at h hr
    exact hI.1
  · obtain ⟨u, hu, rfl⟩ := view_vec hvc; cases hw
  · exact mem_ints_V xs h
section
variable {H : Type} {enc : TypeId × Value → H} {P : Program}
/-- A slice of whole numbers, opened. -/
theorem open_ints0 {t e : TypeId} {v : Value} {fuel : Nat} {y : DataW H × List MemPlace} {W : World} (ht : P.underlying t = some (.slice e)) (he : ElemIs P e [.int .i64]) (hsz : P.cellsOf e = 1)
    (h : DataW.trod enc P W 0 (fun _ => true) true fuel t [v] = some y) : ∃ (n : Nat) (gd : Nat → Int), n ≤ 9223372036854775807 ∧ SlV gd W.heap.size W v n := by
  obtain ⟨n, fd, gd, bd, ρ, hn, hM, hV⟩ := open_rows0 (sh := [.int .i64]) ht he hsz (by decide) h
  have := slv_of hM.hp (i := 0) (vc := ⟨[.int .i64], .sym n, fd, gd, bd, false⟩) rfl rfl hV (by show 0 + n ≤ n; omega)
  exact ⟨n, _, hn, this⟩
theorem open_ints {r : Reach} {b0 : Nat} {t e : TypeId} {v : Value} {d : DataW H} {ps : List MemPlace} {W : World} (ht : P.underlying t = some (.slice e)) (he : ElemIs P e [.int .i64]) (hsz : P.cellsOf e = 1)
    (hval : Value.okWide P W r b0 t v) (h : DataW.Trod enc P W 0 (fun _ => true) true t v d ps) : ∃ (n : Nat) (gd : Nat → Int), n ≤ 9223372036854775807 ∧ SlV gd W.heap.size W v n := by
  obtain ⟨fuel, h⟩ := h
  have hone : v.cells.toList = [v] := by
    unfold Value.okWide Cell.okWide at hval
    rw [ht] at hval
    cases v <;> first | rfl | (simp [Cell.ok, ht] at hval)
  rw [hone] at h
  exact open_ints0 ht he hsz h
/-- A season: two slices and five numbers. -/
theorem open_sea {r : Reach} {b0 : Nat} {t e t0 ti : TypeId} {fs : Array Field} {v : Value} {d : DataW H} {ps : List MemPlace} {W : World}
    (hs : P.underlying t = some (.struct fs)) (hone : Deep.oneCellFields P fs = true) (hC : P.cellsOf t = fs.size) (hts : fs.toList.map (·.type) = [t0, t0, ti, ti, ti, ti, ti]) (hct : P.cellTypes P.depth t = some [t0, t0, ti, ti, ti, ti, ti])
    (ht : P.underlying t0 = some (.slice e)) (he : ElemIs P e [.int .i64]) (hsz : P.cellsOf e = 1) (hti : P.underlying ti = some (.int .i64))
    (hval : Value.okWide P W r b0 t v) (h : DataW.Trod enc P W 0 (fun _ => true) true t v d ps) :
    ∃ (n m : Nat) (gn gm : Nat → Int) (s1 s2 : Value) (g : Nat → Int), v = .agg #[s1, s2, .int .i64 (g 0), .int .i64 (g 1), .int .i64 (g 2), .int .i64 (g 3), .int .i64 (g 4)] ∧ n ≤ 9223372036854775807 ∧ m ≤ 9223372036854775807 ∧ SlV gn W.heap.size W s1 n ∧ SlV gm W.heap.size W s2 m ∧ ∀ o, o < 5 → IntKind.i64.min ≤ g o ∧ g o ≤ IntKind.i64.max := by
  have hv' : ∃ cs, v = .agg cs ∧ cs.size = P.cellsOf t ∧ Row.okWide P W r b0 t cs := by
    unfold Value.okWide at hval
    rw [hs] at hval
    exact hval
  obtain ⟨cs, rfl, hsize, hrow⟩ := hv'
  obtain ⟨fuel, h⟩ := h
  have h : DataW.trod enc P W 0 (fun _ => true) true fuel t cs.toList = some (d, ps) := h
  obtain ⟨xs, m, _, _, hlen, _, hf⟩ := DataW.trod_struct hs h
  have hn : fs.size = 7 := by
    have := congrArg List.length hts
    simpa using this
  have each : ∀ o, o < fs.size → ∃ (f : Field) (x : DataW H × List MemPlace), fs[o]? = some f ∧ ([t0, t0, ti, ti, ti, ti, ti] : List TypeId)[o]? = some f.type ∧ DataW.trod enc P W 0 (fun _ => true) true m f.type [cs.toList.getD o undef] = some x := by
    intro o ho
    have hfo : fs[o]? = some fs[o] := Array.getElem?_eq_getElem ho
    obtain ⟨hoff, hc1⟩ := Deep.hone_of hone o _ hfo
    have g := hf o _ hfo
    rw [hoff, hc1, Deep.take1_drop cs.toList o undef (by simp; omega)] at g
    have hxs : ∃ x, xs[o]? = some x := ⟨xs[o]'(by omega), List.getElem?_eq_getElem (by omega)⟩
    obtain ⟨x, hx⟩ := hxs
    rw [hx] at g
    refine ⟨fs[o], x, hfo, ?_, g⟩
    rw [← hts]
    simp [hfo]
  obtain ⟨f0, x0, _, e0, g0⟩ := each 0 (by omega)
  obtain ⟨f1, x1, _, e1, g1⟩ := each 1 (by omega)
  have e0 : t0 = f0.type := by simpa using e0
  have e1 : t0 = f1.type := by simpa using e1
  rw [← e0] at g0
  rw [← e1] at g1
  obtain ⟨n, gn, hnn, hS0⟩ := open_ints0 ht he hsz g0
  obtain ⟨m', gm, hmm, hS1⟩ := open_ints0 ht he hsz g1
  have hc7 : cs.size = 7 := by omega
  have hget : ∀ o, o < 7 → cs[o]? = some (cs.toList.getD o undef) := fun o ho => by
    have : o < cs.size := by omega
    simp [List.getD, this]
  have hi : ∀ o, o < 5 → ∃ z, cs.toList.getD (o + 2) undef = .int .i64 z ∧ IntKind.i64.min ≤ z ∧ z ≤ IntKind.i64.max := fun o ho => by
    obtain ⟨z, h1, h2⟩ := cell_int hrow hct (hget (o + 2) (by omega)) (u := ti) (by
      rcases o with _ | _ | _ | _ | _ | o <;> first | rfl | omega) hti
    exact ⟨z, h1, h2⟩
  refine ⟨n, m', gn, gm, cs.toList.getD 0 undef, cs.toList.getD 1 undef, fun o => gV (cs.toList.getD (o + 2) undef), ?_, hnn, hmm, hS0, hS1, fun o ho => ?_⟩
  · have hcs : cs = #[cs.toList.getD 0 undef, cs.toList.getD 1 undef, cs.toList.getD 2 undef, cs.toList.getD 3 undef, cs.toList.getD 4 undef, cs.toList.getD 5 undef, cs.toList.getD 6 undef] := by
      apply Array.ext_getElem?
      intro i
      rcases Nat.lt_or_ge i 7 with hi' | hi'
      · rw [hget i hi']
        rcases i with _ | _ | _ | _ | _ | _ | _ | i <;> first | rfl | omega
      · rw [Array.getElem?_eq_none (by omega), Array.getElem?_eq_none (by simp; omega)]
    have k : ∀ o, o < 5 → Value.int .i64 (gV (cs.toList.getD (o + 2) undef)) = cs.toList.getD (o + 2) undef := fun o ho => by
      obtain ⟨z, hz, _⟩ := hi o ho
      rw [hz]; rfl
    rw [k 0 (by omega), k 1 (by omega), k 2 (by omega), k 3 (by omega), k 4 (by omega)]
    exact congrArg Value.agg hcs
  · obtain ⟨z, hz, h1, h2⟩ := hi o ho
    simp only [hz, gV]
    exact ⟨h1, h2⟩
/-- A contract with an answer without memory, off a walk. -/
theorem sat_by {f : FuncId} {c : Ctr} (hcall : ∀ (args : Array Value) (w : World), (callFunc f args).run P w = .ok (.enter f args) w) (hx : c.x = none)
    (h : ∀ args S out, c.fn args S = some out → out.nd = true → out = ⟨out.v, [], [], [], out.nd, none⟩ ∧ ∀ (ρ : Rho) (w : World) (vs : List Value), Hp ρ S w → VL ρ args vs → Calls P f ⟨vs⟩ w fun e w' => ∃ u, e = .returned u ∧ V ρ out.v u ∧ Below w.heap.size w w') : Sat P f c := by
  unfold Sat
  rw [hx]
  refine ⟨hcall, fun args S out hfn hnd M w0 ρ w vs hM hv => ?_⟩
  obtain ⟨hout, hC⟩ := h args S out hfn hnd
  refine (hC ρ w vs hM.hp hv).mono ?_
  rintro e w' ⟨u, rfl, hu, hb⟩
  rw [hout]
  exact ⟨fun b v h => (by cases h), ρ, ExtS.refl _ _, hu, (hM.quiet (Fr.of_below hb)).put_nil⟩
end
/-- A whole number of 64 bits. -/
def i64Of : AVal → Option Int
  | .int .i64 z => some z
  | .sint .i64 z => some z
  | _ => none
theorem i64Of_V {ρ : Rho} {x : AVal} {z : Int} {v : Value} (h : i64Of x = some z) (hv : V ρ x v) : v = .int .i64 z := by
  unfold i64Of at h
  split at h
  · cases h; unfold V at hv; exact hv
  · cases h; unfold V at hv; exact hv
  · cases h
/-- A slice of whole numbers that is read: how many, the numbers, what it needs. -/
def intsOf (S : St) : AVal → Option (Nat × (Nat → Int) × Bool)
  | .vec i e a n => match S.vec i with
    | some v => match Nat.beq e 1 && eqSh [.int .i64] v.sh with
      | true => some (n.val, fun k => v.gd (Nat.add a k) 0, Nat.ble (Nat.add a n.val) v.n.val && Nat.ble n.val 9223372036854775807)
      | false => none
    | none => none
  | _ => none
theorem intsOf_V {ρ : Rho} {S : St} {w : World} (hM : Hp ρ S w) {x : AVal} {n : Nat} {gd : Nat → Int} {b : Bool} {v : Value} (h : intsOf S x = some (n, gd, b)) (hb : b = true) (hv : V ρ x v) : SlV gd w.heap.size w v n ∧ n ≤ 9223372036854775807 := by
  unfold intsOf at h
  split at h
  · rename_i i e a m
    split at h
    · rename_i u hvec
      split at h
      · rename_i hc
        cases h
        simp only [Bool.and_eq_true] at hc hb
        have he := Nat.eq_of_beq_eq_true hc.1
        subst he
        exact ⟨slv_of hM hvec (eqSh_eq hc.2).symm hv (Nat.le_of_ble_eq_true hb.1), Nat.le_of_ble_eq_true hb.2⟩
      · cases h
    · cases h
  · cases h
/-- A number lies between two bounds. -/
def inB (a lo hi : Int) : Bool := cond (decide (lo ≤ a)) (decide (a ≤ hi)) false
section
variable {P : Program}
/-- A walk off the evaluator: rows are read. -/
theorem calls_ev {Γ : List (Nat × Ctr)} (hΓ : Good P Γ) (hm : P.follows .mixedOrders = true) {f : FuncId} {fn : Func} (hf : P.funcs[f]? = some fn) (hcall : ∀ (args : Array Value) (w : World), (callFunc f args).run P w = .ok (.enter f args) w) (fuel : Nat)
    {args : List AVal} {xs : List IRow} {v : AVal} {nd : Bool} (he : evBody P Γ fuel fn args (viewS (xs.map IRow.vc)) = some ⟨v, [], [], [], nd, none⟩) (hnd : nd = true) (hfl : v.flat = true) (w : World) (h : ∀ x, x ∈ xs → SlV x.gd w.heap.size w x.sv x.n) {vs : List Value}
    (hv : ∀ ρ : Rho, (∀ (j : Nat) (x : IRow), xs[j]? = some x → V ρ (.vec j 1 0 (.sym x.n)) x.sv) → VL ρ args vs) : Calls P f ⟨vs⟩ w fun e w' => ∃ u, e = .returned u ∧ V noRho v u ∧ Below w.heap.size w w' := by
  obtain ⟨ρ, hM, hx⟩ := mem_ints xs h
  have hs : SatC P f (inl P Γ fuel fn) := inl_sat hΓ hm hf hcall fuel
  refine (hs.sat _ _ _ he hnd NoM w ρ w vs hM (hv ρ hx)).mono ?_
  intro e w' hr
  cases e with
  | outgrown => exact hr.elim
  | panicked ch => obtain ⟨v, u, hp, _⟩ := hr; cases hp
  | returned u =>
    obtain ⟨_, ρ', _, hu, hm'⟩ := hr
    exact ⟨u, rfl, V_flat _ _ hfl hu, hm'.fr.below⟩
/-- Cells that are pointed to, and rows. -/
theorem mem_cints {W : World} (xs : List IRow) (h : ∀ x, x ∈ xs → SlV x.gd W.heap.size W x.sv x.n) {b off : Nat} (hb : b < W.heap.size) {cs : List AVal} {us : List Value} (hc : ∀ (q : Nat) (u : Value), us[q]? = some u → W.cell? ⟨b, off + q, none⟩ = some u)
    (hv : ∀ ρ : Rho, (∀ (j : Nat) (x : IRow), xs[j]? = some x → V ρ (.vec (j + 1) 1 0 (.sym x.n)) x.sv) → VL ρ cs us) : ∃ ρ, Mem NoM W ρ (cellS cs (xs.map IRow.vc)) W ∧ V ρ (.ptr 0 0) (.pointer (some ⟨b, off, none⟩)) ∧ ∀ (j : Nat) (x : IRow), xs[j]? = some x → V ρ (.vec (j + 1) 1 0 (.sym x.n)) x.sv := by
  have hx : ∀ (j : Nat) (x : IRow), xs[j]? = some x → V ⟨fun j => match j with | 0 => some (b, off) | j + 1 => rhoI xs j, fun j => match j with | 0 => 0 | j + 1 => (rhoI xs).cap j, fun j => match j with | 0 => false | j + 1 => (rhoI xs).kn j⟩ (.vec (j + 1) 1 0 (.sym x.n)) x.sv := fun j x hx => by
    have := (mem_ints_V xs h) j x hx
    unfold V VecV at this ⊢
    exact this
  refine ⟨_, ⟨⟨fun j q x hx' => ?_, fun j vc r b' k q c hx' hr' hk hc' => ?_, fun j q x r' b' hx' hw => ?_, fun j vc r' b' q hx' hw => ?_, fun j vc r' b' hx' hw => ?_, fun j j' r' b' b'' _ hw => (cellS_wr hw).elim, fun j p hp => ?_, fun j hk => ?_, fun j q x hx' => by (simp [cellS, hlookL] at hx'), fun j x hx' => by (simp [cellS, vlookL] at hx'), fun j r' b' hr' => ?_⟩, Fr.refl _ _, ⟨fun j q x r' b' hx' hw => ?_, fun j vc r' b' q hx' hw => ?_⟩⟩, ?_, hx⟩
  · obtain ⟨rfl, hq⟩ := cellS_cell hx'
    obtain ⟨v, hv1, hv2⟩ := VL_get _ _ (hv _ hx) q x hq
    exact ⟨b, off, v, rfl, hc q v hv1, hv2⟩
  · obtain ⟨k', v, rfl, hv', rfl⟩ := cellS_vec hx'
    obtain ⟨x, hxx, hI⟩ := rhoI_at h (show rhoI xs k' = some (r, b') from hr')
    rw [List.getElem?_map, hxx] at hv'
    simp only [Option.map_some, Option.some.injEq] at hv'
    subst hv'
    have hk : k < x.n := hk
    cases q with
    | zero =>
      have hc : CK.int .i64 = c := by simpa [IRow.vc, nthC] using hc'
      subst hc
      refine ⟨.int .i64 (x.gd k), ?_, by unfold V Vc.mkA; rfl⟩
      have := hI.2 k hk
      simpa [IRow.vc, lenL] using this
    | succ o => simp [IRow.vc, nthC] at hc'
  · obtain ⟨rfl, _⟩ := cellS_cell hx'; cases hw
  · obtain ⟨_, v, _, _, rfl⟩ := cellS_vec hx'; cases hw
  · obtain ⟨_, v, _, _, rfl⟩ := cellS_vec hx'; cases hw
  · show j < (⟨_, false, none⟩ :: roBs (xs.map IRow.vc) : List Blk).length
    rw [List.length_cons, roBs_len, List.length_map]
    cases j with
    | zero => omega
    | succ j =>
      have hp : rhoI xs j = some p := hp
      unfold rhoI at hp
      simp only at hp
      split at hp
      · rename_i x hxx; have := is_lt hxx; omega
      · cases hp
  · show j < (⟨_, false, none⟩ :: roBs (xs.map IRow.vc) : List Blk).length
    rw [List.length_cons, roBs_len, List.length_map]
    cases j with
    | zero => omega
    | succ j =>
      have hk : (rhoI xs).kn j = true := hk
      unfold rhoI at hk
      simp only at hk
      split at hk
      · rename_i x hxx; have := is_lt hxx; omega
      · cases hk
  · cases j with
    | zero =>
      have hr'' : some (b, off) = some (r', b') := hr'
      cases hr''; exact hb
    | succ j =>
      obtain ⟨x, hxx, hI⟩ := rhoI_at h (show rhoI xs j = some (r', b') from hr')
      exact hI.1
  · obtain ⟨rfl, _⟩ := cellS_cell hx'; cases hw
  · obtain ⟨_, v, _, _, rfl⟩ := cellS_vec hx'; cases hw
  · unfold V
    exact ⟨b, off, rfl, by simp⟩
/-- A walk off the evaluator: cells that are pointed to, and rows, are read. -/
theorem calls_evP {Γ : List (Nat × Ctr)} (hΓ : Good P Γ) (hm : P.follows .mixedOrders = true) {f : FuncId} {fn : Func} (hf : P.funcs[f]? = some fn) (hcall : ∀ (args : Array Value) (w : World), (callFunc f args).run P w = .ok (.enter f args) w) (fuel : Nat)
    {args : List AVal} {cs : List AVal} {xs : List IRow} {v : AVal} {nd : Bool} (he : evBody P Γ fuel fn (.ptr 0 0 :: args) (cellS cs (xs.map IRow.vc)) = some ⟨v, [], [], [], nd, none⟩) (hnd : nd = true) (hfl : v.flat = true) (w : World) (h : ∀ x, x ∈ xs → SlV x.gd w.heap.size w x.sv x.n) {b off : Nat} (hb : b < w.heap.size)
    {us : List Value} (hc : ∀ (q : Nat) (u : Value), us[q]? = some u → w.cell? ⟨b, off + q, none⟩ = some u) (hcs : ∀ ρ : Rho, (∀ (j : Nat) (x : IRow), xs[j]? = some x → V ρ (.vec (j + 1) 1 0 (.sym x.n)) x.sv) → VL ρ cs us) {vs : List Value}
    (hv : ∀ ρ : Rho, (∀ (j : Nat) (x : IRow), xs[j]? = some x → V ρ (.vec (j + 1) 1 0 (.sym x.n)) x.sv) → VL ρ args vs) : Calls P f ⟨.pointer (some ⟨b, off, none⟩) :: vs⟩ w fun e w' => ∃ u, e = .returned u ∧ V noRho v u ∧ Below w.heap.size w w' := by
  obtain ⟨ρ, hM, hp, hx⟩ := mem_cints xs h hb hc hcs
  have hs : SatC P f (inl P Γ fuel fn) := inl_sat hΓ hm hf hcall fuel
  refine (hs.sat _ _ _ he hnd NoM w ρ w _ hM (VL_cons hp (hv ρ hx))).mono ?_
  intro e w' hr
  cases e with
  | outgrown => exact hr.elim
  | panicked ch => obtain ⟨v, u, hp, _⟩ := hr; cases hp
  | returned u =>
    obtain ⟨_, ρ', _, hu, hm'⟩ := hr
    exact ⟨u, rfl, V_flat _ _ hfl hu, hm'.fr.below⟩
end
end Go.Ab
