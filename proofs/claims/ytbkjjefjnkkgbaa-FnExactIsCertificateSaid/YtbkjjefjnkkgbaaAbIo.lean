import Derived.Test.YtbkjjefjnkkgbaaAbIn
import Derived.Laws.AppendOwn
import Derived.Laws.OwnMore
namespace Go.Ab
open Go Go.RowKit
set_option linter.unusedVariables false
/-! ### A walk that answers with a new slice of whole numbers -/
def intsL (gd : Nat → Int) (n : Nat) : List Value := (List.range n).map fun k => .int .i64 (gd k)
theorem intsL_get {gd : Nat → Int} {n k : Nat} (h : k < n) : (intsL gd n)[k]? = some (.int .i64 (gd k)) := by simp [intsL, h]
theorem intsL_len (gd : Nat → Int) (n : Nat) : (intsL gd n).length = n := by simp [intsL]
theorem intsL_succ (gd : Nat → Int) (n : Nat) : intsL gd (n + 1) = intsL gd n ++ [.int .i64 (gd n)] := by simp [intsL, List.range_succ]
def newVc (gd : Nat → Int) (n : Nat) : Vc := ⟨[.int .i64], .sym n, fun _ _ => 0, fun k _ => gd k, fun _ _ => false, true⟩
section
variable {P : Program}
/-- The slice that the call owns, as one that is read. -/
theorem slv_own {w : World} {base : Nat} {e : TypeId} {sv : Value} {n : Nat} {gd : Nat → Int} (h : w.ownsRow base e 1 sv n (intsL gd n)) : SlV gd w.heap.size w sv n := by
  rcases h.2 with ⟨rfl, rfl⟩ | ⟨g, cap, cur, rfl, hb, hg, hnc, hm, hs, ht⟩
  · exact Or.inl ⟨none, rfl, rfl⟩
  · have hlt : g < w.heap.size := (Array.getElem?_eq_some_iff.1 hg).1
    refine Or.inr ⟨g, 0, cap, rfl, hnc, hlt, fun k hk => ?_⟩
    have := h.cellAt k (by omega)
    rw [intsL_get hk] at this
    rw [Nat.zero_add]; exact this
theorem sat_byNew {f : FuncId} {c : Ctr} {e : TypeId} (hcall : ∀ (args : Array Value) (w : World), (callFunc f args).run P w = .ok (.enter f args) w) (hx : c.x = none)
    (h : ∀ args S out, c.fn args S = some out → out.nd = true → ∃ (m : Nat) (gd : Nat → Int) (ys : List AVal), out = ⟨.tuple (.vec S.hp.length 1 0 (.sym m) :: ys), [], [], [⟨[], false, some (newVc gd m)⟩], out.nd, none⟩ ∧ AVal.flat.flatL ys = true ∧
      ∀ (ρ : Rho) (w : World) (vs : List Value), Hp ρ S w → VL ρ args vs → Calls P f ⟨vs⟩ w fun en w' => ∃ sv us, en = .returned (.tuple ⟨sv :: us⟩) ∧ w'.ownsRow w.heap.size e 1 sv m (intsL gd m) ∧ VL noRho ys us ∧ Below w.heap.size w w') : Sat P f c := by
  unfold Sat
  rw [hx]
  refine ⟨hcall, fun args S out hfn hnd M w0 ρ w vs hM hv => ?_⟩
  obtain ⟨m, gd, ys, hout, hfl, hC⟩ := h args S out hfn hnd
  refine (hC ρ w vs hM.hp hv).mono ?_
  rintro en w' ⟨sv, us, rfl, hrow, hus, hb⟩
  rw [hout]
  have hfr : Fr NoM w w' := Fr.of_below hb
  refine ⟨fun b v h => (by cases h), ?_⟩
  have empty : m = 0 → (∃ a, sv = .slice a 0 0) → ∃ ρ', ExtS S.hp.length ρ ρ' ∧ V ρ' (.tuple (.vec S.hp.length 1 0 (.sym m) :: ys)) (.tuple ⟨sv :: us⟩) ∧ Mem M w0 ρ' (S.put [] [] [⟨[], false, some (newVc gd m)⟩]) w' := by
    rintro rfl ⟨a, rfl⟩
    refine ⟨updK ρ S.hp.length, ⟨updK_ext _ _, fun i _ => rfl, fun i hi => by simp only [updK]; rw [if_neg (by omega)]⟩, ?_, ((hM.quiet hfr).ghost [] (newVc gd 0) (fun i u hu => by simp [vlook1] at hu)).known (by simp [St.put, St.ext])⟩
    unfold V
    refine ⟨_, rfl, VL_cons ?_ (VL_flat ys us hfl hus)⟩
    unfold V VecV
    exact ⟨trivial, updK_kn .., a, 0, rfl, Or.inl ⟨rfl, rfl⟩⟩
  rcases hrow.2 with ⟨rfl, h0⟩ | ⟨g, cap, cur, rfl, hgb, hg, hnc, hm, hs, ht⟩
  · exact empty h0 ⟨none, rfl⟩
  · rcases Nat.eq_zero_or_pos cap with hc0 | hpos
    · subst hc0
      have h0 : m = 0 := by omega
      exact empty h0 ⟨_, by rw [h0]⟩
    · have hlt : g < w'.heap.size := (Array.getElem?_eq_some_iff.1 hg).1
      have hcur : ∀ q, q < cap → ∃ v, w'.cell? ⟨g, q, none⟩ = some v := fun q hq => by
        have : q < cur.size := by omega
        exact ⟨cur[q], by simp [World.cell?, hg, this]⟩
      refine ⟨upd ρ S.hp.length (g, 0) cap, upd_extS hM.hp.dom _ _, ?_, ?_⟩
      · unfold V
        refine ⟨_, rfl, VL_cons ?_ (VL_flat ys us hfl hus)⟩
        unfold V VecV
        refine ⟨trivial, upd_kn .., some ⟨g, 0, none⟩, cap, rfl, Or.inr ⟨g, 0, upd_new .., rfl, by rw [upd_cap]; rfl, ?_⟩⟩
        rw [upd_cap]; show 0 + m ≤ cap; omega
      · refine hM.newB hfr (fun a ha => ha.elim) ⟨[], false, some (newVc gd m)⟩ g 0 cap [] hlt (fun i u hu => by simp [vlook1] at hu) (fun i o x r' b' v _ _ hv => by rw [hfr.cell _ (World.block_lt_of_cell? _ _ hv) (fun h => h)]; exact hv) (fun i u r' b' q v _ _ _ _ hv => by rw [hfr.cell _ (World.block_lt_of_cell? _ _ hv) (fun h => h)]; exact hv)
            (fun o x ho => by simp at ho) (fun o ho => by simp at ho) ?_ ?_ ?_ (fun q _ => Or.inr (by have := hM.fr.size; omega)) (fun i r' b' hr _ => ?_) (fun i r' b' hr _ => ?_)
        · intro u q p ck hu hq hp
          simp only [Option.some.injEq] at hu
          subst hu
          have hq : q < m := hq
          cases p with
          | zero =>
            have hc : CK.int .i64 = ck := by simpa [newVc, nthC] using hp
            subst hc
            refine ⟨.int .i64 (gd q), ?_, by unfold V Vc.mkA; rfl⟩
            have := hrow.cellAt q (by omega)
            rw [intsL_get hq] at this
            simpa [newVc, lenL] using this
          | succ p => simp [newVc, nthC] at hp
        · intro u q hu hw hq
          simp only [Option.some.injEq] at hu
          subst hu
          have hq : q < cap := by simpa [newVc, lenL] using hq
          rw [Nat.zero_add]
          exact ⟨hcur q hq, hrow.frozenAt q⟩
        · intro u hu hw
          simp only [Option.some.injEq] at hu
          subst hu
          exact hnc
        · have := hM.hp.lt i r' b' hr; omega
        · have := hM.hp.lt i r' b' hr; omega
end
end Go.Ab
