import Derived.Test.YtfpfiglmkllheaaNx2
import Derived.Test.YtfpfiglmkllheaaGc
namespace Go.Proofs.Ytfpfiglmkllheaa.nx
open Go Go.Ab Go.Proofs Go.Maps Go.RowKit
set_option maxRecDepth 1000000
set_option linter.unusedVariables false
theorem flt_both {x l h : Nat} (hl : nanB .f32 l = false) (hh : nanB .f32 h = false) (hk : Go.Ab.key FloatKind.f32.format l ≤ Go.Ab.key FloatKind.f32.format h) (h1 : fltB .f32 x l = true) : fltB .f32 h x = false := by
  cases hx : nanB .f32 x with
  | true => exact Go.Ab.flt_nan .f32 (Or.inr hx)
  | false =>
    rw [Go.Ab.flt_key .f32 hx hl] at h1
    rw [Go.Ab.flt_key .f32 hh hx]
    have := of_decide_eq_true h1
    exact decide_eq_false (by omega)
theorem excl (x : Nat) : (fltB .f32 x 1112014848 = true → fltB .f32 1128792064 x = false) ∧ (fltB .f32 x 1109393408 = true → fltB .f32 1132068864 x = false) :=
  ⟨flt_both (by rw [nan32]; decide) (by rw [nan32]; decide) (by decide), flt_both (by rw [nan32]; decide) (by rw [nan32]; decide) (by decide)⟩
/-- The side of a heat, as the state bounds it. -/
noncomputable def sd (n : Int) (x : Nat) : Int := cond (decide (n = 1)) (cond (fltB .f32 x 1112014848) 1 (cond (fltB .f32 1128792064 x) 2 0)) (cond (decide (n = 3)) (cond (fltB .f32 x 1109393408) 1 (cond (fltB .f32 1132068864 x) 2 0)) 0)
theorem sd_eq (n : Int) (x : Nat) : (inl Try.prog G1 100 Try.f91).fn [.sint .i8 n, .flt .f32 x] St0 = some ⟨.sint .i8 (sd n x), [], [], [], true, none⟩ := by kernel_rfl
/-- The state behind a step. -/
noncomputable def sp (n : Int) (x : Nat) (b : Bool) : Int := cond (decide (n = 1)) (cond (fltB .f32 1128792064 x) 2 (cond (cond (!b) (fltB .f32 x 1112014848) false) 0 n)) (cond (decide (n = 2)) (cond (!b) 3 n) (cond (decide (n = 3)) (cond (cond b (fltB .f32 1132068864 x) false) 2 (cond (fltB .f32 x 1109393408) 0 n)) n))
theorem sd_in (n : Int) (x : Nat) : 0 ≤ sd n x ∧ sd n x ≤ 2 := by
  unfold sd
  cases decide (n = 1) <;> cases decide (n = 3) <;> cases fltB .f32 x 1112014848 <;> cases fltB .f32 1128792064 x <;> cases fltB .f32 x 1109393408 <;> cases fltB .f32 1132068864 x <;> decide
theorem side_any (n : Int) (x : Nat) (w : World) {fx : Value} (hv : V noRho (.flt .f32 x) fx) : Calls Try.prog 91 #[.int .i8 n, fx] w fun e w' => e = .returned (.int .i8 (sd n x)) ∧ Below w.heap.size w w' := by
  have hs : SatC Try.prog 91 (inl Try.prog G1 100 Try.f91) := inl_sat g1 mixed Try.func91 Try.call91 100
  have h0 := hs.sat [.sint .i8 n, .flt .f32 x] St0 ⟨.sint .i8 (sd n x), [], [], [], true, none⟩ (sd_eq n x) (Eq.refl true) NoM w noRho w [.int .i8 n, fx] (mem_nil w) (VL_cons (sint_V .i8 n) (VL_cons hv VL_nil))
  refine h0.mono ?_
  intro e w' hr
  cases e with
  | outgrown => exact hr.elim
  | panicked ch =>
    obtain ⟨v, u, hp, _⟩ := hr
    cases hp
  | returned u =>
    obtain ⟨_, ρ', _, hu, hm'⟩ := hr
    unfold V at hu
    exact ⟨by rw [hu], hm'.fr.below⟩
theorem owns_below {w w' : World} {B n : Nat} {D : DataW U} (h : w.ownsMap Try.prog 132 (plainElem Try.prog 45) B n D) (hb : Below w.heap.size w w') : w'.ownsMap Try.prog 132 (plainElem Try.prog 45) B n D := by
  have hlt := h.lt
  obtain ⟨es, c, hh, F, hs, e⟩ := h
  exact ⟨es, c, (hb.block B hlt).trans hh, F, hs, e⟩
theorem sp_hit {n : Int} {x : Nat} {b : Bool} {p : Nat × (Int × Int × Bool) × Int} (hp : p ∈ rows) (h : p.2.1 = (n, sd n x, b)) : sp n x b = p.2.2 := by
  obtain ⟨e1, e2⟩ := excl x
  simp only [rows, List.mem_cons, List.not_mem_nil, or_false] at hp
  rcases hp with rfl | rfl | rfl | rfl | rfl | rfl | rfl <;> simp only [Prod.mk.injEq] at h <;> obtain ⟨rfl, h2, rfl⟩ := h <;> unfold sd at h2 <;> unfold sp <;> revert h2 e1 e2 <;>
    cases fltB .f32 x 1112014848 <;> cases fltB .f32 1128792064 x <;> cases fltB .f32 x 1109393408 <;> cases fltB .f32 1132068864 x <;> decide
theorem sp_miss {n : Int} {x : Nat} {b : Bool} (h : ∀ p ∈ rows, p.2.1 ≠ (n, sd n x, b)) : sp n x b = n := by
  obtain ⟨e1, e2⟩ := excl x
  by_cases h1 : n = 1
  · subst h1
    revert h e1 e2
    unfold sd sp
    cases b <;> cases fltB .f32 x 1112014848 <;> cases fltB .f32 1128792064 x <;> cases fltB .f32 x 1109393408 <;> cases fltB .f32 1132068864 x <;> decide
  · by_cases h2 : n = 2
    · subst h2
      revert h e1 e2
      unfold sd sp
      cases b <;> cases fltB .f32 x 1112014848 <;> cases fltB .f32 1128792064 x <;> cases fltB .f32 x 1109393408 <;> cases fltB .f32 1132068864 x <;> decide
    · by_cases h3 : n = 3
      · subst h3
        revert h e1 e2
        unfold sd sp
        cases b <;> cases fltB .f32 x 1112014848 <;> cases fltB .f32 1128792064 x <;> cases fltB .f32 x 1109393408 <;> cases fltB .f32 1132068864 x <;> decide
      · unfold sp
        rw [decide_eq_false h1, decide_eq_false h2, decide_eq_false h3]
        rfl
theorem next_any (n : Int) (x : Nat) (b : Bool) (w : World) (hn : (Lit.int .i8 n).wf = true) {fx : Value} (hv : V noRho (.flt .f32 x) fx) : Calls Try.prog 41 #[.int .i8 n, fx, .bool b] w fun e w' => e = .returned (.int .i8 (sp n x b)) ∧ Below w.heap.size w w' := by
  have hk1 : -128 ≤ n ∧ n ≤ 127 := by
    have h : IntKind.i8.min ≤ n ∧ n ≤ IntKind.i8.max := by simpa [Lit.wf] using hn
    exact h
  obtain ⟨kl, hkey⟩ := keyOf_all (n := n) (k := sd n x) (b := b) hk1.1 hk1.2 (sd_in n x).1 (sd_in n x).2
  go_enter Try.func41, Try.ntmps41
  go_wp2_with (first
    | (go_at_call 90; refine (turns_any _).mono ?_; rintro e w1 ⟨B, m, D, rfl, hb1, hown, htab⟩)
    | (go_at_call 91; refine (side_any n x _ hv).mono ?_; rintro e w2 ⟨rfl, hb2⟩; have hown2 := owns_below hown hb2)
    | (at_lookup; refine wpList_lookup_own_ok_int _ rfl _ _ 127 rfl 132 45 .i8 key und127 und45 (zero45 _) B m D rfl hown2 _ _ rfl hkey ?_; intro c hat hwc)
    | go_in)
  · have hh : Maps.has D kl = true := by assumption
    go_ret
    refine ⟨?_, hb1.trans (hb2.mono hb1.size)⟩
    rcases htab _ _ hkey with ⟨p, hp, hpk, _, hat2⟩ | ⟨_, h2⟩
    · rw [hat2] at hat
      cases hat
      rw [sp_hit hp hpk]
      rfl
    · rw [hh] at h2; cases h2
  · have hh : Maps.has D kl = false := by assumption
    go_ret
    refine ⟨?_, hb1.trans (hb2.mono hb1.size)⟩
    rcases htab _ _ hkey with ⟨p, hp, hpk, h2, _⟩ | ⟨h1, _⟩
    · rw [hh] at h2; cases h2
    · rw [sp_miss h1]
      rfl
/-- The contract of impl.NextState. -/
noncomputable def nextC : Ctr := ⟨fun args S => match args with
  | [.sint .i8 n, .flt .f32 x, .sbool b] => some ⟨.sint .i8 (sp n x b), [], [], [], (Lit.int .i8 n).wf, none⟩
  | _ => none, none⟩
theorem sat_next : Sat Try.prog 41 nextC := by
  show SatC Try.prog 41 nextC
  refine ⟨Try.call41, fun args S out hfn hnd M w0 ρ w vs hM hv => ?_⟩
  simp only [nextC] at hfn
  split at hfn
  · rename_i n x b
    cases hfn
    obtain ⟨v0, r0, rfl, h0, hv⟩ := hv
    obtain ⟨v1, r1, rfl, h1, hv⟩ := hv
    obtain ⟨v2, r2, rfl, h2, hv⟩ := hv
    cases hv
    unfold V at h0 h2
    subst h0
    subst h2
    refine (next_any n x b w hnd (V_flat (ρ := ρ) (ρ' := noRho) _ _ rfl h1)).mono ?_
    rintro e w' ⟨rfl, hb⟩
    exact ⟨fun b v h => (by cases h), ρ, ExtS.refl _ _, sint_V .i8 _, (hM.quiet (Fr.of_below hb)).put_nil⟩
  · cases hfn
noncomputable def GG : List (Nat × Ctr) := (41, nextC) :: G4
theorem gg : Ab.Good Try.prog GG := good_cons sat_next g4
end Go.Proofs.Ytfpfiglmkllheaa.nx
