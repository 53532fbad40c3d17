import Derived.Test.YtgdkcibpjmkbdaaAbX
namespace Go.Ab
open Go Go.RowKit
set_option linter.unusedVariables false
def rho2 (a b : Rho) : Rho := ⟨fun i => match i with | 0 => a 0 | 1 => b 0 | _ => none, fun i => match i with | 0 => a.cap 0 | 1 => b.cap 0 | _ => 0, fun i => match i with | 0 => a.kn 0 | 1 => b.kn 0 | _ => false⟩

/-- Two slices that are arguments. -/
theorem views2 {W : World} {ρ1 ρ2 : Rho} {v1 v2 : Vc} {e1 a1 e2 a2 : Nat} {n1 n2 : Num} {u1 u2 : Value} (h1 : Mem NoM W ρ1 (viewS [v1]) W) (h2 : Mem NoM W ρ2 (viewS [v2]) W) (k1 : V ρ1 (.vec 0 e1 a1 n1) u1) (k2 : V ρ2 (.vec 0 e2 a2 n2) u2) :
    ∃ ρ, Mem NoM W ρ (viewS [v1, v2]) W ∧ V ρ (.vec 0 e1 a1 n1) u1 ∧ V ρ (.vec 1 e2 a2 n2) u2 := by
  refine ⟨rho2 ρ1 ρ2, ⟨⟨fun i o x hx => (view_cell hx).elim, fun i vc r b k o c hvc hr hk hc => ?_, fun i o x r b hx => (view_cell hx).elim, fun i vc r b q hvc hw => ?_, fun i vc r b hvc hw => ?_, fun i j r b b' _ hw => (view_wr hw).elim, fun i p hp => ?_, fun i hi => ?_, fun i o x hx => by (simp [viewS, hlookL] at hx), fun i x hx => by (simp [viewS, vlookL] at hx), fun i r b hr => ?_⟩, Fr.refl _ _, ⟨fun i o x r b hx => (view_cell hx).elim, fun i vc r b q hvc hw => ?_⟩⟩, ?_, ?_⟩
  · obtain ⟨u, hu, rfl⟩ := view_vec hvc
    match i, hr with
    | 0, hr =>
      simp only [List.getElem?_cons_zero, Option.some.injEq] at hu
      subst hu
      obtain ⟨x, g1, g2⟩ := h1.hp.vcell 0 (roV1 v1) r b k o c rfl hr hk hc
      exact ⟨x, g1, V_flat _ _ (by cases c <;> rfl) g2⟩
    | 1, hr =>
      simp only [List.getElem?_cons_succ, List.getElem?_cons_zero, Option.some.injEq] at hu
      subst hu
      obtain ⟨x, g1, g2⟩ := h2.hp.vcell 0 (roV1 v2) r b k o c rfl hr hk hc
      exact ⟨x, g1, V_flat _ _ (by cases c <;> rfl) g2⟩
    | i + 2, hr => cases hr
  · obtain ⟨u, hu, rfl⟩ := view_vec hvc; cases hw
  · obtain ⟨u, hu, rfl⟩ := view_vec hvc; cases hw
  · match i, hp with
    | 0, _ => show 0 < 2; decide
    | 1, _ => show 1 < 2; decide
    | i + 2, hp => cases hp
  · match i, hi with
    | 0, _ => show 0 < 2; decide
    | 1, _ => show 1 < 2; decide
    | i + 2, hi => cases hi
  · match i, hr with
    | 0, hr => exact h1.hp.lt 0 r b hr
    | 1, hr => exact h2.hp.lt 0 r b hr
    | i + 2, hr => cases hr
  · obtain ⟨u, hu, rfl⟩ := view_vec hvc; cases hw
  · unfold V at k1 ⊢; exact k1
  · unfold V at k2 ⊢; exact k2
end Go.Ab
