import Derived.Test.YtblbjmdeaojogaaSr1
import Derived.Test.YtblbjmdeaojogaaSg1
namespace Go.Proofs.Ytblbjmdeaojogaa.sea
open Go Go.Ab Go.Proofs Go.RowKit Go.Shelf
attribute [local go_sem] Oper.semAt_some
set_option linter.unusedVariables false
theorem rp_case {s : Sea} {gp : Nat → Int} (o : s.Ok) {k : Nat} {x : Int} (h : 0 ≤ gp k ∧ gp k ≤ s.g 0) :
    (s.does k x (gp k) = true ∧ rpw s gp k x = gp k) ∨ (s.does k x (gp k) = false ∧ s.does k x (fw s k x) = true ∧ rpw s gp k x = fw s k x ∧ fw s k x ≠ gp k) ∨ (s.does k x (gp k) = false ∧ s.does k x (fw s k x) = false ∧ s.does k x (rpw s gp k x) = false) := by
  have hm := moS_eq o
  obtain ⟨j, hj⟩ : ∃ j : Nat, (j : Int) = gp k := ⟨(gp k).toNat, by omega⟩
  cases hd : s.does k x (gp k) with
  | true =>
    refine .inl ⟨rfl, ?_⟩
    have hfj : few s k x (moS s) ≤ j := by
      by_cases e : j < few s k x (moS s)
      · have := few_not s k x e; rw [hj, hd] at this; cases this
      · omega
    have e : fw s k x = (few s k x (moS s) : Int) := by unfold fw; rw [decide_eq_true (by omega)]; rfl
    unfold rpw
    rw [if_neg (by omega)]
  | false =>
    refine .inr ?_
    cases hf : s.does k x (fw s k x) with
    | true =>
      have hlt := hf
      rw [fw_does o] at hlt
      have hlt := of_decide_eq_true hlt
      have e : fw s k x = (few s k x (moS s) : Int) := by unfold fw; rw [decide_eq_true hlt]; rfl
      have hgt : gp k < fw s k x := by
        by_cases c : few s k x (moS s) ≤ j
        · have := does_mono o c (few_does s k x hlt)
          rw [hj, hd] at this; cases this
        · omega
      refine .inl ⟨rfl, rfl, ?_, by omega⟩
      unfold rpw
      rw [if_pos hgt]
    | false =>
      refine .inr ⟨rfl, rfl, ?_⟩
      unfold rpw
      split
      · exact hf
      · exact hd
theorem rp_fits {s : Sea} {gp : Nat → Int} (o : s.Ok) (h : s.Fits (chP gp)) : s.Fits (rpw s gp) := fun k x hk h0 h1 => by
  have a := h k x hk h0 h1
  have b := fw_fits o k x hk h0 h1
  unfold rpw
  split
  · exact b
  · exact a
/-- The changes in the first slots. -/
def chg (s : Sea) (gp : Nat → Int) : Nat → Int
  | 0 => 0
  | k + 1 => chg s gp k + cond (decide (s.lg (rpw s gp) k = gp k)) 0 1
theorem chg_bd (s : Sea) (gp : Nat → Int) : ∀ k : Nat, 0 ≤ chg s gp k ∧ chg s gp k ≤ k
  | 0 => ⟨Int.le_refl _, Int.le_refl _⟩
  | k + 1 => by
    have := chg_bd s gp k
    unfold chg
    cases decide (s.lg (rpw s gp) k = gp k) <;> simp <;> omega
def rpC (s : Sea) (p : Nat) (gp : Nat → Int) : Int := cond (okSea s) (cond (planOk s p gp) (cond (s.all (rpw s gp)) 0 6) 2) 1
def rpN (s : Sea) (p : Nat) (gp : Nat → Int) : Nat := cond (okSea s) (cond (planOk s p gp) (cond (s.all (rpw s gp)) s.n 0) 0) 0
def rpX (s : Sea) (p : Nat) (gp : Nat → Int) : Int := cond (okSea s) (cond (planOk s p gp) (cond (s.all (rpw s gp)) (chg s gp s.n) 0) 0) 0
def SlAns3 (w : World) (n : Nat) (gd : Nat → Int) (a c : Int) (e : Ending) (w' : World) : Prop := ∃ sv, e = .returned (.tuple #[sv, .int .i64 a, .int .i64 c]) ∧ w'.ownsRow w.heap.size 2 1 sv n (intsL gd n) ∧ Below w.heap.size w w'
theorem SlAns3.nil {w w' : World} {gd : Nat → Int} {c : Int} (hb : Below w.heap.size w w') : SlAns3 w 0 gd 0 c (.returned (.tuple #[.slice none 0 0, .int .i64 0, .int .i64 c])) w' := ⟨_, rfl, World.ownsRow_nil _ _ _ _, hb⟩
theorem SlAns3.lit {w W : World} {gd : Nat → Int} {c : Int} (hb : Below w.heap.size w W) : SlAns3 w 0 gd 0 c (.returned (.tuple #[.slice (some ⟨W.heap.size, 0, none⟩) 0 0, .int .i64 0, .int .i64 c])) (W.alloc (.cells #[] 2)) :=
  ⟨_, rfl, row_lit W hb.size, hb.alloc hb.size _⟩
end Go.Proofs.Ytblbjmdeaojogaa.sea
