import Derived.Test.YtgamhlhnegblfaaGd
import Derived.Test.YtgamhlhnegblfaaAbIn
import Derived.OpenShut
namespace Go.Ab
open Go Go.RowKit
set_option linter.unusedVariables false
set_option linter.unusedSimpArgs false
/-! ### Slices of bytes as arguments -/
section
variable {H : Type} {enc : TypeId × Value → H} {P : Program}
theorem open_u8 {r : Reach} {b0 : Nat} {t e : TypeId} {v : Value} {d : DataW H} {ps : List MemPlace} {W : World} (ht : P.underlying t = some (.slice e)) (hu : P.underlying e = some (.int .u8)) (hE : ElemIs P e [.int .u8]) (hsz : P.cellsOf e = 1)
    (hval : Value.okWide P W r b0 t v) (h : DataW.Trod enc P W 0 (fun _ => true) true t v d ps) :
    ∃ (n : Nat) (fd : Nat → Nat → Nat) (gd : Nat → Nat → Int) (bd : Nat → Nat → Bool) (ρ : Rho), n ≤ 9223372036854775807 ∧ Mem NoM W ρ (viewS [⟨[.int .u8], .sym n, fd, gd, bd, false⟩]) W ∧ V ρ (.vec 0 1 0 (.sym n)) v ∧ ∀ k, k < n → 0 ≤ gd k 0 ∧ gd k 0 ≤ 255 := by
  obtain ⟨n, fd, gd, bd, ρ, hn, hM, hV⟩ := open_rows (sh := [.int .u8]) ht hE hsz (by decide) hval h
  refine ⟨n, fd, gd, bd, ρ, hn, hM, hV, fun k hk => ?_⟩
  have hV : V ρ (.vec 0 1 0 (.sym n)) v := hV
  unfold V at hV
  obtain ⟨_, _, base, c, rfl, hc⟩ := hV
  rcases hc with ⟨_, h0⟩ | ⟨r', b, hr, hbase, _, _⟩
  · have h0 : n = 0 := h0
    omega
  · obtain ⟨fuel, hf⟩ := h
    have hone : (Value.slice base n c).cells.toList = [Value.slice base n c] := rfl
    have hf : DataW.trod enc P W 0 (fun _ => true) true fuel t [Value.slice base n c] = some (d, ps) := hf
    obtain ⟨u, h1, h2⟩ := hM.hp.vcell 0 _ r' b k 0 (.int .u8) rfl hr hk rfl
    simp only [Vc.mkA] at h2
    unfold V at h2
    subst h2
    rcases Go.ChangeShapes.open_ints ht hu hsz hf with ⟨hcs, _⟩ | ⟨a, len, cap, zs, hcs, _, hl, _, hz, _, hcell, hwz⟩
    · simp only [List.cons.injEq, Value.slice.injEq, and_true] at hcs
      omega
    · simp only [List.cons.injEq, Value.slice.injEq, and_true] at hcs
      obtain ⟨rfl, rfl, rfl⟩ := hcs
      simp only [Option.some.injEq] at hbase
      subst hbase
      simp only [if_true] at hz
      have hcj := hcell k (by omega)
      rw [Addr.add_lit] at hcj
      have e1 : b + (k * 1 + 0) = b + 0 * 1 + k := by omega
      have h1 : W.cell? ⟨r', b + (k * 1 + 0), none⟩ = _ := h1
      rw [e1, hcj] at h1
      have hb := range_u8 hwz k
      rw [← List.getD_eq_getElem?_getD] at hb
      simp only [Option.some.injEq, Value.int.injEq, true_and] at h1
      rw [← h1]; exact hb
end
end Go.Ab
