import Derived.Test.YtbkjjefjnkkgbaaSw4
namespace Go.Proofs.Ytbkjjefjnkkgbaa.sea
open Go Go.Ab Go.Proofs Go.RowKit
set_option linter.unusedVariables false
theorem soCO_ex : ∃ f, f = soC := ⟨_, rfl⟩
noncomputable def soCO : Sea → Nat → (Nat → Int) → Int := Classical.choose soCO_ex
theorem soCO_eq : soCO = soC := Classical.choose_spec soCO_ex
theorem soNO_ex : ∃ f, f = soN := ⟨_, rfl⟩
noncomputable def soNO : Sea → Nat → (Nat → Int) → Nat := Classical.choose soNO_ex
theorem soNO_eq : soNO = soN := Classical.choose_spec soNO_ex
def soV (s : Sea) (gp : Nat → Int) (k : Nat) : Int := s.st (chP gp) (k + 1)
theorem soVO_ex : ∃ f, f = soV := ⟨_, rfl⟩
noncomputable def soVO : Sea → (Nat → Int) → Nat → Int := Classical.choose soVO_ex
theorem soVO_eq : soVO = soV := Classical.choose_spec soVO_ex
theorem soN_le (s : Sea) (p : Nat) (gp : Nat → Int) : soNO s p gp ≤ 24 := by
  rw [soNO_eq]
  unfold soN
  cases o : okSea s with
  | false => exact Nat.zero_le _
  | true =>
    have := (okSea_ok o).n2
    cases planOk s p gp with
    | false => exact Nat.zero_le _
    | true => cases s.all (chP gp) with
      | false => exact Nat.zero_le _
      | true => exact this
/-- StoresOf. -/
noncomputable def soK : Ctr := ⟨fun args S => match args with
  | [.agg cs, x] => match seaOf S cs, intsOf S x with
    | some (s, b), some (p, gp, b') => some ⟨.tuple [.vec S.hp.length 1 0 (.sym (soNO s p gp)), .sint .i64 (soCO s p gp)], [], [], [⟨[], false, some (newVc (soVO s gp) (soNO s p gp))⟩], b && b', none⟩
    | _, _ => none
  | _ => none, none⟩
theorem sat_so {f : FuncId} (hcall : ∀ (args : Array Value) (w : World), (callFunc f args).run Try.prog w = .ok (.enter f args) w)
    (h : ∀ {s : Sea} {w : World} {gp : Nat → Int} {v pv : Value} {p : Nat}, SeaV s w v → SlV gp w.heap.size w pv p → p ≤ 9223372036854775807 → Calls Try.prog f #[v, pv] w (SlAns w (soN s p gp) (fun k => s.st (chP gp) (k + 1)) (soC s p gp))) : Sat Try.prog f soK := sat_byNew (e := 2) hcall rfl (fun args S out hfn hnd => by
  simp only [soK] at hfn
  split at hfn
  · rename_i cs x
    split at hfn
    · rename_i s b p gp b' hs hx
      cases hfn
      rw [Bool.and_eq_true] at hnd
      refine ⟨soNO s p gp, soVO s gp, [.sint .i64 (soCO s p gp)], rfl, rfl, fun ρ w vs hM hv => ?_⟩
      unfold VL at hv
      obtain ⟨v, r, rfl, k0, hv⟩ := hv
      unfold VL at hv
      obtain ⟨v1, r1, rfl, k1, hv⟩ := hv
      unfold VL at hv
      subst hv
      unfold V at k0
      obtain ⟨us, rfl, k0⟩ := k0
      obtain ⟨hS, hn⟩ := intsOf_V hM hx hnd.2 k1
      refine (h (seaOf_V hM hs hnd.1 k0) hS hn).mono ?_
      rintro e w' ⟨sv, rfl, hr, hb⟩
      rw [soNO_eq, soVO_eq, soCO_eq]
      exact ⟨sv, _, rfl, hr, VL_cons (sint_V .i64 _) VL_nil, hb⟩
    · cases hfn
  · cases hfn)
theorem sat20 : Sat Try.prog 21 soK := sat_so Try.call21 s20
theorem sat22 : Sat Try.prog 23 soK := sat_so Try.call23 so22
end Go.Proofs.Ytbkjjefjnkkgbaa.sea
