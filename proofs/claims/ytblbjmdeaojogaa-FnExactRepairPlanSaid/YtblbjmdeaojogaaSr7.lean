import Derived.Test.YtblbjmdeaojogaaSr5
import Derived.Test.YtblbjmdeaojogaaSr6
namespace Go.Proofs.Ytblbjmdeaojogaa.sea
open Go Go.Ab Go.Proofs Go.RowKit
set_option linter.unusedVariables false
theorem rpCO_ex : ∃ f, f = rpC := ⟨_, rfl⟩
noncomputable def rpCO : Sea → Nat → (Nat → Int) → Int := Classical.choose rpCO_ex
theorem rpCO_eq : rpCO = rpC := Classical.choose_spec rpCO_ex
theorem rpXO_ex : ∃ f, f = rpX := ⟨_, rfl⟩
noncomputable def rpXO : Sea → Nat → (Nat → Int) → Int := Classical.choose rpXO_ex
theorem rpXO_eq : rpXO = rpX := Classical.choose_spec rpXO_ex
theorem rpNO_ex : ∃ f, f = rpN := ⟨_, rfl⟩
noncomputable def rpNO : Sea → Nat → (Nat → Int) → Nat := Classical.choose rpNO_ex
theorem rpNO_eq : rpNO = rpN := Classical.choose_spec rpNO_ex
def rpV (s : Sea) (gp : Nat → Int) (k : Nat) : Int := s.lg (rpw s gp) k
theorem rpVO_ex : ∃ f, f = rpV := ⟨_, rfl⟩
noncomputable def rpVO : Sea → (Nat → Int) → Nat → Int := Classical.choose rpVO_ex
theorem rpVO_eq : rpVO = rpV := Classical.choose_spec rpVO_ex
theorem rpN_le (s : Sea) (p : Nat) (gp : Nat → Int) : rpNO s p gp ≤ 24 := by
  rw [rpNO_eq]
  unfold rpN
  cases o : okSea s with
  | false => exact Nat.zero_le _
  | true =>
    have := (okSea_ok o).n2
    cases planOk s p gp with
    | false => exact Nat.zero_le _
    | true => cases s.all (rpw s gp) with
      | false => exact Nat.zero_le _
      | true => exact this
/-- RepairPlan. -/
noncomputable def rpK : Ctr := ⟨fun args S => match args with
  | [.agg cs, x] => match seaOf S cs, intsOf S x with
    | some (s, b), some (p, gp, b') => some ⟨.tuple [.vec S.hp.length 1 0 (.sym (rpNO s p gp)), .sint .i64 (rpXO s p gp), .sint .i64 (rpCO s p gp)], [], [], [⟨[], false, some (newVc (rpVO s gp) (rpNO s p gp))⟩], b && b', none⟩
    | _, _ => none
  | _ => none, none⟩
theorem sat_rp {f : FuncId} (hcall : ∀ (args : Array Value) (w : World), (callFunc f args).run Try.prog w = .ok (.enter f args) w)
    (h : ∀ {s : Sea} {w : World} {gp : Nat → Int} {v pv : Value} {p : Nat}, SeaV s w v → SlV gp w.heap.size w pv p → p ≤ 9223372036854775807 → Calls Try.prog f #[v, pv] w (SlAns3 w (rpN s p gp) (s.lg (rpw s gp)) (rpX s p gp) (rpC s p gp))) : Sat Try.prog f rpK := sat_byNew (e := 2) hcall rfl (fun args S out hfn hnd => by
  simp only [rpK] at hfn
  split at hfn
  · rename_i cs x
    split at hfn
    · rename_i s b p gp b' hs hx
      cases hfn
      rw [Bool.and_eq_true] at hnd
      refine ⟨rpNO s p gp, rpVO s gp, [.sint .i64 (rpXO s p gp), .sint .i64 (rpCO s p gp)], rfl, rfl, fun ρ w vs hM hv => ?_⟩
      unfold VL at hv
      obtain ⟨v, r, rfl, k0, hv⟩ := hv
      unfold VL at hv
      obtain ⟨v1, r1, rfl, k1, hv⟩ := hv
      unfold VL at hv
      subst hv
      unfold V at k0
      obtain ⟨us, rfl, k0⟩ := k0
      obtain ⟨hS, hn⟩ := intsOf_V hM hx hnd.2 k1
      refine (h (seaOf_V hM hs hnd.1 k0) hS hn).mono ?_
      rintro e w' ⟨sv, rfl, hr, hb⟩
      rw [rpNO_eq, rpVO_eq, rpCO_eq, rpXO_eq]
      exact ⟨sv, _, rfl, hr, VL_cons (sint_V .i64 _) (VL_cons (sint_V .i64 _) VL_nil), hb⟩
    · cases hfn
  · cases hfn)
theorem sat31 : Sat Try.prog 31 rpK := sat_rp Try.call31 rp31
theorem sat32 : Sat Try.prog 32 rpK := sat_rp Try.call32 rp32
end Go.Proofs.Ytblbjmdeaojogaa.sea
