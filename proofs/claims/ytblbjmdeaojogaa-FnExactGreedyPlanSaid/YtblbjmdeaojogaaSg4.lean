import Derived.Test.YtblbjmdeaojogaaSg2
import Derived.Test.YtblbjmdeaojogaaSg3
namespace Go.Proofs.Ytblbjmdeaojogaa.sea
open Go Go.Ab Go.Proofs Go.RowKit
set_option linter.unusedVariables false
theorem gpCO_ex : ∃ f, f = gpC := ⟨_, rfl⟩
noncomputable def gpCO : Sea → Int := Classical.choose gpCO_ex
theorem gpCO_eq : gpCO = gpC := Classical.choose_spec gpCO_ex
theorem gpNO_ex : ∃ f, f = gpN := ⟨_, rfl⟩
noncomputable def gpNO : Sea → Nat := Classical.choose gpNO_ex
theorem gpNO_eq : gpNO = gpN := Classical.choose_spec gpNO_ex
def gpV (s : Sea) (k : Nat) : Int := s.lg (fw s) k
theorem gpVO_ex : ∃ f, f = gpV := ⟨_, rfl⟩
noncomputable def gpVO : Sea → Nat → Int := Classical.choose gpVO_ex
theorem gpVO_eq : gpVO = gpV := Classical.choose_spec gpVO_ex
theorem gpN_le (s : Sea) : gpNO s ≤ 24 := by
  rw [gpNO_eq]
  unfold gpN
  cases o : okSea s with
  | false => exact Nat.zero_le _
  | true =>
    have := (okSea_ok o).n2
    cases s.all (fw s) with
    | false => exact Nat.zero_le _
    | true => exact this
/-- GreedyPlan. -/
noncomputable def gpK : Ctr := ⟨fun args S => match args with
  | [.agg cs] => match seaOf S cs with
    | some (s, b) => some ⟨.tuple [.vec S.hp.length 1 0 (.sym (gpNO s)), .sint .i64 (gpCO s)], [], [], [⟨[], false, some (newVc (gpVO s) (gpNO s))⟩], b, none⟩
    | _ => none
  | _ => none, none⟩
theorem sat_gp {f : FuncId} (hcall : ∀ (args : Array Value) (w : World), (callFunc f args).run Try.prog w = .ok (.enter f args) w)
    (h : ∀ {s : Sea} {w : World} {v : Value}, SeaV s w v → Calls Try.prog f #[v] w (SlAns w (gpN s) (s.lg (fw s)) (gpC s))) : Sat Try.prog f gpK := sat_byNew (e := 2) hcall rfl (fun args S out hfn hnd => by
  simp only [gpK] at hfn
  split at hfn
  · rename_i cs
    split at hfn
    · rename_i s b hs
      cases hfn
      refine ⟨gpNO s, gpVO s, [.sint .i64 (gpCO s)], rfl, rfl, fun ρ w vs hM hv => ?_⟩
      unfold VL at hv
      obtain ⟨v, r, rfl, k0, hv⟩ := hv
      unfold VL at hv
      subst hv
      unfold V at k0
      obtain ⟨us, rfl, k0⟩ := k0
      refine (h (seaOf_V hM hs hnd k0)).mono ?_
      rintro e w' ⟨sv, rfl, hr, hb⟩
      rw [gpNO_eq, gpVO_eq, gpCO_eq]
      exact ⟨sv, _, rfl, hr, VL_cons (sint_V .i64 _) VL_nil, hb⟩
    · cases hfn
  · cases hfn)
theorem sat29 : Sat Try.prog 29 gpK := sat_gp Try.call29 gp29
theorem sat30 : Sat Try.prog 30 gpK := sat_gp Try.call30 gp30
end Go.Proofs.Ytblbjmdeaojogaa.sea
