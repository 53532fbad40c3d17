import Derived.Test.YtblbjmdeaojogaaSv4
import Derived.Test.YtblbjmdeaojogaaSw5
namespace Go.Proofs.Ytblbjmdeaojogaa.sea
open Go Go.Ab Go.Proofs Go.RowKit Go.Shelf
set_option linter.unusedVariables false
section
theorem lsVO_ex : ∃ f, f = lsV := ⟨_, rfl⟩
noncomputable def lsVO : Sea → Int := Classical.choose lsVO_ex
theorem lsVO_eq : lsVO = lsV := Classical.choose_spec lsVO_ex
theorem lsCO_ex : ∃ f, f = lsC := ⟨_, rfl⟩
noncomputable def lsCO : Sea → Int := Classical.choose lsCO_ex
theorem lsCO_eq : lsCO = lsC := Classical.choose_spec lsCO_ex
/-- LeastStore. -/
noncomputable def lsK : Ctr := ⟨fun args S => match args with
  | [.agg cs] => match seaOf S cs with
    | some (s, b) => some ⟨.tuple [.sint .i64 (lsVO s), .sint .i64 (lsCO s)], [], [], [], b, none⟩
    | _ => none
  | _ => none, none⟩
theorem sat_ls {f : FuncId} (hcall : ∀ (args : Array Value) (w : World), (callFunc f args).run Try.prog w = .ok (.enter f args) w)
    (h : ∀ {s : Sea} {w : World} {v : Value}, SeaV s w v → Calls Try.prog f #[v] w fun e w' => e = .returned (.tuple #[.int .i64 (lsV s), .int .i64 (lsC s)]) ∧ Below w.heap.size w w') : Sat Try.prog f lsK := sat_by hcall rfl (fun args S out hfn hnd => by
  simp only [lsK] at hfn
  split at hfn
  · rename_i cs
    split at hfn
    · rename_i s b hs
      cases hfn
      refine ⟨rfl, fun ρ w vs hM hv => ?_⟩
      unfold VL at hv
      obtain ⟨v, r, rfl, k0, hv⟩ := hv
      unfold VL at hv
      subst hv
      unfold V at k0
      obtain ⟨us, rfl, k0⟩ := k0
      refine (h (seaOf_V hM hs hnd k0)).mono ?_
      rintro e w' ⟨rfl, hb⟩
      refine ⟨_, rfl, ?_, hb⟩
      rw [lsVO_eq, lsCO_eq]
      unfold V
      exact ⟨_, rfl, VL_cons (sint_V .i64 _) (VL_cons (sint_V .i64 _) VL_nil)⟩
    · cases hfn
  · cases hfn)
theorem sat33 : Sat Try.prog 33 lsK := sat_ls Try.call33 ls33
theorem sat34 : Sat Try.prog 34 lsK := sat_ls Try.call34 ls34
end
end Go.Proofs.Ytblbjmdeaojogaa.sea
