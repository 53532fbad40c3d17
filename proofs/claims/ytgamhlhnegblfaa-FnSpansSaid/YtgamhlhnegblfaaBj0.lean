import Derived.Test.YtgamhlhnegblfaaBi2
import Derived.Test.YtgamhlhnegblfaaDu
import Derived.Test.YtgamhlhnegblfaaGd
import Derived.WalkKit
namespace Go.Proofs.Ytgamhlhnegblfaa.ab
open Go Go.Ab Go.Proofs Go.RowKit
set_option linter.unusedVariables false
set_option linter.unusedSimpArgs false
attribute [local go_sem] Oper.semAt_some
set_option maxRecDepth 100000
theorem from70 (b : Option Addr) (n c : Nat) (w : World) : Calls Try.prog 70 #[.slice b n c] w fun e w' => e = .returned (.pointer (some ⟨w.heap.size, 0, none⟩)) ∧ w' = w.alloc (.cells #[.slice b n c, .int .i64 0, .int .u64 0] 69) := by
  go_enter Try.func70, Try.ntmps70
  go_wp2
  go_ret
  exact ⟨rfl, rfl⟩
/-- l00From -/
def fromC : Ctr := ⟨fun args S => match args with
  | [.vec i e a n] => some ⟨.ptr S.hp.length 0, [], [], [⟨[.vec i e a n, .int .i64 0, .int .u64 0], true, none⟩], true, none⟩
  | _ => none, none⟩
theorem sat70 : Sat Try.prog 70 fromC := by
  unfold Sat
  show SatC Try.prog 70 fromC
  refine ⟨Try.call70, fun args S out hfn hnd M w0 ρ w vs hM hv => ?_⟩
  simp only [fromC] at hfn
  split at hfn
  · rename_i i e a n
    cases hfn
    unfold VL at hv
    obtain ⟨v, vs', rfl, h1, h2⟩ := hv
    unfold VL at h2
    subst h2
    have h1' := h1
    unfold V at h1
    obtain ⟨_, _, base, c, rfl, _⟩ := h1
    refine (from70 base n.val c w).mono ?_
    rintro e w' ⟨rfl, rfl⟩
    obtain ⟨hext, hmem⟩ := hM.alloc 69 (xs := [.vec i _ a n, .int .i64 0, .int .u64 0]) (vs := #[.slice base n.val c, .int .i64 0, .int .u64 0]) (VL_cons h1' (VL_cons (by unfold V; rfl) (VL_cons (by unfold V; rfl) VL_nil)))
    exact ⟨fun b v h => (by cases h), _, upd_extS hM.hp.dom _ _, by unfold V; exact ⟨_, 0, upd_new .., rfl⟩, hmem⟩
  · cases hfn
end Go.Proofs.Ytgamhlhnegblfaa.ab
