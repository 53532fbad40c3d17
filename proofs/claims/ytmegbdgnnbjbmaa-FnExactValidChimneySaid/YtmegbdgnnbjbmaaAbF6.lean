import Derived.Test.YtmegbdgnnbjbmaaAbF5
namespace Go.Ab
open Go
/-- held between two bounds -/
noncomputable def heldI (a lo hi : Nat) : Nat := cond (fltB .f32 a lo) lo (cond (fltB .f32 hi a) hi a)
theorem hO_ex : ∃ f, f = heldI := ⟨_, rfl⟩
noncomputable def hO : Nat → Nat → Nat → Nat := Classical.choose hO_ex
theorem hO_eq : hO = heldI := Classical.choose_spec hO_ex
/-- the mass of a layer -/
noncomputable def massI (w f : Nat) : Nat := fop .add .f32 (fop .add .f32 (fop .mul .f32 w 1082130432) (fop .mul .f32 f 1073741824)) 1048576000
theorem mO_ex : ∃ f, f = massI := ⟨_, rfl⟩
noncomputable def mO : Nat → Nat → Nat := Classical.choose mO_ex
theorem mO_eq : mO = massI := Classical.choose_spec mO_ex
/-- a share -/
noncomputable def shI (a : Nat) : Bool := cond (amtF a) (fleB .f32 a 1065353216) false
theorem shO_ex : ∃ f, f = shI := ⟨_, rfl⟩
noncomputable def shO : Nat → Bool := Classical.choose shO_ex
theorem shO_eq : shO = shI := Classical.choose_spec shO_ex
end Go.Ab
