import Derived.Test.YtgamhlhnegblfaaBj0
import Derived.Test.YtgamhlhnegblfaaGf
namespace Go.Proofs.Ytgamhlhnegblfaa.ab
open Go Go.Ab Go.Proofs
set_option maxRecDepth 100000
/-- l00From, next, pick, l01Plain, numberBits, SameNumber -/
noncomputable def H1 : List (Nat × Ctr) := (70, fromC) :: GG
theorem h1 : Ab.Good Try.prog H1 := good_cons sat70 gg
noncomputable def H2 : List (Nat × Ctr) := (85, inl Try.prog H1 100 Try.f85) :: H1
theorem h2 : Ab.Good Try.prog H2 := good_cons (inl_sat h1 mixed Try.func85 Try.call85 100) h1
noncomputable def H3 : List (Nat × Ctr) := (72, inl Try.prog H2 100 Try.f72) :: H2
theorem h3 : Ab.Good Try.prog H3 := good_cons (inl_sat h2 mixed Try.func72 Try.call72 100) h2
noncomputable def H4 : List (Nat × Ctr) := (84, inl Try.prog H3 100 Try.f84) :: H3
theorem h4 : Ab.Good Try.prog H4 := good_cons (inl_sat h3 mixed Try.func84 Try.call84 100) h3
noncomputable def H5 : List (Nat × Ctr) := (69, inl Try.prog H4 100 Try.f69) :: H4
theorem h5 : Ab.Good Try.prog H5 := good_cons (inl_sat h4 mixed Try.func69 Try.call69 100) h4
noncomputable def H6 : List (Nat × Ctr) := (71, ctr1 fun a => .sint .u32 (nbF a)) :: H5
theorem h6 : Ab.Good Try.prog H6 := good_cons (sat1 (g := fun a => .sint .u32 (nbF a)) h5 mixed Try.func71 Try.call71 100 (fun a => .cint (cond (!feqB .f32 a a) true (!nanB .f32 a)) .u32 (nbF a)) (fun a => by kernel_rfl) (fun a ha ρ u h => cint_say (nb_cond a) h)) h5
noncomputable def H7 : List (Nat × Ctr) := (42, inl Try.prog H6 100 Try.f42) :: H6
theorem h7 : Ab.Good Try.prog H7 := good_cons (inl_sat h6 mixed Try.func42 Try.call42 100) h6
end Go.Proofs.Ytgamhlhnegblfaa.ab
