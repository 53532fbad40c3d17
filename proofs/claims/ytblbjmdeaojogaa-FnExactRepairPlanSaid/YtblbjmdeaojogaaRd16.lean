import Derived.Test.YtblbjmdeaojogaaRd
namespace Go.Rd
open Go Go.RowKit
theorem act16 {a : Act} {d : List Deferred} (hs : a.tmps.size = 16) (hd : a.defers = d) : ∃ x0 x1 x2 x3 x4 x5 x6 x7 x8 x9 x10 x11 x12 x13 x14 x15 : Value, a = { tmps := #[x0, x1, x2, x3, x4, x5, x6, x7, x8, x9, x10, x11, x12, x13, x14, x15], defers := d } := by
  obtain ⟨⟨l⟩, ds⟩ := a
  have hd : ds = d := hd
  subst hd
  match l, hs with
  | [x0, x1, x2, x3, x4, x5, x6, x7, x8, x9, x10, x11, x12, x13, x14, x15], _ => exact ⟨x0, x1, x2, x3, x4, x5, x6, x7, x8, x9, x10, x11, x12, x13, x14, x15, rfl⟩
end Go.Rd
