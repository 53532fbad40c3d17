import Derived.Test.YtbkjjefjnkkgbaaTka
import Derived.Test.YtbkjjefjnkkgbaaTk8
import Derived.Deep.RegionWith
namespace Go.Proofs.Ytbkjjefjnkkgbaa.sea
open Go Go.Ab Go.Proofs Go.RowKit Go.Shelf
attribute [local go_sem] Oper.semAt_some
set_option linter.unusedVariables false
/-- A table is sound. -/
def okT (s : Sea) (T : Tab) : Bool := cond (formB s T) (sound s T) false
/-- What checkTable answers: no error exactly at a sound table. -/
def Chk (ev : Sea → Tab → Value) : Prop := (∀ s T, (okT s T = true → ev s T = .nilIface) ∧ (okT s T = false → ∃ t u, ev s T = .iface t u)) ∧ ∀ {s : Sea} {w : World} {T : Tab} {v tv : Value}, s.Ok → SeaV s w v → TabV T w tv → TabMx T →
  Calls Try.prog 65 #[v, tv] w fun e w' => e = .returned (ev s T) ∧ Below w.heap.size w w'
end Go.Proofs.Ytbkjjefjnkkgbaa.sea
