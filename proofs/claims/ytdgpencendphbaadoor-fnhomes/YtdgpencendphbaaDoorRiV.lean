/- Rings, by the model: the homes of a key. -/
import Derived.Test.YtdgpencendphbaaDoorRiT
import Derived.Test.YtdgpencendphbaaDoorRiU
import Derived.Deep.RegionHeld3
namespace Go.Proofs.YtdgpencendphbaaDoor
open Go.RowKit
set_option linter.unusedVariables false

/-- A row of numbers of the call's own. -/
def MadeH (w w' : World) (e : Ending) (L : List Int) : Prop := ∃ b c, e = .returned (.slice b L.length c) ∧ w'.ownsRow w.heap.size 3 1 (.slice b L.length c) L.length (iz L) ∧ Below w.heap.size w w'

end Go.Proofs.YtdgpencendphbaaDoor
