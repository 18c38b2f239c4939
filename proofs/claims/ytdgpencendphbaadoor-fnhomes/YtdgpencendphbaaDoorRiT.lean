/- Rings, by the model: whether a number is in a row. -/
import Derived.Test.YtdgpencendphbaaDoorRiS
import Derived.Test.YtdgpencendphbaaDoorSk
namespace Go.Proofs.YtdgpencendphbaaDoor
open Go.RowKit
set_option linter.unusedVariables false

end Go.Proofs.YtdgpencendphbaaDoor
