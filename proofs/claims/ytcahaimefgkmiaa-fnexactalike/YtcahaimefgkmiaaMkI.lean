/- Rows of items marked, and looked at for the marks. -/
import Derived.Test.YtcahaimefgkmiaaTE
import Derived.Test.YtcahaimefgkmiaaRowM
import Derived.Test.YtcahaimefgkmiaaTF
import Derived.Deep.RegionHeld3
namespace Go.Proofs.Ytcahaimefgkmiaa
open Go.RowKit
set_option linter.unusedVariables false

def mIm (q : Nat) : Im := ⟨mkT (q + 0), mkT (q + 1), (q : Int) + 1 + 1⟩
end Go.Proofs.Ytcahaimefgkmiaa
