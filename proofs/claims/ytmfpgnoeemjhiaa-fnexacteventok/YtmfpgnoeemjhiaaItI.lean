/- The program's items: a list in memory of its own, whether a list is right, the item of a key. -/
import Derived.Test.YtmfpgnoeemjhiaaFiT
import Derived.Test.YtmfpgnoeemjhiaaImU
import Derived.Test.YtmfpgnoeemjhiaaRowC
import Derived.Test.YtmfpgnoeemjhiaaGrQ
namespace Go.Proofs.Ytmfpgnoeemjhiaa
open Go.RowKit
set_option linter.unusedVariables false

end Go.Proofs.Ytmfpgnoeemjhiaa
