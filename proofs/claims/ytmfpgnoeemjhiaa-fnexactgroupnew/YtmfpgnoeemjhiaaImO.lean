/- An item that came in. -/
import Derived.Test.YtmfpgnoeemjhiaaToI
import Derived.ProofKit
import Derived.OpenShut
namespace Go.Proofs.Ytmfpgnoeemjhiaa
open Go.ChangeShapes Go.WideShapes Go.ChangeAt Go.RowKit
end Go.Proofs.Ytmfpgnoeemjhiaa
