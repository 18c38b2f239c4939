/- Seen, by the model, at a door that is not right. -/
import Derived.Test.YtenmpciimocggaaGreatXT
namespace Go.Proofs.YtenmpciimocggaaGreat
open Go.RowKit

end Go.Proofs.YtenmpciimocggaaGreat
namespace Go.Proofs.YtenmpciimocggaaGreat
open Go.RowKit

end Go.Proofs.YtenmpciimocggaaGreat
namespace Go.Proofs.YtenmpciimocggaaGreat
open Go.RowKit

end Go.Proofs.YtenmpciimocggaaGreat
