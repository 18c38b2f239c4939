/- The number of a key, by the program. -/
import Derived.Test.YtocoligcbgcanaaTabH
import Derived.WalkSmall
namespace Go.Proofs.Ytocoligcbgcanaa
open Go.RowKit

theorem hash0_eq (seed : Int) : hash0 seed = 2166136261 + seedOf seed := by
  have := seedOf_le seed
  unfold hash0
  omega

end Go.Proofs.Ytocoligcbgcanaa
