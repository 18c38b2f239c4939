/- The contract of the model's reader of a number in bytes: at every text and place. -/
import Derived.Test.YtdbajlbabjoohaaDoorRead
import Derived.Test.YtdbajlbabjoohaaDoorKitB
import Derived.Deep.RegionHeld3
import Derived.Deep.QuietTactic
import Derived.BigQuiet
namespace Go.Proofs.YtdbajlbabjoohaaDoor
open Go.RowKit

end Go.Proofs.YtdbajlbabjoohaaDoor
