/- What comes in as a place, opened. -/
import Derived.Test.YtenmpciimocggaaGreatXB
import Derived.Deep.SlicePairs
import Derived.Lib.SmallJoins
import Derived.ProofKit
import Derived.OpenShut
namespace Go.Proofs.YtenmpciimocggaaGreat
open Go.ChangeShapes Go.WideShapes Go.ChangeAt Go.RowKit Go.Deep Go.Joins

instance : Inhabited Sl := ⟨zS⟩
/-- A slot whose numbers are ints and whose texts are texts. -/
def wfS (s : Sl) : Prop := (-9223372036854775808 ≤ s.gen ∧ s.gen ≤ 9223372036854775807) ∧ (-9223372036854775808 ≤ s.next ∧ s.next ≤ 9223372036854775807) ∧ s.key.size ≤ maxLen ∧ s.val.size ≤ maxLen

end Go.Proofs.YtenmpciimocggaaGreat
