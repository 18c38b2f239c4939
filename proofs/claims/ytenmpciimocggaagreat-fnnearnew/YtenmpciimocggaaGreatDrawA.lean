/- The contracts of the draws of keys and values: whatever bytes are drawn from. -/
import Derived.Test.YtenmpciimocggaaGreatDrawN
namespace Go.Proofs.YtenmpciimocggaaGreat
open Go.RowKit

def keyL : List (List UInt8) := [[97], [98], [99], [100], [101], [102], [103], [104], [107, 49], [107, 50], [107, 51], [107, 101, 121]]
def valL : List (List UInt8) := [[], [118], [119], [120, 120], [121, 121, 121]]
theorem keyL_sizes : ∀ j : Fin 12, 1 ≤ (keyL.getD j.1 []).length ∧ (keyL.getD j.1 []).length ≤ 12 := by decide
theorem valL_sizes : ∀ j : Fin 5, (valL.getD j.1 []).length ≤ 20 := by decide

end Go.Proofs.YtenmpciimocggaaGreat
