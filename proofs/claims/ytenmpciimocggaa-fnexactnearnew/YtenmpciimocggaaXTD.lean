/- Seen, by the model, at a door that is not right. -/
import Derived.Test.YtenmpciimocggaaXT
namespace Go.Proofs.Ytenmpciimocggaa
open Go.RowKit

end Go.Proofs.Ytenmpciimocggaa
namespace Go.Proofs.Ytenmpciimocggaa
open Go.RowKit

end Go.Proofs.Ytenmpciimocggaa
namespace Go.Proofs.Ytenmpciimocggaa
open Go.RowKit

theorem eqDoor_any (a : Int) (w : World) :
    Calls Try.prog 23 #[.agg #[.int .i64 a], .agg #[.int .i64 a]] w fun e w' => e = .returned (.bool true) ∧ Below w.heap.size w w' := by
  have e1 : (a != a) = false := by simp
  go_enter Try.func23, Try.ntmps23
  go_wp2
  go_ret
  exact ⟨rfl, below2 w _ _⟩
end Go.Proofs.Ytenmpciimocggaa
