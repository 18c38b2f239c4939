/- Messages: right ones, and the model's MsgOk. -/
import Derived.Test.YtmfpgnoeemjhiaaImT
namespace Go.Proofs.Ytmfpgnoeemjhiaa
open Go.RowKit
set_option linter.unusedVariables false

structure Ms where
  k : Int
  f : Int
  o : Int
  e : Int
  n : Int
  is : List Im
/-- How many items a message of a kind may have. -/
def manyOk (k : Int) (c : Nat) : Prop := if k = 2 ∨ k = 3 then True else if k = 5 then c = 1 else c = 0
instance (k : Int) (c : Nat) : Decidable (manyOk k c) := by unfold manyOk; split; infer_instance; split <;> infer_instance
def okMs (m : Ms) : Prop := (1 ≤ m.k ∧ m.k ≤ 8) ∧ (1 ≤ m.f ∧ m.f ≤ 6) ∧ (1 ≤ m.o ∧ m.o ≤ 6) ∧ (1 ≤ m.e ∧ m.e ≤ 9) ∧ (0 ≤ m.n ∧ m.n ≤ 1000000000) ∧ okIms m.is ∧ manyOk m.k m.is.length
instance (m : Ms) : Decidable (okMs m) := by unfold okMs; infer_instance
end Go.Proofs.Ytmfpgnoeemjhiaa
