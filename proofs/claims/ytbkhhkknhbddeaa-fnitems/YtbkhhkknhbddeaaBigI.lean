/- The statements' bound on what is drawn from. -/
import Derived.Test.YtbkhhkknhbddeaaDraw
namespace Go.Proofs.Ytbkhhkknhbddeaa
open Go.RowKit
set_option linter.unusedVariables false

theorem bigI_no (a : Option Addr) (len cap : Nat) (w : World) (h : len ≤ 1048576) : Calls Try.prog 9 #[.slice a len cap] w fun e w' => e = .returned (.bool false) ∧ w = w' := by
  have q : decide ((1048576 : Int) < (len : Int)) = false := decide_eq_false (by omega)
  go_enter Try.func9, Try.ntmps9
  go_wp2
  go_ret
  exact ⟨by first | rfl | (show Ending.returned (.bool (decide ((1048576 : Int) < (len : Int)))) = _; rw [q]), rfl⟩
theorem bigI_yes (a : Option Addr) (len cap : Nat) (w : World) (h : ¬ len ≤ 1048576) : Calls Try.prog 9 #[.slice a len cap] w fun e w' => e = .returned (.bool true) ∧ w = w' := by
  have q : decide ((1048576 : Int) < (len : Int)) = true := decide_eq_true (by omega)
  go_enter Try.func9, Try.ntmps9
  go_wp2
  go_ret
  exact ⟨by first | rfl | (show Ending.returned (.bool (decide ((1048576 : Int) < (len : Int)))) = _; rw [q]), rfl⟩
end Go.Proofs.Ytbkhhkknhbddeaa
