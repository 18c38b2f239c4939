/- Decisions, plain: one proposer alone. -/
import Derived.Test.YtgehdgmllilmgaaYX
namespace Go.Proofs.Ytgehdgmllilmgaa
open Go.RowKit
set_option linter.unusedVariables false

def itT : ByteArray := ⟨#[105, 116]⟩
def aloneC : Hp := ⟨2, 1, 0, ⟨#[]⟩⟩
/-- What happens to one proposer whose notes are all carried. -/
def aloneE (n : Nat) : List Hp := ⟨1, 1, 0, itT⟩ :: List.replicate (5 * n) aloneC
theorem alone_len (n : Nat) : (aloneE n).length = 5 * n + 1 := by simp [aloneE]
theorem alone_z (n : Nat) : ∀ e ∈ aloneE n, e.v.size ≤ 1048576 := fun e he => by
  rcases List.mem_cons.1 he with rfl | he
  · decide
  · rw [List.eq_of_mem_replicate he]; decide
def aloneT (n : Nat) : Option (Bool × Int) := ((runR n 1 (aloneE n)).1.ts[0]?).map (fun t => (t.ch, t.b))
theorem alone_run (n : Nat) (h : 1 ≤ n ∧ n ≤ 5) : (runR n 1 (aloneE n)).2.2 = true ∧ (runR n 1 (aloneE n)).1.ch = [itT] ∧ aloneT n = some (true, 1) := by
  match n, h with
  | 1, _ => exact ⟨by kernel_rfl, by kernel_rfl, by kernel_rfl⟩
  | 2, _ => exact ⟨by kernel_rfl, by kernel_rfl, by kernel_rfl⟩
  | 3, _ => exact ⟨by kernel_rfl, by kernel_rfl, by kernel_rfl⟩
  | 4, _ => exact ⟨by kernel_rfl, by kernel_rfl, by kernel_rfl⟩
  | 5, _ => exact ⟨by kernel_rfl, by kernel_rfl, by kernel_rfl⟩
  | n + 6, h => omega
end Go.Proofs.Ytgehdgmllilmgaa
