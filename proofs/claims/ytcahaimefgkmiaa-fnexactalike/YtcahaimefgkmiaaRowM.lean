/- Rows of elements of several cells that are marked one behind another, plain. -/
import Derived.Test.YtcahaimefgkmiaaTB
namespace Go.Proofs.Ytcahaimefgkmiaa
open Go.RowKit
set_option linter.unusedVariables false

section
variable {α : Type} {enc : α → List Value} {kk : Nat} (m : Nat → α) (s k : Nat)
/-- The elements that are marked from k on, s numbers each. -/
def patG (n : Nat) : List α := (List.range n).map (fun i => m (k + s * i))
theorem patG_length (n : Nat) : (patG m s k n).length = n := by simp [patG]
theorem patG_at (n i : Nat) (h : i < (patG m s k n).length) : (patG m s k n)[i] = m (k + s * i) := by simp [patG]
theorem patG_next (n : Nat) : patG m s k (n + 1) = patG m s k n ++ [m (k + s * n)] := by simp [patG, List.range_succ]
/-- A row whose first elements are marked. -/
def mkG (enc : α → List Value) (kk : Nat) (xs : List Value) (i : Nat) : List Value := rowG enc (patG m s k i) ++ xs.drop (i * kk)
theorem mkG_zero (xs : List Value) : mkG m s k enc kk xs 0 = xs := by simp [mkG, patG, rowG]
theorem mkG_length (E : EncK enc kk) (xs : List Value) (i : Nat) (h : i * kk ≤ xs.length) : (mkG m s k enc kk xs i).length = xs.length := by
  unfold mkG
  rw [List.length_append, rowG_length enc kk E.len, patG_length, List.length_drop]
  omega
theorem mkG_next (E : EncK enc kk) (xs : List Value) (i : Nat) (h : i * kk + kk ≤ xs.length) : setL (mkG m s k enc kk xs i) (i * kk) (enc (m (k + s * i))) = mkG m s k enc kk xs (i + 1) := by
  have hl : (rowG enc (patG m s k i)).length = i * kk := by rw [rowG_length enc kk E.len, patG_length]
  rw [setL_eq _ _ _ (by rw [mkG_length m s k E xs i (by omega), E.len]; omega), E.len]
  unfold mkG
  rw [List.take_left' hl, List.drop_append, List.drop_eq_nil_of_le (by omega), hl, List.nil_append, List.drop_drop, patG_next, rowG_join, show i * kk + (i * kk + kk - i * kk) = (i + 1) * kk by rw [Nat.add_mul]; omega]
  simp [rowG]
theorem mkG_all (E : EncK enc kk) (xs : List Value) (n : Nat) (h : xs.length = n * kk) : mkG m s k enc kk xs n = rowG enc (patG m s k n) := by
  unfold mkG
  rw [List.drop_eq_nil_of_le (by omega), List.append_nil]
end
end Go.Proofs.Ytcahaimefgkmiaa
