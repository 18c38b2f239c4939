/- The contracts of the functions that mark rows of a table's cells, and look for the marks. -/
import Derived.Test.YtldbdmofjckjkaaTabE
namespace Go.Proofs.Ytldbdmofjckjkaa
open Go.RowKit

/-- The cell that is marked from k on. -/
def patC (k : Nat) : Ce := ⟨mkT k, (k : Int) + 1⟩
def patCs (k : Nat) : Nat → List Ce
  | 0 => []
  | n + 1 => patCs k n ++ [patC (k + 2 * n)]
theorem patCs_length (k n : Nat) : (patCs k n).length = n := by
  induction n with
  | zero => rfl
  | succ n ih => simp [patCs, ih]
theorem patCs_at (k : Nat) : ∀ (n i : Nat) (h : i < (patCs k n).length), (patCs k n)[i] = patC (k + 2 * i)
  | 0, i, h => by simp [patCs] at h
  | n + 1, i, h => by
    by_cases e : i < (patCs k n).length
    · simp only [patCs]; rw [List.getElem_append_left e]; exact patCs_at k n i e
    · simp only [patCs]
      rw [List.getElem_append_right (by omega)]
      have : i = n := by rw [patCs_length] at e h; omega
      subst this
      simp
/-- A row whose first cells are marked. -/
def mk2 (k : Nat) (xs : List Value) : Nat → List Value
  | 0 => xs
  | i + 1 => ((mk2 k xs i).set (i * 2) (.string (patC (k + 2 * i)).key)).set (i * 2 + 1) (.int .i64 (patC (k + 2 * i)).h)
theorem mk2_length (k : Nat) (xs : List Value) : ∀ i, (mk2 k xs i).length = xs.length
  | 0 => rfl
  | i + 1 => by simp only [mk2, List.length_set]; exact mk2_length k xs i
theorem mk2_eq (k : Nat) (xs : List Value) : ∀ i, i * 2 ≤ xs.length → mk2 k xs i = ces (patCs k i) ++ xs.drop (i * 2)
  | 0, _ => rfl
  | i + 1, h => by
    have hl := mk2_length k xs i
    rw [mk2, set2 _ _ _ _ (by omega), mk2_eq k xs i (by omega), patCs, ces_append]
    have hs : (ces (patCs k i)).length = i * 2 := by rw [ces_length, patCs_length]
    rw [List.take_left' hs, List.drop_append, List.drop_eq_nil_of_le (by omega), hs, List.nil_append, List.drop_drop]
    rw [show i * 2 + (i * 2 + 2 - i * 2) = (i + 1) * 2 by omega]
    rfl
theorem mk2_all (k n : Nat) (xs : List Value) (h : xs.length = n * 2) : mk2 k xs n = ces (patCs k n) := by
  rw [mk2_eq k xs n (by omega), List.drop_eq_nil_of_le (by omega), List.append_nil]

end Go.Proofs.Ytldbdmofjckjkaa
