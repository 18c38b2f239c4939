/- What a row of cells of a table is, plain. -/
import Derived.Test.YtldbdmofjckjkaaKit
namespace Go.Proofs.Ytldbdmofjckjkaa

structure Ce where
  key : ByteArray
  h : Int

/-- The cells of a table's cell, and of a row of them. -/
def ceC (s : Ce) : List Value := [.string s.key, .int .i64 s.h]
def ces (l : List Ce) : List Value := l.flatMap ceC
theorem ceC_length (s : Ce) : (ceC s).length = 2 := rfl
theorem ces_length (l : List Ce) : (ces l).length = l.length * 2 := by
  induction l with
  | nil => rfl
  | cons s l ih => rw [ces, List.flatMap_cons, List.length_append, ceC_length, ← ces, ih, List.length_cons]; omega
theorem ces_append (l m : List Ce) : ces (l ++ m) = ces l ++ ces m := by simp [ces]
theorem ces_cons (s : Ce) (l : List Ce) : ces (s :: l) = ceC s ++ ces l := rfl
theorem ces_at : ∀ (l : List Ce) (i j : Nat) (hi : i < l.length), j < 2 → (ces l)[i * 2 + j]? = (ceC l[i])[j]?
  | s :: l, 0, j, _, hj => by rw [ces_cons, Nat.zero_mul, Nat.zero_add, List.getElem?_append_left (by rw [ceC_length]; exact hj)]; rfl
  | s :: l, i + 1, j, hi, hj => by
    rw [ces_cons, List.getElem?_append_right (by rw [ceC_length]; omega), ceC_length, show (i + 1) * 2 + j - 2 = i * 2 + j by omega, ces_at l i j (by simpa using hi) hj]
    rfl
theorem ces_set : ∀ (l : List Ce) (i : Nat) (s : Ce), i < l.length → ces (l.set i s) = (ces l).take (i * 2) ++ ceC s ++ (ces l).drop (i * 2 + 2)
  | t :: l, 0, s, _ => by
    rw [List.set_cons_zero, ces_cons, ces_cons, Nat.zero_mul, List.take_zero, List.nil_append, Nat.zero_add, List.drop_append_of_le_length (by rw [ceC_length]; omega)]
    simp [ceC]
  | t :: l, i + 1, s, hi => by
    rw [List.set_cons_succ, ces_cons, ces_cons, ces_set l i s (by simpa using hi)]
    have h1 : (ceC t ++ ces l).take ((i + 1) * 2) = ceC t ++ (ces l).take (i * 2) := by
      rw [List.take_append, ceC_length, List.take_of_length_le (by rw [ceC_length]; omega), show (i + 1) * 2 - 2 = i * 2 by omega]
    have h2 : (ceC t ++ ces l).drop ((i + 1) * 2 + 2) = (ces l).drop (i * 2 + 2) := by
      rw [List.drop_append, ceC_length, List.drop_eq_nil_of_le (by rw [ceC_length]; omega), List.nil_append, show (i + 1) * 2 + 2 - 2 = i * 2 + 2 by omega]
    rw [h1, h2]
    simp [List.append_assoc]
theorem set2 (xs : List Value) (m : Nat) (a b : Value) (h : m + 2 ≤ xs.length) : (xs.set m a).set (m + 1) b = xs.take m ++ [a, b] ++ xs.drop (m + 2) := by
  refine List.ext_getElem? fun j => ?_
  simp only [List.getElem?_set, List.length_set]
  rcases Nat.lt_or_ge j m with h1 | h1
  · rw [if_neg (by omega), if_neg (by omega), List.append_assoc, List.getElem?_append_left (by simp; omega), List.getElem?_take_of_lt h1]
  · rcases Nat.lt_or_ge j (m + 2) with h2 | h2
    · obtain ⟨q, rfl⟩ : ∃ q, j = m + q := ⟨j - m, by omega⟩
      rw [List.append_assoc, List.getElem?_append_right (by simp; omega)]
      have hl : (xs.take m).length = m := by simp; omega
      rw [hl, Nat.add_sub_cancel_left]
      match q, h2 with
      | 0, _ => simp; omega
      | 1, _ => simp; omega
      | q + 2, h => omega
    · rw [if_neg (by omega), if_neg (by omega), List.getElem?_append_right (by simp; omega)]
      have hl : (xs.take m ++ [a, b]).length = m + 2 := by simp; omega
      rw [hl, List.getElem?_drop]
      congr 1
      omega
end Go.Proofs.Ytldbdmofjckjkaa
