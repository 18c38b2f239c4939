/- The contracts of the statements' functions that mark rows of slots and look whether the marks are held. -/
import Derived.Test.YtcbfceefhoeooaaArenaE
import Derived.Test.YtcbfceefhoeooaaMark
namespace Go.Proofs.Ytcbfceefhoeooaa
open Go.RowKit

theorem own_kept {w w' : World} {base n size : Nat} {e : TypeId} {v : Value} {xs : List Value} (h : w.ownsRow base e size v n xs) (hB : Below w.heap.size w w') : w'.ownsRow base e size v n xs := by
  refine ⟨h.1, ?_⟩
  rcases h.2 with h2 | ⟨g, cap, cur, hv, hg, hh, r⟩
  · exact .inl h2
  · exact .inr ⟨g, cap, cur, hv, hg, by rw [hB.block g (Array.getElem?_eq_some_iff.1 hh).1]; exact hh, r⟩
theorem own_some {w : World} {base n size g cap : Nat} {e : TypeId} {xs : List Value} (h : w.ownsRow base e size (.slice (some ⟨g, 0, none⟩) n cap) n xs) (j : Nat) (hj : j < n * size) : ∃ u, w.cell? ⟨g, j, none⟩ = some u :=
  ⟨xs[j]'(by have := h.1; omega), (h.cellAt j hj).trans (List.getElem?_eq_getElem _)⟩

theorem gset {w w' : World} {g : Nat} (h : w.grownBy w' (some g)) (j : Nat) (u : Value) : w.grownBy (w'.setCell ⟨g, j, none⟩ u) (some g) :=
  ⟨h.os, h.tape, h.output, by have := h.size; simpa using this, fun k hk hne => by rw [Below.heap_setCell _ _ _ _ (fun e => hne (by rw [e]))]; exact h.block k hk hne⟩
theorem gnew {w w' : World} {r : Option Nat} (h : Below w.heap.size w w') : w.grownBy w' r := ⟨h.os, h.tape, h.output, h.size, fun k hk _ => h.block k hk⟩
theorem gbelow {w w' : World} {r : Option Nat} {B : Nat} (h : w.grownBy w' r) (hB : ∀ g, r = some g → B ≤ g) (hs : B ≤ w.heap.size) : Below B w w' :=
  ⟨h.os, h.tape, h.output, h.size, fun k hk => h.block k (by omega) (fun e => by have := hB k e.symm; omega)⟩

/-- The slot that is marked from k on. -/
def patS (k : Nat) : Sl := ⟨(k : Int), (((k : Int) + 1) % 3 == 0), mkT (k + 2), mkT (k + 3), (k : Int) + 4⟩
def patL (k : Nat) : Nat → List Sl
  | 0 => []
  | n + 1 => patL k n ++ [patS (k + 5 * n)]
theorem patL_length (k n : Nat) : (patL k n).length = n := by
  induction n with
  | zero => rfl
  | succ n ih => simp [patL, ih]
theorem patL_at (k : Nat) : ∀ (n i : Nat) (h : i < (patL k n).length), (patL k n)[i] = patS (k + 5 * i)
  | 0, i, h => by simp [patL] at h
  | n + 1, i, h => by
    by_cases e : i < (patL k n).length
    · simp only [patL]; rw [List.getElem_append_left e]; exact patL_at k n i e
    · simp only [patL]
      rw [List.getElem_append_right (by omega)]
      have : i = n := by rw [patL_length] at e h; omega
      subst this
      simp
/-- A row whose first slots are marked. -/
def mk5 (k : Nat) (xs : List Value) : Nat → List Value
  | 0 => xs
  | i + 1 => (((((mk5 k xs i).set (i * 5) (.int .i64 (patS (k + 5 * i)).gen)).set (i * 5 + 1) (.bool (patS (k + 5 * i)).used)).set (i * 5 + 2) (.string (patS (k + 5 * i)).key)).set (i * 5 + 3) (.string (patS (k + 5 * i)).val)).set (i * 5 + 4) (.int .i64 (patS (k + 5 * i)).next)
theorem set5 (xs : List Value) (m : Nat) (a b c d e : Value) (h : m + 5 ≤ xs.length) : ((((xs.set m a).set (m + 1) b).set (m + 2) c).set (m + 3) d).set (m + 4) e = xs.take m ++ [a, b, c, d, e] ++ xs.drop (m + 5) := by
  refine List.ext_getElem? fun j => ?_
  simp only [List.getElem?_set, List.length_set]
  rcases Nat.lt_or_ge j m with h1 | h1
  · rw [if_neg (by omega), if_neg (by omega), if_neg (by omega), if_neg (by omega), if_neg (by omega), List.append_assoc, List.getElem?_append_left (by simp; omega), List.getElem?_take_of_lt h1]
  · rcases Nat.lt_or_ge j (m + 5) with h2 | h2
    · obtain ⟨q, rfl⟩ : ∃ q, j = m + q := ⟨j - m, by omega⟩
      rw [List.append_assoc, List.getElem?_append_right (by simp; omega)]
      have hl : (xs.take m).length = m := by simp; omega
      rw [hl, Nat.add_sub_cancel_left]
      match q, h2 with
      | 0, _ => simp; omega
      | 1, _ => simp; omega
      | 2, _ => simp; omega
      | 3, _ => simp; omega
      | 4, _ => simp; omega
      | q + 5, h => omega
    · rw [if_neg (by omega), if_neg (by omega), if_neg (by omega), if_neg (by omega), if_neg (by omega), List.getElem?_append_right (by simp; omega)]
      have hl : (xs.take m ++ [a, b, c, d, e]).length = m + 5 := by simp; omega
      rw [hl, List.getElem?_drop]
      congr 1
      omega
theorem mk5_length (k : Nat) (xs : List Value) : ∀ i, (mk5 k xs i).length = xs.length
  | 0 => rfl
  | i + 1 => by simp only [mk5, List.length_set]; exact mk5_length k xs i
theorem mk5_eq (k : Nat) (xs : List Value) : ∀ i, i * 5 ≤ xs.length → mk5 k xs i = sls (patL k i) ++ xs.drop (i * 5)
  | 0, _ => rfl
  | i + 1, h => by
    have hl := mk5_length k xs i
    rw [mk5, set5 _ _ _ _ _ _ _ (by omega), mk5_eq k xs i (by omega), patL, sls_append]
    have hs : (sls (patL k i)).length = i * 5 := by rw [sls_length, patL_length]
    rw [List.take_left' hs, List.drop_append, List.drop_eq_nil_of_le (by omega), hs, List.nil_append, List.drop_drop]
    rw [show i * 5 + (i * 5 + 5 - i * 5) = (i + 1) * 5 by omega]
    rfl
theorem mk5_all (k n : Nat) (xs : List Value) (h : xs.length = n * 5) : mk5 k xs n = sls (patL k n) := by
  rw [mk5_eq k xs n (by omega), List.drop_eq_nil_of_le (by omega), List.append_nil]

/-- What an own row holds is read there. -/
theorem rdA_of_own {w : World} {base ca : Nat} {e : TypeId} {ao : Option Addr} {l : List Sl} (h : w.ownsRow base e 5 (.slice ao l.length ca) l.length (sls l)) : RdA w ao l := by
  rcases h.2 with ⟨hv, h0⟩ | ⟨g, cap, cur, hv, _, hh, _⟩
  · exact .inl (List.eq_nil_of_length_eq_zero h0)
  · simp only [Value.slice.injEq] at hv
    obtain ⟨rfl, _, rfl⟩ := hv
    refine .inr ⟨g, rfl, (Array.getElem?_eq_some_iff.1 hh).1, fun i hi => ?_⟩
    have at5 : ∀ j, j < 5 → w.cell? ⟨g, i * 5 + j, none⟩ = (slC l[i])[j]? := fun j hj => (h.cellAt (i * 5 + j) (by omega)).trans (sls_at l i j hi hj)
    exact ⟨at5 0 (by omega), at5 1 (by omega), at5 2 (by omega), at5 3 (by omega), at5 4 (by omega)⟩

end Go.Proofs.Ytcbfceefhoeooaa
