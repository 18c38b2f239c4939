/- Rows of spots: their cells, how they read, how they are compared. -/
import Derived.Test.YtmfpgnoeemjhiaaRiP
import Derived.Test.YtmfpgnoeemjhiaaGenB
import Derived.Deep.RegionHeld3
namespace Go.Proofs.Ytmfpgnoeemjhiaa
open Go.RowKit

/-- The cells of a table's cell, and of a row of them. -/
def spC (s : Sp) : List Value := [.int .i64 s.1, .int .i64 s.2]
def sps (l : List Sp) : List Value := l.flatMap spC
theorem spC_length (s : Sp) : (spC s).length = 2 := rfl
theorem sps_length (l : List Sp) : (sps l).length = l.length * 2 := by
  induction l with
  | nil => rfl
  | cons s l ih => rw [sps, List.flatMap_cons, List.length_append, spC_length, ← sps, ih, List.length_cons]; omega
theorem sps_append (l m : List Sp) : sps (l ++ m) = sps l ++ sps m := by simp [sps]
theorem sps_cons (s : Sp) (l : List Sp) : sps (s :: l) = spC s ++ sps l := rfl
theorem sps_at : ∀ (l : List Sp) (i j : Nat) (hi : i < l.length), j < 2 → (sps l)[i * 2 + j]? = (spC l[i])[j]?
  | s :: l, 0, j, _, hj => by rw [sps_cons, Nat.zero_mul, Nat.zero_add, List.getElem?_append_left (by rw [spC_length]; exact hj)]; rfl
  | s :: l, i + 1, j, hi, hj => by
    rw [sps_cons, List.getElem?_append_right (by rw [spC_length]; omega), spC_length, show (i + 1) * 2 + j - 2 = i * 2 + j by omega, sps_at l i j (by simpa using hi) hj]
    rfl
theorem sps_set : ∀ (l : List Sp) (i : Nat) (s : Sp), i < l.length → sps (l.set i s) = (sps l).take (i * 2) ++ spC s ++ (sps l).drop (i * 2 + 2)
  | t :: l, 0, s, _ => by
    rw [List.set_cons_zero, sps_cons, sps_cons, Nat.zero_mul, List.take_zero, List.nil_append, Nat.zero_add, List.drop_append_of_le_length (by rw [spC_length]; omega)]
    simp [spC]
  | t :: l, i + 1, s, hi => by
    rw [List.set_cons_succ, sps_cons, sps_cons, sps_set l i s (by simpa using hi)]
    have h1 : (spC t ++ sps l).take ((i + 1) * 2) = spC t ++ (sps l).take (i * 2) := by
      rw [List.take_append, spC_length, List.take_of_length_le (by rw [spC_length]; omega), show (i + 1) * 2 - 2 = i * 2 by omega]
    have h2 : (spC t ++ sps l).drop ((i + 1) * 2 + 2) = (sps l).drop (i * 2 + 2) := by
      rw [List.drop_append, spC_length, List.drop_eq_nil_of_le (by rw [spC_length]; omega), List.nil_append, show (i + 1) * 2 + 2 - 2 = i * 2 + 2 by omega]
    rw [h1, h2]
    simp [List.append_assoc]
theorem set2P (xs : List Value) (m : Nat) (a b : Value) (h : m + 2 ≤ xs.length) : (xs.set m a).set (m + 1) b = xs.take m ++ [a, b] ++ xs.drop (m + 2) := by
  refine List.ext_getElem? fun j => ?_
  simp only [List.getElem?_set, List.length_set]
  rcases Nat.lt_or_ge j m with h1 | h1
  · rw [if_neg (by omega), if_neg (by omega), List.append_assoc, List.getElem?_append_left (by simp; omega), List.getElem?_take_of_lt h1]
  · rcases Nat.lt_or_ge j (m + 2) with h2 | h2
    · obtain ⟨q, rfl⟩ : ∃ q, j = m + q := ⟨j - m, by omega⟩
      rw [List.append_assoc, List.getElem?_append_right (by simp; omega)]
      have hl : (xs.take m).length = m := by simp; omega
      rw [hl, Nat.add_sub_cancel_left]
      match q, h2 with
      | 0, _ => simp; omega
      | 1, _ => simp; omega
      | q + 2, h => omega
    · rw [if_neg (by omega), if_neg (by omega), List.getElem?_append_right (by simp; omega)]
      have hl : (xs.take m ++ [a, b]).length = m + 2 := by simp; omega
      rw [hl, List.getElem?_drop]
      congr 1
      omega
/-- A cell of a table as a value. -/
def spV (s : Sp) : Value := .agg #[.int .i64 s.1, .int .i64 s.2]
def eqSp (s t : Sp) : Bool := (s.1 == t.1) && (s.2 == t.2)
theorem eqSp_same (s : Sp) : eqSp s s = true := by simp [eqSp]
theorem eqSp_iff (s t : Sp) : eqSp s t = true ↔ s = t := by
  constructor
  · intro h
    simp only [eqSp, Bool.and_eq_true, beq_iff_eq] at h
    exact Prod.ext h.1 h.2
  · rintro rfl; exact eqSp_same s
/-- The two cells of cell i of a row. -/
def spotAt2 (w : World) (g i : Nat) (s : Sp) : Prop := w.cell? ⟨g, i * 2, none⟩ = some (.int .i64 s.1) ∧ w.cell? ⟨g, i * 2 + 1, none⟩ = some (.int .i64 s.2)
/-- A row of cells that reads as l. -/
def RdP (w : World) (a : Option Addr) (l : List Sp) : Prop := l = [] ∨ ∃ g, a = some ⟨g, 0, none⟩ ∧ g < w.heap.size ∧ ∀ i (h : i < l.length), spotAt2 w g i l[i]
theorem spotAt2.below {w w' : World} {B g i : Nat} {s : Sp} (h : spotAt2 w g i s) (hb : Below B w w') (hg : g < B) : spotAt2 w' g i s := ⟨(hb.cell hg).trans h.1, (hb.cell hg).trans h.2⟩
theorem RdP.later {w w' : World} {a : Option Addr} {l : List Sp} (h : RdP w a l) (hb : Below w.heap.size w w') : RdP w' a l := by
  rcases h with h | ⟨g, ha, hg, hc⟩
  · exact .inl h
  · exact .inr ⟨g, ha, Nat.lt_of_lt_of_le hg hb.size, fun i hi => (hc i hi).below hb hg⟩
theorem RdP.at {w : World} {a : Option Addr} {l : List Sp} (h : RdP w a l) (i : Nat) (hi : i < l.length) : ∃ g, a = some ⟨g, 0, none⟩ ∧ g < w.heap.size ∧ spotAt2 w g i l[i] := by
  rcases h with h | ⟨g, ha, hg, hc⟩
  · subst h; simp at hi
  · exact ⟨g, ha, hg, hc i hi⟩
theorem rdP_of_own {w : World} {base ca : Nat} {e : TypeId} {ao : Option Addr} {l : List Sp} (h : w.ownsRow base e 2 (.slice ao l.length ca) l.length (sps l)) : RdP w ao l := by
  by_cases h0 : l.length = 0
  · exact .inl (List.eq_nil_of_length_eq_zero h0)
  · rcases h.2 with ⟨hv, hn⟩ | ⟨g, cap, cur, hv, hb, hh, r⟩
    · omega
    · injection hv with h1 h2 h3
      subst h1
      refine .inr ⟨g, rfl, (Array.getElem?_eq_some_iff.1 hh).1, fun i hi => ?_⟩
      have at2 : ∀ j, j < 2 → w.cell? ⟨g, i * 2 + j, none⟩ = (spC l[i])[j]? := fun j hj => (h.cellAt (i * 2 + j) (by omega)).trans (sps_at l i j hi hj)
      exact ⟨at2 0 (by omega), at2 1 (by omega)⟩

end Go.Proofs.Ytmfpgnoeemjhiaa
