/- Rings, by the model: which spot is ahead, the first spot for a key, its home. -/
import Derived.Test.YtmfpgnoeemjhiaaSpt
import Derived.Test.YtmfpgnoeemjhiaaRiR
import Derived.Test.YtmfpgnoeemjhiaaTabH
namespace Go.Proofs.Ytmfpgnoeemjhiaa
open Go.RowKit
set_option linter.unusedVariables false

theorem fromS_hit {l : List Sp} {n : Int} {i : Nat} (hi : i < l.length) (h : n ≤ l[i].1) (hb : ∀ j (hj : j < i), ¬ n ≤ (l[j]'(by omega)).1) : fromS l n = i := by
  unfold fromS
  have : l.findIdx? (fun s => decide (n ≤ s.1)) = some i := List.findIdx?_eq_some_iff_getElem.2 ⟨hi, by simpa using h, fun j hj => by simpa using hb j hj⟩
  rw [this]
  rfl
theorem fromS_none {l : List Sp} {n : Int} (hb : ∀ s ∈ l, ¬ n ≤ s.1) : fromS l n = 0 := by
  unfold fromS
  rw [List.findIdx?_eq_none_iff.2 (fun s hs => by simp [hb s hs])]
  rfl
theorem fromS_lt {l : List Sp} (h : l ≠ []) (n : Int) : fromS l n < l.length := by
  unfold fromS
  have hl : 0 < l.length := List.length_pos_iff.2 h
  cases e : l.findIdx? (fun s => decide (n ≤ s.1)) with
  | none => exact hl
  | some i =>
    obtain ⟨hi, _⟩ := List.findIdx?_eq_some_iff_getElem.1 e
    exact hi
theorem homeS_at {l : List Sp} (h : l ≠ []) (n : Int) : homeS l n = (l[fromS l n]'(fromS_lt h n)).2 := by
  unfold homeS aroundS
  rw [List.drop_eq_getElem_cons (fromS_lt h n), List.cons_append]
/-- A ring as a value. -/
def riV (ao : Option Addr) (n ca : Nat) : Value := .agg #[.slice ao n ca]

end Go.Proofs.Ytmfpgnoeemjhiaa
