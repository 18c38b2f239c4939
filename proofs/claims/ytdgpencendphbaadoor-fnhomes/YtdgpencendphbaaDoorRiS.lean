/- Rings, by the model: which spot is ahead, the first spot for a key, its home. -/
import Derived.Test.YtdgpencendphbaaDoorSpt
import Derived.Test.YtdgpencendphbaaDoorRiR
import Derived.Test.YtdgpencendphbaaDoorTabH
namespace Go.Proofs.YtdgpencendphbaaDoor
open Go.RowKit
set_option linter.unusedVariables false

set_option maxRecDepth 100000 in
theorem ahead_any (s t : Sp) (w : World) : Calls Tryd.prog 50 #[spV s, spV t] w fun e w' => e = .returned (.bool (ahd s t)) ∧ Below w.heap.size w w' := by
  obtain ⟨a1, n1⟩ := s
  obtain ⟨a2, n2⟩ := t
  unfold spV ahd
  dsimp only
  by_cases c1 : a1 < a2
  · have d1 : decide (a1 < a2) = true := decide_eq_true c1
    rw [d1]
    go_enter Tryd.func50, Tryd.ntmps50
    go_wp2
    go_ret
    exact ⟨rfl, below2 w _ _⟩
  · have d1 : decide (a1 < a2) = false := decide_eq_false c1
    by_cases c2 : a1 = a2
    · subst c2
      have d2 : (a1 == a1) = true := by simp
      by_cases c3 : n1 < n2
      · have d3 : decide (n1 < n2) = true := decide_eq_true c3
        rw [d1, d3]
        go_enter Tryd.func50, Tryd.ntmps50
        go_wp2
        go_ret
        exact ⟨by simp, below2 w _ _⟩
      · have d3 : decide (n1 < n2) = false := decide_eq_false c3
        rw [d1, d3]
        go_enter Tryd.func50, Tryd.ntmps50
        go_wp2
        go_ret
        exact ⟨by simp, below2 w _ _⟩
    · have d2 : (a1 == a2) = false := by simp [c2]
      rw [d1, decide_eq_false c2]
      go_enter Tryd.func50, Tryd.ntmps50
      go_wp2
      go_ret
      exact ⟨rfl, below2 w _ _⟩

theorem fromS_hit {l : List Sp} {n : Int} {i : Nat} (hi : i < l.length) (h : n ≤ l[i].1) (hb : ∀ j (hj : j < i), ¬ n ≤ (l[j]'(by omega)).1) : fromS l n = i := by
  unfold fromS
  have : l.findIdx? (fun s => decide (n ≤ s.1)) = some i := List.findIdx?_eq_some_iff_getElem.2 ⟨hi, by simpa using h, fun j hj => by simpa using hb j hj⟩
  rw [this]
  rfl
theorem fromS_none {l : List Sp} {n : Int} (hb : ∀ s ∈ l, ¬ n ≤ s.1) : fromS l n = 0 := by
  unfold fromS
  rw [List.findIdx?_eq_none_iff.2 (fun s hs => by simp [hb s hs])]
  rfl
theorem fromS_lt {l : List Sp} (h : l ≠ []) (n : Int) : fromS l n < l.length := by
  unfold fromS
  have hl : 0 < l.length := List.length_pos_iff.2 h
  cases e : l.findIdx? (fun s => decide (n ≤ s.1)) with
  | none => exact hl
  | some i =>
    obtain ⟨hi, _⟩ := List.findIdx?_eq_some_iff_getElem.1 e
    exact hi
theorem homeS_at {l : List Sp} (h : l ≠ []) (n : Int) : homeS l n = (l[fromS l n]'(fromS_lt h n)).2 := by
  unfold homeS aroundS
  rw [List.drop_eq_getElem_cons (fromS_lt h n), List.cons_append]
/-- A ring as a value. -/
def riV (ao : Option Addr) (n ca : Nat) : Value := .agg #[.slice ao n ca]

end Go.Proofs.YtdgpencendphbaaDoor
