/- The model's ItemOf and PutItem. -/
import Derived.Test.YtmfpgnoeemjhiaaImS
import Derived.Test.YtmfpgnoeemjhiaaCpE
namespace Go.Proofs.Ytmfpgnoeemjhiaa
open Go.RowKit
set_option linter.unusedVariables false

theorem imOf_at {l : List Im} {k : ByteArray} {i : Nat} (hi : i < l.length) (h1 : ∀ j (h : j < l.length), j < i → ¬ l[j].k = k) (h2 : l[i].k = k) : imOf l k = l[i] := by
  unfold imOf
  have : l.find? (fun y => decide (y.k = k)) = some l[i] := by
    rw [List.find?_eq_some_iff_getElem]
    exact ⟨by simpa using h2, i, hi, rfl, fun j hj => by simpa using h1 j (by omega) hj⟩
  rw [this]
  rfl
theorem imOf_nil {l : List Im} {k : ByteArray} (h1 : ∀ j (h : j < l.length), j < l.length → ¬ l[j].k = k) : imOf l k = zeroIm := imOf_none (fun y hy e => by
  obtain ⟨j, hj, rfl⟩ := List.getElem_of_mem hy
  exact h1 j hj hj e)
theorem filt_next {p : Im → Bool} {l : List Im} {i : Nat} (hi : i < l.length) : (l.take (i + 1)).filter p = (l.take i).filter p ++ (if p l[i] = true then [l[i]] else []) := by
  rw [List.take_succ_eq_append_getElem hi, List.filter_append, List.filter_cons]
  rfl
/-- None of the first i is as new. -/
def oldTo (l : List Im) (x : Im) (i : Nat) : Prop := ∀ j (h : j < l.length), j < i → ¬ (l[j].k = x.k ∧ x.n ≤ l[j].n)
theorem oldTo_all {l : List Im} {x : Im} (h : oldTo l x l.length) : newI l x = false := by
  cases e : newI l x with
  | false => rfl
  | true =>
    obtain ⟨y, hy, h2⟩ := newI_of e
    obtain ⟨j, hj, rfl⟩ := List.getElem_of_mem hy
    exact absurd h2 (h j hj hj)
theorem newI_at {l : List Im} {x : Im} {i : Nat} (hi : i < l.length) (h : l[i].k = x.k ∧ x.n ≤ l[i].n) : newI l x = true := by
  unfold newI
  rw [List.any_eq_true]
  exact ⟨l[i], List.getElem_mem hi, by rw [decide_eq_true h.1, decide_eq_true h.2]; rfl⟩
theorem oldTo_next {l : List Im} {x : Im} {i : Nat} (h : oldTo l x i) (hi : i < l.length) (h2 : ¬ (l[i].k = x.k ∧ x.n ≤ l[i].n)) : oldTo l x (i + 1) := fun j hj hlt => by
  by_cases c : j < i
  · exact h j hj c
  · have : j = i := (by omega)
    subst this
    exact h2
theorem put_new {l : List Im} {x : Im} (h : newI l x = true) : putI l x = l := by unfold putI; rw [if_pos h]
theorem put_bad {l : List Im} {x : Im} (h : ¬ (okIms l ∧ okIms (insI l x))) : putI l x = l := by unfold putI; rw [if_neg h]; split <;> rfl
theorem put_ok {l : List Im} {x : Im} (h0 : newI l x = false) (h : okIms l ∧ okIms (insI l x)) : putI l x = insI l x := by unfold putI; rw [if_neg (by rw [h0]; simp), if_pos h]
end Go.Proofs.Ytmfpgnoeemjhiaa
