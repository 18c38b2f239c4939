/- Members: the model's l14Ids, l14NoTask, MemberOk, Fall. -/
import Derived.Test.YtmfpgnoeemjhiaaMbM
import Derived.Test.YtmfpgnoeemjhiaaImE
import Derived.Test.YtmfpgnoeemjhiaaFiT
import Derived.Deep.DeepCutAuto
namespace Go.Proofs.Ytmfpgnoeemjhiaa
open Go.RowKit
set_option linter.unusedVariables false

def idTo (l : List Int) (i : Nat) : Prop := ∀ j (h : j < l.length), j < i → (1 ≤ l[j] ∧ l[j] ≤ 6) ∧ ∀ m (hm : m < l.length), m + 1 = j → l[m] < l[j]
theorem idTo_next {l : List Int} {i : Nat} (h : idTo l i) (hi : i < l.length) (h1 : 1 ≤ l[i] ∧ l[i] ≤ 6) (h2 : ∀ m (hm : m < l.length), m + 1 = i → l[m] < l[i]) : idTo l (i + 1) := fun j hj hlt => by
  by_cases c : j < i
  · exact h j hj c
  · have : j = i := (by omega)
    subst this
    exact ⟨h1, h2⟩
theorem asc_of {l : List Int} (h : ∀ i (hi : i + 1 < l.length), l[i] < l[i + 1]) : l.Pairwise (· < ·) := by
  rw [List.pairwise_iff_getElem]
  have key : ∀ d i (hj : i + d + 1 < l.length), l[i]'(by omega) < l[i + d + 1] := by
    intro d
    induction d with
    | zero => intro i hj; exact h i hj
    | succ d ih => intro i hj; exact Int.lt_trans (ih i (by omega)) (h (i + d + 1) (by omega))
  intro i j hi hj hij
  obtain ⟨d, rfl⟩ : ∃ d, j = i + d + 1 := ⟨j - i - 1, by omega⟩
  exact key d i hj
theorem idTo_all {l : List Int} (h : idTo l l.length) : okIds l := by
  refine ⟨fun x hx => ?_, asc_of (fun i hi => (h (i + 1) hi hi).2 i (by omega) rfl)⟩
  obtain ⟨j, hj, rfl⟩ := List.getElem_of_mem hx
  exact (h j hj hj).1
theorem ids_no {l : List Int} {i : Nat} (hi : i < l.length) (h : ¬ (1 ≤ l[i] ∧ l[i] ≤ 6)) : decide (okIds l) = false := decide_eq_false (fun e => h (e.1 _ (List.getElem_mem hi)))
theorem ids_no2 {l : List Int} {i m : Nat} (hi : i < l.length) (hm : m < l.length) (e : m + 1 = i) (h : ¬ l[m] < l[i]) : decide (okIds l) = false := decide_eq_false (fun o => h ((List.pairwise_iff_getElem.1 o.2) m i hm hi (by omega)))
end Go.Proofs.Ytmfpgnoeemjhiaa
