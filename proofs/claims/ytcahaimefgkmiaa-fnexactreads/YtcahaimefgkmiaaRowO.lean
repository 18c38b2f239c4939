/- Rows of elements of several cells: made of zero ones; opened where they came in. -/
import Derived.Test.YtcahaimefgkmiaaRowH
import Derived.Deep.SlicePairs
import Derived.Lib.SmallJoins
import Derived.ProofKit
import Derived.OpenShut
namespace Go.Proofs.Ytcahaimefgkmiaa
open Go.ChangeShapes Go.WideShapes Go.ChangeAt Go.RowKit Go.Deep Go.Joins
set_option linter.unusedVariables false

section
variable {α : Type} {enc : α → List Value} {k : Nat}
theorem madeG (E : EncK enc k) (hk : 0 < k) (z : α) (n : Nat) : (madeCells (Value.agg (enc z).toArray).cells (n * k)).toList = rowG enc (List.replicate n z) := by
  have hz : (Value.agg (enc z).toArray).cells = (enc z).toArray := rfl
  have hs : (enc z).toArray.size = k := by simp [E.len]
  refine List.ext_getElem? fun j => ?_
  by_cases hj : j < n * k
  · have h5 : j % k < k := Nat.mod_lt _ hk
    have hd : j / k < n := Nat.div_lt_of_lt_mul (by rw [Nat.mul_comm]; exact hj)
    have hr := rowG_at enc k E.len (List.replicate n z) (j / k) (j % k) (by simpa using hd) h5
    rw [show j / k * k + j % k = j by rw [Nat.mul_comm]; exact Nat.div_add_mod j k, List.getElem_replicate] at hr
    rw [hr, hz]
    simp only [madeCells, Array.getElem?_toList]
    rw [Array.getElem?_map, Array.getElem?_range, if_pos hj]
    simp only [Option.map_some]
    rw [hs]
    have hl : j % k < (enc z).length := by rw [E.len]; exact h5
    rw [List.getElem?_eq_getElem hl]
    simp [hl]
  · rw [List.getElem?_eq_none (by simp [madeCells]; omega), List.getElem?_eq_none (by rw [rowG_length enc k E.len]; simp; omega)]
theorem open_rowG {w : World} {a : Addr} {len cap m : Nat} [Inhabited α] {P : α → Prop} (E : EncK enc k) (hk : 0 < k) (hl : len ≤ cap ∧ cap ≤ maxLen ∨ len ≤ maxLen) (hlm : len ≤ m) (each : ∀ i, i < m → ∃ s : α, P s ∧ ∀ j, j < k → w.cell? ((a.add (i * k)).add j) = (enc s)[j]?) :
    ∃ (ao : Option Addr) (l : List α) (ca : Nat), [Value.slice (some a) len cap] = [.slice ao l.length ca] ∧ RdG enc k w ao l ∧ l.length ≤ maxLen ∧ ∀ s ∈ l, P s := by
  obtain ⟨S, hS⟩ := choose_lt each
  refine ⟨some a, (List.range len).map S, cap, by simp, ?_, by simp; omega, ?_⟩
  · intro i hi
    have hi' : i < len := by simpa using hi
    have hc5 := (hS i (by omega)).2
    obtain ⟨b, o, spot⟩ := a
    have hz : ∃ v, (enc (S 0))[0]? = some v := ⟨_, List.getElem?_eq_getElem (by rw [E.len]; exact hk)⟩
    obtain ⟨v0, hv0⟩ := hz
    have hspot : spot = none := by
      have := (hS 0 (by omega)).2 0 hk
      rw [hv0] at this
      simpa [Addr.add] using World.cell?_spot this
    subst hspot
    simp only [Addr.add_lit] at hc5
    have hz : ∃ v, (enc (S i))[0]? = some v := ⟨_, List.getElem?_eq_getElem (by rw [E.len]; exact hk)⟩
    obtain ⟨vi, hvi⟩ := hz
    have hlt : b < w.heap.size := World.block_lt_of_cell? w _ ((hc5 0 hk).trans hvi)
    refine ⟨b, o, rfl, hlt, fun j hj => ?_⟩
    simp only [List.getElem_map, List.getElem_range]
    exact hc5 j hj
  · intro s hs
    obtain ⟨i, hi, rfl⟩ := List.mem_map.1 hs
    exact (hS i (by have := List.mem_range.1 hi; omega)).1
end
end Go.Proofs.Ytcahaimefgkmiaa
