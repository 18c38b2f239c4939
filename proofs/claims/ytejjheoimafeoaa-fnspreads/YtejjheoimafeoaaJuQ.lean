/- How many numbers each place gets, plain: a count more at a number's place. -/
import Derived.Test.YtejjheoimafeoaaJuS
namespace Go.Proofs.Ytejjheoimafeoaa
open Go.RowKit

/-- A number's place. -/
def plcJ (n : Nat) (z : Int) : Nat := (jmp (numJ z) n).toNat
theorem plcJ_lt {n : Nat} (h : 1 ≤ n) (z : Int) : plcJ n z < n := by
  have := jmp_in (x := numJ z) h
  unfold plcJ
  omega
theorem plcJ_int {n : Nat} (h : 1 ≤ n) (z : Int) : jmp (numJ z) n = (plcJ n z : Int) := by
  have := jmp_in (x := numJ z) h
  unfold plcJ
  omega
def stpJ (n : Nat) (acc : List Int) (z : Int) : List Int := acc.set (plcJ n z) (acc.getD (plcJ n z) 0 + 1)
def sprF (n : Nat) (l : List Int) : List Int := l.foldl (stpJ n) (List.replicate n 0)
theorem sprF_take (n : Nat) (l : List Int) (i : Nat) (h : i < l.length) : sprF n (l.take (i + 1)) = stpJ n (sprF n (l.take i)) l[i] := by
  unfold sprF
  rw [List.take_succ_eq_append_getElem h, List.foldl_append]
  rfl
theorem sprF_zero (n : Nat) (l : List Int) : sprF n (l.take 0) = List.replicate n 0 := rfl
theorem stpJ_length (n : Nat) (acc : List Int) (z : Int) : (stpJ n acc z).length = acc.length := by simp [stpJ]
theorem sprF_length (n : Nat) (l : List Int) : (sprF n l).length = n := by
  unfold sprF
  have : ∀ (l acc : List Int), (l.foldl (stpJ n) acc).length = acc.length := fun l => by
    induction l with
    | nil => intro acc; rfl
    | cons z l ih => intro acc; rw [List.foldl_cons, ih, stpJ_length]
  rw [this, List.length_replicate]
theorem stpJ_bd {n m : Nat} {acc : List Int} {z : Int} (h : ∀ i (hi : i < acc.length), 0 ≤ acc[i] ∧ acc[i] ≤ (m : Int)) : ∀ i (hi : i < (stpJ n acc z).length), 0 ≤ (stpJ n acc z)[i] ∧ (stpJ n acc z)[i] ≤ ((m + 1 : Nat) : Int) := by
  intro i hi
  have hi2 : i < acc.length := by rw [stpJ_length] at hi; exact hi
  have hi1 := h i hi2
  have e1 : (stpJ n acc z)[i] = if plcJ n z = i then acc.getD (plcJ n z) 0 + 1 else acc[i] := List.getElem_set _
  rw [e1]
  split
  · rename_i e
    rw [List.getD_eq_getElem?_getD, e, List.getElem?_eq_getElem hi2]
    simp only [Option.getD_some]
    omega
  · omega
theorem sprF_bd (n : Nat) (l : List Int) (i : Nat) (hi : i < (sprF n l).length) : 0 ≤ (sprF n l)[i] ∧ (sprF n l)[i] ≤ (l.length : Int) := by
  have : ∀ (l acc : List Int) (m : Nat), (∀ i (hi : i < acc.length), 0 ≤ acc[i] ∧ acc[i] ≤ (m : Int)) → ∀ i (hi : i < (l.foldl (stpJ n) acc).length), 0 ≤ (l.foldl (stpJ n) acc)[i] ∧ (l.foldl (stpJ n) acc)[i] ≤ ((m + l.length : Nat) : Int) := fun l => by
    induction l with
    | nil => intro acc m h; exact h
    | cons z l ih =>
      intro acc m h i hi
      have := ih (stpJ n acc z) (m + 1) (stpJ_bd h) i hi
      rw [List.length_cons, show m + (l.length + 1) = m + 1 + l.length by omega]
      exact this
  have h2 := this l (List.replicate n 0) 0 (fun i hi => by rw [List.getElem_replicate]; omega) i hi
  rw [Nat.zero_add] at h2
  exact h2
theorem sum_set : ∀ (acc : List Int) (p : Nat), p < acc.length → (acc.set p (acc.getD p 0 + 1)).sum = acc.sum + 1
  | [], p, h => by simp at h
  | a :: acc, 0, h => by simp; omega
  | a :: acc, p + 1, h => by
    have := sum_set acc p (by simpa using h)
    simp at this ⊢
    omega
theorem sprF_sum {n : Nat} (h : 1 ≤ n) (l : List Int) : (sprF n l).sum = (l.length : Int) := by
  have : ∀ (l acc : List Int), acc.length = n → (l.foldl (stpJ n) acc).sum = acc.sum + (l.length : Int) := fun l => by
    induction l with
    | nil => intro acc _; simp
    | cons z l ih =>
      intro acc hl
      rw [List.foldl_cons, ih _ (by rw [stpJ_length, hl])]
      unfold stpJ
      rw [sum_set _ _ (by rw [hl]; exact plcJ_lt h z), List.length_cons]
      omega
  unfold sprF
  have e0 : ∀ n, (List.replicate n (0 : Int)).sum = 0 := fun n => by
    induction n with
    | zero => rfl
    | succ n ih => rw [List.replicate_succ, List.sum_cons, ih]; rfl
  rw [this l _ (List.length_replicate), e0]
  omega
end Go.Proofs.Ytejjheoimafeoaa
