/- Homes, plain: what is added where it is not there; the spots around by their places. -/
import Derived.Test.YtdgpencendphbaaDoorRiR
namespace Go.Proofs.YtdgpencendphbaaDoor
open Go.RowKit

def addV (out : List Int) (v : Int) : List Int := if v ∈ out then out else out ++ [v]
theorem add_once : ∀ (vs out : List Int), vs.foldl addV out = out ++ onceS out vs
  | [], out => by simp [onceS]
  | v :: vs, out => by
    rw [List.foldl_cons, add_once vs, onceS, addV]
    split
    · rfl
    · rw [List.append_assoc, once_congr (s := out ++ [v]) (t := v :: out) (fun x _ => by simp [or_comm])]
      rfl
/-- Homes so far, behind i spots. -/
def homesI (vs : List Int) (i : Nat) : List Int := (vs.take i).foldl addV []
theorem homesI_zero (vs : List Int) : homesI vs 0 = [] := rfl
theorem homesI_next {vs : List Int} {i : Nat} (h : i < vs.length) : homesI vs (i + 1) = addV (homesI vs i) vs[i] := by
  unfold homesI
  rw [List.take_succ_eq_append_getElem h, List.foldl_append]
  rfl
theorem homesI_all (vs : List Int) : homesI vs vs.length = onceS [] vs := by
  unfold homesI
  rw [List.take_length, add_once]
  rfl
theorem homesI_pre (vs : List Int) (i : Nat) : (onceS [] vs).take (homesI vs i).length = homesI vs i := by
  have e : onceS [] vs = homesI vs i ++ onceS (homesI vs i) (vs.drop i) := by
    have h1 := add_once vs []
    have h2 := add_once (vs.drop i) (homesI vs i)
    have h3 : (vs.drop i).foldl addV (homesI vs i) = vs.foldl addV [] := by
      unfold homesI
      rw [← List.foldl_append, List.take_append_drop]
    rw [← h2, h3, h1]
    rfl
  rw [e, List.take_left]
theorem addV_length (out : List Int) (v : Int) : (addV out v).length ≤ out.length + 1 := by
  unfold addV
  split <;> simp
theorem homesI_length {vs : List Int} {i : Nat} (h : i ≤ vs.length) : (homesI vs i).length ≤ i := by
  induction i with
  | zero => simp [homesI]
  | succ i ih =>
    rw [homesI_next (by omega)]
    have := addV_length (homesI vs i) vs[i]
    have := ih (by omega)
    omega
theorem around_length (l : List Sp) (n : Int) : (aroundS l n).length = l.length := by
  unfold aroundS
  simp
  omega
theorem around_at {l : List Sp} {n : Int} {i : Nat} (hk : fromS l n ≤ l.length) (h : i < l.length) : (aroundS l n)[i]? = l[(fromS l n + i) % l.length]? := by
  unfold aroundS
  generalize fromS l n = k at *
  by_cases c : k + i < l.length
  · rw [List.getElem?_append_left (by simp; omega), List.getElem?_drop, Nat.mod_eq_of_lt c]
  · have e : (k + i) % l.length = k + i - l.length := by
      rw [Nat.mod_eq_sub_mod (by omega), Nat.mod_eq_of_lt (by omega)]
    rw [List.getElem?_append_right (by simp; omega), e, List.getElem?_take_of_lt (by simp; omega)]
    congr 1
    simp
    omega
end Go.Proofs.YtdgpencendphbaaDoor
