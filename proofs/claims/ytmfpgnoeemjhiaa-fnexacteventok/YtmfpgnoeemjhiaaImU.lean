/- Items, plain: where an item is put, found by going along. -/
import Derived.Test.YtmfpgnoeemjhiaaImT
namespace Go.Proofs.Ytmfpgnoeemjhiaa
open Go.RowKit
set_option linter.unusedVariables false

/-- All ahead of i have lesser keys. -/
def lessTo (l : List Im) (k : ByteArray) (i : Nat) : Prop := ∀ j (h : j < l.length), j < i → tLt l[j].k k = true
theorem lessTo_next {l : List Im} {k : ByteArray} {i : Nat} (h : lessTo l k i) (hi : i < l.length) (h2 : tLt l[i].k k = true) : lessTo l k (i + 1) := fun j hj hlt => by
  by_cases c : j < i
  · exact h j hj c
  · have : j = i := by omega
    subst this
    exact h2
theorem asc_lt {l : List Im} (ha : ascI l) {i j : Nat} (hi : i < l.length) (hj : j < l.length) (h : i < j) : tLt l[i].k l[j].k = true := by
  unfold ascI at ha
  rw [List.pairwise_iff_getElem] at ha
  exact ha i j hi hj h
theorem fil_take {l : List Im} {p : Im → Bool} {i : Nat} (h : ∀ j (hj : j < l.length), j < i → p l[j] = true) : (l.take i).filter p = l.take i := List.filter_eq_self.2 (fun y hy => by
  obtain ⟨j, hj, rfl⟩ := List.getElem_of_mem hy
  rw [List.length_take] at hj
  rw [List.getElem_take]
  exact h j (by omega) (by omega))
theorem fil_takeN {l : List Im} {p : Im → Bool} {i : Nat} (h : ∀ j (hj : j < l.length), j < i → p l[j] = false) : (l.take i).filter p = [] := List.filter_eq_nil_iff.2 (fun y hy => by
  obtain ⟨j, hj, rfl⟩ := List.getElem_of_mem hy
  rw [List.length_take] at hj
  rw [List.getElem_take, h j (by omega) (by omega)]
  simp)
theorem fil_drop {l : List Im} {p : Im → Bool} {i : Nat} (h : ∀ j (hj : j < l.length), i ≤ j → p l[j] = true) : (l.drop i).filter p = l.drop i := List.filter_eq_self.2 (fun y hy => by
  obtain ⟨j, hj, rfl⟩ := List.getElem_of_mem hy
  rw [List.length_drop] at hj
  rw [List.getElem_drop]
  exact h (i + j) (by omega) (by omega))
theorem fil_dropN {l : List Im} {p : Im → Bool} {i : Nat} (h : ∀ j (hj : j < l.length), i ≤ j → p l[j] = false) : (l.drop i).filter p = [] := List.filter_eq_nil_iff.2 (fun y hy => by
  obtain ⟨j, hj, rfl⟩ := List.getElem_of_mem hy
  rw [List.length_drop] at hj
  rw [List.getElem_drop, h (i + j) (by omega) (by omega)]
  simp)
theorem fil_part {l : List Im} (p : Im → Bool) (i : Nat) : l.filter p = (l.take i).filter p ++ (l.drop i).filter p := by
  rw [← List.filter_append, List.take_append_drop]
/-- A key that is not there: it goes ahead of the first one that is greater. -/
theorem ins_new {l : List Im} {x : Im} {i : Nat} (ha : ascI l) (hi : i ≤ l.length) (h1 : lessTo l x.k i) (h2 : ∀ (h : i < l.length), tLt x.k l[i].k = true) : insI l x = l.take i ++ x :: l.drop i ∧ newI l x = false := by
  have hg : ∀ j (hj : j < l.length), i ≤ j → tLt x.k l[j].k = true := fun j hj hij => by
    by_cases c : i = j
    · subst c; exact h2 hj
    · exact tLt_trans (h2 (by omega)) (asc_lt ha (by omega) hj (by omega))
  constructor
  · unfold insI
    rw [fil_part (fun y => tLt y.k x.k) i, fil_part (fun y => tLt x.k y.k) i, fil_take (fun j hj hji => h1 j hj hji), fil_dropN (fun j hj hij => tLt_asym (hg j hj hij)), fil_takeN (fun j hj hji => tLt_asym (h1 j hj hji)), fil_drop hg, List.append_nil, List.nil_append]
  · refine oldTo_all (fun j hj _ => fun e => ?_)
    by_cases c : j < i
    · exact tLt_ne (h1 j hj c) e.1
    · exact tLt_ne (hg j hj (by omega)) e.1.symm
/-- A key that is there: its item is the new one. -/
theorem ins_old {l : List Im} {x : Im} {i : Nat} (ha : ascI l) (hi : i < l.length) (h1 : lessTo l x.k i) (h2 : l[i].k = x.k) : insI l x = l.set i x ∧ newI l x = decide (x.n ≤ l[i].n) := by
  have hg : ∀ j (hj : j < l.length), i + 1 ≤ j → tLt x.k l[j].k = true := fun j hj hij => by
    rw [← h2]; exact asc_lt ha hi hj (by omega)
  constructor
  · unfold insI
    have e1 : (l.drop i).filter (fun y => tLt y.k x.k) = [] := fil_dropN (fun j hj hij => by
      by_cases c : i = j
      · subst c; show tLt l[i].k x.k = false; rw [h2]; exact tLt_irr _
      · exact tLt_asym (hg j hj (by omega)))
    have e2 : (l.take (i + 1)).filter (fun y => tLt x.k y.k) = [] := fil_takeN (fun j hj hji => by
      by_cases c : i = j
      · subst c; show tLt x.k l[i].k = false; rw [h2]; exact tLt_irr _
      · exact tLt_asym (h1 j hj (by omega)))
    rw [fil_part (fun y => tLt y.k x.k) i, fil_part (fun y => tLt x.k y.k) (i + 1), fil_take (fun j hj hji => h1 j hj hji), e1, e2, fil_drop hg, List.append_nil, List.nil_append, List.set_eq_take_append_cons_drop, if_pos hi]
  · by_cases c : x.n ≤ l[i].n
    · rw [decide_eq_true c]
      exact newI_at hi ⟨h2, c⟩
    · rw [decide_eq_false c]
      refine oldTo_all (fun j hj _ => fun e => ?_)
      by_cases d : j = i
      · subst d; exact c e.2
      · by_cases d2 : j < i
        · exact tLt_ne (h1 j hj d2) e.1
        · exact tLt_ne (hg j hj (by omega)) e.1.symm
end Go.Proofs.Ytmfpgnoeemjhiaa
