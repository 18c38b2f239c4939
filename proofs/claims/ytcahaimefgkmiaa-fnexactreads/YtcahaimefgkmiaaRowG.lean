/- Rows of elements of several cells, whatever they are: read, written, owned. -/
import Derived.Test.YtcahaimefgkmiaaGenB
namespace Go.Proofs.Ytcahaimefgkmiaa
open Go.RowKit
set_option linter.unusedVariables false

/-- Values laid one behind another. -/
def setL (xs : List Value) (m : Nat) : List Value → List Value
  | [] => xs
  | v :: vs => setL (xs.set m v) (m + 1) vs
theorem setL_length : ∀ (vs xs : List Value) (m : Nat), (setL xs m vs).length = xs.length
  | [], _, _ => rfl
  | v :: vs, xs, m => by rw [setL, setL_length vs]; simp
theorem setL_eq : ∀ (vs xs : List Value) (m : Nat), m + vs.length ≤ xs.length → setL xs m vs = xs.take m ++ vs ++ xs.drop (m + vs.length)
  | [], xs, m, _ => by simp [setL]
  | v :: vs, xs, m, h => by
    have hl : m < xs.length := by simp at h; omega
    rw [setL, setL_eq vs _ _ (by simp at h ⊢; omega)]
    have e1 : (xs.set m v).take (m + 1) = xs.take m ++ [v] := by
      rw [List.take_succ_eq_append_getElem (by simpa using hl), List.getElem_set_self, List.take_set_of_le (Nat.le_refl _)]
    have e2 : (xs.set m v).drop (m + 1 + vs.length) = xs.drop (m + (v :: vs).length) := by
      rw [List.drop_set_of_lt (by omega), List.length_cons]
      congr 1
      omega
    rw [e1, e2]
    simp [List.append_assoc]
section
variable {α : Type} (enc : α → List Value) (k : Nat)
/-- The cells of a row. -/
def rowG (l : List α) : List Value := l.flatMap enc
variable (hk : ∀ x, (enc x).length = k)
include hk
theorem rowG_length (l : List α) : (rowG enc l).length = l.length * k := by
  induction l with
  | nil => simp [rowG]
  | cons s l ih => rw [rowG, List.flatMap_cons, List.length_append, hk, ← rowG, ih, List.length_cons, Nat.add_mul]; omega
theorem rowG_at : ∀ (l : List α) (i j : Nat) (hi : i < l.length), j < k → (rowG enc l)[i * k + j]? = (enc l[i])[j]?
  | s :: l, 0, j, _, hj => by
    rw [rowG, List.flatMap_cons, Nat.zero_mul, Nat.zero_add, List.getElem?_append_left (by rw [hk]; exact hj)]
    rfl
  | s :: l, i + 1, j, hi, hj => by
    have e : (i + 1) * k + j = k + (i * k + j) := by rw [Nat.add_mul]; omega
    rw [rowG, List.flatMap_cons, e, List.getElem?_append_right (by rw [hk]; omega), hk, Nat.add_sub_cancel_left, ← rowG, rowG_at l i j (by simpa using hi) hj]
    rfl
theorem rowG_set : ∀ (l : List α) (i : Nat) (s : α), i < l.length → rowG enc (l.set i s) = setL (rowG enc l) (i * k) (enc s)
  | t :: l, 0, s, _ => by
    rw [setL_eq _ _ _ (by rw [rowG_length enc k hk, hk, List.length_cons, Nat.add_mul]; omega), Nat.zero_mul, hk]
    simp only [List.set_cons_zero, rowG, List.flatMap_cons, List.take_zero, List.nil_append, Nat.zero_add]
    rw [List.drop_append_of_le_length (by rw [hk]; omega), List.drop_eq_nil_of_le (by rw [hk]; omega), List.nil_append]
  | t :: l, i + 1, s, hi => by
    have hi' : i < l.length := by simpa using hi
    have hb : (i + 1) * k ≤ l.length * k := Nat.mul_le_mul_right k hi'
    have e0 : (i + 1) * k = k + i * k := by rw [Nat.add_mul]; omega
    have ih := rowG_set l i s hi'
    rw [setL_eq _ _ _ (by rw [rowG_length enc k hk, hk]; omega), hk] at ih
    rw [setL_eq _ _ _ (by rw [rowG_length enc k hk, hk, List.length_cons, Nat.add_mul l.length]; omega), hk, List.set_cons_succ]
    have u : ∀ l : List α, rowG enc (t :: l) = enc t ++ rowG enc l := fun l => rfl
    have t1 : (enc t).take (k + i * k) = enc t := List.take_of_length_le (by rw [hk]; omega)
    have d1 : (enc t).drop (k + i * k + k) = [] := List.drop_eq_nil_of_le (by rw [hk]; omega)
    have k1 : k + i * k - k = i * k := by omega
    have k2 : k + i * k + k - k = i * k + k := by omega
    rw [u, u, ih, e0, List.take_append, List.drop_append, hk, t1, d1, k1, k2, List.nil_append]
    simp [List.append_assoc]
omit hk in
theorem fillG (l : List α) (z s : α) (i : Nat) (hi : i < l.length) (hs : l[i] = s) : (l.take i ++ List.replicate (l.length - i) z).set i s = l.take (i + 1) ++ List.replicate (l.length - (i + 1)) z := by
  have hl : (l.take i).length = i := by simp; omega
  rw [List.set_append_right _ _ (by omega), hl, Nat.sub_self, show l.length - i = (l.length - (i + 1)) + 1 by omega, List.replicate_succ, List.set_cons_zero, List.take_succ_eq_append_getElem hi, hs, List.append_assoc]
  rfl
/-- Cells stored one behind another. -/
def _root_.Go.Proofs.Ytcahaimefgkmiaa.putG (w : World) (g m : Nat) : List Value → World
  | [] => w
  | v :: vs => putG (w.setCell ⟨g, m, none⟩ v) g (m + 1) vs
end
theorem own_putG : ∀ (vs : List Value) {w : World} {base n g cap size : Nat} {e : TypeId} {xs : List Value} (m : Nat), w.ownsRow base e size (.slice (some ⟨g, 0, none⟩) n cap) n xs → (putG w g m vs).ownsRow base e size (.slice (some ⟨g, 0, none⟩) n cap) n (setL xs m vs)
  | [], _, _, _, _, _, _, _, _, _, h => h
  | v :: vs, w, base, n, g, cap, size, e, xs, m, h => own_putG vs (m + 1) (World.ownsRow.stored h m v).1
theorem below_putG : ∀ (vs : List Value) {B g : Nat} {w w' : World} (m : Nat), Below B w w' → B ≤ g → Below B w (putG w' g m vs)
  | [], _, _, _, _, _, h, _ => h
  | v :: vs, B, g, w, w', m, h, hg => below_putG vs (m + 1) (h.setCell (p := ⟨g, m, none⟩) hg v) hg
section
variable {α : Type} (enc : α → List Value) (k : Nat)
/-- A row that reads as these elements, from any place on. -/
def RdG (w : World) (a : Option Addr) (l : List α) : Prop := ∀ i (h : i < l.length), ∃ b o, a = some ⟨b, o, none⟩ ∧ b < w.heap.size ∧ ∀ j, j < k → w.cell? ⟨b, o + i * k + j, none⟩ = (enc l[i])[j]?
variable {enc k}
theorem RdG.later {w w' : World} {a : Option Addr} {l : List α} (h : RdG enc k w a l) (hb : Below w.heap.size w w') : RdG enc k w' a l := by
  intro i hi
  obtain ⟨b, o, ha, hg, hc⟩ := h i hi
  exact ⟨b, o, ha, Nat.lt_of_lt_of_le hg hb.size, fun j hj => (hb.cell (p := ⟨b, o + i * k + j, none⟩) hg).trans (hc j hj)⟩
theorem RdG.below {w w' : World} {a : Option Addr} {l : List α} {B : Nat} (h : RdG enc k w a l) (hb : Below B w w') (hB : ∀ b f, a = some ⟨b, f, none⟩ → l ≠ [] → b < B) : RdG enc k w' a l := by
  intro i hi
  obtain ⟨b, o, ha, hg, hc⟩ := h i hi
  exact ⟨b, o, ha, Nat.lt_of_lt_of_le hg hb.size, fun j hj => (hb.cell (p := ⟨b, o + i * k + j, none⟩) (hB b o ha (fun e => by subst e; simp at hi))).trans (hc j hj)⟩
theorem RdG.nil (w : World) (a : Option Addr) : RdG enc k w a [] := fun i hi => by simp at hi
theorem rdG_of_own (hk : ∀ x, (enc x).length = k) {w : World} {base ca n : Nat} {e : TypeId} {ao : Option Addr} {l : List α} (h : w.ownsRow base e k (.slice ao n ca) n (rowG enc l)) (hn : l.length = n) : RdG enc k w ao l := by
  intro i hi
  rcases h.2 with ⟨hv, h0⟩ | ⟨g, cap, cur, hv, _, hh, _⟩
  · omega
  · injection hv with h1 h2 h3
    subst h1
    refine ⟨g, 0, rfl, (Array.getElem?_eq_some_iff.1 hh).1, fun j hj => ?_⟩
    have hb : i * k + j < l.length * k := by
      have := Nat.mul_le_mul_right k (Nat.succ_le_of_lt hi)
      rw [Nat.succ_mul] at this
      omega
    rw [Nat.zero_add, h.cellAt (i * k + j) (by rw [← hn]; exact hb)]
    exact rowG_at enc k hk l i j hi hj
end
end Go.Proofs.Ytcahaimefgkmiaa
