/- All two of a row, plain. -/
import Derived.Test.YtcahaimefgkmiaaPlain
namespace Go.Proofs.Ytcahaimefgkmiaa
set_option linter.unusedVariables false

def PrsS {α : Type} (l : List α) (pre : List (α × α)) : Prop := ∀ p ∈ pre, ∃ i, ∃ hi : i < l.length, ∃ k, ∃ hk : k < l.length, i ≠ k ∧ p = (l[i], l[k])
def PrsA {α : Type} (l : List α) (xs : List (α × α)) : Prop := PrsS l xs ∧ ∀ i (hi : i < l.length) k (hk : k < l.length), i ≠ k → (l[i], l[k]) ∈ xs
theorem PrsS.push {α : Type} {l : List α} {pre : List (α × α)} (h : PrsS l pre) {i k : Nat} (hi : i < l.length) (hk : k < l.length) (hne : i ≠ k) : PrsS l (pre ++ [(l[i], l[k])]) := fun p hp => by
  rcases List.mem_append.1 hp with h1 | h1
  · exact h p h1
  · exact ⟨i, hi, k, hk, hne, List.mem_singleton.1 h1⟩
/-- What has come ahead of the place (i, k). -/
structure PrsI {α : Type} (l : List α) (i k : Nat) (pre : List (α × α)) : Prop where
  s : PrsS l pre
  a : ∀ a (ha : a < l.length) b (hb : b < l.length), (a < i ∨ a = i ∧ b < k) → a ≠ b → (l[a], l[b]) ∈ pre
  n : pre.length ≤ i * l.length + k
theorem PrsI.skip {α : Type} {l : List α} {i : Nat} {pre : List (α × α)} (h : PrsI l i i pre) : PrsI l i (i + 1) pre :=
  ⟨h.s, fun a ha b hb hc hne => h.a a ha b hb (by omega) hne, by have := h.n; omega⟩
theorem PrsI.push {α : Type} {l : List α} {i k : Nat} {pre : List (α × α)} (h : PrsI l i k pre) (hi : i < l.length) (hk : k < l.length) (hne : i ≠ k) : PrsI l i (k + 1) (pre ++ [(l[i], l[k])]) :=
  ⟨h.s.push hi hk hne, fun a ha b hb hc hne2 => by
    by_cases e : a = i ∧ b = k
    · obtain ⟨rfl, rfl⟩ := e
      simp
    · exact List.mem_append_left _ (h.a a ha b hb (by omega) hne2), by have := h.n; simp; omega⟩
theorem PrsI.next {α : Type} {l : List α} {i : Nat} {pre : List (α × α)} (h : PrsI l i l.length pre) : PrsI l (i + 1) 0 pre :=
  ⟨h.s, fun a ha b hb hc hne => h.a a ha b hb (by omega) hne, by have := h.n; rw [Nat.add_mul]; omega⟩
theorem PrsI.lt {α : Type} {l : List α} {i k : Nat} {pre : List (α × α)} (h : PrsI l i k pre) (hi : i < l.length) (hk : k < l.length) : pre.length < l.length * l.length := by
  have h1 := h.n
  have h2 : (i + 1) * l.length ≤ l.length * l.length := Nat.mul_le_mul_right _ hi
  rw [Nat.add_mul] at h2
  omega
end Go.Proofs.Ytcahaimefgkmiaa
