/- Jumps, plain: the places that a number is tried at ascend; among one place more it stays, or goes to the new one. -/
import Derived.Test.YtejjheoimafeoaaPlain
namespace Go.Proofs.Ytejjheoimafeoaa
open Go.RowKit

def jx (x : Nat) : Nat := (x * 2862933555777941757 + 1) % 18446744073709551616
def jj (b x : Nat) : Nat := (b + 1) * 2147483648 / (x / 8589934592 + 1)
theorem jx_lt (x : Nat) : jx x < 18446744073709551616 := Nat.mod_lt _ (by decide)
theorem jj_gt (b : Nat) {x : Nat} (h : x < 18446744073709551616) : b < jj b x := by
  have h1 : x / 8589934592 + 1 ≤ 2147483648 := by
    have : x / 8589934592 < 2147483648 := by
      rw [Nat.div_lt_iff_lt_mul (by decide)]
      exact h
    omega
  have h2 : (b + 1) * 2147483648 / 2147483648 ≤ (b + 1) * 2147483648 / (x / 8589934592 + 1) := Nat.div_le_div_left h1 (by omega)
  rw [Nat.mul_div_cancel _ (by decide)] at h2
  unfold jj
  omega
theorem jj_le (b x : Nat) : jj b x ≤ (b + 1) * 2147483648 := Nat.div_le_self _ _
/-- The loop: f rounds at most. -/
def runJ (n : Nat) : Nat → Nat → Int → Nat → Int
  | 0, _, b, _ => b
  | f + 1, x, b, j => if j < n then runJ n f (jx x) (j : Int) (jj j (jx x)) else b
theorem runJ_end {n : Nat} (f x : Nat) (b : Int) {j : Nat} (h : ¬ j < n) : runJ n f x b j = b := by
  cases f with
  | zero => rfl
  | succ f => rw [runJ, if_neg h]
theorem runJ_step {n f : Nat} (x : Nat) (b : Int) {j : Nat} (h : j < n) (hf : n ≤ j + f) : ∃ g, f = g + 1 ∧ runJ n f x b j = runJ n g (jx x) (j : Int) (jj j (jx x)) ∧ n ≤ jj j (jx x) + g := by
  obtain ⟨g, rfl⟩ : ∃ g, f = g + 1 := ⟨f - 1, by omega⟩
  have := jj_gt j (jx_lt x)
  exact ⟨g, rfl, by rw [runJ, if_pos h], by omega⟩
def jmp (x n : Nat) : Int := runJ n n x (-1) 0
theorem runJ_in {n : Nat} : ∀ (f x : Nat) (b : Int) (j : Nat), -1 ≤ b → b < n → (b = -1 → j < n) → n ≤ j + f → 0 ≤ runJ n f x b j ∧ runJ n f x b j < n
  | 0, x, b, j, h1, h2, h3, h4 => by
    rw [runJ]
    refine ⟨?_, h2⟩
    by_cases e : b = -1
    · have := h3 e; omega
    · omega
  | f + 1, x, b, j, h1, h2, h3, h4 => by
    rw [runJ]
    by_cases h : j < n
    · rw [if_pos h]
      have := jj_gt j (jx_lt x)
      exact runJ_in f _ _ _ (by omega) (by omega) (fun e => by omega) (by omega)
    · rw [if_neg h]
      refine ⟨?_, h2⟩
      by_cases e : b = -1
      · have := h3 e; omega
      · omega
theorem jmp_in {x n : Nat} (h : 1 ≤ n) : 0 ≤ jmp x n ∧ jmp x n < n := runJ_in n x (-1) 0 (by omega) (by omega) (fun _ => by omega) (by omega)
theorem runJ_fuel {n : Nat} : ∀ (f g x : Nat) (b : Int) (j : Nat), n ≤ j + f → n ≤ j + g → runJ n f x b j = runJ n g x b j
  | 0, g, x, b, j, h1, _ => by rw [runJ_end 0 x b (by omega), runJ_end g x b (by omega)]
  | f + 1, g, x, b, j, h1, h2 => by
    by_cases h : j < n
    · obtain ⟨g', rfl, e, h3⟩ := runJ_step x b h h2
      have := jj_gt j (jx_lt x)
      rw [e, runJ, if_pos h]
      exact runJ_fuel f g' _ _ _ (by omega) h3
    · rw [runJ_end _ x b h, runJ_end _ x b h]
theorem runJ_more {n : Nat} : ∀ (f x : Nat) (b : Int) (j : Nat), n + 1 ≤ j + f → runJ (n + 1) f x b j = runJ n f x b j ∨ runJ (n + 1) f x b j = n
  | 0, x, b, j, h => .inl rfl
  | f + 1, x, b, j, h => by
    have hg := jj_gt j (jx_lt x)
    rw [runJ, runJ]
    by_cases h1 : j < n
    · rw [if_pos (by omega), if_pos h1]
      exact runJ_more f _ _ _ (by omega)
    · rw [if_neg h1]
      by_cases h2 : j < n + 1
      · rw [if_pos h2, runJ_end f _ _ (by omega)]
        exact .inr (by omega)
      · rw [if_neg h2]
        exact .inl rfl
/-- Among one place more. -/
theorem jmp_more (x : Nat) {n : Nat} : jmp x (n + 1) = jmp x n ∨ jmp x (n + 1) = n := by
  have h := runJ_more (n := n) (n + 1) x (-1) 0 (by omega)
  have e : runJ n (n + 1) x (-1) 0 = jmp x n := runJ_fuel (n + 1) n x (-1) 0 (by omega) (by omega)
  rw [e] at h
  exact h
theorem jmp_one (x : Nat) : jmp x 1 = 0 := by
  have := jmp_in (x := x) (n := 1) (by omega)
  omega
/-- How many of the numbers have a place. -/
def sprJ (xs : List Nat) (n k : Nat) : Nat := (xs.filter (fun x => jmp x n == (k : Int))).length
theorem sum_spr (xs : List Nat) {n : Nat} (h : 1 ≤ n) : ((List.range n).map (sprJ xs n)).sum = xs.length := by
  induction xs with
  | nil =>
    have : ∀ m, ((List.range m).map (sprJ [] n)).sum = 0 := fun m => by
      induction m with
      | zero => rfl
      | succ m ih => rw [List.range_succ, List.map_append, List.sum_append, ih]; rfl
    exact this n
  | cons x xs ih =>
    obtain ⟨h1, h2⟩ := jmp_in (x := x) h
    obtain ⟨p, hp⟩ : ∃ p : Nat, jmp x n = (p : Int) := ⟨(jmp x n).toNat, by omega⟩
    have key : ∀ m, ((List.range m).map (sprJ (x :: xs) n)).sum = ((List.range m).map (sprJ xs n)).sum + (if p < m then 1 else 0) := fun m => by
      induction m with
      | zero => rfl
      | succ m ihm =>
        rw [List.range_succ, List.map_append, List.sum_append, List.map_append, List.sum_append, ihm]
        have e : sprJ (x :: xs) n m = sprJ xs n m + (if p = m then 1 else 0) := by
          unfold sprJ
          by_cases hpm : p = m
          · rw [List.filter_cons_of_pos (by rw [hp, hpm]; simp), if_pos hpm, List.length_cons]
          · rw [List.filter_cons_of_neg (by rw [hp]; simp; omega), if_neg hpm]
            rfl
        simp only [List.map_cons, List.map_nil, List.sum_cons, List.sum_nil, e]
        split <;> split <;> split <;> omega
    rw [key, ih, if_pos (by omega), List.length_cons]
end Go.Proofs.Ytejjheoimafeoaa
