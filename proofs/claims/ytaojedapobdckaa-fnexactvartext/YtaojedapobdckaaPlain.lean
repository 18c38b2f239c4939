/- Plain functions and facts on numbers in bytes (seven bits a byte), figures and words; no condition but those stated. -/
import Derived.WalkKit
namespace Go.Proofs.Ytaojedapobdckaa
open Go.RowKit

/-- A number in bytes, seven bits a byte, the lowest first. -/
def varF : Nat → Nat → List UInt8
  | 0, n => [UInt8.ofNat n]
  | f + 1, n => if 127 < n then UInt8.ofNat (n % 128 + 128) :: varF f (n / 128) else [UInt8.ofNat n]

def varB (n : Nat) : List UInt8 := varF 9 n

theorem varF_big (f n : Nat) (h : 127 < n) : varF (f + 1) n = UInt8.ofNat (n % 128 + 128) :: varF f (n / 128) := by
  rw [varF, if_pos h]
theorem varF_small (f n : Nat) (h : n ≤ 127) : varF f n = [UInt8.ofNat n] := by
  cases f with
  | zero => rfl
  | succ f => rw [varF, if_neg (by omega)]
theorem varF_length (f n : Nat) : (varF f n).length ≤ f + 1 := by
  induction f generalizing n with
  | zero => simp [varF]
  | succ f ih => rw [varF]; split <;> simp [ih]
theorem varB_length (n : Nat) : (varB n).length ≤ 10 := varF_length 9 n

/-- What a writer has gathered ('acc') and what is left (m, in at most f + 1 bytes). -/
structure VarAt (n f m : Nat) (acc : List UInt8) : Prop where
  bd : m < 128 ^ (f + 1)
  eq : acc ++ varF f m = varB n
  le : f ≤ 9
theorem VarAt.start (n : Nat) (h : n ≤ 9223372036854775807) : VarAt n 9 n [] := ⟨by omega, rfl, Nat.le_refl _⟩
theorem VarAt.len {n f m : Nat} {acc : List UInt8} (h : VarAt n f m acc) : acc.length < 10 := by
  have := varB_length n
  rw [← h.eq, List.length_append] at this
  have : (varF f m).length ≠ 0 := by cases f <;> simp [varF]; split <;> simp
  omega
theorem VarAt.step {n f m : Nat} {acc : List UInt8} (h : VarAt n f m acc) (hm : 127 < m) : ∃ g, VarAt n g (m / 128) (acc ++ [UInt8.ofNat (m % 128 + 128)]) := by
  cases f with
  | zero => have := h.bd; omega
  | succ f =>
    refine ⟨f, ?_, ?_, by have := h.le; omega⟩
    · have := h.bd
      rw [Nat.pow_succ] at this
      omega
    · rw [← h.eq, varF_big f m hm]; simp
theorem VarAt.stop {n f m : Nat} {acc : List UInt8} (h : VarAt n f m acc) (hm : m ≤ 127) : acc ++ [UInt8.ofNat m] = varB n := by
  rw [← h.eq, varF_small f m hm]
end Go.Proofs.Ytaojedapobdckaa
