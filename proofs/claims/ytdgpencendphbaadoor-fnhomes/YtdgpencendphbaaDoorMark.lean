/- The contracts of the functions of the statements that compare and mark lists of texts: whatever rows they are handed. -/
import Derived.Test.YtdgpencendphbaaDoorProg
import Derived.Test.YtdgpencendphbaaDoorKitC
import Derived.Test.YtdgpencendphbaaDoorPlain
import Derived.Deep.RegionHeld3
import Derived.Deep.QuietTactic
import Derived.BigQuiet
namespace Go.Proofs.YtdgpencendphbaaDoor
open Go.RowKit

/-- The decimal figures of a number, the highest first. -/
def decF : Nat → Nat → List UInt8 → List UInt8
  | 0, _, acc => acc
  | f + 1, n, acc => if 0 < n then decF f (n / 10) (UInt8.ofNat (48 + n % 10) :: acc) else acc
/-- The text of a mark. -/
def mkT (k : Nat) : ByteArray := ⟨#[109]⟩ ++ ⟨(decF 20 k []).toArray⟩

structure MkAt (n f m : Nat) (acc : List UInt8) : Prop where
  bd : m < 10 ^ f
  eq : decF f m acc = decF 20 n []
  len : acc.length + f = 20
theorem MkAt.start (n : Nat) (h : n ≤ 9223372036854775807) : MkAt n 20 n [] := ⟨by omega, rfl, rfl⟩
theorem MkAt.step {n f m : Nat} {acc : List UInt8} (h : MkAt n f m acc) (hm : 0 < m) : ∃ g, MkAt n g (m / 10) (UInt8.ofNat (48 + m % 10) :: acc) := by
  cases f with
  | zero => have := h.bd; omega
  | succ f =>
    refine ⟨f, ?_, ?_, ?_⟩
    · have := h.bd; rw [Nat.pow_succ] at this; omega
    · rw [← h.eq, decF, if_pos hm]
    · have := h.len; simp; omega
theorem MkAt.stop {n f m : Nat} {acc : List UInt8} (h : MkAt n f m acc) (hm : ¬ 0 < m) : acc = decF 20 n [] := by
  rw [← h.eq]
  cases f with
  | zero => rfl
  | succ f => rw [decF, if_neg hm]

end Go.Proofs.YtdgpencendphbaaDoor
