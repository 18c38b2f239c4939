/- The contract of the model's writer of decimal figures: at every int. -/
import Derived.Test.YtdbajlbabjoohaaDoorProg
import Derived.Test.YtdbajlbabjoohaaDoorKitC
import Derived.Lib.ItoaMem
import Derived.Lib.ItoaLen
namespace Go.Proofs.YtdbajlbabjoohaaDoor
open Go.RowKit

/-- What is left to be written (m) and what is written (acc) of the figures of u. -/
def DecAt (u m : Nat) (acc : List UInt8) : Prop := if 0 < m then Lib.decDigits m ++ acc = Lib.decDigits u else acc = Lib.decDigits u
theorem DecAt.start (u : Nat) (h : 0 < u) : DecAt u u [] := by unfold DecAt; rw [if_pos h]; simp
theorem DecAt.step {u m : Nat} {acc : List UInt8} (h : DecAt u m acc) (hm : 0 < m) : DecAt u (m / 10) (UInt8.ofNat (48 + m % 10) :: acc) := by
  unfold DecAt at h ⊢
  rw [if_pos hm] at h
  rw [← h]
  by_cases c : m < 10
  · rw [if_neg (by omega), Lib.decDigits_one c, show m % 10 = m by omega]; rfl
  · rw [if_pos (by omega)]
    conv => rhs; rw [Lib.decDigits, dif_neg c]
    simp
theorem DecAt.stop {u m : Nat} {acc : List UInt8} (h : DecAt u m acc) (hm : ¬ 0 < m) : acc = Lib.decDigits u := by
  unfold DecAt at h; rw [if_neg hm] at h; exact h
theorem DecAt.len {u m : Nat} {acc : List UInt8} (h : DecAt u m acc) : acc.length ≤ (Lib.decDigits u).length := by
  unfold DecAt at h; split at h
  · rw [← h]; simp
  · rw [h]; exact Nat.le_refl _
theorem dec_len (u : Nat) (hu : u ≤ 9223372036854775808) : (Lib.decDigits u).length ≤ 21 := by
  by_cases c : u = 0
  · subst c; rw [Lib.decDigits_one (by omega)]; decide
  · have := Lib.itoa_length_le (-(u : Int)) (by omega) (by omega)
    rw [Lib.itoa_neg u (by omega)] at this
    simp at this
    omega

end Go.Proofs.YtdbajlbabjoohaaDoor
