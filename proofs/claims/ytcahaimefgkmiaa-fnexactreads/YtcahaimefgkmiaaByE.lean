/- Empty texts. -/
import Derived.Test.YtcahaimefgkmiaaPlain
namespace Go.Proofs.Ytcahaimefgkmiaa
open Go.RowKit

theorem bytes_nil {b : ByteArray} (h : b.toList = []) : b = ⟨#[]⟩ := by
  rw [ByteArray.toList_eq] at h
  obtain ⟨d⟩ := b
  congr 1
  exact Array.toList_eq_nil_iff.1 h
theorem bytes_isE {b : ByteArray} (h : b = ⟨#[]⟩) : b.toList.isEmpty = true ∧ b.toList = [] := by subst h; rw [ByteArray.toList_eq]; exact ⟨rfl, rfl⟩
theorem bytes_isN {b : ByteArray} (h : b ≠ ⟨#[]⟩) : b.toList.isEmpty = false ∧ ¬ b.toList = [] := by cases e : b.toList with | nil => exact absurd (bytes_nil e) h | cons a c => exact ⟨rfl, by simp⟩
end Go.Proofs.Ytcahaimefgkmiaa
