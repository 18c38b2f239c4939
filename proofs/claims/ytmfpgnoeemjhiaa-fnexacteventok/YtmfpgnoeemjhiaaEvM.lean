/- Events in memory. -/
import Derived.Test.YtmfpgnoeemjhiaaGrP
import Derived.Test.YtmfpgnoeemjhiaaRowH
import Derived.Test.YtmfpgnoeemjhiaaRowO
namespace Go.Proofs.Ytmfpgnoeemjhiaa
open Go.RowKit
set_option linter.unusedVariables false

def evC (x : Ev) : List Value := [.int .i64 x.k, .int .i64 x.n, .int .i64 x.pl, .int .i64 x.op, .string x.key, .string x.val]
theorem encEv : EncK evC 6 := ⟨fun _ => rfl, fun x u hu => by simp only [evC, List.mem_cons, List.not_mem_nil, or_false] at hu; rcases hu with rfl | rfl | rfl | rfl | rfl | rfl <;> rfl⟩
theorem Try.infoEv : (Try.prog.info? 26).map (fun i => (i.zero, i.size, i.bytes)) = some (some (.agg #[.int .i64 0, .int .i64 0, .int .i64 0, .int .i64 0, .string ⟨#[]⟩, .string ⟨#[]⟩]), 6, 64) := by kernel_rfl
theorem bytes_nil {b : ByteArray} (h : b.toList = []) : b = ⟨#[]⟩ := by
  rw [ByteArray.toList_eq] at h
  obtain ⟨d⟩ := b
  congr 1
  exact Array.toList_eq_nil_iff.1 h
theorem bytes_isE {b : ByteArray} (h : b = ⟨#[]⟩) : b.toList.isEmpty = true ∧ b.toList = [] := by subst h; rw [ByteArray.toList_eq]; exact ⟨rfl, rfl⟩
theorem bytes_isN {b : ByteArray} (h : b ≠ ⟨#[]⟩) : b.toList.isEmpty = false ∧ ¬ b.toList = [] := by cases e : b.toList with | nil => exact absurd (bytes_nil e) h | cons a c => exact ⟨rfl, by simp⟩
end Go.Proofs.Ytmfpgnoeemjhiaa
