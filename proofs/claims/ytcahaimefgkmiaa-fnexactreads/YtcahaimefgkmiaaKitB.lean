/- Small facts on pieces of texts; no condition but those stated. -/
import Derived.Test.YtcahaimefgkmiaaKit
namespace Go.Proofs.Ytcahaimefgkmiaa
open Go.RowKit

/-- 's[i:j]' of a text, by its bytes. -/
theorem slice_str {P : Program} (t : TypeId) (h : P.underlying t = some .string) (s : ByteArray) (i j : Nat) (a b : Int) (ha : a = (i : Int)) (hb : b = (j : Int)) (hij : i ≤ j) (hj : j ≤ s.size) :
    ∃ y : ByteArray, Hid (y.toList = (s.data.toList.drop i).take (j - i)) ∧ Hid (y.size = j - i) ∧ ∀ w, (Instr.slice t (.string s) (some (.int .i64 a)) (some (.int .i64 b)) none).run P w = .ok (.string y) w := by
  subst ha hb
  refine ⟨s.extract i j, ?_, ?_, fun w => ?_⟩
  · show (s.extract i j).toList = _
    rw [ByteArray.toList_eq, ByteArray.data_extract]
    simp [List.take_drop]
  · show (s.extract i j).size = _
    rw [ByteArray.size_extract]
    omega
  · rw [run_slice_string_if w t s .i64 .i64 i j h, if_pos (by omega), if_pos (by omega), Int.toNat_natCast, Int.toNat_natCast]
end Go.Proofs.Ytcahaimefgkmiaa
