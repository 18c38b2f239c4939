/- Texts sorted, plain. -/
import Derived.Test.YtenmpciimocggaaGreatXL
import Derived.Sort.Walk0
namespace Go.Proofs.YtenmpciimocggaaGreat
open Go.RowKit

def unB (l : List UInt8) : ByteArray := ⟨l.toArray⟩
theorem unB_of (x : ByteArray) : unB x.data.toList = x := by cases x; simp [unB]
theorem of_unB (l : List UInt8) : (unB l).data.toList = l := by simp [unB]
/-- The sorted list, as texts. -/
def srtB (L : List ByteArray) : List ByteArray := ((L.map (·.data.toList)).mergeSort (fun x y => decide (x ≤ y))).map unB
theorem srtB_bytes (L : List ByteArray) : (srtB L).map (·.data.toList) = (L.map (·.data.toList)).mergeSort (fun x y => decide (x ≤ y)) := by
  unfold srtB
  rw [List.map_map]
  conv => rhs; rw [← List.map_id ((L.map (·.data.toList)).mergeSort (fun x y => decide (x ≤ y)))]
  exact List.map_congr_left (fun x _ => of_unB x)
theorem srtB_perm (L : List ByteArray) : (srtB L).Perm L := by
  unfold srtB
  have h := (List.mergeSort_perm (L.map (·.data.toList)) (fun x y => decide (x ≤ y))).map unB
  rw [List.map_map] at h
  have e : L.map (unB ∘ fun x => x.data.toList) = L := by
    conv => rhs; rw [← List.map_id L]
    exact List.map_congr_left (fun x _ => unB_of x)
  rw [e] at h
  exact h
theorem srtB_length (L : List ByteArray) : (srtB L).length = L.length := (srtB_perm L).length_eq
theorem srtB_asc {L : List ByteArray} (hn : L.Nodup) : (srtB L).Pairwise (fun x y => kLt x y = true) := by
  have h1 : ((L.map (·.data.toList)).mergeSort (fun x y => decide (x ≤ y))).Pairwise (fun x y => decide (x ≤ y) = true) :=
    List.pairwise_mergeSort (fun a b c h1 h2 => by simp only [decide_eq_true_eq] at *; exact List.le_trans h1 h2) (fun a b => by simp only [Bool.or_eq_true, decide_eq_true_eq]; exact List.le_total a b) _
  rw [← srtB_bytes, List.pairwise_map] at h1
  have h2 : (srtB L).Pairwise (· ≠ ·) := (srtB_perm L).nodup_iff.2 hn
  refine (h1.and h2).imp ?_
  rintro x y ⟨h, hne⟩
  have h := of_decide_eq_true h
  have e : kLt y x = false := by
    unfold kLt
    rw [bytesLess_eq, ByteArray.toList_eq, ByteArray.toList_eq]
    exact decide_eq_false h
  cases e2 : kLt x y with
  | true => rfl
  | false => exact absurd (kLt_tri e2 e) hne
end Go.Proofs.YtenmpciimocggaaGreat
