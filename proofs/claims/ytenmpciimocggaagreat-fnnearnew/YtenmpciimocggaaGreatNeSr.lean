/- Texts sorted in place, by the library's function. -/
import Derived.Test.YtenmpciimocggaaGreatNeSo
import Derived.Test.YtenmpciimocggaaGreatSls
import Derived.Test.YtenmpciimocggaaGreatXQI
namespace Go.Proofs.YtenmpciimocggaaGreat
open Go.RowKit Go.Shelf
open Go.Sort (Holds putRow)

theorem holdsQ {w : World} {base blk cap : Nat} {L : List ByteArray} (h : OwnQ w base (some ⟨blk, 0, none⟩) cap L) : Holds encStr w blk 0 (L.map (·.data.toList)).toArray := by
  intro j hj
  have hj' : j < L.length := by simpa using hj
  refine ⟨?_, World.ownsRow.frozenAt h _⟩
  rw [Nat.zero_add, World.ownsRow.cellAt h j (by omega), getElem!_pos _ j hj]
  simp [sc, hj']
theorem sortQ_any (L : List ByteArray) (base blk cap : Nat) (w : World) (h : OwnQ w base (some ⟨blk, 0, none⟩) cap L) (hl : L.length ≤ 1048576) :
    Calls Tryz.prog 43 #[.slice (some ⟨blk, 0, none⟩) L.length cap] w fun e w' => e = .returned (.tuple #[]) ∧ RdQ w' (some ⟨blk, 0, none⟩) (srtB L) ∧ Below base w w' := by
  have hb := h.lt blk rfl
  have hH := holdsQ h
  have hcon := Any.slices_Sort_string sortS blk 0 cap (L.map (·.data.toList)) w hH hb.2 (by simp; omega)
  change Calls Tryz.prog 43 _ _ _ at hcon
  rw [List.length_map] at hcon
  refine hcon.mono ?_
  rintro e w' ⟨rfl, n, os, rfl⟩
  rw [← srtB_bytes]
  have hH2 := Go.Sort.holds_putRow encStr (Go.Sort.ahead w n) blk 0 _ ((srtB L).map (·.data.toList)).toArray hH (by simp [srtB_length])
  refine ⟨rfl, ?_, ?_⟩
  · intro j hj
    refine ⟨blk, 0, rfl, ?_, ?_⟩
    · have := Go.Sort.size_grow (putRow encStr (Go.Sort.ahead w n) blk 0 ((srtB L).map (·.data.toList)).toArray) os
      rw [Go.Sort.size_putRow] at this
      have h2 : (Go.Sort.ahead w n).heap.size = w.heap.size := rfl
      omega
    · have := (hH2 j (by simpa using hj)).1
      rw [getElem!_pos _ j (by simpa using hj)] at this
      rw [Go.Sort.cell?_grow _ _ _ (by rw [Go.Sort.size_putRow]; exact hb.2), this]
      simp
  · refine ⟨rfl, rfl, rfl, ?_, fun k hk => ?_⟩
    · have := Go.Sort.size_grow (putRow encStr (Go.Sort.ahead w n) blk 0 ((srtB L).map (·.data.toList)).toArray) os
      rw [Go.Sort.size_putRow] at this
      have h2 : (Go.Sort.ahead w n).heap.size = w.heap.size := rfl
      omega
    · unfold putRow Go.Sort.mapBlock Go.Sort.grow Go.Sort.ahead
      simp only []
      rw [Array.getElem?_append_left (by simp; omega), Array.getElem?_modify, if_neg (by omega)]
end Go.Proofs.YtenmpciimocggaaGreat
