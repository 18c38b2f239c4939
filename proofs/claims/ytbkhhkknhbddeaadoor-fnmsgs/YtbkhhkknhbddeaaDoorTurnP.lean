/- Plain facts: what is sealed is unsealed; with one byte turned it is not; a sum goes on. -/
import Derived.Test.YtbkhhkknhbddeaaDoorSumD
namespace Go.Proofs.YtbkhhkknhbddeaaDoor

theorem ba_ext {a b : ByteArray} (h : a.data.toList = b.data.toList) : a = b := by
  cases a; cases b; simp at h; simp [h]
theorem four_inj {x y : Nat} (hx : x < 4294967296) (hy : y < 4294967296) (h : four x = four y) : x = y := by
  unfold four at h
  simp only [List.cons.injEq] at h
  obtain ⟨h1, h2, h3, h4, _⟩ := h
  have e1 := congrArg UInt8.toNat h1
  have e2 := congrArg UInt8.toNat h2
  have e3 := congrArg UInt8.toNat h3
  have e4 := congrArg UInt8.toNat h4
  rw [UInt8.toNat_ofNat', UInt8.toNat_ofNat'] at e1 e2 e3 e4
  omega
theorem sealS_data (s : ByteArray) : (sealS s).data.toList = s.data.toList ++ four (sumOf s) := by
  have := sealS_list s; rwa [ByteArray.toList_eq, ByteArray.toList_eq] at this
theorem len_data (s : ByteArray) : s.data.toList.length = s.size := by simp
theorem inn_data (s : ByteArray) : (inn s).data.toList = s.data.toList.take (s.size - 4) := by
  have := inn_list s; rwa [ByteArray.toList_eq] at this
theorem inn_seal (s : ByteArray) : inn (sealS s) = s := by
  apply ba_ext
  rw [inn_data, sealS_size, sealS_data, Nat.add_sub_cancel, ← len_data s, List.take_left]
theorem unseal_seal (s : ByteArray) (h : s.size ≤ 20000) : unsealV (sealS s) = .tuple #[.string s, .bool true] := by
  unfold unsealV
  rw [if_pos, inn_seal]
  refine ⟨by rw [sealS_size]; omega, by rw [sealS_size]; omega, (sealed_iff _).1 ?_⟩
  rw [inn_seal]
theorem seal_yes (s : ByteArray) (h : s.size ≤ 20000) : sealV s = .tuple #[.string (sealS s), .bool true] := by
  unfold sealV; rw [if_pos h]
/-- One byte turned: it is not unsealed. -/
theorem unseal_turned (s t : ByteArray) (i : Nat) (b : UInt8) (hi : i < (sealS s).size) (hb : (sealS s).data.toList[i]? ≠ some b) (ht : t.data.toList = (sealS s).data.toList.set i b) : unsealV t = .tuple #[.string ⟨#[]⟩, .bool false] := by
  unfold unsealV
  rw [if_neg]
  rintro ⟨h4, _, hsum⟩
  have hts : t.size = s.size + 4 := by rw [← len_data t, ht, List.length_set, len_data, sealS_size]
  have hs := (sealed_iff t).2 hsum
  rw [ByteArray.toList_eq, ByteArray.toList_eq, sealS_data, ht, sealS_data] at hs
  have hul : (inn t).data.toList.length = s.data.toList.length := by rw [len_data, len_data, inn_size, hts]; omega
  have hsl := len_data s
  rw [sealS_data] at hb
  by_cases c : i < s.size
  · rw [List.set_append_left _ _ (by omega)] at hs
    have hh := List.append_inj hs (by rw [hul, List.length_set])
    have hsum2 : sumOf (inn t) = sumOf s := four_inj (sumOf_lt _) (sumOf_lt _) hh.2
    rw [List.getElem?_append_left (by omega)] at hb
    have hsz : (inn t).size = s.size := by rw [inn_size, hts]; omega
    unfold sumOf at hsum2
    rw [hsz] at hsum2
    refine sumK_one (t := byt (inn t)) (u := byt s) (i := i) (by decide) (fun k => by have := byt_le (inn t) k; omega) (fun k => by have := byt_le s k; omega) ?_ ?_ s.size c hsum2
    · intro e
      unfold byt at e
      rw [hh.1, List.getElem?_set_self (by omega), List.getElem?_eq_getElem (by omega)] at e
      rw [List.getElem?_eq_getElem (by omega)] at hb
      simp only [Option.getD_some] at e
      exact hb (by rw [UInt8.toNat_inj.1 e])
    · intro j hj
      unfold byt
      rw [hh.1, List.getElem?_set_ne (fun h => hj h.symm)]
  · rw [List.set_append_right _ _ (by omega)] at hs
    have hh := List.append_inj hs hul
    have he : inn t = s := ba_ext hh.1
    rw [he] at hh
    rw [List.getElem?_append_right (by omega), hh.2, List.getElem?_set_self] at hb
    · exact hb rfl
    · rw [sealS_size] at hi; rw [four_length]; omega
/-- A sum goes on. -/
theorem sum_on (s : ByteArray) : sumK (byt ⟨#[120]⟩) (sumOf s) 1 = sumOf (s ++ ⟨#[120]⟩) := by
  have hd : (s ++ (⟨#[120]⟩ : ByteArray)).data.toList = s.data.toList ++ [120] := by rw [ByteArray.data_append]; simp
  have hz : (s ++ (⟨#[120]⟩ : ByteArray)).size = s.size + 1 := by rw [ByteArray.size_append]; rfl
  unfold sumOf
  rw [hz, sumK, sumK, sumK]
  have e1 : byt (s ++ (⟨#[120]⟩ : ByteArray)) s.size = 120 := by
    unfold byt; rw [hd, ← len_data s, List.getElem?_append_right (Nat.le_refl _)]; simp
  rw [e1, sumK_congr (t := byt (s ++ (⟨#[120]⟩ : ByteArray))) (u := byt s) s.size (fun j hj => by
    unfold byt; rw [hd, List.getElem?_append_left (by rw [len_data]; exact hj)])]
  rfl
/-- A byte turned by a number other than 0 is another. -/
theorem xor_ne {v d : Nat} (hd : d ≠ 0) : v ^^^ d ≠ v := by
  intro h
  have := congrArg (v ^^^ ·) h
  simp only [← Nat.xor_assoc, Nat.xor_self, Nat.zero_xor] at this
  exact hd this
end Go.Proofs.YtbkhhkknhbddeaaDoor
