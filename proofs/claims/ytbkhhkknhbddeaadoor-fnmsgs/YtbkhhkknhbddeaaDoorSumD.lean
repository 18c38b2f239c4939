/- The contracts of the functions that seal and unseal a text: at every text, the program's table being as its text lays it. -/
import Derived.Test.YtbkhhkknhbddeaaDoorSumC
import Derived.Test.YtbkhhkknhbddeaaDoorKitB
import Derived.Deep.RegionHeld3
import Derived.Deep.RegionWith
import Derived.Deep.QuietTactic
import Derived.BigQuiet
namespace Go.Proofs.YtbkhhkknhbddeaaDoor
open Go.RowKit

/-- '[]byte(s)', and 'string(..)' of it. -/
theorem conv_back1 {P : Program} (w : World) (src dst e : TypeId) (s : ByteArray) (hs : P.underlying src = some .string) (hd : P.underlying dst = some (.slice e)) (he : P.underlying e = some (.int .u8)) :
    ∃ v w1, (convert src dst (.string s)).run P w = .ok v w1 ∧ (convert dst src v).run P w1 = .ok (.string s) w1 ∧ Below w.heap.size w w1 := by
  refine ⟨_, _, run_bytes_of_string w src dst e s hs hd he, ?_, (Below.refl _ _).drew.alloc (Nat.le_refl _) _⟩
  have hl : s.size = s.data.toList.length := by simp
  rw [hl, run_convert_bytes_back _ dst src e ⟨w.heap.size, 0, none⟩ _ s.data.toList hd he hs]
  intro j hj
  have hj' : j < s.data.size := by simpa using hj
  rw [Addr.add_lit, Nat.zero_add]
  have := World.cell?_alloc_mark w.drew (bytesRow s (grownCap w s.size 0 e)) e ((bytesRow s (grownCap w s.size 0 e)).size, (bytesRow s (grownCap w s.size 0 e)).size + 1) j
  rw [bytesRow_at s _ j hj'] at this
  rw [← hl]
  simpa using this

theorem newText1_any (s : ByteArray) (w : World) : Calls Tryd.prog 56 #[.string s] w fun e w' => e = .returned (.string s) ∧ Below w.heap.size w w' := by
  obtain ⟨v, w1, r1, r2, hb⟩ := conv_back1 (P := Tryd.prog) w 9 22 5 s Tryd.underlying9 Tryd.underlying22 Tryd.underlying5
  go_enter Tryd.func56, Tryd.ntmps56
  go_wp2
  go_ret
  exact ⟨rfl, hb⟩

/-- A text and its sum behind it. -/
def sealS (s : ByteArray) : ByteArray := s ++ ⟨(four (sumOf s)).toArray⟩
def sealV (s : ByteArray) : Value := if s.size ≤ 20000 then .tuple #[.string (sealS s), .bool true] else .tuple #[.string ⟨#[]⟩, .bool false]
theorem four_length (x : Nat) : (four x).length = 4 := rfl
theorem sealS_size (s : ByteArray) : (sealS s).size = s.size + 4 := by unfold sealS; rw [ByteArray.size_append]; rfl

theorem implSealed_any (s : ByteArray) (hs : s.size ≤ 2097152) (w : World) (ht : Tabs w) :
    Calls Tryd.prog 26 #[.string s] w fun e w' => e = .returned (sealV s) ∧ Below w.heap.size w w' := by
  unfold sealV
  by_cases h : s.size ≤ 20000
  · rw [if_pos h]
    have cc := implSumOf_any s hs w ht
    have hl := sumOf_lt s
    unfold sealS
    generalize sumOf s = x at cc hl ⊢
    have CC := hide1 cc
    have c2 := fun w => inBytes_any x hl w
    obtain ⟨z, hz⟩ : ∃ z : ByteArray, z = ⟨(four x).toArray⟩ := ⟨_, rfl⟩
    rw [← hz] at c2 ⊢
    have hzs : z.size = 4 := by rw [hz]; rfl
    have C2 := hide1 c2
    clear ht cc c2 hz
    go_enter Tryd.func26, Tryd.ntmps26
    go_wp2_with fail
    refine CC.out.mono ?_
    rintro e w1 ⟨rfl, rfl⟩
    go_wp2_with fail
    refine (C2.out _).mono ?_
    rintro e w1 ⟨rfl, hb1⟩
    go_wp2
    go_ret2
    exact ⟨rfl, hb1⟩
  · rw [if_neg h]
    clear ht
    go_enter Tryd.func26, Tryd.ntmps26
    go_wp2
    go_ret2
    exact ⟨rfl, Below.refl _ _⟩

theorem specSealed_any (s : ByteArray) (hs : s.size ≤ 2097152) (w : World) :
    Calls Tryd.prog 37 #[.string s] w fun e w' => e = .returned (sealV s) ∧ Below w.heap.size w w' := by
  unfold sealV
  by_cases h : s.size ≤ 20000
  · rw [if_pos h]
    have cc := specSumOf_any s hs w
    have hl := sumOf_lt s
    unfold sealS
    generalize sumOf s = x at cc hl ⊢
    have CC := hide1 cc
    have c2 := fun w => four_any x hl w
    obtain ⟨z, hz⟩ : ∃ z : ByteArray, z = ⟨(four x).toArray⟩ := ⟨_, rfl⟩
    rw [← hz] at c2 ⊢
    have hzs : z.size = 4 := by rw [hz]; rfl
    have C2 := hide1 c2
    clear cc c2 hz
    go_enter Tryd.func37, Tryd.ntmps37
    go_wp2_with fail
    refine CC.out.mono ?_
    rintro e w1 ⟨rfl, rfl⟩
    go_wp2_with fail
    refine (C2.out _).mono ?_
    rintro e w1 ⟨rfl, hb1⟩
    go_wp2
    go_ret2
    exact ⟨rfl, hb1⟩
  · rw [if_neg h]
    go_enter Tryd.func37, Tryd.ntmps37
    go_wp2
    go_ret2
    exact ⟨rfl, Below.refl _ _⟩

/-- All but the last four bytes, and these. -/
def inn (s : ByteArray) : ByteArray := s.extract 0 (s.size - 4)
def tl (s : ByteArray) : ByteArray := s.extract (s.size - 4) s.size
theorem inn_size (s : ByteArray) : (inn s).size = s.size - 4 := by unfold inn; rw [ByteArray.size_extract]; omega
theorem inn_list (s : ByteArray) : (inn s).toList = s.data.toList.take (s.size - 4) := by
  unfold inn; rw [ByteArray.toList_eq, ByteArray.data_extract]; simp
theorem tl_list (s : ByteArray) : (tl s).toList = s.data.toList.drop (s.size - 4) := by
  unfold tl; rw [ByteArray.toList_eq, ByteArray.data_extract]; simp [List.take_drop]
  rw [List.take_of_length_le (by show s.data.toList.length ≤ s.data.size; simp)]
theorem sealS_list (s : ByteArray) : (sealS s).toList = s.toList ++ four (sumOf s) := by
  unfold sealS; rw [ByteArray.toList_eq, ByteArray.data_append, ByteArray.toList_eq]; simp
/-- It is sealed if and only if its last four bytes are the sum of the others. -/
theorem sealed_iff (s : ByteArray) : (sealS (inn s)).toList = s.toList ↔ (tl s).toList = four (sumOf (inn s)) := by
  rw [sealS_list, inn_list, tl_list, ByteArray.toList_eq]
  constructor
  · intro h
    conv at h => rhs; rw [← List.take_append_drop (s.size - 4) s.data.toList]
    exact (List.append_cancel_left h).symm
  · intro h
    rw [← h, List.take_append_drop]
def unsealV (s : ByteArray) : Value := if 4 ≤ s.size ∧ s.size ≤ 20004 ∧ (tl s).toList = four (sumOf (inn s)) then .tuple #[.string (inn s), .bool true] else .tuple #[.string ⟨#[]⟩, .bool false]
theorem to_inn {P : Program} (t : TypeId) (h : P.underlying t = some .string) (s : ByteArray) (h4 : 4 ≤ s.size) (w : World) :
    (Instr.slice t (.string s) none (some (.int .i64 ((s.size : Int) - 4))) none).run P w = .ok (.string (inn s)) w := by
  rw [run_slice_string_to_if w t s .i64 _ h, if_pos (by omega)]
  unfold inn
  rw [show ((s.size : Int) - 4).toNat = s.size - 4 by omega]
theorem from_tl {P : Program} (t : TypeId) (h : P.underlying t = some .string) (s : ByteArray) (h4 : 4 ≤ s.size) (w : World) :
    (Instr.slice t (.string s) (some (.int .i64 ((s.size : Int) - 4))) none none).run P w = .ok (.string (tl s)) w := by
  rw [run_slice_string_from_if w t s .i64 _ h, if_pos (by omega)]
  unfold tl
  rw [show ((s.size : Int) - 4).toNat = s.size - 4 by omega]

set_option maxHeartbeats 400000 in
theorem implUnsealed_any (s : ByteArray) (hs : s.size ≤ 2097152) (w : World) (ht : Tabs w) :
    Calls Tryd.prog 27 #[.string s] w fun e w' => e = .returned (unsealV s) ∧ Below w.heap.size w w' := by
  unfold unsealV
  by_cases h4 : 4 ≤ s.size
  · have r1 := to_inn (P := Tryd.prog) 9 Tryd.underlying9 s h4
    have cc := implSealed_any (inn s) (by rw [inn_size]; omega) w ht
    have hi := inn_size s
    have hiff := sealed_iff s
    unfold sealV at cc
    by_cases hm : s.size ≤ 20004
    · rw [if_pos (by omega)] at cc
      generalize sealS (inn s) = z at cc hiff
      by_cases he : (tl s).toList = four (sumOf (inn s))
      · rw [if_pos ⟨h4, hm, he⟩]
        have q1 : (z.toList == s.toList) = true := by rw [beq_iff_eq]; exact hiff.2 he
        generalize inn s = y at *
        have CC := hide1 cc
        clear cc hiff he ht
        go_enter Tryd.func27, Tryd.ntmps27
        go_wp2_with fail
        refine CC.out.mono ?_
        rintro e w1 ⟨rfl, hb1⟩
        go_wp2_with fail
        refine (newText1_any y w1).mono ?_
        rintro e w2 ⟨rfl, hb2⟩
        go_wp2
        go_ret2
        exact ⟨rfl, hb1.trans (hb2.mono hb1.size)⟩
      · rw [if_neg (fun h => he h.2.2)]
        have q1 : (z.toList == s.toList) = false := by rw [beq_eq_false_iff_ne]; exact fun h => he (hiff.1 h)
        generalize inn s = y at *
        have CC := hide1 cc
        clear cc hiff he ht
        go_enter Tryd.func27, Tryd.ntmps27
        go_wp2_with fail
        refine CC.out.mono ?_
        rintro e w1 ⟨rfl, hb1⟩
        go_wp2
        go_ret2
        exact ⟨rfl, hb1⟩
    · rw [if_neg (by omega)] at cc
      rw [if_neg (fun h => hm h.2.1)]
      generalize inn s = y at *
      have CC := hide1 cc
      clear cc hiff ht
      go_enter Tryd.func27, Tryd.ntmps27
      go_wp2_with fail
      refine CC.out.mono ?_
      rintro e w1 ⟨rfl, hb1⟩
      go_wp2
      go_ret2
      exact ⟨rfl, hb1⟩
  · rw [if_neg (fun h => h4 h.1)]
    clear ht
    go_enter Tryd.func27, Tryd.ntmps27
    go_wp2
    go_ret2
    exact ⟨rfl, Below.refl _ _⟩

set_option maxHeartbeats 400000 in
theorem specUnsealed_any (s : ByteArray) (hs : s.size ≤ 2097152) (w : World) :
    Calls Tryd.prog 36 #[.string s] w fun e w' => e = .returned (unsealV s) ∧ Below w.heap.size w w' := by
  unfold unsealV
  have w1 : IntKind.i64.wrap ((s.size : Int) - 4) = (s.size : Int) - 4 := IntWalk.i64_in _ ⟨by omega, by omega⟩
  by_cases h4 : 4 ≤ s.size
  · have r1 := to_inn (P := Tryd.prog) 9 Tryd.underlying9 s h4
    have r2 := from_tl (P := Tryd.prog) 9 Tryd.underlying9 s h4
    have c1 := fun w => specSumOf_any (inn s) (by rw [inn_size]; omega) w
    have hl := sumOf_lt (inn s)
    have c2 := fun w => four_any (sumOf (inn s)) hl w
    have q0 : decide ((s.size : Int) - 4 < 0) = false := by simp; omega
    by_cases hm : s.size ≤ 20004
    · have q2 : decide ((20000 : Int) < (s.size : Int) - 4) = false := by simp; omega
      obtain ⟨z, hz⟩ : ∃ z : ByteArray, z = ⟨(four (sumOf (inn s))).toArray⟩ := ⟨_, rfl⟩
      have hzl : z.toList = four (sumOf (inn s)) := by rw [hz, ByteArray.toList_eq]
      rw [← hz] at c2
      rw [← hzl]
      clear hzl hz
      generalize sumOf (inn s) = x at *
      generalize inn s = y at *
      generalize tl s = t at *
      have C1 := hide1 c1
      have C2 := hide1 c2
      clear c1 c2
      by_cases he : t.toList = z.toList
      · rw [if_pos ⟨h4, hm, he⟩]
        have q1 : (t.toList == z.toList) = true := by rw [beq_iff_eq]; exact he
        clear he
        go_enter Tryd.func36, Tryd.ntmps36
        go_wp2
        go_region_held3 (fun _ => True) (trivial) ((first | (go_at_call 62; refine (C1.out _).mono ?_; rintro e w1 ⟨rfl, rfl⟩) | (go_at_call 61; refine (C2.out _).mono ?_; rintro e w1 ⟨rfl, hb1⟩)))
        go_wp2
        go_ret2
        exact ⟨rfl, (Below.refl _ _).drew.trans hb1⟩
      · rw [if_neg (fun h => he h.2.2)]
        have q1 : (t.toList == z.toList) = false := by rw [beq_eq_false_iff_ne]; exact he
        clear he
        go_enter Tryd.func36, Tryd.ntmps36
        go_wp2
        go_region_held3 (fun _ => True) (trivial) ((first | (go_at_call 62; refine (C1.out _).mono ?_; rintro e w1 ⟨rfl, rfl⟩) | (go_at_call 61; refine (C2.out _).mono ?_; rintro e w1 ⟨rfl, hb1⟩)))
        go_wp2
        go_ret2
        exact ⟨rfl, (Below.refl _ _).drew.trans hb1⟩
    · have q2 : decide ((20000 : Int) < (s.size : Int) - 4) = true := by simp; omega
      rw [if_neg (fun h => hm h.2.1)]
      clear c1 c2 r1 r2
      go_enter Tryd.func36, Tryd.ntmps36
      go_wp2
      go_quiet (fail)
      go_wp2
      go_ret2
      exact ⟨rfl, by first | exact Below.refl _ _ | exact below_drewN (Below.refl _ _) _⟩
  · have q0 : decide ((s.size : Int) - 4 < 0) = true := by simp; omega
    rw [if_neg (fun h => h4 h.1)]
    go_enter Tryd.func36, Tryd.ntmps36
    go_wp2
    go_quiet (fail)
    go_wp2
    go_ret2
    exact ⟨rfl, by first | exact Below.refl _ _ | exact below_drewN (Below.refl _ _) _⟩
end Go.Proofs.YtbkhhkknhbddeaaDoor
