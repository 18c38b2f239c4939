/- The contracts of the functions that write a number in bytes: whatever the number in their range. -/
import Derived.Test.YtbkhhkknhbddeaaDoorProg
import Derived.Test.YtbkhhkknhbddeaaDoorInfo
import Derived.Test.YtbkhhkknhbddeaaDoorPlain
import Derived.Handy
namespace Go.Proofs.YtbkhhkknhbddeaaDoor
open Go.RowKit
set_option maxRecDepth 100000

set_option maxHeartbeats 400000 in
theorem l01Var_any (n : Nat) (w : World) (hn : n ≤ 9223372036854775807) :
    Calls Tryd.prog 44 #[.int .i64 n] w fun e w' => e = .returned (.string ⟨(varB n).toArray⟩) ∧ Below w.heap.size w w' := by
  obtain ⟨i0, hi, hz0, hz1, hz2⟩ := info_parts Tryd.info5
  go_enter Tryd.func44, Tryd.ntmps44
  go_wp2
  go_loopw [0, 3] (fun nv v wr => ∃ (f m : Nat) (acc : List UInt8), nv = .int .i64 (m : Int) ∧ m ≤ 9223372036854775807 ∧ VarAt n f m acc ∧ wr.ownsRow w.heap.size 5 1 v acc.length (bc acc) ∧ Below w.heap.size w wr) (fun nv _ _ => (intOf nv).toNat)
  case atStart => exact ⟨9, n, [], rfl, hn, VarAt.start n hn, ⟨rfl, .inr ⟨w.heap.size, 0, #[], rfl, Nat.le_refl _, heap_alloc_new w _, Nat.le_refl _, Nat.zero_le _, rfl, rfl⟩⟩, (Below.refl _ _).alloc (Nat.le_refl _) _⟩
  case round =>
    obtain ⟨f, m, acc, rfl, hm, hv, hown, hb⟩ := hrel
    have hlen := hv.len
    have hbs := hb.size
    by_cases hlt : 127 < m
    · obtain ⟨b, hbe, hbn⟩ := byte_of (m % 128 + 128) (by omega)
      go_wp2_with (at_builtin; (refine wpList_push rfl _ _ 22 rfl w.heap.size 5 i0 Tryd.underlying22 hi hz0 hz1 hz2 _ acc rfl hown _ b (by omega) rfl (by omega) hbs ?_; intro v' w1 hown' hb'))
      go_roundw
      case rel =>
        obtain ⟨g, hg⟩ := hv.step hlt
        exact ⟨g, m / 128, acc ++ [b], by go_num, by omega, by rw [hbe.out]; exact hg, hown', hb.trans hb'⟩
      case measure => simp [intOf]; omega
    · obtain ⟨b, hbe, hbn⟩ := byte_of m (by omega)
      go_wp2_with (at_builtin; (refine wpList_push rfl _ _ 22 rfl w.heap.size 5 i0 Tryd.underlying22 hi hz0 hz1 hz2 _ acc rfl hown _ b (by omega) rfl (by omega) hbs ?_; intro v' w1 hown' hb'; have hcv := conv_own 22 9 5 Tryd.underlying22 Tryd.underlying5 Tryd.underlying9 hown'))
      go_ret
      exact ⟨ret_str (by rw [← hv.stop (by omega), hbe.out]), hb.trans hb'⟩

/-- The answer of VarText: the bytes and true in 0 .. MaxNumber, else none. -/
def varText (n : Int) : Value := if 0 ≤ n ∧ n ≤ 1000000000 then .tuple #[.string ⟨(varB n.toNat).toArray⟩, .bool true] else .tuple #[.string ⟨#[]⟩, .bool false]

theorem varText_yes {n : Int} (h : 0 ≤ n) (k : n ≤ 1000000000) : varText n = .tuple #[.string ⟨(varB n.toNat).toArray⟩, .bool true] := by
  unfold varText; rw [if_pos ⟨h, k⟩]
theorem varText_no {n : Int} (h : n < 0 ∨ 1000000000 < n) : varText n = .tuple #[.string ⟨#[]⟩, .bool false] := by
  unfold varText; rw [if_neg (by omega)]

theorem l01In_yes (x l m : Int) (w : World) (h : l ≤ x) (k : x ≤ m) : Calls Tryd.prog 29 #[.int .i64 x, .int .i64 l, .int .i64 m] w fun e w' => e = .returned (.bool true) ∧ w = w' := by
  have k1 : decide (x ≤ m) = true := by simpa using k
  go_enter Tryd.func29, Tryd.ntmps29
  go_wp2
  go_ret
  exact ⟨rfl, rfl⟩
theorem l01In_no (x l m : Int) (w : World) (h : x < l ∨ m < x) : Calls Tryd.prog 29 #[.int .i64 x, .int .i64 l, .int .i64 m] w fun e w' => e = .returned (.bool false) ∧ w = w' := by
  by_cases k : l ≤ x
  · have k0 : decide (l ≤ x) = true := by simpa using k
    have k1 : decide (x ≤ m) = false := by simp; omega
    go_enter Tryd.func29, Tryd.ntmps29
    go_wp2
    go_ret
    exact ⟨rfl, rfl⟩
  · have k1 : decide (l ≤ x) = false := by simpa using k
    go_enter Tryd.func29, Tryd.ntmps29
    go_wp2
    go_ret
    exact ⟨rfl, rfl⟩

set_option maxHeartbeats 400000 in
theorem implVarText_any (n : Int) (w : World) :
    Calls Tryd.prog 24 #[.int .i64 n] w fun e w' => e = .returned (varText n) ∧ Below w.heap.size w w' := by
  by_cases h0 : n < 0
  · rw [varText_no (.inl h0)]
    go_enter Tryd.func24, Tryd.ntmps24
    go_wp2
    go_ret2
    exact ⟨rfl, Below.refl _ _⟩
  · by_cases h1 : 1000000000 < n
    · rw [varText_no (.inr h1)]
      go_enter Tryd.func24, Tryd.ntmps24
      go_wp2
      go_ret2
      exact ⟨rfl, Below.refl _ _⟩
    · obtain ⟨n, rfl⟩ := Int.eq_ofNat_of_zero_le (show 0 ≤ n by omega)
      rw [varText_yes (by omega) (by omega), Int.toNat_natCast]
      have hn : n ≤ 9223372036854775807 := by omega
      obtain ⟨i0, hi, hz0, hz1, hz2⟩ := info_parts Tryd.info5
      have hmk : ∀ w, (Instr.makeSlice 22 (.int .i64 0) (.int .i64 5)).run Tryd.prog w = .ok (.slice (some ⟨w.heap.size, 0, none⟩) 0 5) (w.alloc (.cells #[.int .u8 0, .int .u8 0, .int .u8 0, .int .u8 0, .int .u8 0] 5)) := fun _ => by kernel_rfl
      go_enter Tryd.func24, Tryd.ntmps24
      go_wp2
      go_loopw [0, 4] (fun nv v wr => ∃ (f m : Nat) (acc : List UInt8), nv = .int .i64 (m : Int) ∧ m ≤ 9223372036854775807 ∧ VarAt n f m acc ∧ wr.ownsRow w.heap.size 5 1 v acc.length (bc acc) ∧ Below w.heap.size w wr) (fun nv _ _ => (intOf nv).toNat)
      case atStart => exact ⟨9, n, [], rfl, hn, VarAt.start n hn, owns_made w _ 5 _ (by decide) rfl, (Below.refl _ _).alloc (Nat.le_refl _) _⟩
      case round =>
        obtain ⟨f, m, acc, rfl, hm, hv, hown, hb⟩ := hrel
        have hlen := hv.len
        have hbs := hb.size
        by_cases hlt : 127 < m
        · obtain ⟨b, hbe, hbn⟩ := byte_of (m % 128 + 128) (by omega)
          go_wp2_with (at_builtin; (refine wpList_push rfl _ _ 22 rfl w.heap.size 5 i0 Tryd.underlying22 hi hz0 hz1 hz2 _ acc rfl hown _ b (by omega) rfl (by omega) hbs ?_; intro v' w1 hown' hb'))
          go_roundw
          case rel =>
            obtain ⟨g, hg⟩ := hv.step hlt
            exact ⟨g, m / 128, acc ++ [b], by go_num, by omega, by rw [hbe.out]; exact hg, hown', hb.trans hb'⟩
          case measure => simp [intOf]; omega
        · obtain ⟨b, hbe, hbn⟩ := byte_of m (by omega)
          go_wp2_with (at_builtin; (refine wpList_push rfl _ _ 22 rfl w.heap.size 5 i0 Tryd.underlying22 hi hz0 hz1 hz2 _ acc rfl hown _ b (by omega) rfl (by omega) hbs ?_; intro v' w1 hown' hb'; have hcv := conv_own 22 9 5 Tryd.underlying22 Tryd.underlying5 Tryd.underlying9 hown'))
          go_ret2
          exact ⟨ret_str_bool (by rw [← hv.stop (by omega), hbe.out]) rfl, hb.trans hb'⟩
end Go.Proofs.YtbkhhkknhbddeaaDoor
