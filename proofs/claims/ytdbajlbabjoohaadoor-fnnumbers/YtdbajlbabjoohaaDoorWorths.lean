/- The contracts of the functions that read figures: at every text. -/
import Derived.Test.YtdbajlbabjoohaaDoorInfo
import Derived.Handy
import Derived.Test.YtdbajlbabjoohaaDoorKitC
import Derived.Deep.RegionHeld3
import Derived.Deep.RegionWith
namespace Go.Proofs.YtdbajlbabjoohaaDoor
open Go.RowKit

/-- What a figure is worth: 0-9, and a-f with letters. -/
def wv (letters : Bool) (x : Nat) : Option Nat :=
  if 48 ≤ x ∧ x ≤ 57 then some (x - 48) else if letters = true ∧ 97 ≤ x ∧ x ≤ 102 then some (x - 87) else none
theorem wv_digit {l : Bool} {x : Nat} (h : 48 ≤ x) (k : x ≤ 57) : wv l x = some (x - 48) := by unfold wv; rw [if_pos ⟨h, k⟩]
theorem wv_letter {x : Nat} (h : 97 ≤ x) (k : x ≤ 102) : wv true x = some (x - 87) := by unfold wv; rw [if_neg (by omega), if_pos ⟨rfl, h, k⟩]
theorem wv_none {l : Bool} {x : Nat} (h : ¬ (48 ≤ x ∧ x ≤ 57)) (k : ¬ (l = true ∧ 97 ≤ x ∧ x ≤ 102)) : wv l x = none := by unfold wv; rw [if_neg h, if_neg k]
theorem wv_lt {l : Bool} {x v : Nat} (h : wv l x = some v) : v < 16 := by
  unfold wv at h; split at h
  · simp at h; omega
  · split at h
    · simp at h; omega
    · cases h
/-- The worths of the first k bytes. -/
def wL (l : Bool) (t : Nat → Nat) : Nat → List UInt8
  | 0 => []
  | k + 1 => wL l t k ++ [UInt8.ofNat ((wv l (t k)).getD 0)]
theorem wL_length (l : Bool) (t : Nat → Nat) (k : Nat) : (wL l t k).length = k := by
  induction k with
  | zero => rfl
  | succ k ih => simp [wL, ih]
theorem wL_at (l : Bool) (t : Nat → Nat) : ∀ (n k : Nat), k < n → (wL l t n)[k]? = some (UInt8.ofNat ((wv l (t k)).getD 0))
  | 0, k, h => by omega
  | n + 1, k, h => by
    by_cases e : k < n
    · rw [wL, List.getElem?_append_left (by rw [wL_length]; exact e)]; exact wL_at l t n k e
    · obtain rfl : k = n := by omega
      rw [wL, List.getElem?_append_right (by rw [wL_length]; exact Nat.le_refl _), wL_length]; simp

theorem ret_slice_bool {a : Option Addr} {n m c : Nat} {b : Bool} (h : n = m) : Ending.returned (.tuple #[.slice a n c, .bool b]) = .returned (.tuple #[.slice a m c, .bool b]) := by rw [h]
theorem own_form {w : World} {base n : Nat} {e : TypeId} {v : Value} {xs : List Value} (h : w.ownsRow base e 1 v n xs) (hn : 0 < n) : ∃ g cap, v = .slice (some ⟨g, 0, none⟩) n cap := by
  rcases h.2 with ⟨_, h0⟩ | ⟨g, cap, cur, hv, _⟩
  · omega
  · exact ⟨g, cap, hv⟩

set_option maxRecDepth 100000 in
set_option maxHeartbeats 800000 in
theorem worths_any (s : ByteArray) (l : Bool) (w : World) (hs : s.size ≤ 1048576) :
    Calls Tryd.prog 17 #[.string s, .bool l] w fun e w' => ∃ (k g cap : Nat) (b : Bool), k ≤ s.size ∧ (b = true ↔ k = s.size) ∧ (∀ j, j < k → (wv l (byt s j)).isSome = true) ∧ (k < s.size → wv l (byt s k) = none) ∧
      e = .returned (.tuple #[.slice (some ⟨g, 0, none⟩) k cap, .bool b]) ∧ w'.ownsRow w.heap.size 5 1 (.slice (some ⟨g, 0, none⟩) k cap) k (bc (wL l (byt s) k)) ∧ Below w.heap.size w w' := by
  obtain ⟨i0, hi, hz0, hz1, hz2⟩ := info_parts Tryd.info5
  go_enter Tryd.func17, Tryd.ntmps17
  go_wp2
  go_step3
  go_wp2_with (at_make; (refine wpList_make_own _ rfl _ _ 22 rfl w.heap.size 5 i0 (.int .u8 0) 1 Tryd.underlying22 hi hz0 hz1 _ _ _ s.size rfl rfl (by omega) (by rw [hz2]; omega) (by unfold maxLen; omega) (Nat.le_refl _) ?_; intro w0 hown0 hg0))
  go_step3
  go_wp2
  go_loopw [6, 7] (fun v iv wr => ∃ (k : Nat) (acc : List UInt8) (g cap : Nat), k ≤ s.size ∧ iv = .int .i64 (k : Int) ∧ Hid (acc = wL l (byt s) k) ∧ acc.length ≤ k ∧ v = .slice (some ⟨g, 0, none⟩) acc.length cap ∧
      wr.ownsRow w.heap.size 5 1 v acc.length (bc acc) ∧ Below w.heap.size w wr ∧ Hid (∀ j, j < k → (wv l (byt s j)).isSome = true)) (fun _ iv _ => s.size - (intOf iv).toNat)
  case atStart => exact ⟨0, [], w.heap.size, s.size, by omega, rfl, rfl, by simp, rfl, hown0, Below.grown (Below.refl _ _) hg0 (Nat.le_refl _) (by intro k hk; cases hk), fun j hj => by omega⟩
  case round =>
    obtain ⟨k, acc, g, cap, hk, rfl, hacc, hal, rfl, hown, hbel, hgood⟩ := hrel
    have hbs := hbel.size
    have hlen : Hid (acc.length = k) := by rw [hacc.out]; exact wL_length _ _ _
    by_cases hlt : k < s.size
    · have hlt' : (k : Int) < (s.size : Int) := by omega
      have hb := get_byt s
      have hb1 := byt_le s k
      by_cases c1 : 48 ≤ byt s k ∧ byt s k ≤ 57
      · obtain ⟨c1, c2⟩ := c1
        have HV : Hid _ := wv_digit (l := l) c1 c2
        obtain ⟨b, hbe, hbn⟩ := byte_of (byt s k - 48) (by omega)
        go_wp2_with (at_builtin; (refine wpList_push rfl _ _ 22 rfl w.heap.size 5 i0 Tryd.underlying22 hi hz0 hz1 hz2 _ acc rfl hown _ b (by omega) rfl (by omega) hbs ?_; intro v' w1 hown' hb'))
        go_roundw
        case rel =>
          obtain ⟨g', cap', hv'⟩ := own_form hown' (by simp)
          exact ⟨k + 1, acc ++ [b], g', cap', by omega, by go_num, by rw [hacc.out, hbe.out, wL, HV.out]; rfl, by simp; omega, hv', hown', hbel.trans hb', fun j hj => by
            by_cases e : j < k
            · exact hgood.out j e
            · rw [show j = k by omega, HV.out]; rfl⟩
        case measure => simp [intOf]; omega
      · by_cases c2 : l = true ∧ 97 ≤ byt s k ∧ byt s k ≤ 102
        · obtain ⟨rfl, c2, c3⟩ := c2
          have HV : Hid _ := wv_letter c2 c3
          obtain ⟨b, hbe, hbn⟩ := byte_of (byt s k - 87) (by omega)
          go_wp2_with (at_builtin; (refine wpList_push rfl _ _ 22 rfl w.heap.size 5 i0 Tryd.underlying22 hi hz0 hz1 hz2 _ acc rfl hown _ b (by omega) rfl (by omega) hbs ?_; intro v' w1 hown' hb'))
          go_roundw
          case rel =>
            obtain ⟨g', cap', hv'⟩ := own_form hown' (by simp)
            exact ⟨k + 1, acc ++ [b], g', cap', by omega, by go_num, by rw [hacc.out, hbe.out, wL, HV.out]; rfl, by simp; omega, hv', hown', hbel.trans hb', fun j hj => by
              by_cases e : j < k
              · exact hgood.out j e
              · rw [show j = k by omega, HV.out]; rfl⟩
          case measure => simp [intOf]; omega
        · have HV : Hid _ := wv_none c1 c2
          have q0 : ((acc.length : Int) == (s.size : Int)) = false := by have := hlen.out; simp; omega
          have hown2 : Hid _ := hown
          clear hown
          rcases l with _ | _
          · by_cases c3 : 48 ≤ byt s k
            all_goals
              go_wp2
              try rw [Exit.noGoto_ret]
              go_ret2
              exact ⟨k, g, cap, false, hk, by simp; omega, hgood.out, fun _ => HV.out, ret_slice_bool hlen.out, by have := hown2.out; rw [hlen.out, hacc.out] at this; exact this, hbel⟩
          · have c5 : ¬ (97 ≤ byt s k ∧ byt s k ≤ 102) := fun h => c2 ⟨rfl, h⟩
            clear c2
            by_cases c3 : 48 ≤ byt s k
            all_goals
              by_cases c4 : 97 ≤ byt s k
              all_goals first
                | (exfalso; omega)
                | skip
              all_goals
                go_wp2
                try rw [Exit.noGoto_ret]
                go_ret2
                exact ⟨k, g, cap, false, hk, by simp; omega, hgood.out, fun _ => HV.out, ret_slice_bool hlen.out, by have := hown2.out; rw [hlen.out, hacc.out] at this; exact this, hbel⟩
    · have q0 : ((acc.length : Int) == (s.size : Int)) = true := by have := hlen.out; simp; omega
      go_wp2
      try rw [Exit.noGoto_ret]
      go_ret2
      exact ⟨k, g, cap, true, hk, by simp; omega, hgood.out, fun h => by omega, ret_slice_bool hlen.out, by rw [hlen.out, hacc.out] at hown; exact hown, hbel⟩
end Go.Proofs.YtdbajlbabjoohaaDoor
