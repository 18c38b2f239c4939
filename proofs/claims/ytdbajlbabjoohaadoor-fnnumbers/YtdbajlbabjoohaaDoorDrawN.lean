/- The contracts of the cursor's maker and of the draws of chapter 1: whatever bytes are drawn from. -/
import Derived.Test.YtdbajlbabjoohaaDoorDraw
namespace Go.Proofs.YtdbajlbabjoohaaDoor
open Go.RowKit

set_option maxRecDepth 100000 in
set_option maxHeartbeats 400000 in
theorem new_any (w : World) (a : Option Addr) (len cap : Nat) (hc : Code w.heap.size w a len) :
    Calls Tryd.prog 16 #[.slice a len cap] w fun e w' => ∃ g : Nat, e = .returned (.pointer (some ⟨g, 0, none⟩)) ∧ Drw w.heap.size w' a len cap g ∧ Below w.heap.size w w' := by
  have hle := hc.le
  have HC := hide1 hc
  clear hc
  go_enter Tryd.func16, Tryd.ntmps16
  go_wp2
  go_loop [3, 4] (fun hv iv => ∃ (i h : Nat), i ≤ len ∧ iv = .int .i64 (i : Int) ∧ hv = .int .i64 (h : Int) ∧ h ≤ 1073741823) (fun _ iv => len - (intOf iv).toNat)
  case atStart => exact ⟨0, 14301 + len, by omega, rfl, by go_num, by omega⟩
  case round =>
    obtain ⟨i, h, hi, rfl, rfl, hh⟩ := hrel
    by_cases hlt : i < len ∧ i < 4000
    · obtain ⟨h1, h2⟩ := hlt
      obtain ⟨b, o, v, rfl, hb, hcell, hv⟩ := HC.out.cells i h1
      have k1 : (i : Int) < (len : Int) := by omega
      obtain ⟨y, hy, ey⟩ := and_bd ((h : Int) * 131 + (v : Int) + 7) 1073741823 (by omega)
      rw [show ((1073741823 : Nat) : Int) = 1073741823 from rfl] at ey
      go_wp2
      go_round
      case rel => exact ⟨i + 1, y, by omega, by go_num, rfl, hy⟩
      case measure => simp [intOf]; omega
    · by_cases h1 : i < len
      all_goals
        go_wp2
        go_ret
        refine ⟨w.heap.size, rfl, ⟨HC.out.below ((Below.refl _ _).alloc (Nat.le_refl _) _) (Nat.le_refl _), ⟨Nat.le_refl _, 0, h, Nat.zero_le _, heap_alloc_new w _⟩, by rw [World.size_alloc]; omega⟩, (Below.refl _ _).alloc (Nat.le_refl _) _⟩

def numL : List Int := [-1, 0, 127, 128, 16383, 16384, 1000000000, 1000000001, 9223372036854775807, -9223372036854775808]
theorem numL_at (j : Nat) (h : j < 10) : (#[Value.int .i64 (-1), .int .i64 0, .int .i64 127, .int .i64 128, .int .i64 16383, .int .i64 16384, .int .i64 1000000000, .int .i64 1000000001, .int .i64 9223372036854775807, .int .i64 (-9223372036854775808)] : Array Value)[j]? = some (.int .i64 (numL.getD j 0)) := by
  match j, h with
  | 0, _ => rfl
  | 1, _ => rfl
  | 2, _ => rfl
  | 3, _ => rfl
  | 4, _ => rfl
  | 5, _ => rfl
  | 6, _ => rfl
  | 7, _ => rfl
  | 8, _ => rfl
  | 9, _ => rfl

set_option maxHeartbeats 400000 in
theorem number_any {B : Nat} {w : World} {a : Option Addr} {len cap g : Nat} (h : Drw B w a len cap g) :
    Calls Tryd.prog 15 #[.pointer (some ⟨g, 0, none⟩)] w fun e w' => ∃ n : Int, e = .returned (.int .i64 n) ∧ Drw B w' a len cap g ∧ w.grownBy w' (some g) := by
  go_enter Tryd.func15, Tryd.ntmps15
  go_wp2_with fail
  refine (below_any h 4 (by omega)).mono ?_
  rintro e w1 ⟨x, rfl, hx, _, h1, hb1⟩
  by_cases c0 : x = 0
  · have c0' : ((x : Int) == 0) = true := by simp [c0]
    clear c0 hx
    go_wp2_with fail
    have hlt := h1.lt
    refine (pickInt_any (h1.later ((Below.refl _ _).alloc (Nat.le_refl _) _)) w1.heap.size 10 10 (by omega) (by omega) (by omega) (fun j => numL.getD j 0) (fun j hj => ?_) (by rw [World.size_alloc]; omega)).mono ?_
    · rw [World.cell?_alloc_at _ _ _ _ rfl]
      exact numL_at j hj
    · rintro e w2 ⟨j, rfl, h2, hb2⟩
      generalize numL.getD j 0 = z
      go_wp2
      go_ret
      exact ⟨_, rfl, h2, hb1.trans ((World.grownBy_alloc w1 _ _).trans hb2)⟩
  · have c0' : ((x : Int) == 0) = false := by simp [c0]
    by_cases c1 : x = 1
    · have c1' : ((x : Int) == 1) = true := by simp [c1]
      clear c0 c1 hx
      go_wp2_with (go_at_call 21; refine (below_any h1 1000000000 (by omega)).mono ?_; rintro e w2 ⟨y, rfl, _, _, h2, hb2⟩)
      go_ret
      exact ⟨_, rfl, h2, hb1.trans hb2⟩
    · have c1' : ((x : Int) == 1) = false := by simp; omega
      clear c0 c1 hx
      go_wp2_with (go_at_call 21; refine (below_any h1 400 (by omega)).mono ?_; rintro e w2 ⟨y, rfl, _, _, h2, hb2⟩)
      go_ret
      exact ⟨_, rfl, h2, hb1.trans hb2⟩

theorem drawVar_any (w : World) (a : Option Addr) (len cap : Nat) (hc : Code w.heap.size w a len) :
    Calls Tryd.prog 5 #[.slice a len cap] w fun e w' => ∃ n : Int, e = .returned (.int .i64 n) ∧ Below w.heap.size w w' := by
  go_enter Tryd.func5, Tryd.ntmps5
  go_wp2_with fail
  refine (new_any w a len cap hc).mono ?_
  rintro e w1 ⟨g, rfl, h1, hb1⟩
  go_wp2_with fail
  refine (number_any h1).mono ?_
  rintro e w2 ⟨n, rfl, h2, hb2⟩
  go_wp2
  go_ret
  exact ⟨n, rfl, hb1.trans (grow_below hb2 h1.cur.1 h1.base)⟩

set_option maxHeartbeats 400000 in
theorem drawHex_any (w : World) (a : Option Addr) (len cap : Nat) (hc : Code w.heap.size w a len) :
    Calls Tryd.prog 10 #[.slice a len cap] w fun e w' => ∃ z : ByteArray, e = .returned (.string z) ∧ z.size ≤ 20001 ∧ Below w.heap.size w w' := by
  go_enter Tryd.func10, Tryd.ntmps10
  go_wp2_with fail
  refine (new_any w a len cap hc).mono ?_
  rintro e w1 ⟨g, rfl, h1, hb1⟩
  have hBg := h1.cur.1
  go_wp2_with fail
  refine (once_any h1 60 (by omega)).mono ?_
  rintro e w2 ⟨b, rfl, h2, hb2⟩
  cases b with
  | true =>
    go_wp2_with fail
    refine (below_any h2 2 (by omega)).mono ?_
    rintro e w3 ⟨x, rfl, hx, _, h3, hb3⟩
    have hx2 : (x : Int) < 2 := hx (by omega)
    clear hx
    go_wp2_with fail
    have cl := long_any (20000 + x) 200 w3 (by omega)
    refine Calls.mono cl ?_
    rintro e w4 ⟨l, rfl, hl, hb4⟩
    go_wp2
    go_ret
    exact ⟨_, rfl, by show l.toArray.size ≤ 20001; rw [List.size_toArray, hl]; omega, ((hb1.trans (grow_below hb2 hBg h1.base)).trans (grow_below hb3 hBg h2.base)).trans (hb4.mono h3.base)⟩
  | false =>
    go_wp2_with fail
    refine (below_any h2 30 (by omega)).mono ?_
    rintro e w3 ⟨x, rfl, hx, _, h3, hb3⟩
    have hx2 : (x : Int) < 30 := hx (by omega)
    clear hx
    go_wp2_with fail
    refine (text_any h3 x (by omega)).mono ?_
    rintro e w4 ⟨l, rfl, hl, h4, hb4⟩
    go_wp2
    go_ret
    exact ⟨_, rfl, by show l.toArray.size ≤ 20001; rw [List.size_toArray, hl]; omega, ((hb1.trans (grow_below hb2 hBg h1.base)).trans (grow_below hb3 hBg h2.base)).trans (grow_below hb4 hBg h3.base)⟩
end Go.Proofs.YtdbajlbabjoohaaDoor
