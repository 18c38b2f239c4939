/- The contracts of the cursor's maker and of the draws of chapter 1: whatever bytes are drawn from. -/
import Derived.Test.YtbkhhkknhbddeaaDraw
namespace Go.Proofs.Ytbkhhkknhbddeaa
open Go.RowKit

set_option maxRecDepth 100000 in
set_option maxHeartbeats 400000 in
theorem new_any (w : World) (a : Option Addr) (len cap : Nat) (hc : Code w.heap.size w a len) :
    Calls Try.prog 36 #[.slice a len cap] w fun e w' => ∃ g : Nat, e = .returned (.pointer (some ⟨g, 0, none⟩)) ∧ Drw w.heap.size w' a len cap g ∧ Below w.heap.size w w' := by
  have hle := hc.le
  have HC := hide1 hc
  clear hc
  go_enter Try.func36, Try.ntmps36
  go_wp2
  go_loop [3, 4] (fun hv iv => ∃ (i h : Nat), i ≤ len ∧ iv = .int .i64 (i : Int) ∧ hv = .int .i64 (h : Int) ∧ h ≤ 1073741823) (fun _ iv => len - (intOf iv).toNat)
  case atStart => exact ⟨0, 14301 + len, by omega, rfl, by go_num, by omega⟩
  case round =>
    obtain ⟨i, h, hi, rfl, rfl, hh⟩ := hrel
    by_cases hlt : i < len ∧ i < 4000
    · obtain ⟨h1, h2⟩ := hlt
      obtain ⟨b, o, v, rfl, hb, hcell, hv⟩ := HC.out.cells i h1
      have k1 : (i : Int) < (len : Int) := by omega
      obtain ⟨y, hy, ey⟩ := and_bd ((h : Int) * 131 + (v : Int) + 7) 1073741823 (by omega)
      rw [show ((1073741823 : Nat) : Int) = 1073741823 from rfl] at ey
      go_wp2
      go_round
      case rel => exact ⟨i + 1, y, by omega, by go_num, rfl, hy⟩
      case measure => simp [intOf]; omega
    · by_cases h1 : i < len
      all_goals
        go_wp2
        go_ret
        refine ⟨w.heap.size, rfl, ⟨HC.out.below ((Below.refl _ _).alloc (Nat.le_refl _) _) (Nat.le_refl _), ⟨Nat.le_refl _, 0, h, Nat.zero_le _, heap_alloc_new w _⟩, by rw [World.size_alloc]; omega⟩, (Below.refl _ _).alloc (Nat.le_refl _) _⟩

def numL : List Int := [-1, 0, 127, 128, 16383, 16384, 1000000000, 1000000001, 9223372036854775807, -9223372036854775808]
theorem numL_at (j : Nat) (h : j < 10) : (#[Value.int .i64 (-1), .int .i64 0, .int .i64 127, .int .i64 128, .int .i64 16383, .int .i64 16384, .int .i64 1000000000, .int .i64 1000000001, .int .i64 9223372036854775807, .int .i64 (-9223372036854775808)] : Array Value)[j]? = some (.int .i64 (numL.getD j 0)) := by
  match j, h with
  | 0, _ => rfl
  | 1, _ => rfl
  | 2, _ => rfl
  | 3, _ => rfl
  | 4, _ => rfl
  | 5, _ => rfl
  | 6, _ => rfl
  | 7, _ => rfl
  | 8, _ => rfl
  | 9, _ => rfl

end Go.Proofs.Ytbkhhkknhbddeaa
