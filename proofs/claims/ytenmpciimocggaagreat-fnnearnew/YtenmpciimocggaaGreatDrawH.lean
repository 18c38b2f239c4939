/- A drawn key and seed. -/
import Derived.Test.YtenmpciimocggaaGreatDrawA
import Derived.Test.YtenmpciimocggaaGreatXE
namespace Go.Proofs.YtenmpciimocggaaGreat
open Go.RowKit

theorem big4_no (a : Option Addr) (len cap : Nat) (w : World) (h : len ≤ 1048576) : Calls Tryz.prog 4 #[.slice a len cap] w fun e w' => e = .returned (.bool false) ∧ w = w' := by
  have q : decide ((1048576 : Int) < (len : Int)) = false := decide_eq_false (by omega)
  go_enter Tryz.func4, Tryz.ntmps4
  go_wp2
  go_ret
  exact ⟨by first | rfl | (show Ending.returned (.bool (decide ((1048576 : Int) < (len : Int)))) = _; rw [q]), rfl⟩

theorem big4_yes (a : Option Addr) (len cap : Nat) (w : World) (h : ¬ len ≤ 1048576) : Calls Tryz.prog 4 #[.slice a len cap] w fun e w' => e = .returned (.bool true) ∧ w = w' := by
  have q : decide ((1048576 : Int) < (len : Int)) = true := decide_eq_true (by omega)
  go_enter Tryz.func4, Tryz.ntmps4
  go_wp2
  go_ret
  exact ⟨by first | rfl | (show Ending.returned (.bool (decide ((1048576 : Int) < (len : Int)))) = _; rw [q]), rfl⟩

def plL : List Int := [-1, 9, 10, 9223372036854775807, -9223372036854775808]
theorem plL_at (j : Nat) (h : j < 5) : (#[Value.int .i64 (-1), .int .i64 9, .int .i64 10, .int .i64 9223372036854775807, .int .i64 (-9223372036854775808)] : Array Value)[j]? = some (.int .i64 (plL.getD j 0)) := by
  match j, h with
  | 0, _ => rfl
  | 1, _ => rfl
  | 2, _ => rfl
  | 3, _ => rfl
  | 4, _ => rfl
theorem plL_in (j : Nat) : -9223372036854775808 ≤ plL.getD j 0 ∧ plL.getD j 0 ≤ 9223372036854775807 := by
  match j with
  | 0 => decide
  | 1 => decide
  | 2 => decide
  | 3 => decide
  | 4 => decide
  | k + 5 => exact ⟨by show (-9223372036854775808 : Int) ≤ 0; decide, by show (0 : Int) ≤ 9223372036854775807; decide⟩

set_option maxHeartbeats 400000 in
theorem place_any {B : Nat} {w : World} {a : Option Addr} {len cap g : Nat} (h : Drw B w a len cap g) :
    Calls Tryz.prog 10 #[.pointer (some ⟨g, 0, none⟩), .int .i64 9] w fun e w' => ∃ n : Int, e = .returned (.int .i64 n) ∧ (-9223372036854775808 ≤ n ∧ n ≤ 9223372036854775807) ∧ Drw B w' a len cap g ∧ w.grownBy w' (some g) := by
  go_enter Tryz.func10, Tryz.ntmps10
  go_wp2_with fail
  refine (once_any h 15 (by omega)).mono ?_
  rintro e w1 ⟨b, rfl, h1, hb1⟩
  cases b with
  | true =>
    go_wp2_with fail
    have hlt := h1.lt
    refine (pickInt_any (h1.later ((Below.refl _ _).alloc (Nat.le_refl _) _)) w1.heap.size 5 5 (by omega) (by omega) (by omega) (fun j => plL.getD j 0) (fun j hj => ?_) (by rw [World.size_alloc]; omega)).mono ?_
    · rw [World.cell?_alloc_at _ _ _ _ rfl]
      exact plL_at j hj
    · rintro e w2 ⟨j, rfl, h2, hb2⟩
      have hin := hide1 (plL_in j)
      generalize plL.getD j 0 = z at *
      go_wp2
      go_ret
      exact ⟨_, rfl, hin.out, h2, hb1.trans ((World.grownBy_alloc w1 _ _).trans hb2)⟩
  | false =>
    go_wp2_with (go_at_call 28; refine (below_any h1 9 (by omega)).mono ?_; rintro e w2 ⟨y, rfl, hy, _, h2, hb2⟩)
    go_ret
    exact ⟨_, rfl, ⟨by omega, by have := hy (by omega); omega⟩, h2, hb1.trans hb2⟩

end Go.Proofs.YtenmpciimocggaaGreat
