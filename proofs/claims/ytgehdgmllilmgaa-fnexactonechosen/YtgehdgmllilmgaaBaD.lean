/- Draws of chapter 11: values, notes, rows of them; numbers of voices. -/
import Derived.Test.YtgehdgmllilmgaaYV
import Derived.Test.YtgehdgmllilmgaaYD
namespace Go.Proofs.Ytgehdgmllilmgaa
open Go.RowKit
set_option linter.unusedVariables false

def valB : List (List UInt8) := [[120], [121], [122], [49, 44, 50], [50, 44, 51]]
theorem valB_sizes : ∀ j : Fin 5, (valB.getD j.1 []).length ≤ 41 := by decide

set_option maxHeartbeats 400000 in
theorem valueB_any {B : Nat} {w : World} {a : Option Addr} {len cap g : Nat} (h : Drw B w a len cap g) :
    Calls Try.prog 72 #[.pointer (some ⟨g, 0, none⟩)] w fun e w' => ∃ z : ByteArray, e = .returned (.string z) ∧ z.size ≤ 41 ∧ Drw B w' a len cap g ∧ w.grownBy w' (some g) := by
  have hlt := h.lt
  go_enter Try.func72, Try.ntmps72
  go_wp2_with fail
  refine (pick_any (h.later ((Below.refl _ _).alloc (Nat.le_refl _) _)) w.heap.size 5 5 (by omega) (by omega) (by omega) (fun j => ⟨(valB.getD j []).toArray⟩) (fun j hj => ?_) (by rw [World.size_alloc]; omega)).mono ?_
  · rw [World.cell?_alloc_at _ _ _ _ rfl]
    match j, hj with
    | 0, _ => rfl
    | 1, _ => rfl
    | 2, _ => rfl
    | 3, _ => rfl
    | 4, _ => rfl
  · rintro e w2 ⟨j, hj, rfl, h2, hb2⟩
    have hsz := valB_sizes ⟨j, hj⟩
    obtain ⟨z, hz⟩ : ∃ z : ByteArray, z = ⟨(valB.getD j []).toArray⟩ := ⟨_, rfl⟩
    have hzs : z.size ≤ 41 := by rw [hz]; show (valB.getD j []).toArray.size ≤ 41; rw [List.size_toArray]; exact hsz
    rw [← hz]
    clear hz hsz
    go_wp2
    go_ret
    exact ⟨z, rfl, hzs, h2, (World.grownBy_alloc w _ _).trans hb2⟩

def plB : List Int := [-1, 9, 10, 9223372036854775807, -9223372036854775808]
theorem plB_at (j : Nat) (h : j < 5) : (#[Value.int .i64 (-1), .int .i64 9, .int .i64 10, .int .i64 9223372036854775807, .int .i64 (-9223372036854775808)] : Array Value)[j]? = some (.int .i64 (plB.getD j 0)) := by
  match j, h with
  | 0, _ => rfl
  | 1, _ => rfl
  | 2, _ => rfl
  | 3, _ => rfl
  | 4, _ => rfl
theorem plB_in (j : Nat) : -9223372036854775808 ≤ plB.getD j 0 ∧ plB.getD j 0 ≤ 9223372036854775807 := by
  match j with
  | 0 => decide
  | 1 => decide
  | 2 => decide
  | 3 => decide
  | 4 => decide
  | k + 5 => exact ⟨by show (-9223372036854775808 : Int) ≤ 0; decide, by show (0 : Int) ≤ 9223372036854775807; decide⟩

set_option maxHeartbeats 400000 in
theorem placeB_any {B : Nat} {w : World} {a : Option Addr} {len cap g : Nat} (h : Drw B w a len cap g) :
    Calls Try.prog 45 #[.pointer (some ⟨g, 0, none⟩), .int .i64 9] w fun e w' => ∃ n : Int, e = .returned (.int .i64 n) ∧ (-9223372036854775808 ≤ n ∧ n ≤ 9223372036854775807) ∧ Drw B w' a len cap g ∧ w.grownBy w' (some g) := by
  go_enter Try.func45, Try.ntmps45
  go_wp2_with fail
  refine (once_any h 15 (by omega)).mono ?_
  rintro e w1 ⟨b, rfl, h1, hb1⟩
  cases b with
  | true =>
    go_wp2_with fail
    have hlt := h1.lt
    refine (pickInt_any (h1.later ((Below.refl _ _).alloc (Nat.le_refl _) _)) w1.heap.size 5 5 (by omega) (by omega) (by omega) (fun j => plB.getD j 0) (fun j hj => ?_) (by rw [World.size_alloc]; omega)).mono ?_
    · rw [World.cell?_alloc_at _ _ _ _ rfl]
      exact plB_at j hj
    · rintro e w2 ⟨j, rfl, h2, hb2⟩
      have hin := hide1 (plB_in j)
      generalize plB.getD j 0 = z at *
      go_wp2
      go_ret
      exact ⟨_, rfl, hin.out, h2, hb1.trans ((World.grownBy_alloc w1 _ _).trans hb2)⟩
  | false =>
    go_wp2_with (go_at_call 44; refine (below_any h1 9 (by omega)).mono ?_; rintro e w2 ⟨y, rfl, hy, _, h2, hb2⟩)
    go_ret
    exact ⟨_, rfl, ⟨by omega, by have := hy (by omega); omega⟩, h2, hb1.trans hb2⟩

end Go.Proofs.Ytgehdgmllilmgaa
