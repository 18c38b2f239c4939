/- The contracts of the draws of keys and values: whatever bytes are drawn from. -/
import Derived.Test.YtbkhhkknhbddeaaDrawN
namespace Go.Proofs.Ytbkhhkknhbddeaa
open Go.RowKit

set_option maxHeartbeats 400000 in
theorem pick_any {B : Nat} {w : World} {a : Option Addr} {len cap g : Nat} (h : Drw B w a len cap g) (lg n c : Nat) (hn : 0 < n) (hn2 : n ≤ 1000) (hne : ¬ lg = g) (f : Nat → ByteArray) (hc : ∀ j, j < n → w.cell? ⟨lg, j, none⟩ = some (.string (f j))) (hlg : lg < w.heap.size) :
    Calls Try.prog 61 #[.pointer (some ⟨g, 0, none⟩), .slice (some ⟨lg, 0, none⟩) n c] w fun e w' => ∃ j : Nat, j < n ∧ e = .returned (.string (f j)) ∧ Drw B w' a len cap g ∧ w.grownBy w' (some g) := by
  have HC := hide1 hc
  clear hc
  go_enter Try.func61, Try.ntmps61
  go_wp2_with (go_at_call 52; refine (below_any h (n : Int) (by omega)).mono ?_; rintro e w1 ⟨x, rfl, hx, _, h1, hb1⟩; have hx' : x < n := (by have := hx (by omega); omega); have hxi : (x : Int) < (n : Int) := (by omega); have x1 : w1.cell? ⟨lg, x, none⟩ = some (.string (f x)) := (World.cell?_of_block (w := w) (hb1.block lg hlg (fun e => hne (by simpa using e)))).trans (HC.out x hx'); clear hx)
  go_ret
  exact ⟨x, hx', rfl, h1, hb1⟩

def keyL : List (List UInt8) := [[97], [98], [99], [100], [101], [102], [103], [104], [107, 49], [107, 50], [107, 51], [107, 101, 121]]
def valL : List (List UInt8) := [[], [118], [119], [120, 120], [121, 121, 121]]
theorem keyL_sizes : ∀ j : Fin 12, 1 ≤ (keyL.getD j.1 []).length ∧ (keyL.getD j.1 []).length ≤ 12 := by decide
theorem valL_sizes : ∀ j : Fin 5, (valL.getD j.1 []).length ≤ 20 := by decide

set_option maxHeartbeats 400000 in
theorem key_any {B : Nat} {w : World} {a : Option Addr} {len cap g : Nat} (h : Drw B w a len cap g) :
    Calls Try.prog 53 #[.pointer (some ⟨g, 0, none⟩)] w fun e w' => ∃ z : ByteArray, e = .returned (.string z) ∧ 1 ≤ z.size ∧ z.size ≤ 12 ∧ Drw B w' a len cap g ∧ w.grownBy w' (some g) := by
  have hlt := h.lt
  go_enter Try.func53, Try.ntmps53
  go_wp2_with fail
  refine (pick_any (h.later ((Below.refl _ _).alloc (Nat.le_refl _) _)) w.heap.size 12 12 (by omega) (by omega) (by omega) (fun j => ⟨(keyL.getD j []).toArray⟩) (fun j hj => ?_) (by rw [World.size_alloc]; omega)).mono ?_
  · rw [World.cell?_alloc_at _ _ _ _ rfl]
    match j, hj with
    | 0, _ => rfl
    | 1, _ => rfl
    | 2, _ => rfl
    | 3, _ => rfl
    | 4, _ => rfl
    | 5, _ => rfl
    | 6, _ => rfl
    | 7, _ => rfl
    | 8, _ => rfl
    | 9, _ => rfl
    | 10, _ => rfl
    | 11, _ => rfl
  · rintro e w2 ⟨j, hj, rfl, h2, hb2⟩
    have hsz := keyL_sizes ⟨j, hj⟩
    obtain ⟨z, hz⟩ : ∃ z : ByteArray, z = ⟨(keyL.getD j []).toArray⟩ := ⟨_, rfl⟩
    have hzs : 1 ≤ z.size ∧ z.size ≤ 12 := by rw [hz]; show 1 ≤ (keyL.getD j []).toArray.size ∧ _; rw [List.size_toArray]; exact hsz
    rw [← hz]
    clear hz hsz
    go_wp2
    go_ret
    exact ⟨z, rfl, hzs.1, hzs.2, h2, (World.grownBy_alloc w _ _).trans hb2⟩

set_option maxHeartbeats 400000 in
theorem val_any {B : Nat} {w : World} {a : Option Addr} {len cap g : Nat} (h : Drw B w a len cap g) :
    Calls Try.prog 54 #[.pointer (some ⟨g, 0, none⟩)] w fun e w' => ∃ z : ByteArray, e = .returned (.string z) ∧ z.size ≤ 20 ∧ Drw B w' a len cap g ∧ w.grownBy w' (some g) := by
  have hlt := h.lt
  go_enter Try.func54, Try.ntmps54
  go_wp2_with fail
  refine (pick_any (h.later ((Below.refl _ _).alloc (Nat.le_refl _) _)) w.heap.size 5 5 (by omega) (by omega) (by omega) (fun j => ⟨(valL.getD j []).toArray⟩) (fun j hj => ?_) (by rw [World.size_alloc]; omega)).mono ?_
  · rw [World.cell?_alloc_at _ _ _ _ rfl]
    match j, hj with
    | 0, _ => rfl
    | 1, _ => rfl
    | 2, _ => rfl
    | 3, _ => rfl
    | 4, _ => rfl
  · rintro e w2 ⟨j, hj, rfl, h2, hb2⟩
    have hsz := valL_sizes ⟨j, hj⟩
    obtain ⟨z, hz⟩ : ∃ z : ByteArray, z = ⟨(valL.getD j []).toArray⟩ := ⟨_, rfl⟩
    have hzs : z.size ≤ 20 := by rw [hz]; show (valL.getD j []).toArray.size ≤ 20; rw [List.size_toArray]; exact hsz
    rw [← hz]
    clear hz hsz
    go_wp2
    go_ret
    exact ⟨z, rfl, hzs, h2, (World.grownBy_alloc w _ _).trans hb2⟩
end Go.Proofs.Ytbkhhkknhbddeaa
