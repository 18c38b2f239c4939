/- Rows of elements of several cells that are marked one behind another, plain. -/
import Derived.Test.YtpjgplohlchpoaaGreatDoorUAD
import Derived.Test.YtpjgplohlchpoaaGreatDoorUAF
import Derived.Deep.RegionHeld3
namespace Go.Proofs.YtpjgplohlchpoaaGreatDoor
open Go.RowKit
set_option linter.unusedVariables false

section
variable {α : Type} {enc : α → List Value} {kk : Nat} (m : Nat → α) (s k : Nat)
/-- The elements that are marked from k on, s numbers each. -/
def patG (n : Nat) : List α := (List.range n).map (fun i => m (k + s * i))
theorem patG_length (n : Nat) : (patG m s k n).length = n := by simp [patG]
theorem patG_at (n i : Nat) (h : i < (patG m s k n).length) : (patG m s k n)[i] = m (k + s * i) := by simp [patG]
theorem patG_next (n : Nat) : patG m s k (n + 1) = patG m s k n ++ [m (k + s * n)] := by simp [patG, List.range_succ]
/-- A row whose first elements are marked. -/
def mkG (enc : α → List Value) (kk : Nat) (xs : List Value) (i : Nat) : List Value := rowG enc (patG m s k i) ++ xs.drop (i * kk)
theorem mkG_zero (xs : List Value) : mkG m s k enc kk xs 0 = xs := by simp [mkG, patG, rowG]
theorem mkG_length (E : EncK enc kk) (xs : List Value) (i : Nat) (h : i * kk ≤ xs.length) : (mkG m s k enc kk xs i).length = xs.length := by
  unfold mkG
  rw [List.length_append, rowG_length enc kk E.len, patG_length, List.length_drop]
  omega
theorem mkG_next (E : EncK enc kk) (xs : List Value) (i : Nat) (h : i * kk + kk ≤ xs.length) : setL (mkG m s k enc kk xs i) (i * kk) (enc (m (k + s * i))) = mkG m s k enc kk xs (i + 1) := by
  have hl : (rowG enc (patG m s k i)).length = i * kk := by rw [rowG_length enc kk E.len, patG_length]
  rw [setL_eq _ _ _ (by rw [mkG_length m s k E xs i (by omega), E.len]; omega), E.len]
  unfold mkG
  rw [List.take_left' hl, List.drop_append, List.drop_eq_nil_of_le (by omega), hl, List.nil_append, List.drop_drop, patG_next, rowG_join, show i * kk + (i * kk + kk - i * kk) = (i + 1) * kk by rw [Nat.add_mul]; omega]
  simp [rowG]
theorem mkG_all (E : EncK enc kk) (xs : List Value) (n : Nat) (h : xs.length = n * kk) : mkG m s k enc kk xs n = rowG enc (patG m s k n) := by
  unfold mkG
  rw [List.drop_eq_nil_of_le (by omega), List.append_nil]
end
end Go.Proofs.YtpjgplohlchpoaaGreatDoor
namespace Go.Proofs.YtpjgplohlchpoaaGreatDoor
open Go.RowKit
set_option linter.unusedVariables false

def mIm (q : Nat) : Im := ⟨mkT (q + 0), mkT (q + 1), (q : Int) + 1 + 1⟩
theorem mark_atItem (z : Int) (n : Nat) (w : World) (hz : z = (n : Int)) (hn : n ≤ 9223372036854775807) (h0 : 0 < n) : Calls Tryz.prog 63 #[.int .i64 z] w fun e w' => e = .returned (.string (mkT n)) ∧ Below w.heap.size w w' := by subst hz; exact markText_any n w hn h0

set_option maxRecDepth 100000 in
set_option maxHeartbeats 2000000 in
theorem markItemS_any (v : Value) (n k : Nat) (xs : List Value) (base : Nat) (w : World) (hn : n ≤ 1048576) (hk : k ≤ 33554432) (hk0 : 0 < k) (hown : w.ownsRow base 34 3 v n xs) :
    Calls Tryz.prog 39 #[v, .int .i64 k] w fun e w' => e = .returned (.int .i64 ((k : Int) + 3 * (n : Int))) ∧ w'.ownsRow base 34 3 v n (rowG imC (patG mIm 3 k n)) ∧ w.grownBy w' v.ownBlock := by
  have hxl := hown.1
  rcases hown.2 with ⟨rfl, rfl⟩ | ⟨g, cap, cur, rfl, hbg, hgg, _⟩
  · go_enter Tryz.func39, Tryz.ntmps39
    go_wp2
    refine wp_loop_rounds 1 ?_
    rw [rounds_succ]
    go_wp2
    go_ret
    exact ⟨by simp, by have : xs = [] := List.eq_nil_of_length_eq_zero (by omega); subst this; exact hown, World.grownBy.refl _ _⟩
  · have hgl := (Array.getElem?_eq_some_iff.1 hgg).1
    have HO := hide1 hown
    have HX := hide1 hxl
    clear hgg hown hxl
    go_enter Tryz.func39, Tryz.ntmps39
    go_wp2
    go_loopw [1, 5] (fun kv iv wr => ∃ i kk : Nat, i ≤ n ∧ iv = .int .i64 (i : Int) ∧ kv = .int .i64 (kk : Int) ∧ Hid (kk = k + 3 * i) ∧ 0 < kk ∧ kk ≤ 67108864 ∧ Hid (wr.ownsRow base 34 3 (.slice (some ⟨g, 0, none⟩) n cap) n (mkG mIm 3 k imC 3 xs i)) ∧ Hid (w.grownBy wr (some g))) (fun _ iv _ => n - (intOf iv).toNat)
    case atStart => exact ⟨0, k, by omega, rfl, rfl, rfl, hk0, by omega, hide1 (by rw [mkG_zero]; exact HO.out), hide1 (World.grownBy.refl _ _)⟩
    case round =>
      obtain ⟨i, kk, hi, rfl, rfl, hkk, hkp, hkm, OW, BW⟩ := hrel
      by_cases hlt : i < n
      · have k1 : (i : Int) < (n : Int) := by omega
        have C0 := hide1 (fun (z : Int) (w : World) (hz : z = ((kk + 0 : Nat) : Int)) => mark_atItem z (kk + 0) w hz (by omega) (by omega))
        go_wp2_with fail
        refine (C0.out _ _ (by omega)).mono ?_
        rintro e v0 ⟨rfl, hb0⟩
        have P0 := hide1 (own_kept OW.out hb0)
        have D0 := hide1 (BW.out.trans (gnew hb0))
        obtain ⟨u0, x0⟩ := own_some P0.out (i * 3) (by omega)
        have f0 := P0.out.frozenAt (i * 3)
        obtain ⟨z0, hz0⟩ : ∃ z, z = mkT (kk + 0) := ⟨_, rfl⟩
        rw [← hz0]
        have Z0 := hide1 hz0
        have OW0 := hide1 (World.ownsRow.stored P0.out (i * 3) (.string z0)).1
        have BW0 := hide1 (gset D0.out (i * 3) (.string z0))
        clear hb0 hz0 C0 P0 D0
        have C1 := hide1 (fun (z : Int) (w : World) (hz : z = ((kk + 1 : Nat) : Int)) => mark_atItem z (kk + 1) w hz (by omega) (by omega))
        go_wp2_with fail
        refine (C1.out _ _ (by omega)).mono ?_
        rintro e v1 ⟨rfl, hb1⟩
        have P1 := hide1 (own_kept OW0.out hb1)
        have D1 := hide1 (BW0.out.trans (gnew hb1))
        obtain ⟨u1, x1⟩ := own_some P1.out (i * 3 + 1) (by omega)
        have f1 := P1.out.frozenAt (i * 3 + 1)
        obtain ⟨z1, hz1⟩ : ∃ z, z = mkT (kk + 1) := ⟨_, rfl⟩
        rw [← hz1]
        have Z1 := hide1 hz1
        have OW1 := hide1 (World.ownsRow.stored P1.out (i * 3 + 1) (.string z1)).1
        have BW1 := hide1 (gset D1.out (i * 3 + 1) (.string z1))
        clear hb1 hz1 C1 P1 D1
        obtain ⟨u2, x2⟩ := own_some OW1.out (i * 3 + 2) (by omega)
        have f2 := OW1.out.frozenAt (i * 3 + 2)
        have OW2 := hide1 (World.ownsRow.stored OW1.out (i * 3 + 2) (.int .i64 ((kk : Int) + 1 + 1))).1
        have BW2 := hide1 (gset BW1.out (i * 3 + 2) (.int .i64 ((kk : Int) + 1 + 1)))
        go_wp2
        go_roundw
        case rel =>
          refine ⟨i + 1, kk + 3, by omega, by go_num, by go_num, ?_, by omega, by have := hkk.out; omega, ?_, BW2⟩
          · show kk + 3 = k + 3 * (i + 1); have := hkk.out; omega
          · have st := OW2.out
            have hn2 := mkG_next (enc := imC) (kk := 3) mIm 3 k encIm xs i (by have := HX.out; omega)
            rw [← hn2, ← hkk.out]
            have e9 : (((mkG mIm 3 k imC 3 xs i).set (i * 3) (.string z0)).set (i * 3 + 1) (.string z1)).set (i * 3 + 2) (.int .i64 ((kk : Int) + 1 + 1)) = setL (mkG mIm 3 k imC 3 xs i) (i * 3) (imC (mIm kk)) := by
              rw [Z0.out, Z1.out]
              rfl
            rw [← e9]
            exact hide1 st
        case measure => simp [intOf]; omega
      · obtain rfl : i = n := by omega
        go_wp2
        go_ret
        have hown1 := OW.out
        rw [mkG_all _ _ _ encIm xs i HX.out] at hown1
        exact ⟨by rw [hkk.out]; simp, hown1, BW.out⟩

set_option maxRecDepth 100000 in
set_option maxHeartbeats 2000000 in
theorem heldItemS_any (ao : Option Addr) (n ca k : Nat) (w : World) (hn : n ≤ 1048576) (hk : k ≤ 33554432) (hk0 : 0 < k) (hA : RdG imC 3 w ao (patG mIm 3 k n)) :
    Calls Tryz.prog 42 #[.slice ao n ca, .int .i64 k] w fun e w' => e = .returned (.int .i64 ((k : Int) + 3 * (n : Int))) ∧ Below w.heap.size w w' := by
  have HA := hide1 hA
  clear hA
  go_enter Tryz.func42, Tryz.ntmps42
  go_wp2
  go_loopw [1, 5] (fun kv iv wr => ∃ i kk : Nat, i ≤ n ∧ iv = .int .i64 (i : Int) ∧ kv = .int .i64 (kk : Int) ∧ Hid (kk = k + 3 * i) ∧ 0 < kk ∧ kk ≤ 67108864 ∧ Hid (Below w.heap.size w wr)) (fun _ iv _ => n - (intOf iv).toNat)
  case atStart => exact ⟨0, k, by omega, rfl, rfl, rfl, hk0, by omega, hide1 (Below.refl _ _)⟩
  case round =>
    obtain ⟨i, kk, hi, rfl, rfl, hkk, hkp, hkm, BB⟩ := hrel
    by_cases hlt : i < n
    · have k1 : (i : Int) < (n : Int) := by omega
      obtain ⟨g, q, rfl, hg, h1⟩ := HA.out i (by rw [patG_length]; exact hlt)
      rw [patG_at, ← hkk.out] at h1
      have hgr : g < wr.heap.size := Nat.lt_of_lt_of_le hg BB.out.size
      obtain ⟨z0, hz0⟩ : ∃ z, z = mkT (kk + 0) := ⟨_, rfl⟩
      have C0 := hide1 (fun (z : Int) (w : World) (hz : z = ((kk + 0 : Nat) : Int)) => show Calls Tryz.prog 63 #[.int .i64 z] w (fun e w' => e = .returned (.string z0) ∧ Below w.heap.size w w') by rw [hz0]; exact mark_atItem z (kk + 0) w hz (by omega) (by omega))
      have M0 := hide1 (show w.cell? ⟨g, q + i * 3, none⟩ = some (.string z0) by rw [hz0]; exact h1 0 (by omega))
      have e0 : (z0.toList == z0.toList) = true := by simp
      clear hz0
      obtain ⟨z1, hz1⟩ : ∃ z, z = mkT (kk + 1) := ⟨_, rfl⟩
      have C1 := hide1 (fun (z : Int) (w : World) (hz : z = ((kk + 1 : Nat) : Int)) => show Calls Tryz.prog 63 #[.int .i64 z] w (fun e w' => e = .returned (.string z1) ∧ Below w.heap.size w w') by rw [hz1]; exact mark_atItem z (kk + 1) w hz (by omega) (by omega))
      have M1 := hide1 (show w.cell? ⟨g, q + i * 3 + 1, none⟩ = some (.string z1) by rw [hz1]; exact h1 1 (by omega))
      have e1 : (z1.toList == z1.toList) = true := by simp
      clear hz1
      have M2 := hide1 (show w.cell? ⟨g, q + i * 3 + 2, none⟩ = some (.int .i64 ((kk : Int) + 1 + 1)) from h1 2 (by omega))
      have e2 : ((kk : Int) + 1 + 1 != (kk : Int) + 1 + 1) = false := by simp
      clear h1
      have x0 : wr.cell? ⟨g, q + i * 3, none⟩ = some (.string z0) := (BB.out.cell (p := ⟨g, q + i * 3, none⟩) hg).trans M0.out
      have lg0 : g < wr.heap.size := Nat.lt_of_lt_of_le hg BB.out.size
      go_wp2
      go_region_held3 (fun w' => w'.cell? ⟨g, q + i * 3, none⟩ = some (.string z0)) (first | go_keep | exact (hb0.cell lg0).trans x0) ((go_at_call 63; refine (C0.out _ _ (by omega)).mono ?_; rintro e v0 ⟨rfl, hb0⟩))
      have BB0 := hide1 (BB.out.trans ((Below.refl _ _).drew.trans (hb0.mono BB.out.size)))
      clear x0 hb0
      have x1 : v0.cell? ⟨g, q + i * 3 + 1, none⟩ = some (.string z1) := (BB0.out.cell (p := ⟨g, q + i * 3 + 1, none⟩) hg).trans M1.out
      have lg1 : g < v0.heap.size := Nat.lt_of_lt_of_le hg BB0.out.size
      go_wp2
      go_region_held3 (fun w' => w'.cell? ⟨g, q + i * 3 + 1, none⟩ = some (.string z1)) (first | go_keep | exact (hb1.cell lg1).trans x1) ((go_at_call 63; refine (C1.out _ _ (by omega)).mono ?_; rintro e v1 ⟨rfl, hb1⟩))
      have BB1 := hide1 (BB0.out.trans ((Below.refl _ _).drew.trans (hb1.mono BB0.out.size)))
      clear x1 hb1
      have x2 : v1.cell? ⟨g, q + i * 3 + 2, none⟩ = some (.int .i64 ((kk : Int) + 1 + 1)) := (BB1.out.cell (p := ⟨g, q + i * 3 + 2, none⟩) hg).trans M2.out
      go_wp2
      go_roundw
      case rel => exact ⟨i + 1, kk + 3, by omega, by go_num, by go_num, by show kk + 3 = k + 3 * (i + 1); have := hkk.out; omega, by omega, by have := hkk.out; omega, BB1⟩
      case measure => simp [intOf]; omega
    · obtain rfl : i = n := by omega
      go_wp2
      go_ret
      exact ⟨by rw [hkk.out]; simp, BB.out⟩
end Go.Proofs.YtpjgplohlchpoaaGreatDoor
