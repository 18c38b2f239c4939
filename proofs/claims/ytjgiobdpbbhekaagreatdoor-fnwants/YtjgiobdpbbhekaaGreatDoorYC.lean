/- The model's small functions on near entries: how many keys and cells there may be. -/
import Derived.Test.YtjgiobdpbbhekaaGreatDoorXA
import Derived.Test.YtjgiobdpbbhekaaGreatDoorXP
namespace Go.Proofs.YtjgiobdpbbhekaaGreatDoor
open Go.RowKit

theorem quo_nat (n m : Nat) : (n : Int).tdiv (m : Int) = ((n / m : Nat) : Int) := by rw [Int.ofNat_tdiv]
set_option maxRecDepth 100000 in
theorem specMosts_any (n : Nat) (w : World) (hn : n ≤ 1048576) :
    Calls Tryz.prog 68 #[.int .i64 (n : Int)] w fun e w' => ∃ x y z : Int, e = .returned (.tuple #[.int .i64 x, .int .i64 y, .int .i64 z]) ∧ (2 ≤ n → x = (mostW n : Int) ∧ y = (mostT n : Int) ∧ z = (mostS n : Int)) ∧ w' = w := by
  by_cases h2 : 2 ≤ n
  · have e1 : (n : Int).tdiv 4 = ((n / 4 : Nat) : Int) := quo_nat n 4
    have e1' : (n : Int) / 4 = ((n / 4 : Nat) : Int) := by omega
    obtain ⟨q, hq⟩ : ∃ q, n / 4 = q := ⟨_, rfl⟩
    rw [hq] at e1 e1'
    have hs := most_sum h2
    obtain ⟨a, ha⟩ : ∃ a, mostW n = a := ⟨_, rfl⟩
    have hs2 : mostS n = (n - a) / 2 := by unfold mostS; rw [ha]
    obtain ⟨s, hs3⟩ : ∃ s, mostS n = s := ⟨_, rfl⟩
    obtain ⟨t, ht⟩ : ∃ t, mostT n = t := ⟨_, rfl⟩
    rw [ha, ht, hs3] at hs
    have e2 : ((n : Int) - (a : Int)).tdiv 2 = (s : Int) := by
      rw [show (n : Int) - (a : Int) = ((n - a : Nat) : Int) by omega]
      have := quo_nat (n - a) 2
      rw [← hs2, hs3] at this
      exact this
    have e2' : ((n : Int) - (a : Int)) / 2 = (s : Int) := by omega
    have HS := hide1 (And.intro ha (And.intro ht (And.intro hs3 hs.1)))
    by_cases hq1 : q < 1
    · have ea : a = 1 := by rw [← ha]; unfold mostW; rw [hq, if_pos hq1]
      subst ea
      have k1 : decide ((q : Int) < 1) = true := by simp; omega
      have E2 : ((n : Int) - 1).tdiv 2 = (s : Int) := e2
      have E2' : ((n : Int) - 1) / 2 = (s : Int) := e2'
      clear ha ht hs3 hs hs2 e2 e2'
      go_enter Tryz.func68, Tryz.ntmps68
      go_wp2
      go_ret3
      refine ⟨_, _, _, rfl, fun _ => ⟨by rw [HS.out.1]; rfl, ?_, by rw [HS.out.2.2.1]⟩, rfl⟩
      rw [HS.out.2.1]
      have := HS.out.2.2.2
      omega
    · have ea : a = q := by rw [← ha]; unfold mostW; rw [hq, if_neg hq1]
      subst ea
      have k1 : decide ((a : Int) < 1) = false := by simp; omega
      clear ha ht hs3 hs hs2
      go_enter Tryz.func68, Tryz.ntmps68
      go_wp2
      go_ret3
      refine ⟨_, _, _, rfl, fun _ => ⟨by rw [HS.out.1], ?_, by rw [HS.out.2.2.1]⟩, rfl⟩
      rw [HS.out.2.1]
      have := HS.out.2.2.2
      omega
  · have hn2 : n = 0 ∨ n = 1 := by omega
    rcases hn2 with rfl | rfl
    · go_enter Tryz.func68, Tryz.ntmps68
      go_wp2
      go_ret3
      exact ⟨_, _, _, rfl, fun h => by omega, rfl⟩
    · go_enter Tryz.func68, Tryz.ntmps68
      go_wp2
      go_ret3
      exact ⟨_, _, _, rfl, fun h => by omega, rfl⟩

set_option maxRecDepth 100000 in
theorem specCells_any8 (n : Nat) (w : World) (hn : n ≤ 24) :
    Calls Tryz.prog 67 #[.int .i64 (n : Int)] w fun e w' => e = .returned (.int .i64 (cellsN n : Int)) ∧ w' = w := by
  go_enter Tryz.func67, Tryz.ntmps67
  go_wp2
  go_loop [3] (fun iv => ∃ m : Nat, iv = .int .i64 (m : Int) ∧ (m = 4 ∨ m = 8 ∨ m = 16 ∨ m = 32 ∨ m = 64) ∧ (m = 4 ∨ m ≤ 4 * n)) (fun iv => 64 - (intOf iv).toNat)
  case atStart => exact ⟨4, rfl, .inl rfl, .inl rfl⟩
  case round =>
    obtain ⟨m, rfl, hm, hp⟩ := hrel
    by_cases hlt : m ≤ 2 * n
    · have k1 : (m : Int) ≤ 2 * (n : Int) := by omega
      go_wp2
      go_round
      case rel => exact ⟨2 * m, by go_num, by omega, by omega⟩
      case measure => simp [intOf]; omega
    · have k1 : ¬ (m : Int) ≤ 2 * (n : Int) := by omega
      have HC := hide1 (show cellsN n = m by unfold cellsN; rcases hm with rfl | rfl | rfl | rfl | rfl <;> (repeat' split) <;> omega)
      go_wp2
      go_ret
      exact ⟨by rw [HC.out]; rfl, rfl⟩
end Go.Proofs.YtjgiobdpbbhekaaGreatDoor
namespace Go.Proofs.YtjgiobdpbbhekaaGreatDoor
open Go.RowKit

set_option maxRecDepth 100000 in
theorem implCells_any8 (n : Nat) (w : World) (hn : n ≤ 24) :
    Calls Tryz.prog 124 #[.int .i64 (n : Int)] w fun e w' => e = .returned (.int .i64 (cellsN n : Int)) ∧ w' = w := by
  go_enter Tryz.func124, Tryz.ntmps124
  go_wp2
  go_loop [3] (fun iv => ∃ m : Nat, iv = .int .i64 (m : Int) ∧ (m = 4 ∨ m = 8 ∨ m = 16 ∨ m = 32 ∨ m = 64) ∧ (m = 4 ∨ m ≤ 4 * n)) (fun iv => 64 - (intOf iv).toNat)
  case atStart => exact ⟨4, rfl, .inl rfl, .inl rfl⟩
  case round =>
    obtain ⟨m, rfl, hm, hp⟩ := hrel
    by_cases hlt : m ≤ 2 * n
    · have k1 : (m : Int) ≤ 2 * (n : Int) := by omega
      go_wp2
      go_round
      case rel => exact ⟨2 * m, by go_num, by omega, by omega⟩
      case measure => simp [intOf]; omega
    · have k1 : ¬ (m : Int) ≤ 2 * (n : Int) := by omega
      have HC := hide1 (show cellsN n = m by unfold cellsN; rcases hm with rfl | rfl | rfl | rfl | rfl <;> (repeat' split) <;> omega)
      go_wp2
      go_ret
      exact ⟨by rw [HC.out]; rfl, rfl⟩

set_option maxRecDepth 100000 in
set_option maxHeartbeats 1000000 in
theorem implShape_any (n : Nat) (w : World) (h2 : 2 ≤ n) (hn : n ≤ 24) :
    Calls Tryz.prog 61 #[.int .i64 (n : Int)] w fun e w' => e = .returned (.agg #[.int .i64 (cellsN n : Int), .int .i64 (mostW n : Int), .int .i64 (mostT n : Int), .int .i64 (mostS n : Int)]) ∧ Below w.heap.size w w' := by
  have e1 : (n : Int).tdiv 4 = ((n / 4 : Nat) : Int) := quo_nat n 4
  have e1' : (n : Int) / 4 = ((n / 4 : Nat) : Int) := by omega
  obtain ⟨q, hq⟩ : ∃ q, n / 4 = q := ⟨_, rfl⟩
  rw [hq] at e1 e1'
  have hs := most_sum h2
  obtain ⟨a, ha⟩ : ∃ a, mostW n = a := ⟨_, rfl⟩
  have hs2 : mostS n = (n - a) / 2 := by unfold mostS; rw [ha]
  obtain ⟨s, hs3⟩ : ∃ s, mostS n = s := ⟨_, rfl⟩
  obtain ⟨t, ht⟩ : ∃ t, mostT n = t := ⟨_, rfl⟩
  rw [ha, ht, hs3] at hs
  have e2 : ((n : Int) - (a : Int)).tdiv 2 = (s : Int) := by
    rw [show (n : Int) - (a : Int) = ((n - a : Nat) : Int) by omega]
    have := quo_nat (n - a) 2
    rw [← hs2, hs3] at this
    exact this
  have e2' : ((n : Int) - (a : Int)) / 2 = (s : Int) := by omega
  have e3 : (n : Int) - (a : Int) - (s : Int) = (t : Int) := by omega
  have em : max (1 : Int) (q : Int) = (a : Int) := by
    rw [← ha]
    unfold mostW
    rw [hq]
    split <;> omega
  have CC := hide1 (fun w' => implCells_any8 n w' hn)
  have BX := hide1 (And.intro (Blk.new w 104 #[.int .i64 0, .int .i64 0, .int .i64 0, .int .i64 0]) ((Below.refl w.heap.size w).alloc (Nat.le_refl _) (.cells #[.int .i64 0, .int .i64 0, .int .i64 0, .int .i64 0] 104)))
  rw [ha, ht, hs3]
  have HS := hide1 (And.intro hs.1 (And.intro h2 hn))
  have z0 : (0 : Int) ≤ (q : Int) := by omega
  have q24 : (q : Int) ≤ 24 := by omega
  have a24 : (a : Int) ≤ 24 := by omega
  have s24 : (s : Int) ≤ 24 := by omega
  have n24 : (n : Int) ≤ 24 := by omega
  clear ha ht hs3 hs hs2 hq
  go_enter Tryz.func61, Tryz.ntmps61
  go_wp2_with fail
  all_goals
    refine (CC.out _).mono ?_
    rintro e w1 ⟨rfl, hw⟩
    subst hw
    first
    | (have hqa : (q : Int) = (a : Int) := (by omega); go_wp2; refine bodyPost_ret (results_cell_row Tryz.results61 _ _ w.heap.size 104 _ (0, 0) _ rfl (heap_alloc_last _ _) Tryz.underlying104 rfl (by kernel_rfl)) rfl ?_; exact ⟨rfl, (Below.refl _ _).alloc (Nat.le_refl _) _⟩)
    | (have hqa : (1 : Int) = (a : Int) := (by omega); go_wp2; refine bodyPost_ret (results_cell_row Tryz.results61 _ _ w.heap.size 104 _ (0, 0) _ rfl (heap_alloc_last _ _) Tryz.underlying104 rfl (by kernel_rfl)) rfl ?_; first | exact ⟨rfl, (Below.refl _ _).alloc (Nat.le_refl _) _⟩ | (rw [← hqa]; exact ⟨rfl, (Below.refl _ _).alloc (Nat.le_refl _) _⟩))
    | (go_wp2; refine bodyPost_ret (results_cell_row Tryz.results61 _ _ w.heap.size 104 _ (0, 0) _ rfl (heap_alloc_last _ _) Tryz.underlying104 rfl (by kernel_rfl)) rfl ?_; exact ⟨rfl, (Below.refl _ _).alloc (Nat.le_refl _) _⟩)
end Go.Proofs.YtjgiobdpbbhekaaGreatDoor
