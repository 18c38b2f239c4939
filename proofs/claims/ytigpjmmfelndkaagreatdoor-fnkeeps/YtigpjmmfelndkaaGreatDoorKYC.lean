import Derived.Test.YtigpjmmfelndkaaGreatDoorKXP
namespace Go.Proofs.YtigpjmmfelndkaaGreatDoor
open Go.RowKit
set_option maxRecDepth 100000
set_option maxHeartbeats 1000000
theorem quo_nat (n m : Nat) : (n : Int).tdiv (m : Int) = ((n / m : Nat) : Int) := by rw [Int.ofNat_tdiv]
theorem specMosts_any (n : Nat) (w : World) (hn : n <= 1048576) :
  Calls Tryz.prog 64 #[.int .i64 (n : Int)] w fun e w' => ∃ x y z : Int, e = .returned (.tuple #[.int .i64 x, .int .i64 y, .int .i64 z]) /\ (2 <= n -> x = (qfA n : Int) /\ y = (mostT n : Int) /\ z = (qfM n : Int)) /\ w' = w := by
 by_cases h2 : 2 <= n
 ·have e1 : (n : Int).tdiv 4 = ((n / 4 : Nat) : Int) := quo_nat n 4
  have e1' : (n : Int) / 4 = ((n / 4 : Nat) : Int) := by omega
  obtain ⟨q, hq⟩ : ∃ q, n / 4 = q := ⟨_, rfl⟩
  rw [hq] at e1 e1'
  have hs := most_sum h2
  obtain ⟨a, ha⟩ : ∃ a, qfA n = a := ⟨_, rfl⟩
  have hs2 : qfM n = (n - a) / 2 := by unfold qfM; rw [ha]
  obtain ⟨s, hs3⟩ : ∃ s, qfM n = s := ⟨_, rfl⟩
  obtain ⟨t, ht⟩ : ∃ t, mostT n = t := ⟨_, rfl⟩
  rw [ha, ht, hs3] at hs
  have e2 : ((n : Int) - (a : Int)).tdiv 2 = (s : Int) := by
   rw [show (n : Int) - (a : Int) = ((n - a : Nat) : Int) by omega]
   have := quo_nat (n - a) 2
   rw [<- hs2, hs3] at this
   exact this
  have e2' : ((n : Int) - (a : Int)) / 2 = (s : Int) := by omega
  have HS := hI (And.intro ha (And.intro ht (And.intro hs3 hs.1)))
  by_cases hq1 : q < 1
  ·have ea : a = 1 := by rw [<- ha]; unfold qfA; rw [hq, if_pos hq1]
   subst ea
   have k1 : decide ((q : Int) < 1) = true := by simp; omega
   have E2 : ((n : Int) - 1).tdiv 2 = (s : Int) := e2
   have E2' : ((n : Int) - 1) / 2 = (s : Int) := e2'
   clear ha ht hs3 hs hs2 e2 e2'
   go_enter Tryz.func64, Tryz.ntmps64
   go_wp2
   go_ret3
   refine ⟨_, _, _, rfl, fun _ => ⟨by rw [HS.out.1]; rfl, ?_, by rw [HS.out.2.2.1]⟩, rfl⟩
   rw [HS.out.2.1]
   have := HS.out.2.2.2
   omega
  ·have ea : a = q := by rw [<- ha]; unfold qfA; rw [hq, if_neg hq1]
   subst ea
   have k1 : decide ((a : Int) < 1) = false := by simp; omega
   clear ha ht hs3 hs hs2
   go_enter Tryz.func64, Tryz.ntmps64
   go_wp2
   go_ret3
   refine ⟨_, _, _, rfl, fun _ => ⟨by rw [HS.out.1], ?_, by rw [HS.out.2.2.1]⟩, rfl⟩
   rw [HS.out.2.1]
   have := HS.out.2.2.2
   omega
 ·have hn2 : n = 0 ∨ n = 1 := by omega
  rcases hn2 with rfl | rfl
  ·go_enter Tryz.func64, Tryz.ntmps64
   go_wp2
   go_ret3
   exact ⟨_, _, _, rfl, fun h => by omega, rfl⟩
  ·go_enter Tryz.func64, Tryz.ntmps64
   go_wp2
   go_ret3
   exact ⟨_, _, _, rfl, fun h => by omega, rfl⟩
theorem specCells_any8 (n : Nat) (w : World) (hn : n <= 24) :
  Calls Tryz.prog 63 #[.int .i64 (n : Int)] w fun e w' => e = .returned (.int .i64 (qbD n : Int)) /\ w' = w := by
 go_enter Tryz.func63, Tryz.ntmps63
 go_wp2
 go_loop [3] (fun iv => ∃ m : Nat, iv = .int .i64 (m : Int) /\ (m = 4 ∨ m = 8 ∨ m = 16 ∨ m = 32 ∨ m = 64) /\ (m = 4 ∨ m <= 4 * n)) (fun iv => 64 - (intOf iv).toNat)
 case atStart => exact ⟨4, rfl, .inl rfl, .inl rfl⟩
 case round =>
  obtain ⟨m, rfl, hm, hp⟩ := hrel
  by_cases hlt : m <= 2 * n
  ·have k1 : (m : Int) <= 2 * (n : Int) := by omega
   go_wp2
   go_round
   case rel => exact ⟨2 * m, by go_num, by omega, by omega⟩
   case measure => simp [intOf]; omega
  ·have k1 : ¬ (m : Int) <= 2 * (n : Int) := by omega
   have HC := hI (show qbD n = m by unfold qbD; rcases hm with rfl | rfl | rfl | rfl | rfl <;> (repeat' split) <;> omega)
   go_wp2
   go_ret
   exact ⟨by rw [HC.out]; rfl, rfl⟩
theorem implCells_any8 (n : Nat) (w : World) (hn : n <= 24) :
  Calls Tryz.prog 115 #[.int .i64 (n : Int)] w fun e w' => e = .returned (.int .i64 (qbD n : Int)) /\ w' = w := by
 go_enter Tryz.func115, Tryz.ntmps115
 go_wp2
 go_loop [3] (fun iv => ∃ m : Nat, iv = .int .i64 (m : Int) /\ (m = 4 ∨ m = 8 ∨ m = 16 ∨ m = 32 ∨ m = 64) /\ (m = 4 ∨ m <= 4 * n)) (fun iv => 64 - (intOf iv).toNat)
 case atStart => exact ⟨4, rfl, .inl rfl, .inl rfl⟩
 case round =>
  obtain ⟨m, rfl, hm, hp⟩ := hrel
  by_cases hlt : m <= 2 * n
  ·have k1 : (m : Int) <= 2 * (n : Int) := by omega
   go_wp2
   go_round
   case rel => exact ⟨2 * m, by go_num, by omega, by omega⟩
   case measure => simp [intOf]; omega
  ·have k1 : ¬ (m : Int) <= 2 * (n : Int) := by omega
   have HC := hI (show qbD n = m by unfold qbD; rcases hm with rfl | rfl | rfl | rfl | rfl <;> (repeat' split) <;> omega)
   go_wp2
   go_ret
   exact ⟨by rw [HC.out]; rfl, rfl⟩
theorem implShape_any (n : Nat) (w : World) (h2 : 2 <= n) (hn : n <= 24) :
  Calls Tryz.prog 57 #[.int .i64 (n : Int)] w fun e w' => e = .returned (.agg #[.int .i64 (qbD n : Int), .int .i64 (qfA n : Int), .int .i64 (mostT n : Int), .int .i64 (qfM n : Int)]) /\ Below w.heap.size w w' := by
 have e1 : (n : Int).tdiv 4 = ((n / 4 : Nat) : Int) := quo_nat n 4
 have e1' : (n : Int) / 4 = ((n / 4 : Nat) : Int) := by omega
 obtain ⟨q, hq⟩ : ∃ q, n / 4 = q := ⟨_, rfl⟩
 rw [hq] at e1 e1'
 have hs := most_sum h2
 obtain ⟨a, ha⟩ : ∃ a, qfA n = a := ⟨_, rfl⟩
 have hs2 : qfM n = (n - a) / 2 := by unfold qfM; rw [ha]
 obtain ⟨s, hs3⟩ : ∃ s, qfM n = s := ⟨_, rfl⟩
 obtain ⟨t, ht⟩ : ∃ t, mostT n = t := ⟨_, rfl⟩
 rw [ha, ht, hs3] at hs
 have e2 : ((n : Int) - (a : Int)).tdiv 2 = (s : Int) := by
  rw [show (n : Int) - (a : Int) = ((n - a : Nat) : Int) by omega]
  have := quo_nat (n - a) 2
  rw [<- hs2, hs3] at this
  exact this
 have e2' : ((n : Int) - (a : Int)) / 2 = (s : Int) := by omega
 have e3 : (n : Int) - (a : Int) - (s : Int) = (t : Int) := by omega
 have em : max (1 : Int) (q : Int) = (a : Int) := by
  rw [<- ha]
  unfold qfA
  rw [hq]
  split <;> omega
 have CC := hI (fun w' => implCells_any8 n w' hn)
 have BX := hI (And.intro (Blk.new w 102 #[.int .i64 0, .int .i64 0, .int .i64 0, .int .i64 0]) ((Below.refl w.heap.size w).alloc (Nat.le_refl _) (.cells #[.int .i64 0, .int .i64 0, .int .i64 0, .int .i64 0] 102)))
 rw [ha, ht, hs3]
 have HS := hI (And.intro hs.1 (And.intro h2 hn))
 have z0 : (0 : Int) <= (q : Int) := by omega
 have q24 : (q : Int) <= 24 := by omega
 have a24 : (a : Int) <= 24 := by omega
 have s24 : (s : Int) <= 24 := by omega
 have n24 : (n : Int) <= 24 := by omega
 clear ha ht hs3 hs hs2 hq
 go_enter Tryz.func57, Tryz.ntmps57
 go_wp2_with fail
 all_goals
  refine (CC.out _).mono ?_
  rintro e w1 ⟨rfl, hw⟩
  subst hw
  first
  | (have hqa : (q : Int) = (a : Int) := (by omega); go_wp2; refine bodyPost_ret (results_cell_row Tryz.results57 _ _ w.heap.size 102 _ (0, 0) _ rfl (heap_alloc_last _ _) Tryz.underlying102 rfl (by kernel_rfl)) rfl ?_; exact ⟨rfl, (Below.refl _ _).alloc (Nat.le_refl _) _⟩)
  | (have hqa : (1 : Int) = (a : Int) := (by omega); go_wp2; refine bodyPost_ret (results_cell_row Tryz.results57 _ _ w.heap.size 102 _ (0, 0) _ rfl (heap_alloc_last _ _) Tryz.underlying102 rfl (by kernel_rfl)) rfl ?_; first | exact ⟨rfl, (Below.refl _ _).alloc (Nat.le_refl _) _⟩ | (rw [<- hqa]; exact ⟨rfl, (Below.refl _ _).alloc (Nat.le_refl _) _⟩))
  | (go_wp2; refine bodyPost_ret (results_cell_row Tryz.results57 _ _ w.heap.size 102 _ (0, 0) _ rfl (heap_alloc_last _ _) Tryz.underlying102 rfl (by kernel_rfl)) rfl ?_; exact ⟨rfl, (Below.refl _ _).alloc (Nat.le_refl _) _⟩)
end Go.Proofs.YtigpjmmfelndkaaGreatDoor
