import Derived.Test.YtigpjmmfelndkaaGreatDoorLXP
namespace Go.Proofs.YtigpjmmfelndkaaGreatDoor
open Go.RowKit
set_option maxRecDepth 100000
set_option maxHeartbeats 1000000
theorem qnZ (n m : Nat) : (n : Int).tdiv (m : Int) = ((n / m : Nat) : Int) := by rw [Int.ofNat_tdiv]
theorem qhO (n : Nat) (w : World) (hn : n <= 1048576) :
  Calls Tryz.prog 64 #[.int .i64 (n : Int)] w fun e w' => ∃ x y z : Int, e = .returned (.tuple #[.int .i64 x, .int .i64 y, .int .i64 z]) /\ (2 <= n -> x = (qdD n : Int) /\ y = (qeF n : Int) /\ z = (qdO n : Int)) /\ w' = w := by
 by_cases h2 : 2 <= n
 ·have e1 : (n : Int).tdiv 4 = ((n / 4 : Nat) : Int) := qnZ n 4
  have e1' : (n : Int) / 4 = ((n / 4 : Nat) : Int) := by omega
  obtain ⟨q, hq⟩ : ∃ q, n / 4 = q := ⟨_, rfl⟩
  rw [hq] at e1 e1'
  have hs := qkM h2
  obtain ⟨a, ha⟩ : ∃ a, qdD n = a := ⟨_, rfl⟩
  have hs2 : qdO n = (n - a) / 2 := by unfold qdO; rw [ha]
  obtain ⟨s, hs3⟩ : ∃ s, qdO n = s := ⟨_, rfl⟩
  obtain ⟨t, ht⟩ : ∃ t, qeF n = t := ⟨_, rfl⟩
  rw [ha, ht, hs3] at hs
  have e2 : ((n : Int) - (a : Int)).tdiv 2 = (s : Int) := by
   rw [show (n : Int) - (a : Int) = ((n - a : Nat) : Int) by omega]
   have := qnZ (n - a) 2
   rw [<- hs2, hs3] at this
   exact this
  have e2' : ((n : Int) - (a : Int)) / 2 = (s : Int) := by omega
  have HS := hI (And.intro ha (And.intro ht (And.intro hs3 hs.1)))
  by_cases hq1 : q < 1
  ·have ea : a = 1 := by rw [<- ha]; unfold qdD; rw [hq, if_pos hq1]
   subst ea
   have k1 : decide ((q : Int) < 1) = true := by simp; omega
   have E2 : ((n : Int) - 1).tdiv 2 = (s : Int) := e2
   have E2' : ((n : Int) - 1) / 2 = (s : Int) := e2'
   clear ha ht hs3 hs hs2 e2 e2'
   go_enter Tryz.func64, Tryz.ntmps64
   go_wp2
   go_ret3
   refine ⟨_, _, _, rfl, fun _ => ⟨by rw [HS.out.1]; rfl, ?_, by rw [HS.out.2.2.1]⟩, rfl⟩
   rw [HS.out.2.1]
   have := HS.out.2.2.2
   omega
  ·have ea : a = q := by rw [<- ha]; unfold qdD; rw [hq, if_neg hq1]
   subst ea
   have k1 : decide ((a : Int) < 1) = false := by simp; omega
   clear ha ht hs3 hs hs2
   go_enter Tryz.func64, Tryz.ntmps64
   go_wp2
   go_ret3
   refine ⟨_, _, _, rfl, fun _ => ⟨by rw [HS.out.1], ?_, by rw [HS.out.2.2.1]⟩, rfl⟩
   rw [HS.out.2.1]
   have := HS.out.2.2.2
   omega
 ·have hn2 : n = 0 ∨ n = 1 := by omega
  rcases hn2 with rfl | rfl
  ·go_enter Tryz.func64, Tryz.ntmps64
   go_wp2
   go_ret3
   exact ⟨_, _, _, rfl, fun h => by omega, rfl⟩
  ·go_enter Tryz.func64, Tryz.ntmps64
   go_wp2
   go_ret3
   exact ⟨_, _, _, rfl, fun h => by omega, rfl⟩
theorem qgS (n : Nat) (w : World) (hn : n <= 24) :
  Calls Tryz.prog 63 #[.int .i64 (n : Int)] w fun e w' => e = .returned (.int .i64 (qaN n : Int)) /\ w' = w := by
 go_enter Tryz.func63, Tryz.ntmps63
 go_wp2
 go_loop [3] (fun iv => ∃ m : Nat, iv = .int .i64 (m : Int) /\ (m = 4 ∨ m = 8 ∨ m = 16 ∨ m = 32 ∨ m = 64) /\ (m = 4 ∨ m <= 4 * n)) (fun iv => 64 - (intOf iv).toNat)
 case atStart => exact ⟨4, rfl, .inl rfl, .inl rfl⟩
 case round =>
  obtain ⟨m, rfl, hm, hp⟩ := hrel
  by_cases hlt : m <= 2 * n
  ·have k1 : (m : Int) <= 2 * (n : Int) := by omega
   go_wp2
   go_round
   case rel => exact ⟨2 * m, by go_num, by omega, by omega⟩
   case measure => simp [intOf]; omega
  ·have k1 : ¬ (m : Int) <= 2 * (n : Int) := by omega
   have HC := hI (show qaN n = m by unfold qaN; rcases hm with rfl | rfl | rfl | rfl | rfl <;> (repeat' split) <;> omega)
   go_wp2
   go_ret
   exact ⟨by rw [HC.out]; rfl, rfl⟩
theorem qmM (n : Nat) (w : World) (hn : n <= 24) :
  Calls Tryz.prog 115 #[.int .i64 (n : Int)] w fun e w' => e = .returned (.int .i64 (qaN n : Int)) /\ w' = w := by
 go_enter Tryz.func115, Tryz.ntmps115
 go_wp2
 go_loop [3] (fun iv => ∃ m : Nat, iv = .int .i64 (m : Int) /\ (m = 4 ∨ m = 8 ∨ m = 16 ∨ m = 32 ∨ m = 64) /\ (m = 4 ∨ m <= 4 * n)) (fun iv => 64 - (intOf iv).toNat)
 case atStart => exact ⟨4, rfl, .inl rfl, .inl rfl⟩
 case round =>
  obtain ⟨m, rfl, hm, hp⟩ := hrel
  by_cases hlt : m <= 2 * n
  ·have k1 : (m : Int) <= 2 * (n : Int) := by omega
   go_wp2
   go_round
   case rel => exact ⟨2 * m, by go_num, by omega, by omega⟩
   case measure => simp [intOf]; omega
  ·have k1 : ¬ (m : Int) <= 2 * (n : Int) := by omega
   have HC := hI (show qaN n = m by unfold qaN; rcases hm with rfl | rfl | rfl | rfl | rfl <;> (repeat' split) <;> omega)
   go_wp2
   go_ret
   exact ⟨by rw [HC.out]; rfl, rfl⟩
theorem qiB (n : Nat) (w : World) (h2 : 2 <= n) (hn : n <= 24) :
  Calls Tryz.prog 57 #[.int .i64 (n : Int)] w fun e w' => e = .returned (.agg #[.int .i64 (qaN n : Int), .int .i64 (qdD n : Int), .int .i64 (qeF n : Int), .int .i64 (qdO n : Int)]) /\ Below w.heap.size w w' := by
 have e1 : (n : Int).tdiv 4 = ((n / 4 : Nat) : Int) := qnZ n 4
 have e1' : (n : Int) / 4 = ((n / 4 : Nat) : Int) := by omega
 obtain ⟨q, hq⟩ : ∃ q, n / 4 = q := ⟨_, rfl⟩
 rw [hq] at e1 e1'
 have hs := qkM h2
 obtain ⟨a, ha⟩ : ∃ a, qdD n = a := ⟨_, rfl⟩
 have hs2 : qdO n = (n - a) / 2 := by unfold qdO; rw [ha]
 obtain ⟨s, hs3⟩ : ∃ s, qdO n = s := ⟨_, rfl⟩
 obtain ⟨t, ht⟩ : ∃ t, qeF n = t := ⟨_, rfl⟩
 rw [ha, ht, hs3] at hs
 have e2 : ((n : Int) - (a : Int)).tdiv 2 = (s : Int) := by
  rw [show (n : Int) - (a : Int) = ((n - a : Nat) : Int) by omega]
  have := qnZ (n - a) 2
  rw [<- hs2, hs3] at this
  exact this
 have e2' : ((n : Int) - (a : Int)) / 2 = (s : Int) := by omega
 have e3 : (n : Int) - (a : Int) - (s : Int) = (t : Int) := by omega
 have em : max (1 : Int) (q : Int) = (a : Int) := by
  rw [<- ha]
  unfold qdD
  rw [hq]
  split <;> omega
 have CC := hI (fun w' => qmM n w' hn)
 have BX := hI (And.intro (Blk.new w 102 #[.int .i64 0, .int .i64 0, .int .i64 0, .int .i64 0]) (bAl w (.cells #[.int .i64 0, .int .i64 0, .int .i64 0, .int .i64 0] 102)))
 rw [ha, ht, hs3]
 have HS := hI (And.intro hs.1 (And.intro h2 hn))
 have z0 : (0 : Int) <= (q : Int) := by omega
 have q24 : (q : Int) <= 24 := by omega
 have a24 : (a : Int) <= 24 := by omega
 have s24 : (s : Int) <= 24 := by omega
 have n24 : (n : Int) <= 24 := by omega
 clear ha ht hs3 hs hs2 hq
 go_enter Tryz.func57, Tryz.ntmps57
 go_wp2_with fail
 all_goals
  refine (CC.out _).mono ?_
  rintro e w1 ⟨rfl, hw⟩
  subst hw
  first
  | (have hqa : (q : Int) = (a : Int) := (by omega); go_wp2; refine bodyPost_ret (results_cell_row Tryz.results57 _ _ w.heap.size 102 _ (0, 0) _ rfl (heap_alloc_last _ _) Tryz.underlying102 rfl (by kernel_rfl)) rfl ?_; exact ⟨rfl, bAl _ _⟩)
  | (have hqa : (1 : Int) = (a : Int) := (by omega); go_wp2; refine bodyPost_ret (results_cell_row Tryz.results57 _ _ w.heap.size 102 _ (0, 0) _ rfl (heap_alloc_last _ _) Tryz.underlying102 rfl (by kernel_rfl)) rfl ?_; first | exact ⟨rfl, bAl _ _⟩ | (rw [<- hqa]; exact ⟨rfl, bAl _ _⟩))
  | (go_wp2; refine bodyPost_ret (results_cell_row Tryz.results57 _ _ w.heap.size 102 _ (0, 0) _ rfl (heap_alloc_last _ _) Tryz.underlying102 rfl (by kernel_rfl)) rfl ?_; exact ⟨rfl, bAl _ _⟩)
end Go.Proofs.YtigpjmmfelndkaaGreatDoor
