/- The model's small functions on near entries: how many keys and cells there may be. -/
import Derived.Test.YtenmpciimocggaaGreatXA
import Derived.Test.YtenmpciimocggaaGreatNeN
namespace Go.Proofs.YtenmpciimocggaaGreat
open Go.RowKit

theorem quo_nat (n m : Nat) : (n : Int).tdiv (m : Int) = ((n / m : Nat) : Int) := by rw [Int.ofNat_tdiv]
set_option maxRecDepth 100000 in
theorem specMosts_any (n : Nat) (w : World) (hn : n ≤ 1048576) :
    Calls Tryz.prog 20 #[.int .i64 (n : Int)] w fun e w' => ∃ x y z : Int, e = .returned (.tuple #[.int .i64 x, .int .i64 y, .int .i64 z]) ∧ (2 ≤ n → x = (mostW n : Int) ∧ y = (mostT n : Int) ∧ z = (mostS n : Int)) ∧ w' = w := by
  by_cases h2 : 2 ≤ n
  · have e1 : (n : Int).tdiv 4 = ((n / 4 : Nat) : Int) := quo_nat n 4
    have e1' : (n : Int) / 4 = ((n / 4 : Nat) : Int) := by omega
    obtain ⟨q, hq⟩ : ∃ q, n / 4 = q := ⟨_, rfl⟩
    rw [hq] at e1 e1'
    have hs := most_sum h2
    obtain ⟨a, ha⟩ : ∃ a, mostW n = a := ⟨_, rfl⟩
    have hs2 : mostS n = (n - a) / 2 := by unfold mostS; rw [ha]
    obtain ⟨s, hs3⟩ : ∃ s, mostS n = s := ⟨_, rfl⟩
    obtain ⟨t, ht⟩ : ∃ t, mostT n = t := ⟨_, rfl⟩
    rw [ha, ht, hs3] at hs
    have e2 : ((n : Int) - (a : Int)).tdiv 2 = (s : Int) := by
      rw [show (n : Int) - (a : Int) = ((n - a : Nat) : Int) by omega]
      have := quo_nat (n - a) 2
      rw [← hs2, hs3] at this
      exact this
    have e2' : ((n : Int) - (a : Int)) / 2 = (s : Int) := by omega
    have HS := hide1 (And.intro ha (And.intro ht (And.intro hs3 hs.1)))
    by_cases hq1 : q < 1
    · have ea : a = 1 := by rw [← ha]; unfold mostW; rw [hq, if_pos hq1]
      subst ea
      have k1 : decide ((q : Int) < 1) = true := by simp; omega
      have E2 : ((n : Int) - 1).tdiv 2 = (s : Int) := e2
      have E2' : ((n : Int) - 1) / 2 = (s : Int) := e2'
      clear ha ht hs3 hs hs2 e2 e2'
      go_enter Tryz.func20, Tryz.ntmps20
      go_wp2
      go_ret3
      refine ⟨_, _, _, rfl, fun _ => ⟨by rw [HS.out.1]; rfl, ?_, by rw [HS.out.2.2.1]⟩, rfl⟩
      rw [HS.out.2.1]
      have := HS.out.2.2.2
      omega
    · have ea : a = q := by rw [← ha]; unfold mostW; rw [hq, if_neg hq1]
      subst ea
      have k1 : decide ((a : Int) < 1) = false := by simp; omega
      clear ha ht hs3 hs hs2
      go_enter Tryz.func20, Tryz.ntmps20
      go_wp2
      go_ret3
      refine ⟨_, _, _, rfl, fun _ => ⟨by rw [HS.out.1], ?_, by rw [HS.out.2.2.1]⟩, rfl⟩
      rw [HS.out.2.1]
      have := HS.out.2.2.2
      omega
  · have hn2 : n = 0 ∨ n = 1 := by omega
    rcases hn2 with rfl | rfl
    · go_enter Tryz.func20, Tryz.ntmps20
      go_wp2
      go_ret3
      exact ⟨_, _, _, rfl, fun h => by omega, rfl⟩
    · go_enter Tryz.func20, Tryz.ntmps20
      go_wp2
      go_ret3
      exact ⟨_, _, _, rfl, fun h => by omega, rfl⟩

set_option maxRecDepth 100000 in
theorem specCells_any8 (n : Nat) (w : World) (hn : n ≤ 24) :
    Calls Tryz.prog 19 #[.int .i64 (n : Int)] w fun e w' => e = .returned (.int .i64 (cellsN n : Int)) ∧ w' = w := by
  go_enter Tryz.func19, Tryz.ntmps19
  go_wp2
  go_loop [3] (fun iv => ∃ m : Nat, iv = .int .i64 (m : Int) ∧ (m = 4 ∨ m = 8 ∨ m = 16 ∨ m = 32 ∨ m = 64) ∧ (m = 4 ∨ m ≤ 4 * n)) (fun iv => 64 - (intOf iv).toNat)
  case atStart => exact ⟨4, rfl, .inl rfl, .inl rfl⟩
  case round =>
    obtain ⟨m, rfl, hm, hp⟩ := hrel
    by_cases hlt : m ≤ 2 * n
    · have k1 : (m : Int) ≤ 2 * (n : Int) := by omega
      go_wp2
      go_round
      case rel => exact ⟨2 * m, by go_num, by omega, by omega⟩
      case measure => simp [intOf]; omega
    · have k1 : ¬ (m : Int) ≤ 2 * (n : Int) := by omega
      have HC := hide1 (show cellsN n = m by unfold cellsN; rcases hm with rfl | rfl | rfl | rfl | rfl <;> (repeat' split) <;> omega)
      go_wp2
      go_ret
      exact ⟨by rw [HC.out]; rfl, rfl⟩
end Go.Proofs.YtenmpciimocggaaGreat
