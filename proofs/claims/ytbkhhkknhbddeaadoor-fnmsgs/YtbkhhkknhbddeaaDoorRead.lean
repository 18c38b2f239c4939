/- The contracts of the functions that read a number in bytes: at every text and place. -/
import Derived.Test.YtbkhhkknhbddeaaDoorProg
import Derived.Test.YtbkhhkknhbddeaaDoorKit
import Derived.Test.YtbkhhkknhbddeaaDoorPlain
import Derived.Test.YtbkhhkknhbddeaaDoorVar
import Derived.Handy
namespace Go.Proofs.YtbkhhkknhbddeaaDoor
open Go.RowKit
set_option maxRecDepth 100000

def readVarV (s : ByteArray) (p : Int) : Value := if 0 ≤ p ∧ p ≤ s.size then rdV (rdF (byt s) s.size 5 p.toNat 0 1) else rdV none
theorem readVarV_no {s : ByteArray} {p : Int} (h : p < 0 ∨ (s.size : Int) < p) : readVarV s p = rdV none := by unfold readVarV; rw [if_neg (by omega)]
theorem readVarV_in {s : ByteArray} {p : Nat} (h : p ≤ s.size) : readVarV s p = rdV (rdF (byt s) s.size 5 p 0 1) := by unfold readVarV; rw [if_pos (by omega), Int.toNat_natCast]

set_option maxHeartbeats 400000 in
theorem implReadVar_in (s : ByteArray) (p : Nat) (w : World) (hs : s.size ≤ 1048576) (hp : p ≤ s.size) :
    Calls Tryd.prog 85 #[.string s, .int .i64 p] w fun e w' => e = .returned (rdV (rdF (byt s) s.size 5 p 0 1)) ∧ w' = w := by
  have q1 : decide ((p : Int) < 0) = false := by simp
  have q2 : decide (s.size < p) = false := by simp; omega
  go_enter Tryd.func85, Tryd.ntmps85
  go_wp2
  go_loop [7, 8, 9] (fun nv wv iv => ∃ (f k n wt : Nat), k ≤ 5 ∧ p + k ≤ s.size ∧ Hid (RdAt (byt s) s.size p f k n wt) ∧ nv = .int .i64 (n : Int) ∧ wv = .int .i64 (wt : Int) ∧ iv = .int .i64 ((p + k : Nat) : Int)) (fun _ _ iv => s.size - (intOf iv).toNat)
  case atStart => exact ⟨5, 0, 0, 1, by omega, by omega, RdAt.start _ _ _, rfl, rfl, rfl⟩
  case round =>
    obtain ⟨f, k, n, wt, hk, hpk, hr, rfl, rfl, rfl⟩ := hrel
    by_cases hlt : p + k < s.size ∧ k < 5
    · obtain ⟨h1, h2⟩ := hlt
      obtain ⟨hw1, hw2⟩ := hr.out.bd h2
      have hn := hr.out.lt
      have hb := get_byt s
      have hb1 := byt_le s (p + k)
      have hx1 := mul_bd (byt s (p + k)) wt
      have hfirst : Hid _ := hr.out.first h2
      obtain ⟨x, hx⟩ : ∃ x, x = byt s (p + k) % 128 * wt := ⟨_, rfl⟩
      have hxi : ((byt s (p + k) : Int) % 128 * (wt : Int)) = (x : Int) := by rw [hx]; simp
      have HX : Hid _ := hx
      rw [← hx] at hx1
      clear hx
      by_cases c1 : 127 < byt s (p + k)
      · go_wp2
        go_round
        case rel =>
          obtain ⟨g, hg⟩ := hr.out.more h2 h1 c1
          exact ⟨g, k + 1, n + x, wt * 128, by omega, by omega, by rw [HX.out]; exact hg, by go_num, by go_num, by go_num⟩
        case measure => simp [intOf]; omega
      · by_cases c2 : 1000000000 < n + x
        · by_cases c3 : byt s (p + k) ≤ 0
          all_goals
            by_cases c4 : 0 < k
            all_goals
              go_wp2
              go_ret3
              exact ⟨by rw [hr.out.no h2 h1 (by omega) (.inr (by rw [← HX.out]; exact c2))]; rfl, rfl⟩
        · by_cases c3 : byt s (p + k) ≤ 0
          · by_cases c4 : 0 < k
            · go_wp2
              go_ret3
              exact ⟨by rw [hr.out.no h2 h1 (by omega) (.inl ⟨by omega, hfirst.out.2 c4⟩)]; rfl, rfl⟩
            · go_wp2
              go_ret3
              exact ⟨by rw [hr.out.yes h2 h1 (by omega) (by rw [← HX.out]; have := hfirst.out; omega)]; rw [← HX.out]; rfl, rfl⟩
          · go_wp2
            go_ret3
            exact ⟨by rw [hr.out.yes h2 h1 (by omega) (by rw [← HX.out]; omega)]; rw [← HX.out]; rfl, rfl⟩
    · by_cases h1 : p + k < s.size
      all_goals
        go_wp2
        go_ret3
        exact ⟨by rw [hr.out.done hlt hk]; rfl, rfl⟩

theorem implReadVar_any (s : ByteArray) (p : Int) (w : World) (hs : s.size ≤ 1048576) :
    Calls Tryd.prog 85 #[.string s, .int .i64 p] w fun e w' => e = .returned (readVarV s p) ∧ w' = w := by
  by_cases h : p < 0 ∨ (s.size : Int) < p
  · rw [readVarV_no h]
    rcases h with h | h
    · go_enter Tryd.func85, Tryd.ntmps85
      go_wp2
      go_ret3
      exact ⟨rfl, rfl⟩
    · by_cases h0 : p < 0
      all_goals
        go_enter Tryd.func85, Tryd.ntmps85
        go_wp2
        go_ret3
        exact ⟨rfl, rfl⟩
  · obtain ⟨n, rfl⟩ := Int.eq_ofNat_of_zero_le (show 0 ≤ p by omega)
    rw [readVarV_in (by omega)]
    exact implReadVar_in s n w hs (by omega)
end Go.Proofs.YtbkhhkknhbddeaaDoor
