/- The contracts of the functions of doors, the program's table of bits being as its text lays it. -/
import Derived.Test.YtocoligcbgcanaaDoorDrO
import Derived.Lib.LaidTab
import Derived.WalkSmall
import Derived.Handy
import Derived.Deep.QuietTactic
import Derived.BigQuiet
namespace Go.Proofs.YtocoligcbgcanaaDoor
open Go.RowKit

/-- The program's table of bits holds what its text lays there. -/
def TabD (w : World) : Prop := Lib.TabIs Tryd.prog w "loop.example/g00180/impl.bitsByPlace" .i64 tabB
theorem gTabD : Tryd.prog.globalNamed "loop.example/g00180/impl.bitsByPlace" = some 0 := by kernel_rfl
theorem TabD.pos {w : World} (h : TabD w) : 0 < w.heap.size := by
  unfold TabD Lib.TabIs World.var? at h
  rw [gTabD] at h
  simp only [Option.bind_some] at h
  cases e : w.heap[0]? with
  | none => rw [e] at h; cases h
  | some x => exact (Array.getElem?_eq_some_iff.1 e).1
theorem TabD.below {w w' : World} {B : Nat} (h : TabD w) (hb : Below B w w') (hB : 0 < B) : TabD w' := var?_below hb gTabD hB h
theorem TabD.later {w w' : World} (h : TabD w) (hb : Below w.heap.size w w') : TabD w' := h.below hb h.pos
theorem TabD.cell {w : World} (h : TabD w) (r : Nat) (hr : r < 32) : w.cell? ⟨0, r, none⟩ = some (.int .i64 ((2 ^ r : Nat) : Int)) := by
  rw [← tabB_at ⟨r, hr⟩]
  exact Lib.TabIs.cell h gTabD r hr

set_option maxHeartbeats 400000 in
theorem bitOf_any (s : ByteArray) (hs : s.size ≤ 1048576) (seed : Int) (h1 : 0 ≤ seed) (h2 : seed ≤ 100) (w : World) (ht : TabD w) :
    Calls Tryd.prog 24 #[.string s, .int .i64 seed] w fun e w' => e = .returned (.int .i64 (kbN s seed : Int)) ∧ w = w' := by
  have x1 := ht.cell (kbP s seed) (kbP_lt s seed)
  have C := hide1 (implHash_any s seed w hs (by omega) (by omega))
  have hlt := hashN_lt s seed
  have hr : (hashN s seed : Int) % 32 = (kbP s seed : Int) := by unfold kbP; omega
  have hk := kbP_lt s seed
  change w.cell? _ = some (.int .i64 (kbN s seed : Int)) at x1
  generalize kbN s seed = b at *
  generalize kbP s seed = r at *
  generalize hashN s seed = n at *
  clear ht
  go_enter Tryd.func24, Tryd.ntmps24
  go_wp2_with fail
  refine C.out.mono ?_
  rintro e w1 ⟨rfl, rfl⟩
  go_wp2
  go_ret
  exact ⟨rfl, rfl⟩

set_option maxHeartbeats 400000 in
theorem bitsOf_any (s : ByteArray) (hs : s.size ≤ 1048576) (w : World) (ht : TabD w) :
    Calls Tryd.prog 18 #[.string s] w fun e w' => e = .returned (.int .i64 (bsN s : Int)) ∧ w = w' := by
  have C7 := hide1 (bitOf_any s hs 7 (by decide) (by decide) w ht)
  have C8 := hide1 (bitOf_any s hs 8 (by decide) (by decide) w ht)
  have ho := i64_or32 (kbN s 7) (kbN s 8) (kbN_lt s 7) (kbN_lt s 8)
  change _ = ((bsN s : Nat) : Int) at ho
  generalize kbN s 7 = a at *
  generalize kbN s 8 = b at *
  generalize bsN s = c at *
  clear ht
  go_enter Tryd.func18, Tryd.ntmps18
  go_wp2_with fail
  refine C7.out.mono ?_
  rintro e w1 ⟨rfl, rfl⟩
  go_wp2_with fail
  refine C8.out.mono ?_
  rintro e w1 ⟨rfl, rfl⟩
  go_wp2
  go_ret
  exact ⟨by rw [← ho]; rfl, rfl⟩

set_option maxHeartbeats 400000 in
theorem l06Bit_any (s : ByteArray) (hs : s.size ≤ 1048576) (seed : Int) (h1 : 0 ≤ seed) (h2 : seed ≤ 100) (w : World) :
    Calls Tryd.prog 20 #[.string s, .int .i64 seed] w fun e w' => e = .returned (.int .i64 (kbN s seed : Int)) ∧ w = w' := by
  have C := hide1 (specHash_any s seed w hs (by omega) (by omega))
  have hlt := hashN_lt s seed
  have hr : (hashN s seed : Int) % 32 = (kbP s seed : Int) := by unfold kbP; omega
  have hk := kbP_lt s seed
  have HK : Hid (kbN s seed = 2 ^ kbP s seed) := hide1 rfl
  generalize kbN s seed = b at *
  generalize kbP s seed = r at *
  generalize hashN s seed = n at *
  go_enter Tryd.func20, Tryd.ntmps20
  go_wp2
  go_loop [5, 6] (fun bv iv => ∃ (i x : Nat), i ≤ r ∧ iv = .int .i64 (i : Int) ∧ bv = .int .i64 (x : Int) ∧ x ≤ 4294967296 ∧ Hid (x = 2 ^ i)) (fun _ iv => r - (intOf iv).toNat)
  case atStart => exact ⟨0, 1, by omega, rfl, rfl, by omega, rfl⟩
  case round =>
    obtain ⟨i, x, hi, rfl, rfl, hx, hxe⟩ := hrel
    by_cases hlt2 : i < r
    · have k1 : (i : Int) < (r : Int) := by omega
      have hx2 : Hid (2 * x = 2 ^ (i + 1)) := by show 2 * x = _; rw [hxe.out, Nat.pow_succ]; omega
      have hx3 : 2 * x ≤ 4294967296 := by rw [hx2.out]; exact pow_in (i + 1) (by omega)
      go_wp2_with fail
      refine C.out.mono ?_
      rintro e w1 ⟨rfl, rfl⟩
      go_wp2
      go_round
      case rel => exact ⟨i + 1, 2 * x, by omega, by go_num, by go_num, hx3, hx2⟩
      case measure => simp [intOf]; omega
    · obtain rfl : i = r := by omega
      have k1 : ¬ (i : Int) < (i : Int) := by omega
      go_wp2_with fail
      refine C.out.mono ?_
      rintro e w1 ⟨rfl, rfl⟩
      go_wp2
      go_ret
      exact ⟨by rw [HK.out, ← hxe.out]; rfl, rfl⟩

theorem l06Has_any (d b : Nat) (hd : d < 4294967296) (hb : 1 ≤ b) (hb2 : b < 4294967296) (w : World) :
    Calls Tryd.prog 21 #[.int .i64 (d : Int), .int .i64 (b : Int)] w fun e w' => e = .returned (.bool (hasN d b)) ∧ w = w' := by
  have hq : (d : Int).tdiv (b : Int) = ((d / b : Nat) : Int) := by rw [Int.ofNat_tdiv]
  have hq2 : (d : Int) / (b : Int) = ((d / b : Nat) : Int) := by rw [Int.natCast_ediv]
  have hl : d / b ≤ d := Nat.div_le_self _ _
  have h0 : ¬ (b : Int) = 0 := by omega
  have h01 : ((b : Int) == 0) = false := by simp; omega
  unfold hasN
  generalize d / b = q at *
  by_cases ho : q % 2 = 1
  · have q1 : ((q : Int) % 2 == 1) = true := by simp; omega
    have q2 : (q % 2 == 1) = true := by simp; omega
    rw [q2]
    go_enter Tryd.func21, Tryd.ntmps21
    go_wp2
    go_ret
    exact ⟨rfl, rfl⟩
  · have q1 : ((q : Int) % 2 == 1) = false := by simp; omega
    have q2 : (q % 2 == 1) = false := by simp; omega
    rw [q2]
    go_enter Tryd.func21, Tryd.ntmps21
    go_wp2
    go_ret
    exact ⟨rfl, rfl⟩
end Go.Proofs.YtocoligcbgcanaaDoor
