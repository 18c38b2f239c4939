/- Bits of a door, plain: no condition but those stated. -/
import Derived.Test.YtjgiobdpbbhekaaGreatXHH
import Derived.Laws.BitsAllLaws
import Derived.Test.YtjgiobdpbbhekaaGreatXA
import Derived.WalkSmall
import Derived.Lib.SmallJoins
import Derived.ProofKit
import Derived.OpenShut
import Derived.Lib.LaidTab
import Derived.Handy
import Derived.Deep.QuietTactic
import Derived.BigQuiet
import Derived.Deep.RegionHeld3
import Derived.Deep.Cut
namespace Go.Proofs.YtjgiobdpbbhekaaGreat
open Go.RowKit

/-- The place of a key's bit by a seed; its bit; both of its bits. -/
def kbP (s : ByteArray) (seed : Int) : Nat := hashN s seed % 32
def kbN (s : ByteArray) (seed : Int) : Nat := 2 ^ kbP s seed
def bsN (s : ByteArray) : Nat := kbN s 7 ||| kbN s 8
theorem kbP_lt (s : ByteArray) (seed : Int) : kbP s seed < 32 := Nat.mod_lt _ (by decide)
theorem kbN_lt (s : ByteArray) (seed : Int) : kbN s seed < 4294967296 := by
  have : (2 : Nat) ^ kbP s seed < 2 ^ 32 := Nat.pow_lt_pow_right (by decide) (kbP_lt s seed)
  simpa [kbN] using this
theorem kbN_pos (s : ByteArray) (seed : Int) : 1 ≤ kbN s seed := Nat.pow_pos (by decide)
theorem bsN_lt (s : ByteArray) : bsN s < 4294967296 := Nat.or_lt_two_pow (n := 32) (kbN_lt s 7) (kbN_lt s 8)

def okD (d : Int) : Bool := decide (0 ≤ d) && decide (d ≤ 4294967295)
theorem okD_yes {d : Int} (h : okD d = true) : ∃ n : Nat, d = (n : Int) ∧ n < 4294967296 := by
  unfold okD at h
  simp only [Bool.and_eq_true, decide_eq_true_eq] at h
  exact ⟨d.toNat, by omega, by omega⟩
/-- Whether a bit is set. -/
def hasN (d b : Nat) : Bool := d / b % 2 == 1
theorem has_test (d i : Nat) : hasN d (2 ^ i) = d.testBit i := by
  rw [Nat.testBit_eq_decide_div_mod_eq, hasN]
  rfl
def seenN (d : Nat) (s : ByteArray) : Bool := hasN d (kbN s 7) && hasN d (kbN s 8)
def markN (d : Nat) (s : ByteArray) : Nat := d ||| bsN s
/-- What both sides answer. -/
def seenD (d : Int) (s : ByteArray) : Bool := okD d && seenN d.toNat s
def markD (d : Int) (s : ByteArray) : Int := if okD d = true then (markN d.toNat s : Int) else d
theorem markN_lt (d : Nat) (s : ByteArray) (h : d < 4294967296) : markN d s < 4294967296 := Nat.or_lt_two_pow (n := 32) h (bsN_lt s)
theorem or_has {d i : Nat} (h : hasN d (2 ^ i) = true) : d ||| 2 ^ i = d := by
  rw [has_test] at h
  apply Nat.eq_of_testBit_eq
  intro j
  rw [Nat.testBit_or, Nat.testBit_two_pow]
  by_cases e : i = j
  · subst e; simp [h]
  · simp [e]
theorem or_not {d i : Nat} (h : hasN d (2 ^ i) = false) : d ||| 2 ^ i = d + 2 ^ i := by
  have hd : d = 2 ^ i * (d / 2 ^ i) + d % 2 ^ i := (Nat.div_add_mod d (2 ^ i)).symm
  have hr : d % 2 ^ i < 2 ^ i := Nat.mod_lt _ (Nat.pow_pos (by decide))
  have he : d / 2 ^ i % 2 = 0 := by
    have : ¬ d / 2 ^ i % 2 = 1 := by simpa [hasN] using h
    omega
  have h1 : 2 ^ i * (d / 2 ^ i) + d % 2 ^ i = 2 ^ i * (d / 2 ^ i) ||| d % 2 ^ i := Nat.two_pow_add_eq_or_of_lt hr _
  have h2 : 2 ^ i * (d / 2 ^ i + 1) + d % 2 ^ i = 2 ^ i * (d / 2 ^ i + 1) ||| d % 2 ^ i := Nat.two_pow_add_eq_or_of_lt hr _
  have h3 : 2 ^ i * (d / 2 ^ i + 1) = 2 ^ i * (d / 2 ^ i) ||| 2 ^ i := by
    apply Nat.eq_of_testBit_eq
    intro j
    rw [Nat.testBit_or, Nat.testBit_two_pow_mul, Nat.testBit_two_pow_mul, Nat.testBit_two_pow]
    by_cases hj : i ≤ j
    · simp only [hj, decide_true, Bool.true_and]
      obtain ⟨k, rfl⟩ : ∃ k, j = i + k := ⟨j - i, by omega⟩
      rw [show i + k - i = k by omega]
      cases k with
      | zero =>
        rw [Nat.testBit_zero, Nat.testBit_zero]
        simp
        omega
      | succ k =>
        rw [Nat.testBit_succ, Nat.testBit_succ, show (d / 2 ^ i + 1) / 2 = d / 2 ^ i / 2 by omega]
        simp
    · simp only [hj, decide_false, Bool.false_and, Bool.false_or]
      simp
      omega
  calc d ||| 2 ^ i = (2 ^ i * (d / 2 ^ i) ||| d % 2 ^ i) ||| 2 ^ i := by rw [← h1, ← hd]
    _ = 2 ^ i * (d / 2 ^ i + 1) ||| d % 2 ^ i := by rw [h3, Nat.or_assoc, Nat.or_assoc, Nat.or_comm (d % 2 ^ i)]
    _ = d + 2 ^ i := by rw [← h2, Nat.mul_add, Nat.mul_one]; omega
/-- The model's way: one bit, then the other one. -/
def addB (d b : Nat) : Nat := if hasN d b = true then d else d + b
theorem addB_or (d : Nat) (s : ByteArray) (seed : Int) : addB d (kbN s seed) = d ||| kbN s seed := by
  unfold addB kbN
  cases h : hasN d (2 ^ kbP s seed) with
  | true => rw [if_pos rfl, or_has h]
  | false => rw [if_neg (by simp), or_not h]
theorem mark_add (d : Nat) (s : ByteArray) : addB (addB d (kbN s 7)) (kbN s 8) = markN d s := by
  rw [addB_or, addB_or, markN, bsN, Nat.or_assoc]
theorem addB_lt {d : Nat} (s : ByteArray) (seed : Int) (h : d < 4294967296) : addB d (kbN s seed) < 4294967296 := by
  rw [addB_or]
  exact Nat.or_lt_two_pow (n := 32) h (kbN_lt s seed)

end Go.Proofs.YtjgiobdpbbhekaaGreat
namespace Go.Proofs.YtjgiobdpbbhekaaGreat
open Go.ChangeShapes Go.WideShapes Go.ChangeAt Go.RowKit Go.Deep Go.Joins

theorem implDoorOk_any (d : Int) (w : World) :
    Calls Tryz.prog 46 #[.agg #[.int .i64 d]] w fun e w' => e = .returned (.bool (okD d)) ∧ Below w.heap.size w w' := by
  by_cases h1 : 0 ≤ d
  · by_cases h2 : d < 4294967296
    · have e : okD d = true := by unfold okD; simp; omega
      rw [e]
      go_enter Tryz.func46, Tryz.ntmps46
      go_wp2
      go_ret
      exact ⟨rfl, (Below.refl _ _).alloc (Nat.le_refl _) _⟩
    · have e : okD d = false := by unfold okD; simp; omega
      rw [e]
      go_enter Tryz.func46, Tryz.ntmps46
      go_wp2
      go_ret
      exact ⟨rfl, (Below.refl _ _).alloc (Nat.le_refl _) _⟩
  · have e : okD d = false := by unfold okD; simp; omega
    rw [e]
    go_enter Tryz.func46, Tryz.ntmps46
    go_wp2
    go_ret
    exact ⟨rfl, (Below.refl _ _).alloc (Nat.le_refl _) _⟩

theorem specDoorOk_any (d : Int) (w : World) :
    Calls Tryz.prog 147 #[.agg #[.int .i64 d]] w fun e w' => e = .returned (.bool (okD d)) ∧ Below w.heap.size w w' := by
  have C := hide1 (fun w' => in_any d 0 4294967295 w')
  change Hid (∀ w', Calls _ _ _ _ fun e w'' => e = .returned (.bool (okD d)) ∧ _) at C
  generalize okD d = b at *
  go_enter Tryz.func147, Tryz.ntmps147
  go_wp2_with fail
  refine (C.out _).mono ?_
  rintro e w1 ⟨rfl, rfl⟩
  go_wp2
  go_ret
  exact ⟨rfl, (Below.refl _ _).alloc (Nat.le_refl _) _⟩

end Go.Proofs.YtjgiobdpbbhekaaGreat
namespace Go.Proofs.YtjgiobdpbbhekaaGreat
open Go.RowKit

set_option maxHeartbeats 400000 in
theorem l06Bit_any (s : ByteArray) (hs : s.size ≤ 1048576) (seed : Int) (h1 : 0 ≤ seed) (h2 : seed ≤ 100) (w : World) :
    Calls Tryz.prog 149 #[.string s, .int .i64 seed] w fun e w' => e = .returned (.int .i64 (kbN s seed : Int)) ∧ w = w' := by
  have C := hide1 (specHash_any s seed w hs (by omega) (by omega))
  have hlt := hashN_lt s seed
  have hr : (hashN s seed : Int) % 32 = (kbP s seed : Int) := by unfold kbP; omega
  have hk := kbP_lt s seed
  have HK : Hid (kbN s seed = 2 ^ kbP s seed) := hide1 rfl
  generalize kbN s seed = b at *
  generalize kbP s seed = r at *
  generalize hashN s seed = n at *
  go_enter Tryz.func149, Tryz.ntmps149
  go_wp2
  go_loop [5, 6] (fun bv iv => ∃ (i x : Nat), i ≤ r ∧ iv = .int .i64 (i : Int) ∧ bv = .int .i64 (x : Int) ∧ x ≤ 4294967296 ∧ Hid (x = 2 ^ i)) (fun _ iv => r - (intOf iv).toNat)
  case atStart => exact ⟨0, 1, by omega, rfl, rfl, by omega, rfl⟩
  case round =>
    obtain ⟨i, x, hi, rfl, rfl, hx, hxe⟩ := hrel
    by_cases hlt2 : i < r
    · have k1 : (i : Int) < (r : Int) := by omega
      have hx2 : Hid (2 * x = 2 ^ (i + 1)) := by show 2 * x = _; rw [hxe.out, Nat.pow_succ]; omega
      have hx3 : 2 * x ≤ 4294967296 := by rw [hx2.out]; exact pow_in (i + 1) (by omega)
      go_wp2_with fail
      refine C.out.mono ?_
      rintro e w1 ⟨rfl, rfl⟩
      go_wp2
      go_round
      case rel => exact ⟨i + 1, 2 * x, by omega, by go_num, by go_num, hx3, hx2⟩
      case measure => simp [intOf]; omega
    · obtain rfl : i = r := by omega
      have k1 : ¬ (i : Int) < (i : Int) := by omega
      go_wp2_with fail
      refine C.out.mono ?_
      rintro e w1 ⟨rfl, rfl⟩
      go_wp2
      go_ret
      exact ⟨by rw [HK.out, ← hxe.out]; rfl, rfl⟩

theorem l06Has_any (d b : Nat) (hd : d < 4294967296) (hb : 1 ≤ b) (hb2 : b < 4294967296) (w : World) :
    Calls Tryz.prog 148 #[.int .i64 (d : Int), .int .i64 (b : Int)] w fun e w' => e = .returned (.bool (hasN d b)) ∧ w = w' := by
  have hq : (d : Int).tdiv (b : Int) = ((d / b : Nat) : Int) := by rw [Int.ofNat_tdiv]
  have hq2 : (d : Int) / (b : Int) = ((d / b : Nat) : Int) := by rw [Int.natCast_ediv]
  have hl : d / b ≤ d := Nat.div_le_self _ _
  have h0 : ¬ (b : Int) = 0 := by omega
  have h01 : ((b : Int) == 0) = false := by simp; omega
  unfold hasN
  generalize d / b = q at *
  by_cases ho : q % 2 = 1
  · have q1 : ((q : Int) % 2 == 1) = true := by simp; omega
    have q2 : (q % 2 == 1) = true := by simp; omega
    rw [q2]
    go_enter Tryz.func148, Tryz.ntmps148
    go_wp2
    go_ret
    exact ⟨rfl, rfl⟩
  · have q1 : ((q : Int) % 2 == 1) = false := by simp; omega
    have q2 : (q % 2 == 1) = false := by simp; omega
    rw [q2]
    go_enter Tryz.func148, Tryz.ntmps148
    go_wp2
    go_ret
    exact ⟨rfl, rfl⟩
end Go.Proofs.YtjgiobdpbbhekaaGreat
namespace Go.Proofs.YtjgiobdpbbhekaaGreat
open Go.RowKit

end Go.Proofs.YtjgiobdpbbhekaaGreat
