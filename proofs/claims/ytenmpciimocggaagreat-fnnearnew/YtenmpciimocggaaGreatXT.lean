/- Bits of a door, plain: no condition but those stated. -/
import Derived.Test.YtenmpciimocggaaGreatXHH
import Derived.Laws.BitsAllLaws
import Derived.Test.YtenmpciimocggaaGreatXA
import Derived.WalkSmall
import Derived.Lib.SmallJoins
import Derived.ProofKit
import Derived.OpenShut
import Derived.Lib.LaidTab
import Derived.Handy
import Derived.Deep.QuietTactic
import Derived.BigQuiet
import Derived.Deep.RegionHeld3
import Derived.Deep.Cut
namespace Go.Proofs.YtenmpciimocggaaGreat
open Go.RowKit

theorem ofInt64_nat (a : Nat) (ha : a < 4294967296) : (BitVec.ofInt 64 (a : Int)).toNat = a := by
  rw [BitVec.ofInt_natCast, BitVec.toNat_ofNat]; exact Nat.mod_eq_of_lt (by omega)
theorem i64_or32 (a b : Nat) (ha : a < 4294967296) (hb : b < 4294967296) : bits .or .i64 (a : Int) (b : Int) = ((a ||| b : Nat) : Int) := by
  have hx : a ||| b < 2 ^ 32 := Nat.or_lt_two_pow (by omega) (by omega)
  show IntKind.i64.wrap ((BitVec.ofInt 64 (a : Int) ||| BitVec.ofInt 64 (b : Int)).toNat : Int) = _
  rw [BitVec.toNat_or, ofInt64_nat a ha, ofInt64_nat b hb]
  exact IntWalk.i64_in _ ⟨by omega, by omega⟩
theorem i64_and32 (a b : Nat) (ha : a < 4294967296) (hb : b < 4294967296) : bits .and .i64 (a : Int) (b : Int) = ((a &&& b : Nat) : Int) := by
  have hx : a &&& b < 2 ^ 32 := Nat.and_lt_two_pow _ (by omega)
  show IntKind.i64.wrap ((BitVec.ofInt 64 (a : Int) &&& BitVec.ofInt 64 (b : Int)).toNat : Int) = _
  rw [BitVec.toNat_and, ofInt64_nat a ha, ofInt64_nat b hb]
  exact IntWalk.i64_in _ ⟨by omega, by omega⟩

/-- The place of a key's bit by a seed; its bit; both of its bits. -/
def kbP (s : ByteArray) (seed : Int) : Nat := hashN s seed % 32
def kbN (s : ByteArray) (seed : Int) : Nat := 2 ^ kbP s seed
def bsN (s : ByteArray) : Nat := kbN s 7 ||| kbN s 8
theorem kbP_lt (s : ByteArray) (seed : Int) : kbP s seed < 32 := Nat.mod_lt _ (by decide)
theorem kbN_lt (s : ByteArray) (seed : Int) : kbN s seed < 4294967296 := by
  have : (2 : Nat) ^ kbP s seed < 2 ^ 32 := Nat.pow_lt_pow_right (by decide) (kbP_lt s seed)
  simpa [kbN] using this
theorem kbN_pos (s : ByteArray) (seed : Int) : 1 ≤ kbN s seed := Nat.pow_pos (by decide)
theorem bsN_lt (s : ByteArray) : bsN s < 4294967296 := Nat.or_lt_two_pow (n := 32) (kbN_lt s 7) (kbN_lt s 8)

def okD (d : Int) : Bool := decide (0 ≤ d) && decide (d ≤ 4294967295)
theorem okD_yes {d : Int} (h : okD d = true) : ∃ n : Nat, d = (n : Int) ∧ n < 4294967296 := by
  unfold okD at h
  simp only [Bool.and_eq_true, decide_eq_true_eq] at h
  exact ⟨d.toNat, by omega, by omega⟩
theorem okD_nat (n : Nat) (h : n < 4294967296) : okD (n : Int) = true := by
  unfold okD
  simp only [Bool.and_eq_true, decide_eq_true_eq]
  omega
/-- Whether a bit is set. -/
def hasN (d b : Nat) : Bool := d / b % 2 == 1
theorem has_test (d i : Nat) : hasN d (2 ^ i) = d.testBit i := by
  rw [Nat.testBit_eq_decide_div_mod_eq, hasN]
  rfl
def seenN (d : Nat) (s : ByteArray) : Bool := hasN d (kbN s 7) && hasN d (kbN s 8)
def markN (d : Nat) (s : ByteArray) : Nat := d ||| bsN s
/-- What both sides answer. -/
def seenD (d : Int) (s : ByteArray) : Bool := okD d && seenN d.toNat s
def markD (d : Int) (s : ByteArray) : Int := if okD d = true then (markN d.toNat s : Int) else d
theorem markN_lt (d : Nat) (s : ByteArray) (h : d < 4294967296) : markN d s < 4294967296 := Nat.or_lt_two_pow (n := 32) h (bsN_lt s)
theorem and_eq_iff (d m : Nat) : d &&& m = m ↔ ∀ i, m.testBit i = true → d.testBit i = true := by
  constructor
  · intro h i hi
    rw [← h, Nat.testBit_and] at hi
    exact (Bool.and_eq_true _ _ ▸ hi).1
  · intro h
    apply Nat.eq_of_testBit_eq
    intro i
    rw [Nat.testBit_and]
    cases e : m.testBit i with
    | false => simp
    | true => simp [h i e]
theorem and_seen (d : Nat) (s : ByteArray) : ((d &&& bsN s) == bsN s) = seenN d s := by
  rw [Bool.eq_iff_iff, beq_iff_eq, and_eq_iff, seenN, kbN, kbN, has_test, has_test, Bool.and_eq_true]
  unfold bsN kbN
  constructor
  · intro h
    exact ⟨h _ (by rw [Nat.testBit_or, Nat.testBit_two_pow]; simp), h _ (by rw [Nat.testBit_or, Nat.testBit_two_pow, Nat.testBit_two_pow]; simp)⟩
  · rintro ⟨h1, h2⟩ i hi
    rw [Nat.testBit_or, Nat.testBit_two_pow, Nat.testBit_two_pow, Bool.or_eq_true, decide_eq_true_eq, decide_eq_true_eq] at hi
    rcases hi with rfl | rfl
    · exact h1
    · exact h2
theorem or_has {d i : Nat} (h : hasN d (2 ^ i) = true) : d ||| 2 ^ i = d := by
  rw [has_test] at h
  apply Nat.eq_of_testBit_eq
  intro j
  rw [Nat.testBit_or, Nat.testBit_two_pow]
  by_cases e : i = j
  · subst e; simp [h]
  · simp [e]
theorem or_not {d i : Nat} (h : hasN d (2 ^ i) = false) : d ||| 2 ^ i = d + 2 ^ i := by
  have hd : d = 2 ^ i * (d / 2 ^ i) + d % 2 ^ i := (Nat.div_add_mod d (2 ^ i)).symm
  have hr : d % 2 ^ i < 2 ^ i := Nat.mod_lt _ (Nat.pow_pos (by decide))
  have he : d / 2 ^ i % 2 = 0 := by
    have : ¬ d / 2 ^ i % 2 = 1 := by simpa [hasN] using h
    omega
  have h1 : 2 ^ i * (d / 2 ^ i) + d % 2 ^ i = 2 ^ i * (d / 2 ^ i) ||| d % 2 ^ i := Nat.two_pow_add_eq_or_of_lt hr _
  have h2 : 2 ^ i * (d / 2 ^ i + 1) + d % 2 ^ i = 2 ^ i * (d / 2 ^ i + 1) ||| d % 2 ^ i := Nat.two_pow_add_eq_or_of_lt hr _
  have h3 : 2 ^ i * (d / 2 ^ i + 1) = 2 ^ i * (d / 2 ^ i) ||| 2 ^ i := by
    apply Nat.eq_of_testBit_eq
    intro j
    rw [Nat.testBit_or, Nat.testBit_two_pow_mul, Nat.testBit_two_pow_mul, Nat.testBit_two_pow]
    by_cases hj : i ≤ j
    · simp only [hj, decide_true, Bool.true_and]
      obtain ⟨k, rfl⟩ : ∃ k, j = i + k := ⟨j - i, by omega⟩
      rw [show i + k - i = k by omega]
      cases k with
      | zero =>
        rw [Nat.testBit_zero, Nat.testBit_zero]
        simp
        omega
      | succ k =>
        rw [Nat.testBit_succ, Nat.testBit_succ, show (d / 2 ^ i + 1) / 2 = d / 2 ^ i / 2 by omega]
        simp
    · simp only [hj, decide_false, Bool.false_and, Bool.false_or]
      simp
      omega
  calc d ||| 2 ^ i = (2 ^ i * (d / 2 ^ i) ||| d % 2 ^ i) ||| 2 ^ i := by rw [← h1, ← hd]
    _ = 2 ^ i * (d / 2 ^ i + 1) ||| d % 2 ^ i := by rw [h3, Nat.or_assoc, Nat.or_assoc, Nat.or_comm (d % 2 ^ i)]
    _ = d + 2 ^ i := by rw [← h2, Nat.mul_add, Nat.mul_one]; omega
/-- The model's way: one bit, then the other one. -/
def addB (d b : Nat) : Nat := if hasN d b = true then d else d + b
theorem addB_or (d : Nat) (s : ByteArray) (seed : Int) : addB d (kbN s seed) = d ||| kbN s seed := by
  unfold addB kbN
  cases h : hasN d (2 ^ kbP s seed) with
  | true => rw [if_pos rfl, or_has h]
  | false => rw [if_neg (by simp), or_not h]
theorem mark_add (d : Nat) (s : ByteArray) : addB (addB d (kbN s 7)) (kbN s 8) = markN d s := by
  rw [addB_or, addB_or, markN, bsN, Nat.or_assoc]
theorem addB_lt {d : Nat} (s : ByteArray) (seed : Int) (h : d < 4294967296) : addB d (kbN s seed) < 4294967296 := by
  rw [addB_or]
  exact Nat.or_lt_two_pow (n := 32) h (kbN_lt s seed)

/-- The program's table of bits, as its text lays it. -/
def tabB : List Int := [1, 2, 4, 8, 16, 32, 64, 128, 256, 512, 1024, 2048, 4096, 8192, 16384, 32768, 65536, 131072, 262144, 524288, 1048576, 2097152, 4194304, 8388608, 16777216, 33554432, 67108864, 134217728, 268435456, 536870912, 1073741824, 2147483648]
theorem tabB_at : ∀ r : Fin 32, tabB.getD r.1 0 = ((2 ^ r.1 : Nat) : Int) := by decide +kernel

theorem seen_mark (d : Nat) (s : ByteArray) : seenN (markN d s) s = true := by
  rw [← and_seen, beq_iff_eq, and_eq_iff]
  intro i hi
  rw [markN, Nat.testBit_or, hi, Bool.or_true]
theorem seen_more (d : Nat) (s t : ByteArray) (h : seenN d s = true) : seenN (markN d t) s = true := by
  rw [← and_seen, beq_iff_eq, and_eq_iff] at h ⊢
  intro i hi
  rw [markN, Nat.testBit_or, h i hi, Bool.true_or]
theorem mark_seen (d : Nat) (s : ByteArray) (h : seenN d s = true) : markN d s = d := by
  rw [← and_seen, beq_iff_eq, and_eq_iff] at h
  apply Nat.eq_of_testBit_eq
  intro i
  rw [markN, Nat.testBit_or]
  cases e : (bsN s).testBit i with
  | false => simp
  | true => simp [h i e]
theorem seen_none (s : ByteArray) : seenN 0 s = false := by
  unfold seenN hasN
  simp
end Go.Proofs.YtenmpciimocggaaGreat
namespace Go.Proofs.YtenmpciimocggaaGreat
open Go.ChangeShapes Go.WideShapes Go.ChangeAt Go.RowKit Go.Deep Go.Joins

theorem implDoorOk_any (d : Int) (w : World) :
    Calls Tryz.prog 41 #[.agg #[.int .i64 d]] w fun e w' => e = .returned (.bool (okD d)) ∧ Below w.heap.size w w' := by
  by_cases h1 : 0 ≤ d
  · by_cases h2 : d < 4294967296
    · have e : okD d = true := by unfold okD; simp; omega
      rw [e]
      go_enter Tryz.func41, Tryz.ntmps41
      go_wp2
      go_ret
      exact ⟨rfl, (Below.refl _ _).alloc (Nat.le_refl _) _⟩
    · have e : okD d = false := by unfold okD; simp; omega
      rw [e]
      go_enter Tryz.func41, Tryz.ntmps41
      go_wp2
      go_ret
      exact ⟨rfl, (Below.refl _ _).alloc (Nat.le_refl _) _⟩
  · have e : okD d = false := by unfold okD; simp; omega
    rw [e]
    go_enter Tryz.func41, Tryz.ntmps41
    go_wp2
    go_ret
    exact ⟨rfl, (Below.refl _ _).alloc (Nat.le_refl _) _⟩

theorem array1 {α : Type} {cs : Array α} (h : cs.size = 1) : ∃ c0, cs = #[c0] := by
  obtain ⟨l⟩ := cs
  match l, h with
  | [c0], _ => exact ⟨c0, rfl⟩
end Go.Proofs.YtenmpciimocggaaGreat
namespace Go.Proofs.YtenmpciimocggaaGreat
open Go.RowKit

/-- The program's table of bits holds what its text lays there. -/
def TabD (w : World) : Prop := Lib.TabIs Tryz.prog w "loop.example/g00180/impl.bitsByPlace" .i64 tabB
end Go.Proofs.YtenmpciimocggaaGreat
namespace Go.Proofs.YtenmpciimocggaaGreat
open Go.RowKit

theorem blk_drew {w : World} {r : Nat} {t : TypeId} {cs : List Value} (h : Blk w r t cs) : Blk w.drew r t cs := h

end Go.Proofs.YtenmpciimocggaaGreat
