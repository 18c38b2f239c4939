/- The numbers of keys, plain, and the contract of the model's function. -/
import Derived.Test.YtmfpgnoeemjhiaaProg
import Derived.Test.YtmfpgnoeemjhiaaKit
import Derived.Test.YtmfpgnoeemjhiaaPlain
import Derived.Handy
namespace Go.Proofs.Ytmfpgnoeemjhiaa
open Go.RowKit

/-- One byte more. -/
def hstep (h b : Nat) : Nat := ((h ^^^ b) * 16777619) % 4294967296
def hashK (f : Nat → Nat) (h : Nat) : Nat → Nat
  | 0 => h
  | k + 1 => hstep (hashK f h k) (f k)
def seedOf (seed : Int) : Nat := if seed < 0 then 0 else if 1000000000 < seed then 1000000000 else seed.toNat
/-- What a seed begins with. -/
def hash0 (seed : Int) : Nat := (2166136261 + seedOf seed) % 4294967296
def hashN (s : ByteArray) (seed : Int) : Nat := hashK (byt s) (hash0 seed) s.size ^^^ (hashK (byt s) (hash0 seed) s.size / 65536)
theorem hstep_lt (h b : Nat) : hstep h b < 4294967296 := Nat.mod_lt _ (by decide)
theorem hash0_lt (seed : Int) : hash0 seed < 4294967296 := Nat.mod_lt _ (by decide)
theorem hashK_lt (f : Nat → Nat) (h : Nat) (hh : h < 4294967296) : ∀ k, hashK f h k < 4294967296
  | 0 => hh
  | _ + 1 => hstep_lt _ _
theorem seedOf_le (seed : Int) : seedOf seed ≤ 1000000000 := by
  unfold seedOf
  split
  · omega
  · split <;> omega
theorem xor_lt {a b : Nat} (ha : a < 4294967296) (hb : b < 4294967296) : a ^^^ b < 4294967296 := Nat.xor_lt_two_pow (n := 32) ha hb
theorem hashN_lt (s : ByteArray) (seed : Int) : hashN s seed < 4294967296 := by
  have h := hashK_lt (byt s) _ (hash0_lt seed) s.size
  exact xor_lt h (Nat.lt_of_le_of_lt (Nat.div_le_self _ _) h)
theorem xor_low (a b i : Nat) : (a ^^^ b) % 2 ^ (i + 1) = (a ^^^ b) % 2 ^ i + (if (a / 2 ^ i) % 2 ≠ (b / 2 ^ i) % 2 then 2 ^ i else 0) := by
  have h1 : (a ^^^ b) % 2 ^ (i + 1) = (a ^^^ b) % 2 ^ i + 2 ^ i * ((a ^^^ b) / 2 ^ i % 2) := by
    rw [Nat.pow_succ, Nat.mod_mul]
  rw [h1]
  congr 1
  have h2 : (a ^^^ b) / 2 ^ i % 2 = ((a / 2 ^ i) ^^^ (b / 2 ^ i)) % 2 := by rw [← Nat.xor_div_two_pow]
  rw [h2]
  have h3 : ∀ x y : Nat, (x ^^^ y) % 2 = if x % 2 ≠ y % 2 then 1 else 0 := by
    intro x y
    have e := Nat.xor_mod_two_pow (a := x) (b := y) (n := 1)
    simp only [Nat.pow_one] at e
    rw [e]
    rcases Nat.mod_two_eq_zero_or_one x with hx | hx <;> rcases Nat.mod_two_eq_zero_or_one y with hy | hy <;> rw [hx, hy] <;> rfl
  rw [h3]
  split <;> simp

theorem pow_in (i : Nat) (h : i ≤ 32) : 2 ^ i ≤ 4294967296 := by
  have : (2 : Nat) ^ i ≤ 2 ^ 32 := Nat.pow_le_pow_right (by decide) h
  simpa using this
theorem half_next (a i : Nat) : a / 2 ^ i / 2 = a / 2 ^ (i + 1) := by rw [Nat.div_div_eq_div_mul, Nat.pow_succ]

end Go.Proofs.Ytmfpgnoeemjhiaa
