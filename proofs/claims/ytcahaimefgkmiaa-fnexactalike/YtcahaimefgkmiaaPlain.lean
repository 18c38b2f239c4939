/- Plain functions and facts on numbers in bytes (seven bits a byte), figures and words; no condition but those stated. -/
import Derived.WalkKit
namespace Go.Proofs.Ytcahaimefgkmiaa
open Go.RowKit

/-- A number in bytes, seven bits a byte, the lowest first. -/
def varF : Nat → Nat → List UInt8
  | 0, n => [UInt8.ofNat n]
  | f + 1, n => if 127 < n then UInt8.ofNat (n % 128 + 128) :: varF f (n / 128) else [UInt8.ofNat n]

def varB (n : Nat) : List UInt8 := varF 9 n

theorem varF_big (f n : Nat) (h : 127 < n) : varF (f + 1) n = UInt8.ofNat (n % 128 + 128) :: varF f (n / 128) := by
  rw [varF, if_pos h]
theorem varF_small (f n : Nat) (h : n ≤ 127) : varF f n = [UInt8.ofNat n] := by
  cases f with
  | zero => rfl
  | succ f => rw [varF, if_neg (by omega)]
theorem varF_length (f n : Nat) : (varF f n).length ≤ f + 1 := by
  induction f generalizing n with
  | zero => simp [varF]
  | succ f ih => rw [varF]; split <;> simp [ih]
theorem varB_length (n : Nat) : (varB n).length ≤ 10 := varF_length 9 n

/-- What a writer has gathered ('acc') and what is left (m, in at most f + 1 bytes). -/
structure VarAt (n f m : Nat) (acc : List UInt8) : Prop where
  bd : m < 128 ^ (f + 1)
  eq : acc ++ varF f m = varB n
  le : f ≤ 9
theorem VarAt.start (n : Nat) (h : n ≤ 9223372036854775807) : VarAt n 9 n [] := ⟨by omega, rfl, Nat.le_refl _⟩
theorem VarAt.len {n f m : Nat} {acc : List UInt8} (h : VarAt n f m acc) : acc.length < 10 := by
  have := varB_length n
  rw [← h.eq, List.length_append] at this
  have : (varF f m).length ≠ 0 := by cases f <;> simp [varF]; split <;> simp
  omega
theorem VarAt.step {n f m : Nat} {acc : List UInt8} (h : VarAt n f m acc) (hm : 127 < m) : ∃ g, VarAt n g (m / 128) (acc ++ [UInt8.ofNat (m % 128 + 128)]) := by
  cases f with
  | zero => have := h.bd; omega
  | succ f =>
    refine ⟨f, ?_, ?_, by have := h.le; omega⟩
    · have := h.bd
      rw [Nat.pow_succ] at this
      omega
    · rw [← h.eq, varF_big f m hm]; simp
theorem VarAt.stop {n f m : Nat} {acc : List UInt8} (h : VarAt n f m acc) (hm : m ≤ 127) : acc ++ [UInt8.ofNat m] = varB n := by
  rw [← h.eq, varF_small f m hm]

/-- A number read in bytes: t i is byte i, len how many there are; f: how many may still come; the number and the place behind it. -/
def rdF (t : Nat → Nat) (len : Nat) : Nat → Nat → Nat → Nat → Option (Nat × Nat)
  | 0, _, _, _ => none
  | f + 1, i, n, wt =>
    if i < len then
      if 127 < t i then rdF t len f (i + 1) (n + t i % 128 * wt) (wt * 128)
      else if (t i = 0 ∧ 1 < wt) ∨ 1000000000 < n + t i % 128 * wt then none
      else some (n + t i % 128 * wt, i + 1)
    else none

structure RdAt (t : Nat → Nat) (len p f k n wt : Nat) : Prop where
  fk : f + k = 5
  w : wt = 128 ^ k
  lt : n < wt
  eq : rdF t len f (p + k) n wt = rdF t len 5 p 0 1

theorem RdAt.start (t : Nat → Nat) (len p : Nat) : RdAt t len p 5 0 0 1 := ⟨rfl, rfl, by omega, rfl⟩
theorem pow_bd (k : Nat) (h : k < 5) : 1 ≤ 128 ^ k ∧ 128 ^ k ≤ 268435456 := by
  match k, h with
  | 0, _ => decide
  | 1, _ => decide
  | 2, _ => decide
  | 3, _ => decide
  | 4, _ => decide
theorem RdAt.bd {t : Nat → Nat} {len p f k n wt : Nat} (h : RdAt t len p f k n wt) (hk : k < 5) : 1 ≤ wt ∧ wt ≤ 268435456 := by
  rw [h.w]; exact pow_bd k hk
theorem mul_bd (b wt : Nat) : b % 128 * wt ≤ 127 * wt := Nat.mul_le_mul_right _ (by omega)
theorem RdAt.open {t : Nat → Nat} {len p f k n wt : Nat} (h : RdAt t len p f k n wt) (hk : k < 5) : ∃ g, f = g + 1 ∧ g + (k + 1) = 5 := ⟨f - 1, by have := h.fk; omega, by have := h.fk; omega⟩
theorem RdAt.more {t : Nat → Nat} {len p f k n wt : Nat} (h : RdAt t len p f k n wt) (hk : k < 5) (hl : p + k < len) (hb : 127 < t (p + k)) : ∃ g, RdAt t len p g (k + 1) (n + t (p + k) % 128 * wt) (wt * 128) := by
  obtain ⟨g, rfl, hg⟩ := h.open hk
  refine ⟨g, hg, by rw [h.w, Nat.pow_succ], ?_, ?_⟩
  · have := mul_bd (t (p + k)) wt; have := h.lt; omega
  · rw [← h.eq, rdF, if_pos hl, if_pos hb]; rfl
theorem RdAt.no {t : Nat → Nat} {len p f k n wt : Nat} (h : RdAt t len p f k n wt) (hk : k < 5) (hl : p + k < len) (hb : t (p + k) ≤ 127) (hn : (t (p + k) = 0 ∧ 1 < wt) ∨ 1000000000 < n + t (p + k) % 128 * wt) : rdF t len 5 p 0 1 = none := by
  obtain ⟨g, rfl, hg⟩ := h.open hk
  rw [← h.eq, rdF, if_pos hl, if_neg (by omega), if_pos hn]
theorem RdAt.yes {t : Nat → Nat} {len p f k n wt : Nat} (h : RdAt t len p f k n wt) (hk : k < 5) (hl : p + k < len) (hb : t (p + k) ≤ 127) (hn : ¬ ((t (p + k) = 0 ∧ 1 < wt) ∨ 1000000000 < n + t (p + k) % 128 * wt)) : rdF t len 5 p 0 1 = some (n + t (p + k) % 128 * wt, p + k + 1) := by
  obtain ⟨g, rfl, hg⟩ := h.open hk
  rw [← h.eq, rdF, if_pos hl, if_neg (by omega), if_neg hn]
theorem RdAt.done {t : Nat → Nat} {len p f k n wt : Nat} (h : RdAt t len p f k n wt) (hd : ¬ (p + k < len ∧ k < 5)) (hk : k ≤ 5) : rdF t len 5 p 0 1 = none := by
  rw [← h.eq]
  cases f with
  | zero => rfl
  | succ f => rw [rdF, if_neg]; have := h.fk; omega
theorem RdAt.first {t : Nat → Nat} {len p f k n wt : Nat} (h : RdAt t len p f k n wt) (hk : k < 5) : (1 < wt ↔ 0 < k) := by
  rw [h.w]
  match k, hk with
  | 0, _ => decide
  | 1, _ => decide
  | 2, _ => decide
  | 3, _ => decide
  | 4, _ => decide

def rdV : Option (Nat × Nat) → Value
  | some (n, j) => .tuple #[.int .i64 (n : Int), .int .i64 (j : Int), .bool true]
  | none => .tuple #[.int .i64 0, .int .i64 0, .bool false]

/-- The worth of bytes, seven bits each, the lowest first. -/
def val : List UInt8 → Nat
  | [] => 0
  | b :: r => b.toNat % 128 + 128 * val r
theorem val_snoc (p : List UInt8) (b : UInt8) : val (p ++ [b]) = val p + b.toNat % 128 * 128 ^ p.length := by
  induction p with
  | nil => simp [val]
  | cons c p ih =>
    simp only [List.cons_append, val, ih, List.length_cons, Nat.pow_succ]
    rw [Nat.mul_add, Nat.add_assoc, Nat.mul_comm (128 ^ p.length) 128, Nat.mul_left_comm]
theorem ofNat_toNat8 (b : UInt8) : UInt8.ofNat b.toNat = b := by simp
/-- The bytes of a number are those that were read just where no shorter form has the same worth. -/
theorem var_back : ∀ (p : List UInt8) (b : UInt8) (f : Nat), (∀ c ∈ p, 127 < c.toNat) → b.toNat ≤ 127 → p.length ≤ f → (varF f (val (p ++ [b])) = p ++ [b] ↔ ¬ (b.toNat = 0 ∧ p ≠ []))
  | [], b, f, _, hb, _ => by
    have e : val ([] ++ [b]) = b.toNat := by simp [val]; omega
    rw [e, varF_small f _ hb, ofNat_toNat8]
    simp
  | c :: p, b, f, hc, hb, hf => by
    obtain ⟨g, rfl⟩ : ∃ g, f = g + 1 := ⟨f - 1, by simp at hf; omega⟩
    have ih := var_back p b g (fun x hx => hc x (List.mem_cons_of_mem _ hx)) hb (by simpa using hf)
    have h127 := hc c (List.mem_cons_self ..)
    have hlt := c.toNat_lt
    have e : val (c :: p ++ [b]) = c.toNat % 128 + 128 * val (p ++ [b]) := rfl
    rw [e]
    have hs := val_snoc p b
    by_cases hz : val (p ++ [b]) = 0
    · rw [hz, varF_small _ _ (by omega)]
      have hb0 : b.toNat = 0 := by
        rw [hz] at hs
        have hpos : 0 < 128 ^ p.length := Nat.pow_pos (by omega)
        have h0 : b.toNat % 128 * 128 ^ p.length = 0 := by omega
        rcases Nat.mul_eq_zero.1 h0 with h | h
        · omega
        · omega
      constructor
      · intro h
        have := congrArg List.length h
        simp at this
      · intro h
        exact absurd ⟨hb0, by simp⟩ h
    · rw [varF_big _ _ (by omega)]
      have e1 : (c.toNat % 128 + 128 * val (p ++ [b])) % 128 + 128 = c.toNat := by omega
      have e2 : (c.toNat % 128 + 128 * val (p ++ [b])) / 128 = val (p ++ [b]) := by omega
      rw [e1, e2, ofNat_toNat8, List.cons_append, List.cons.injEq, ih]
      constructor
      · intro h k
        refine h.2 ⟨k.1, ?_⟩
        intro hp
        subst hp
        apply hz
        simp [val, k.1]
      · intro h
        exact ⟨rfl, fun k => h ⟨k.1, by simp⟩⟩

/-- What has been read of a text from the place p on: k bytes that go on, of worth n. -/
structure RdSp (l : List UInt8) (p k n : Nat) : Prop where
  n : n = val ((l.drop p).take k)
  all : ∀ c ∈ (l.drop p).take k, 127 < c.toNat
theorem RdSp.start (l : List UInt8) (p : Nat) : RdSp l p 0 0 := ⟨by simp [val], by simp⟩
theorem take_snoc1 {l : List UInt8} {p k : Nat} {b : UInt8} (h : l[p + k]? = some b) : (l.drop p).take (k + 1) = (l.drop p).take k ++ [b] := by
  rw [List.take_add_one, List.getElem?_drop, h]; rfl
theorem take_len {l : List UInt8} {p k : Nat} {b : UInt8} (h : l[p + k]? = some b) : ((l.drop p).take k).length = k := by
  have := (List.getElem?_eq_some_iff.1 h).1
  simp; omega
theorem RdSp.more {l : List UInt8} {p k n : Nat} {b : UInt8} (h : RdSp l p k n) (hb : l[p + k]? = some b) (h127 : 127 < b.toNat) : RdSp l p (k + 1) (n + b.toNat % 128 * 128 ^ k) := by
  refine ⟨?_, ?_⟩
  · rw [take_snoc1 hb, val_snoc, take_len hb, ← h.n]
  · rw [take_snoc1 hb]
    intro c hc
    rcases List.mem_append.1 hc with hc | hc
    · exact h.all c hc
    · simp at hc; rw [hc]; exact h127
theorem RdSp.back {l : List UInt8} {p k n : Nat} {b : UInt8} (h : RdSp l p k n) (hk : k ≤ 9) (hb : l[p + k]? = some b) (h127 : b.toNat ≤ 127) : (varB (n + b.toNat % 128 * 128 ^ k) = (l.drop p).take (k + 1) ↔ ¬ (b.toNat = 0 ∧ 0 < k)) := by
  have hl := take_len hb
  have e : n + b.toNat % 128 * 128 ^ k = val ((l.drop p).take k ++ [b]) := by rw [val_snoc, hl, ← h.n]
  rw [take_snoc1 hb, e]
  unfold varB
  rw [var_back _ b 9 h.all h127 (by omega)]
  have : (l.drop p).take k ≠ [] ↔ 0 < k := by
    rw [← List.length_pos_iff, hl]
  rw [this]
end Go.Proofs.Ytcahaimefgkmiaa
