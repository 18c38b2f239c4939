/- Numbers in bytes, read back: plain facts; no condition but the limits. -/
import Derived.Test.YtbkhhkknhbddeaaDoorPlain
import Derived.Test.YtbkhhkknhbddeaaDoorKit
namespace Go.Proofs.YtbkhhkknhbddeaaDoor
open Go.RowKit

theorem byt_list (l : List UInt8) (k : Nat) : byt ⟨l.toArray⟩ k = (l[k]?.getD 0).toNat := rfl

theorem varF_len (f : Nat) : ∀ (k m : Nat), 0 < k → m < 128 ^ k → (varF f m).length ≤ k := by
  induction f with
  | zero => intro k m hk _; simp [varF]; omega
  | succ f ih =>
    intro k m hk hm
    rw [varF]
    split
    · cases k with
      | zero => omega
      | succ k =>
        by_cases c : k = 0
        · subst c; omega
        · have := ih k (m / 128) (by omega) (by rw [Nat.pow_succ] at hm; omega)
          simp; omega
    · simp; omega

theorem ofNat_lt (n : Nat) (h : n < 256) : (UInt8.ofNat n).toNat = n := by rw [UInt8.toNat_ofNat']; omega

/-- A number that stands in a text from the place i on is read there. -/
theorem rd_var (t : Nat → Nat) (len : Nat) : ∀ (f g m i acc wt : Nat), (varF f m).length ≤ g → (∀ j b, (varF f m)[j]? = some b → i + j < len ∧ t (i + j) = b.toNat) → m < 128 ^ (f + 1) → acc + m * wt ≤ 1000000000 → (wt = 1 ∨ 0 < m) →
    rdF t len g i acc wt = some (acc + m * wt, i + (varF f m).length)
  | f, g, m, i, acc, wt, hg, ht, hm, hb, hw => by
    by_cases c : 127 < m
    · cases f with
      | zero => omega
      | succ f =>
        rw [varF_big f m c] at hg ht ⊢
        cases g with
        | zero => simp at hg
        | succ g =>
          have h0 := ht 0 _ (by rfl)
          rw [ofNat_lt _ (by omega), Nat.add_zero] at h0
          have e1 : (m % 128 + 128) % 128 = m % 128 := by omega
          have e2 : m % 128 * wt + m / 128 * (wt * 128) = m * wt := by
            have := Nat.div_add_mod m 128
            rw [show m / 128 * (wt * 128) = 128 * (m / 128) * wt from by rw [Nat.mul_comm wt 128, ← Nat.mul_assoc, Nat.mul_comm (m / 128) 128], Nat.add_comm, ← Nat.add_mul, this]
          have ih := rd_var t len f g (m / 128) (i + 1) (acc + m % 128 * wt) (wt * 128) (by simpa using hg)
            (fun j b hj => by
              have := ht (j + 1) b (by simpa using hj)
              rw [show i + 1 + j = i + (j + 1) by omega]; exact this)
            (by rw [Nat.pow_succ] at hm; omega) (by omega) (.inr (by omega))
          rw [rdF, if_pos h0.1, if_pos (by rw [h0.2]; omega), h0.2, e1, ih]
          simp only [List.length_cons]
          rw [show acc + m % 128 * wt + m / 128 * (wt * 128) = acc + m * wt by omega, show i + 1 + (varF f (m / 128)).length = i + ((varF f (m / 128)).length + 1) by omega]
    · rw [varF_small f m (by omega)] at hg ht ⊢
      cases g with
      | zero => simp at hg
      | succ g =>
        have h0 := ht 0 _ (by rfl)
        rw [ofNat_lt _ (by omega), Nat.add_zero] at h0
        have e1 : m % 128 = m := by omega
        rw [rdF, if_pos h0.1, if_neg (by rw [h0.2]; exact c), h0.2, e1, if_neg (by omega)]
        rfl

theorem varB_len5 (n : Nat) (h : n ≤ 1000000000) : (varB n).length ≤ 5 := varF_len 9 5 n (by omega) (by omega)
end Go.Proofs.YtbkhhkknhbddeaaDoor
