/- The contracts of the functions of the statements that compare and mark lists of texts: whatever rows they are handed. -/
import Derived.Test.YtmfpgnoeemjhiaaProg
import Derived.Test.YtmfpgnoeemjhiaaKitC
import Derived.Test.YtmfpgnoeemjhiaaPlain
import Derived.Deep.RegionHeld3
import Derived.Deep.QuietTactic
import Derived.BigQuiet
namespace Go.Proofs.Ytmfpgnoeemjhiaa
open Go.RowKit

/-- The decimal figures of a number, the highest first. -/
def decF : Nat → Nat → List UInt8 → List UInt8
  | 0, _, acc => acc
  | f + 1, n, acc => if 0 < n then decF f (n / 10) (UInt8.ofNat (48 + n % 10) :: acc) else acc
/-- The text of a mark. -/
def mkT (k : Nat) : ByteArray := ⟨#[109]⟩ ++ ⟨(decF 20 k []).toArray⟩

structure MkAt (n f m : Nat) (acc : List UInt8) : Prop where
  bd : m < 10 ^ f
  eq : decF f m acc = decF 20 n []
  len : acc.length + f = 20
theorem MkAt.start (n : Nat) (h : n ≤ 9223372036854775807) : MkAt n 20 n [] := ⟨by omega, rfl, rfl⟩
theorem MkAt.step {n f m : Nat} {acc : List UInt8} (h : MkAt n f m acc) (hm : 0 < m) : ∃ g, MkAt n g (m / 10) (UInt8.ofNat (48 + m % 10) :: acc) := by
  cases f with
  | zero => have := h.bd; omega
  | succ f =>
    refine ⟨f, ?_, ?_, ?_⟩
    · have := h.bd; rw [Nat.pow_succ] at this; omega
    · rw [← h.eq, decF, if_pos hm]
    · have := h.len; simp; omega
theorem MkAt.stop {n f m : Nat} {acc : List UInt8} (h : MkAt n f m acc) (hm : ¬ 0 < m) : acc = decF 20 n [] := by
  rw [← h.eq]
  cases f with
  | zero => rfl
  | succ f => rw [decF, if_neg hm]

set_option maxHeartbeats 400000 in
theorem markText_any (n : Nat) (w : World) (hn : n ≤ 9223372036854775807) (h0 : 0 < n) :
    Calls Try.prog 52 #[.int .i64 n] w fun e w' => e = .returned (.string (mkT n)) ∧ Below w.heap.size w w' := by
  have q1 : decide ((n : Int) ≤ 0) = false := by simp; omega
  go_enter Try.func52, Try.ntmps52
  go_wp2
  go_loopw [0, 3] (fun nv zv wr => ∃ (f m : Nat) (acc : List UInt8) (z : ByteArray), nv = .int .i64 (m : Int) ∧ m ≤ 9223372036854775807 ∧ Hid (MkAt n f m acc) ∧ zv = .string z ∧ Hid (z = ⟨acc.toArray⟩) ∧ z.size ≤ 20 ∧ Below w.heap.size w wr) (fun nv _ _ => (intOf nv).toNat)
  case atStart => exact ⟨20, n, [], ⟨#[]⟩, rfl, hn, MkAt.start n hn, rfl, rfl, by decide, Below.refl _ _⟩
  case round =>
    obtain ⟨f, m, acc, z, rfl, hm, hd, rfl, hz, hzs, hbel⟩ := hrel
    have hbs := hbel.size
    by_cases hlt : 0 < m
    · obtain ⟨b, hbe, hbn⟩ := byte_of (48 + m % 10) (by omega)
      have hcv := conv_one (P := Try.prog) wr 81 9 5 Try.underlying81 Try.underlying5 Try.underlying9 b (48 + (m : Int) % 10) (by omega)
      have hb1 : ({ data := #[b] } : ByteArray).size = 1 := rfl
      obtain ⟨y, hy⟩ : ∃ y : ByteArray, y = { data := #[b] } := ⟨_, rfl⟩
      rw [← hy] at hcv hb1
      have Y : Hid _ := hy
      clear hy hbn
      go_wp2
      go_roundw
      case rel =>
        obtain ⟨g, hg⟩ := hd.out.step hlt
        have e : y ++ z = ⟨(b :: acc).toArray⟩ := by
          rw [Y.out, hz.out]
          apply ByteArray.ext
          simp [ByteArray.data_append]
        refine ⟨g, m / 10, b :: acc, y ++ z, by go_num, by omega, by rw [hbe.out]; exact hg, rfl, e, ?_, hbel.alloc hbs _⟩
        rw [e]
        have := hg.len
        show (b :: acc).toArray.size ≤ 20
        simp at this ⊢
        omega
      case measure => simp [intOf]; omega
    · go_wp2
      go_ret
      refine ⟨?_, hbel⟩
      show Ending.returned (.string (⟨#[109]⟩ ++ z)) = _
      unfold mkT
      rw [hz.out, hd.out.stop hlt]
end Go.Proofs.Ytmfpgnoeemjhiaa
