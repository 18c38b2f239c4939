/- The contract of the model's writer of decimal figures: at every int. -/
import Derived.Test.YtelmchifpgaibaaDoorProg
import Derived.Test.YtelmchifpgaibaaDoorSAB
import Derived.Lib.ItoaMem
import Derived.Lib.ItoaLen
namespace Go.Proofs.YtelmchifpgaibaaDoor
open Go.RowKit
set_option maxRecDepth 100000

theorem figure_dec (x : Nat) (h : x < 10) (y : Int) (hy : y = (x : Int)) (w : World) : Calls Tryd.prog 44 #[.int .i64 y] w fun e w' => e = .returned (.int .u8 (48 + (x : Int))) ∧ w = w' := by
  subst hy
  go_enter Tryd.func44, Tryd.ntmps44
  go_wp2
  go_ret
  exact ⟨rfl, rfl⟩

/-- What is left to be written (m) and what is written (acc) of the figures of u. -/
def DecAt (u m : Nat) (acc : List UInt8) : Prop := if 0 < m then Lib.decDigits m ++ acc = Lib.decDigits u else acc = Lib.decDigits u
theorem DecAt.start (u : Nat) (h : 0 < u) : DecAt u u [] := by unfold DecAt; rw [if_pos h]; simp
theorem DecAt.step {u m : Nat} {acc : List UInt8} (h : DecAt u m acc) (hm : 0 < m) : DecAt u (m / 10) (UInt8.ofNat (48 + m % 10) :: acc) := by
  unfold DecAt at h ⊢
  rw [if_pos hm] at h
  rw [← h]
  by_cases c : m < 10
  · rw [if_neg (by omega), Lib.decDigits_one c, show m % 10 = m by omega]; rfl
  · rw [if_pos (by omega)]
    conv => rhs; rw [Lib.decDigits, dif_neg c]
    simp
theorem DecAt.stop {u m : Nat} {acc : List UInt8} (h : DecAt u m acc) (hm : ¬ 0 < m) : acc = Lib.decDigits u := by
  unfold DecAt at h; rw [if_neg hm] at h; exact h
theorem DecAt.len {u m : Nat} {acc : List UInt8} (h : DecAt u m acc) : acc.length ≤ (Lib.decDigits u).length := by
  unfold DecAt at h; split at h
  · rw [← h]; simp
  · rw [h]; exact Nat.le_refl _
theorem dec_len (u : Nat) (hu : u ≤ 9223372036854775808) : (Lib.decDigits u).length ≤ 21 := by
  by_cases c : u = 0
  · subst c; rw [Lib.decDigits_one (by omega)]; decide
  · have := Lib.itoa_length_le (-(u : Int)) (by omega) (by omega)
    rw [Lib.itoa_neg u (by omega)] at this
    simp at this
    omega

set_option maxHeartbeats 400000 in
theorem specDecimal_pos (u : Nat) (w : World) (h0 : 0 < u) (h1 : u ≤ 9223372036854775807) :
    Calls Tryd.prog 30 #[.int .i64 (u : Int)] w fun e w' => e = .returned (.string ⟨(Lib.itoa (u : Int)).toArray⟩) ∧ Below w.heap.size w w' := by
  rw [Lib.itoa_nonneg]
  have q1 : ((u : Int) == 0) = false := by simp; omega
  have q2 : decide ((u : Int) < 0) = false := by simp
  have hdl := dec_len u (by omega)
  have HS := hide1 (DecAt.start u h0)
  go_enter Tryd.func30, Tryd.ntmps30
  go_wp2
  go_loopw [0, 4] (fun nv zv wr => ∃ (m : Nat) (acc : List UInt8) (z : ByteArray), nv = .int .i64 (m : Int) ∧ m ≤ 9223372036854775807 ∧ Hid (DecAt u m acc) ∧ zv = .string z ∧ Hid (z = ⟨acc.toArray⟩) ∧ z.size ≤ 21 ∧ Below w.heap.size w wr) (fun nv _ _ => (intOf nv).toNat)
  case atStart => exact ⟨u, [], ⟨#[]⟩, rfl, h1, HS, rfl, rfl, by decide, Below.refl _ _⟩
  case round =>
    obtain ⟨m, acc, z, rfl, hm, hd, rfl, hz, hzs, hbel⟩ := hrel
    have hbs := hbel.size
    by_cases hlt : 0 < m
    · obtain ⟨b, hbe, hbn⟩ := byte_of (48 + m % 10) (by omega)
      have q3 : ((m : Int) != 0) = true := by simp; omega
      have hcv := conv_one (P := Tryd.prog) wr 59 9 5 Tryd.underlying59 Tryd.underlying5 Tryd.underlying9 b (48 + (m : Int) % 10) (by omega)
      have hb1 : ({ data := #[b] } : ByteArray).size = 1 := rfl
      obtain ⟨y, hy⟩ : ∃ y : ByteArray, y = { data := #[b] } := ⟨_, rfl⟩
      rw [← hy] at hcv hb1
      have Y := hide1 hy
      clear hy hbn
      go_wp2_with (go_at_call 44; refine (figure_dec (m % 10) (by omega) _ (by omega) _).mono ?_; rintro e w1 ⟨rfl, rfl⟩)
      go_roundw
      case rel =>
        have hg := hd.out.step hlt
        have e : y ++ z = ⟨(b :: acc).toArray⟩ := by
          rw [Y.out, hz.out]
          apply ByteArray.ext
          simp [ByteArray.data_append]
        refine ⟨m / 10, b :: acc, y ++ z, by go_num, by omega, by rw [hbe.out]; exact hg, rfl, e, ?_, hbel.alloc hbs _⟩
        rw [e]
        have := hg.len
        show (b :: acc).toArray.size ≤ 21
        simp at this ⊢
        omega
      case measure => simp [intOf]; omega
    · have q3 : ((m : Int) != 0) = false := by simp; omega
      go_wp2
      go_ret
      refine ⟨?_, hbel⟩
      show Ending.returned (.string z) = _
      rw [hz.out, hd.out.stop hlt]

set_option maxHeartbeats 800000 in
theorem specDecimal_neg (u : Nat) (w : World) (h0 : 0 < u) (h1 : u ≤ 9223372036854775808) :
    Calls Tryd.prog 30 #[.int .i64 (-(u : Int))] w fun e w' => e = .returned (.string ⟨(Lib.itoa (-(u : Int))).toArray⟩) ∧ Below w.heap.size w w' := by
  rw [Lib.itoa_neg u (by omega)]
  have q1 : (-(u : Int) == 0) = false := by simp; omega
  have q2 : decide (-(u : Int) < 0) = true := by simp; omega
  have hdl := dec_len u (by omega)
  have HS := hide1 (DecAt.start u h0)
  go_enter Tryd.func30, Tryd.ntmps30
  go_wp2
  go_loopw [0, 4] (fun nv zv wr => ∃ (m : Nat) (acc : List UInt8) (z : ByteArray), nv = .int .i64 (-(m : Int)) ∧ m ≤ 9223372036854775808 ∧ Hid (DecAt u m acc) ∧ zv = .string z ∧ Hid (z = ⟨acc.toArray⟩) ∧ z.size ≤ 21 ∧ Below w.heap.size w wr) (fun nv _ _ => (-(intOf nv)).toNat)
  case atStart => exact ⟨u, [], ⟨#[]⟩, rfl, h1, HS, rfl, rfl, by decide, Below.refl _ _⟩
  case round =>
    obtain ⟨m, acc, z, rfl, hm, hd, rfl, hz, hzs, hbel⟩ := hrel
    have hbs := hbel.size
    by_cases hlt : 0 < m
    · obtain ⟨b, hbe, hbn⟩ := byte_of (48 + m % 10) (by omega)
      have q3 : (-(m : Int) != 0) = true := by simp; omega
      have r1 : (-(m : Int)).tmod 10 = -((m : Int) % 10) := by rw [Int.neg_tmod, Int.tmod_eq_emod_of_nonneg (by omega)]
      have r2 : (-(m : Int)).tdiv 10 = -((m : Int) / 10) := by rw [Int.neg_tdiv, Int.tdiv_eq_ediv_of_nonneg (by omega)]
      have hcv := conv_one (P := Tryd.prog) wr 59 9 5 Tryd.underlying59 Tryd.underlying5 Tryd.underlying9 b (48 + (m : Int) % 10) (by omega)
      have hb1 : ({ data := #[b] } : ByteArray).size = 1 := rfl
      obtain ⟨y, hy⟩ : ∃ y : ByteArray, y = { data := #[b] } := ⟨_, rfl⟩
      rw [← hy] at hcv hb1
      have Y := hide1 hy
      clear hy hbn
      by_cases c0 : 0 < m % 10
      · go_wp2_with (go_at_call 44; refine (figure_dec (m % 10) (by omega) _ (by omega) _).mono ?_; rintro e w1 ⟨rfl, rfl⟩)
        go_roundw
        case rel =>
          have hg := hd.out.step hlt
          have e : y ++ z = ⟨(b :: acc).toArray⟩ := by
            rw [Y.out, hz.out]
            apply ByteArray.ext
            simp [ByteArray.data_append]
          refine ⟨m / 10, b :: acc, y ++ z, by go_num, by omega, by rw [hbe.out]; exact hg, rfl, e, ?_, hbel.alloc hbs _⟩
          rw [e]
          have := hg.len
          show (b :: acc).toArray.size ≤ 21
          simp at this ⊢
          omega
        case measure => simp [intOf]; omega
      · go_wp2_with (go_at_call 44; refine (figure_dec (m % 10) (by omega) _ (by omega) _).mono ?_; rintro e w1 ⟨rfl, rfl⟩)
        go_roundw
        case rel =>
          have hg := hd.out.step hlt
          have e : y ++ z = ⟨(b :: acc).toArray⟩ := by
            rw [Y.out, hz.out]
            apply ByteArray.ext
            simp [ByteArray.data_append]
          refine ⟨m / 10, b :: acc, y ++ z, by go_num, by omega, by rw [hbe.out]; exact hg, rfl, e, ?_, hbel.alloc hbs _⟩
          rw [e]
          have := hg.len
          show (b :: acc).toArray.size ≤ 21
          simp at this ⊢
          omega
        case measure => simp [intOf]; omega
    · have q3 : (-(m : Int) != 0) = false := by simp; omega
      go_wp2
      go_ret
      refine ⟨?_, hbel⟩
      show Ending.returned (.string (⟨#[45]⟩ ++ z)) = _
      rw [hz.out, hd.out.stop hlt]
      congr 2

theorem specDecimal_any (n : Int) (w : World) (h0 : -9223372036854775808 ≤ n) (h1 : n ≤ 9223372036854775807) :
    Calls Tryd.prog 30 #[.int .i64 n] w fun e w' => e = .returned (.string ⟨(Lib.itoa n).toArray⟩) ∧ Below w.heap.size w w' := by
  by_cases hp : 0 < n
  · obtain ⟨u, rfl⟩ : ∃ u : Nat, n = (u : Int) := ⟨n.toNat, by omega⟩
    exact specDecimal_pos u w (by omega) (by omega)
  · by_cases hz : n = 0
    · subst hz
      have e : Lib.itoa 0 = [48] := by
        have := Lib.itoa_nonneg 0
        rw [Lib.decDigits_one (by omega)] at this
        exact this
      rw [e]
      go_enter Tryd.func30, Tryd.ntmps30
      go_wp2
      go_ret
      exact ⟨rfl, Below.refl _ _⟩
    · obtain ⟨u, rfl⟩ : ∃ u : Nat, n = -(u : Int) := ⟨n.natAbs, by omega⟩
      exact specDecimal_neg u w (by omega) (by omega)
end Go.Proofs.YtelmchifpgaibaaDoor
