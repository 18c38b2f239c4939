/- The place of a number among n, by the model. -/
import Derived.Test.YtejjheoimafeoaaJuP
import Derived.Test.YtejjheoimafeoaaGenB
import Derived.Laws.Bits64
namespace Go.Proofs.Ytejjheoimafeoaa
open Go.RowKit
set_option linter.unusedVariables false

/-- How many places there are. -/
def clampJ (n : Int) : Nat := if n < 1 then 1 else if 1000 < n then 1000 else n.toNat
theorem clampJ_in (n : Int) : 1 ≤ clampJ n ∧ clampJ n ≤ 1000 := by
  unfold clampJ
  split
  · omega
  · split <;> omega
/-- A number, as the jumps take it. -/
def numJ (z : Int) : Nat := (z % 18446744073709551616).toNat
theorem numJ_wrap (z : Int) : IntKind.u64.wrap z = (numJ z : Int) := by
  rw [IntKind.wrap_u64, numJ]
  omega
theorem numJ_lt (z : Int) : numJ z < 18446744073709551616 := by unfold numJ; omega
theorem jj_int (j y : Nat) : ((j : Int) + 1) * 2147483648 / ((y : Int) / 8589934592 + 1) = (jj j y : Int) := by
  unfold jj
  rw [Int.natCast_ediv]
  rfl
theorem jj_tdiv (j y : Nat) : (((j : Int) + 1) * 2147483648).tdiv ((y : Int) / 8589934592 + 1) = (jj j y : Int) := by
  rw [Int.tdiv_eq_ediv_of_nonneg (by omega)]
  exact jj_int j y
theorem jx_wrap (x : Nat) : IntKind.u64.wrap (IntKind.u64.wrap ((x : Int) * 2862933555777941757) + 1) = (jx x : Int) := by
  rw [IntKind.wrap_u64, IntKind.wrap_u64, jx]
  omega

set_option maxRecDepth 100000 in
set_option maxHeartbeats 2000000 in
theorem specJump_any (z n : Int) (w : World) :
    Calls Try.prog 11 #[.int .i64 z, .int .i64 n] w fun e w' => e = .returned (.int .i64 (jmp (numJ z) (clampJ n))) ∧ w = w' := by
  obtain ⟨m, hm⟩ : ∃ m, clampJ n = m := ⟨_, rfl⟩
  have hm1 := clampJ_in n
  rw [hm] at hm1
  have HM := hide1 hm
  have hz := numJ_wrap z
  have HL := hide1 (numJ_lt z)
  obtain ⟨R, hR⟩ : ∃ R, jmp (numJ z) (clampJ n) = R := ⟨_, rfl⟩
  have HR := hide1 (show runJ m m (numJ z) (-1) 0 = R by rw [← hR, hm]; rfl)
  rw [hR]
  generalize numJ z = x0 at *
  clear hR hm
  have hq : (n < 1 ∧ m = 1) ∨ (¬ n < 1 ∧ 1000 < n ∧ m = 1000) ∨ (¬ n < 1 ∧ ¬ 1000 < n ∧ n = (m : Int)) := by
    have := HM.out
    unfold clampJ at this
    split at this
    · exact .inl ⟨by assumption, by omega⟩
    · split at this
      · exact .inr (.inl ⟨by assumption, by assumption, by omega⟩)
      · exact .inr (.inr ⟨by assumption, by assumption, by omega⟩)
  clear HM
  have hm2 : (m : Int) ≤ 1000 := by omega
  rcases hq with ⟨h1, hm3⟩ | ⟨h1, h2, hm3⟩ | ⟨h1, h2, rfl⟩
  · have HM3 := hide1 hm3
    clear hm3
    go_enter Try.func11, Try.ntmps11
    go_wp2
    go_loop [5, 6, 7] (fun xv bv jv => ∃ (x j f : Nat) (b : Int), x < 18446744073709551616 ∧ xv = .int .u64 (x : Int) ∧ bv = .int .i64 b ∧ -1 ≤ b ∧ b ≤ 1000 ∧ jv = .int .i64 (j : Int) ∧ j ≤ 2147483648000 ∧ Hid (runJ m f x b j = R) ∧ Hid (m ≤ j + f)) (fun _ _ jv => m - (intOf jv).toNat)
    case atStart => exact ⟨x0, 0, m, -1, HL.out, rfl, rfl, by omega, by omega, rfl, by omega, HR, by show _ ≤ _; omega⟩
    case round =>
      obtain ⟨x, j, f, b, hx, rfl, rfl, hb1, hb2, rfl, hj, hR2, hf⟩ := hrel
      by_cases hlt : j < m
      · have k1 : (j : Int) < 1 := by have := HM3.out; omega
        have hj1 : -1 ≤ (j : Int) := by omega
        have hj2 : (j : Int) ≤ 1000 := by omega
        obtain ⟨g, rfl, e, hg⟩ := runJ_step x b hlt hf.out
        have HE := hide1 (e.symm.trans hR2.out)
        have HG := hide1 hg
        have q1 := jx_wrap x
        have hy := jx_lt x
        have hjg := jj_gt j hy
        have hjl := jj_le j (jx x)
        have hjj := jj_int j (jx x)
        have hjt := jj_tdiv j (jx x)
        have HX := hide1 hx
        clear e hg hR2 hf hx
        obtain ⟨y, hye⟩ : ∃ y, jx x = y := ⟨_, rfl⟩
        rw [hye] at q1 hy hjg hjl hjj hjt HE HG
        clear hye
        obtain ⟨t, hte⟩ : ∃ t, jj j y = t := ⟨_, rfl⟩
        rw [hte] at hjg hjl hjj hjt HE HG
        clear hte
        obtain ⟨q, hq⟩ : ∃ q, y / 8589934592 = q := ⟨_, rfl⟩
        have hq2 : (y : Int) / 8589934592 = (q : Int) := by omega
        have hq3 : (y : Int).tdiv 8589934592 = (q : Int) := by rw [Int.tdiv_eq_ediv_of_nonneg (by omega)]; exact hq2
        have hq4 : q < 2147483648 := by omega
        rw [hq2] at hjj hjt
        have w1 : IntKind.i64.wrap ((j : Int) + 1) = (j : Int) + 1 := IntWalk.i64_in _ ⟨by omega, by omega⟩
        have w2 : IntKind.i64.wrap (((j : Int) + 1) * 2147483648) = ((j : Int) + 1) * 2147483648 := IntWalk.i64_in _ ⟨by omega, by omega⟩
        have w3 : IntKind.i64.wrap (q : Int) = (q : Int) := IntWalk.i64_in _ ⟨by omega, by omega⟩
        have w4 : IntKind.i64.wrap ((q : Int) + 1) = (q : Int) + 1 := IntWalk.i64_in _ ⟨by omega, by omega⟩
        have w5 : IntKind.u64.wrap (q : Int) = (q : Int) := IntWalk.u64_in _ ⟨by omega, by omega⟩
        have w6 : IntKind.i64.wrap (t : Int) = (t : Int) := IntWalk.i64_in _ ⟨by omega, by omega⟩
        have w7 : ¬ ((q : Int) + 1 = 0) := by omega
        have w8 : ((q : Int) + 1 == 0) = false := by rw [beq_eq_false_iff_ne]; omega
        have ht : t ≤ 2147483648000 := by omega
        clear hq hjl
        go_wp2
        go_round
        case rel => exact ⟨y, t, g, (j : Int), hy, rfl, rfl, hj1, hj2, rfl, ht, HE, HG⟩
        case measure => exact Nat.sub_lt_sub_left hlt hjg
      · have k1 : ¬ (j : Int) < 1 := by have := HM3.out; omega
        have HB := hide1 (show b = R by rw [← hR2.out, runJ_end f x b hlt])
        clear hR2 hf
        go_wp2
        go_ret
        exact ⟨by rw [HB.out]; rfl, rfl⟩
  · have HM3 := hide1 hm3
    clear hm3
    go_enter Try.func11, Try.ntmps11
    go_wp2
    go_loop [5, 6, 7] (fun xv bv jv => ∃ (x j f : Nat) (b : Int), x < 18446744073709551616 ∧ xv = .int .u64 (x : Int) ∧ bv = .int .i64 b ∧ -1 ≤ b ∧ b ≤ 1000 ∧ jv = .int .i64 (j : Int) ∧ j ≤ 2147483648000 ∧ Hid (runJ m f x b j = R) ∧ Hid (m ≤ j + f)) (fun _ _ jv => m - (intOf jv).toNat)
    case atStart => exact ⟨x0, 0, m, -1, HL.out, rfl, rfl, by omega, by omega, rfl, by omega, HR, by show _ ≤ _; omega⟩
    case round =>
      obtain ⟨x, j, f, b, hx, rfl, rfl, hb1, hb2, rfl, hj, hR2, hf⟩ := hrel
      by_cases hlt : j < m
      · have k1 : (j : Int) < 1000 := by have := HM3.out; omega
        have hj1 : -1 ≤ (j : Int) := by omega
        have hj2 : (j : Int) ≤ 1000 := by omega
        obtain ⟨g, rfl, e, hg⟩ := runJ_step x b hlt hf.out
        have HE := hide1 (e.symm.trans hR2.out)
        have HG := hide1 hg
        have q1 := jx_wrap x
        have hy := jx_lt x
        have hjg := jj_gt j hy
        have hjl := jj_le j (jx x)
        have hjj := jj_int j (jx x)
        have hjt := jj_tdiv j (jx x)
        have HX := hide1 hx
        clear e hg hR2 hf hx
        obtain ⟨y, hye⟩ : ∃ y, jx x = y := ⟨_, rfl⟩
        rw [hye] at q1 hy hjg hjl hjj hjt HE HG
        clear hye
        obtain ⟨t, hte⟩ : ∃ t, jj j y = t := ⟨_, rfl⟩
        rw [hte] at hjg hjl hjj hjt HE HG
        clear hte
        obtain ⟨q, hq⟩ : ∃ q, y / 8589934592 = q := ⟨_, rfl⟩
        have hq2 : (y : Int) / 8589934592 = (q : Int) := by omega
        have hq3 : (y : Int).tdiv 8589934592 = (q : Int) := by rw [Int.tdiv_eq_ediv_of_nonneg (by omega)]; exact hq2
        have hq4 : q < 2147483648 := by omega
        rw [hq2] at hjj hjt
        have w1 : IntKind.i64.wrap ((j : Int) + 1) = (j : Int) + 1 := IntWalk.i64_in _ ⟨by omega, by omega⟩
        have w2 : IntKind.i64.wrap (((j : Int) + 1) * 2147483648) = ((j : Int) + 1) * 2147483648 := IntWalk.i64_in _ ⟨by omega, by omega⟩
        have w3 : IntKind.i64.wrap (q : Int) = (q : Int) := IntWalk.i64_in _ ⟨by omega, by omega⟩
        have w4 : IntKind.i64.wrap ((q : Int) + 1) = (q : Int) + 1 := IntWalk.i64_in _ ⟨by omega, by omega⟩
        have w5 : IntKind.u64.wrap (q : Int) = (q : Int) := IntWalk.u64_in _ ⟨by omega, by omega⟩
        have w6 : IntKind.i64.wrap (t : Int) = (t : Int) := IntWalk.i64_in _ ⟨by omega, by omega⟩
        have w7 : ¬ ((q : Int) + 1 = 0) := by omega
        have w8 : ((q : Int) + 1 == 0) = false := by rw [beq_eq_false_iff_ne]; omega
        have ht : t ≤ 2147483648000 := by omega
        clear hq hjl
        go_wp2
        go_round
        case rel => exact ⟨y, t, g, (j : Int), hy, rfl, rfl, hj1, hj2, rfl, ht, HE, HG⟩
        case measure => exact Nat.sub_lt_sub_left hlt hjg
      · have k1 : ¬ (j : Int) < 1000 := by have := HM3.out; omega
        have HB := hide1 (show b = R by rw [← hR2.out, runJ_end f x b hlt])
        clear hR2 hf
        go_wp2
        go_ret
        exact ⟨by rw [HB.out]; rfl, rfl⟩
  · go_enter Try.func11, Try.ntmps11
    go_wp2
    go_loop [5, 6, 7] (fun xv bv jv => ∃ (x j f : Nat) (b : Int), x < 18446744073709551616 ∧ xv = .int .u64 (x : Int) ∧ bv = .int .i64 b ∧ -1 ≤ b ∧ b ≤ 1000 ∧ jv = .int .i64 (j : Int) ∧ j ≤ 2147483648000 ∧ Hid (runJ m f x b j = R) ∧ Hid (m ≤ j + f)) (fun _ _ jv => m - (intOf jv).toNat)
    case atStart => exact ⟨x0, 0, m, -1, HL.out, rfl, rfl, by omega, by omega, rfl, by omega, HR, by show _ ≤ _; omega⟩
    case round =>
      obtain ⟨x, j, f, b, hx, rfl, rfl, hb1, hb2, rfl, hj, hR2, hf⟩ := hrel
      by_cases hlt : j < m
      · have k1 : (j : Int) < (m : Int) := by omega
        have hj1 : -1 ≤ (j : Int) := by omega
        have hj2 : (j : Int) ≤ 1000 := by omega
        obtain ⟨g, rfl, e, hg⟩ := runJ_step x b hlt hf.out
        have HE := hide1 (e.symm.trans hR2.out)
        have HG := hide1 hg
        have q1 := jx_wrap x
        have hy := jx_lt x
        have hjg := jj_gt j hy
        have hjl := jj_le j (jx x)
        have hjj := jj_int j (jx x)
        have hjt := jj_tdiv j (jx x)
        have HX := hide1 hx
        clear e hg hR2 hf hx
        obtain ⟨y, hye⟩ : ∃ y, jx x = y := ⟨_, rfl⟩
        rw [hye] at q1 hy hjg hjl hjj hjt HE HG
        clear hye
        obtain ⟨t, hte⟩ : ∃ t, jj j y = t := ⟨_, rfl⟩
        rw [hte] at hjg hjl hjj hjt HE HG
        clear hte
        obtain ⟨q, hq⟩ : ∃ q, y / 8589934592 = q := ⟨_, rfl⟩
        have hq2 : (y : Int) / 8589934592 = (q : Int) := by omega
        have hq3 : (y : Int).tdiv 8589934592 = (q : Int) := by rw [Int.tdiv_eq_ediv_of_nonneg (by omega)]; exact hq2
        have hq4 : q < 2147483648 := by omega
        rw [hq2] at hjj hjt
        have w1 : IntKind.i64.wrap ((j : Int) + 1) = (j : Int) + 1 := IntWalk.i64_in _ ⟨by omega, by omega⟩
        have w2 : IntKind.i64.wrap (((j : Int) + 1) * 2147483648) = ((j : Int) + 1) * 2147483648 := IntWalk.i64_in _ ⟨by omega, by omega⟩
        have w3 : IntKind.i64.wrap (q : Int) = (q : Int) := IntWalk.i64_in _ ⟨by omega, by omega⟩
        have w4 : IntKind.i64.wrap ((q : Int) + 1) = (q : Int) + 1 := IntWalk.i64_in _ ⟨by omega, by omega⟩
        have w5 : IntKind.u64.wrap (q : Int) = (q : Int) := IntWalk.u64_in _ ⟨by omega, by omega⟩
        have w6 : IntKind.i64.wrap (t : Int) = (t : Int) := IntWalk.i64_in _ ⟨by omega, by omega⟩
        have w7 : ¬ ((q : Int) + 1 = 0) := by omega
        have w8 : ((q : Int) + 1 == 0) = false := by rw [beq_eq_false_iff_ne]; omega
        have ht : t ≤ 2147483648000 := by omega
        clear hq hjl
        go_wp2
        go_round
        case rel => exact ⟨y, t, g, (j : Int), hy, rfl, rfl, hj1, hj2, rfl, ht, HE, HG⟩
        case measure => exact Nat.sub_lt_sub_left hlt hjg
      · have k1 : ¬ (j : Int) < (m : Int) := by omega
        have HB := hide1 (show b = R by rw [← hR2.out, runJ_end f x b hlt])
        clear hR2 hf
        go_wp2
        go_ret
        exact ⟨by rw [HB.out]; rfl, rfl⟩
end Go.Proofs.Ytejjheoimafeoaa
