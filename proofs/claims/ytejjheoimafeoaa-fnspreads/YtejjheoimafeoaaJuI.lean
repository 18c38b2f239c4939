/- The place of a number among n, by the program: sums of two by a variadic function. -/
import Derived.Test.YtejjheoimafeoaaJuQ
import Derived.Deep.RegionHeld3
namespace Go.Proofs.Ytejjheoimafeoaa
open Go.RowKit
set_option linter.unusedVariables false

/-- The sum, behind so many. -/
def tg (a b : Int) : Nat → Int
  | 0 => 0
  | 1 => a
  | _ => IntKind.u64.wrap (a + b)
theorem tg_step (a b : Int) (ha : 0 ≤ a ∧ a < 18446744073709551616) (i : Nat) (h : i < 2) : IntKind.u64.wrap (tg a b i + (if i = 0 then a else b)) = tg a b (i + 1) := by
  rcases (by omega : i = 0 ∨ i = 1) with rfl | rfl
  · show IntKind.u64.wrap (0 + a) = a
    rw [IntKind.wrap_u64]
    omega
  · rfl
set_option maxRecDepth 100000 in
set_option maxHeartbeats 1000000 in
theorem together_any (g : Nat) (a b : Int) (w : World) (ha : 0 ≤ a ∧ a < 18446744073709551616) (h0 : w.cell? ⟨g, 0, none⟩ = some (.int .u64 a)) (h1 : w.cell? ⟨g, 1, none⟩ = some (.int .u64 b)) :
    Calls Try.prog 27 #[.slice (some ⟨g, 0, none⟩) 2 2] w fun e w' => e = .returned (.int .u64 (IntKind.u64.wrap (a + b))) ∧ w = w' := by
  have hc : ∀ i, i < 2 → w.cell? ⟨g, i, none⟩ = some (.int .u64 (if i = 0 then a else b)) := by
    intro i hi
    rcases (by omega : i = 0 ∨ i = 1) with rfl | rfl
    · exact h0
    · exact h1
  have HC := hide1 hc
  have HA := hide1 ha
  clear hc h0 h1 ha
  go_enter Try.func27, Try.ntmps27
  go_wp2
  go_loop [3, 8] (fun sv iv => ∃ i : Nat, i ≤ 2 ∧ iv = .int .i64 (i : Int) ∧ sv = .int .u64 (tg a b i)) (fun _ iv => 2 - (intOf iv).toNat)
  case atStart => exact ⟨0, by omega, rfl, rfl⟩
  case round =>
    obtain ⟨i, hi, rfl, rfl⟩ := hrel
    by_cases hlt : i < 2
    · have hci := HC.out i hlt
      have hst := tg_step a b HA.out i hlt
      obtain ⟨x, hx⟩ : ∃ x, (if i = 0 then a else b) = x := ⟨_, rfl⟩
      rw [hx] at hci hst
      clear hx
      obtain ⟨s, hs⟩ : ∃ s, tg a b i = s := ⟨_, rfl⟩
      rw [hs] at hst ⊢
      clear hs
      go_wp2
      go_round
      case rel => exact ⟨i + 1, by omega, by go_num, rfl⟩
      case measure => simp [intOf]; omega
    · obtain rfl : i = 2 := by omega
      have e : tg a b 2 = IntKind.u64.wrap (a + b) := rfl
      rw [e]
      go_wp2
      go_ret
      exact ⟨rfl, rfl⟩

set_option maxRecDepth 100000 in
set_option maxHeartbeats 1000000 in
theorem drawnFrom_any (x : Nat) (w : World) (hx : x < 18446744073709551616) :
    Calls Try.prog 22 #[.int .u64 (x : Int)] w fun e w' => e = .returned (.int .u64 (jx x : Int)) ∧ Below w.heap.size w w' := by
  have q1 := jx_wrap x
  obtain ⟨t, ht⟩ : ∃ t, IntKind.u64.wrap ((x : Int) * 2862933555777941757) = t := ⟨_, rfl⟩
  have ht2 : 0 ≤ t ∧ t < 18446744073709551616 := by rw [← ht, IntKind.wrap_u64]; omega
  rw [ht] at q1
  have B0 := hide1 (fun o => (Below.refl w.heap.size w).alloc (Nat.le_refl _) o)
  go_enter Try.func22, Try.ntmps22
  go_wp2_with fail
  refine (together_any w.heap.size t 1 _ ht2 (by go_cell) (by go_cell)).mono ?_
  rintro e w1 ⟨rfl, rfl⟩
  rw [q1]
  go_wp2
  go_ret
  exact ⟨rfl, B0.out _⟩

set_option maxRecDepth 100000 in
set_option maxHeartbeats 1000000 in
theorem jumpFrom_any (b y : Nat) (w : World) (hb : b ≤ 1000) (hy : y < 18446744073709551616) :
    Calls Try.prog 23 #[.int .u64 (b : Int), .int .u64 (y : Int)] w fun e w' => e = .returned (.int .u64 (jj b y : Int)) ∧ Below w.heap.size w w' := by
  have hjt := jj_int b y
  obtain ⟨q, hq⟩ : ∃ q, y / 8589934592 = q := ⟨_, rfl⟩
  have hq2 : (y : Int) / 8589934592 = (q : Int) := by omega
  have hq4 : q < 2147483648 := by omega
  rw [hq2] at hjt
  have w1 : IntKind.u64.wrap ((b : Int) + 1) = (b : Int) + 1 := IntWalk.u64_in _ ⟨by omega, by omega⟩
  have w2 : IntKind.u64.wrap (((b : Int) + 1) * 2147483648) = ((b : Int) + 1) * 2147483648 := IntWalk.u64_in _ ⟨by omega, by omega⟩
  have w4 : IntKind.u64.wrap ((q : Int) + 1) = (q : Int) + 1 := IntWalk.u64_in _ ⟨by omega, by omega⟩
  have w5 : IntKind.u64.wrap (q : Int) = (q : Int) := IntWalk.u64_in _ ⟨by omega, by omega⟩
  have w7 : ¬ ((q : Int) + 1 = 0) := by omega
  have w8 : ((q : Int) + 1 == 0) = false := by rw [beq_eq_false_iff_ne]; omega
  have B0 := hide1 (fun (w : World) o => (Below.refl w.heap.size w).alloc (Nat.le_refl _) o)
  go_enter Try.func23, Try.ntmps23
  go_wp2_with fail
  refine (together_any w.heap.size b 1 _ ⟨by omega, by omega⟩ (by go_cell) (by go_cell)).mono ?_
  rintro e w1 ⟨rfl, rfl⟩
  rw [w1]
  go_wp2_with fail
  refine (together_any (w.heap.size + 1) q 1 _ ⟨by omega, by omega⟩ (by go_cell) (by go_cell)).mono ?_
  rintro e w1 ⟨rfl, rfl⟩
  rw [w4]
  go_wp2
  go_ret
  exact ⟨by rw [← hjt]; rfl, by go_grown⟩

set_option maxRecDepth 100000 in
set_option maxHeartbeats 2000000 in
theorem implJump_any (z n : Int) (w : World) :
    Calls Try.prog 10 #[.int .i64 z, .int .i64 n] w fun e w' => e = .returned (.int .i64 (jmp (numJ z) (clampJ n))) ∧ Below w.heap.size w w' := by
  obtain ⟨m, hm⟩ : ∃ m, clampJ n = m := ⟨_, rfl⟩
  have hm1 := clampJ_in n
  rw [hm] at hm1
  have hz := numJ_wrap z
  have HL := hide1 (numJ_lt z)
  have hi := jmp_in (x := numJ z) hm1.1
  obtain ⟨R, hR⟩ : ∃ R : Nat, jmp (numJ z) m = (R : Int) := ⟨(jmp (numJ z) m).toNat, by omega⟩
  have HR := hide1 (show runJ m m (numJ z) (-1) 0 = (R : Int) from hR)
  have hR1 : R ≤ 1000 := by omega
  have hq : (n < 1 ∧ m = 1) ∨ (¬ n < 1 ∧ 1000 < n ∧ m = 1000) ∨ (¬ n < 1 ∧ ¬ 1000 < n ∧ n = (m : Int)) := by
    have := hm
    unfold clampJ at this
    split at this
    · exact .inl ⟨by assumption, by omega⟩
    · split at this
      · exact .inr (.inl ⟨by assumption, by assumption, by omega⟩)
      · exact .inr (.inr ⟨by assumption, by assumption, by omega⟩)
  rw [hm, hR]
  generalize numJ z = x0 at *
  clear hR hm hi
  have hm2 : (m : Int) ≤ 1000 := by omega
  rcases hq with ⟨h1, hm3⟩ | ⟨h1, h2, hm3⟩ | ⟨h1, h2, rfl⟩
  · have HM3 := hide1 hm3
    clear hm3
    go_enter Try.func10, Try.ntmps10
    go_wp2
    go_loopw [6, 7, 8] (fun xv bv jv wr => ∃ (x j f b : Nat) (c : Int), x < 18446744073709551616 ∧ xv = .int .u64 (x : Int) ∧ bv = .int .u64 (b : Int) ∧ b ≤ 1000 ∧ jv = .int .u64 (j : Int) ∧ j ≤ 2147483648000 ∧ Hid (runJ m f x c j = (R : Int)) ∧ Hid (m ≤ j + f) ∧ Hid (c = (b : Int) ∨ j = 0) ∧ Below w.heap.size w wr) (fun _ _ jv _ => m - (intOf jv).toNat)
    case atStart => exact ⟨x0, 0, m, 0, -1, HL.out, rfl, rfl, by omega, rfl, by omega, HR, by show _ ≤ _; omega, .inr rfl, Below.refl _ _⟩
    case round =>
      obtain ⟨x, j, f, b, c, hx, rfl, rfl, hb2, rfl, hj, hR2, hf, hcb, hbl⟩ := hrel
      have hbs := hbl.size
      by_cases hlt : j < m
      · have k1 : (j : Int) < 1 := by have := HM3.out; omega
        have hj2 : j ≤ 1000 := by omega
        obtain ⟨g, rfl, e, hg⟩ := runJ_step x c hlt hf.out
        have HE := hide1 (e.symm.trans hR2.out)
        have HG := hide1 hg
        have hy := jx_lt x
        have hjg := jj_gt j hy
        have hjl := jj_le j (jx x)
        have C1 := hide1 (fun w' => drawnFrom_any x w' hx)
        have C2 := hide1 (fun w' => jumpFrom_any j (jx x) w' hj2 hy)
        clear e hg hR2 hf hx hcb
        obtain ⟨y, hye⟩ : ∃ y, jx x = y := ⟨_, rfl⟩
        rw [hye] at hy hjg hjl C1 C2 HE HG
        clear hye
        obtain ⟨t, hte⟩ : ∃ t, jj j y = t := ⟨_, rfl⟩
        rw [hte] at hjg hjl C2 HE HG
        clear hte
        have ht : t ≤ 2147483648000 := by omega
        clear hjl
        go_wp2_with fail
        refine (C1.out _).mono ?_
        rintro e w1 ⟨rfl, hb1⟩
        have hbl1 := hbl.trans (hb1.mono hbs)
        clear hb1
        have hbs1 := hbl1.size
        go_wp2_with fail
        refine (C2.out _).mono ?_
        rintro e w2 ⟨rfl, hb2⟩
        have hbl2 := hbl1.trans (hb2.mono hbs1)
        clear hb2
        go_wp2
        go_roundw
        case rel => exact ⟨y, t, g, j, (j : Int), hy, rfl, rfl, hj2, rfl, ht, HE, HG, .inl rfl, hbl2⟩
        case measure => exact Nat.sub_lt_sub_left hlt hjg
      · have k1 : ¬ (j : Int) < 1 := by have := HM3.out; omega
        have HB := hide1 (show (b : Int) = (R : Int) by rw [← hR2.out, runJ_end f x c hlt]; rcases hcb.out with h | h <;> omega)
        clear hR2 hf hcb
        have w6 : IntKind.i64.wrap (b : Int) = (b : Int) := IntWalk.i64_in _ ⟨by omega, by omega⟩
        go_wp2
        go_ret
        exact ⟨by rw [← HB.out]; rfl, hbl⟩
  · have HM3 := hide1 hm3
    clear hm3
    go_enter Try.func10, Try.ntmps10
    go_wp2
    go_loopw [6, 7, 8] (fun xv bv jv wr => ∃ (x j f b : Nat) (c : Int), x < 18446744073709551616 ∧ xv = .int .u64 (x : Int) ∧ bv = .int .u64 (b : Int) ∧ b ≤ 1000 ∧ jv = .int .u64 (j : Int) ∧ j ≤ 2147483648000 ∧ Hid (runJ m f x c j = (R : Int)) ∧ Hid (m ≤ j + f) ∧ Hid (c = (b : Int) ∨ j = 0) ∧ Below w.heap.size w wr) (fun _ _ jv _ => m - (intOf jv).toNat)
    case atStart => exact ⟨x0, 0, m, 0, -1, HL.out, rfl, rfl, by omega, rfl, by omega, HR, by show _ ≤ _; omega, .inr rfl, Below.refl _ _⟩
    case round =>
      obtain ⟨x, j, f, b, c, hx, rfl, rfl, hb2, rfl, hj, hR2, hf, hcb, hbl⟩ := hrel
      have hbs := hbl.size
      by_cases hlt : j < m
      · have k1 : (j : Int) < 1000 := by have := HM3.out; omega
        have hj2 : j ≤ 1000 := by omega
        obtain ⟨g, rfl, e, hg⟩ := runJ_step x c hlt hf.out
        have HE := hide1 (e.symm.trans hR2.out)
        have HG := hide1 hg
        have hy := jx_lt x
        have hjg := jj_gt j hy
        have hjl := jj_le j (jx x)
        have C1 := hide1 (fun w' => drawnFrom_any x w' hx)
        have C2 := hide1 (fun w' => jumpFrom_any j (jx x) w' hj2 hy)
        clear e hg hR2 hf hx hcb
        obtain ⟨y, hye⟩ : ∃ y, jx x = y := ⟨_, rfl⟩
        rw [hye] at hy hjg hjl C1 C2 HE HG
        clear hye
        obtain ⟨t, hte⟩ : ∃ t, jj j y = t := ⟨_, rfl⟩
        rw [hte] at hjg hjl C2 HE HG
        clear hte
        have ht : t ≤ 2147483648000 := by omega
        clear hjl
        go_wp2_with fail
        refine (C1.out _).mono ?_
        rintro e w1 ⟨rfl, hb1⟩
        have hbl1 := hbl.trans (hb1.mono hbs)
        clear hb1
        have hbs1 := hbl1.size
        go_wp2_with fail
        refine (C2.out _).mono ?_
        rintro e w2 ⟨rfl, hb2⟩
        have hbl2 := hbl1.trans (hb2.mono hbs1)
        clear hb2
        go_wp2
        go_roundw
        case rel => exact ⟨y, t, g, j, (j : Int), hy, rfl, rfl, hj2, rfl, ht, HE, HG, .inl rfl, hbl2⟩
        case measure => exact Nat.sub_lt_sub_left hlt hjg
      · have k1 : ¬ (j : Int) < 1000 := by have := HM3.out; omega
        have HB := hide1 (show (b : Int) = (R : Int) by rw [← hR2.out, runJ_end f x c hlt]; rcases hcb.out with h | h <;> omega)
        clear hR2 hf hcb
        have w6 : IntKind.i64.wrap (b : Int) = (b : Int) := IntWalk.i64_in _ ⟨by omega, by omega⟩
        go_wp2
        go_ret
        exact ⟨by rw [← HB.out]; rfl, hbl⟩
  · have hmw : IntKind.u64.wrap (m : Int) = (m : Int) := IntWalk.u64_in _ ⟨by omega, by omega⟩
    go_enter Try.func10, Try.ntmps10
    go_wp2
    go_loopw [6, 7, 8] (fun xv bv jv wr => ∃ (x j f b : Nat) (c : Int), x < 18446744073709551616 ∧ xv = .int .u64 (x : Int) ∧ bv = .int .u64 (b : Int) ∧ b ≤ 1000 ∧ jv = .int .u64 (j : Int) ∧ j ≤ 2147483648000 ∧ Hid (runJ m f x c j = (R : Int)) ∧ Hid (m ≤ j + f) ∧ Hid (c = (b : Int) ∨ j = 0) ∧ Below w.heap.size w wr) (fun _ _ jv _ => m - (intOf jv).toNat)
    case atStart => exact ⟨x0, 0, m, 0, -1, HL.out, rfl, rfl, by omega, rfl, by omega, HR, by show _ ≤ _; omega, .inr rfl, Below.refl _ _⟩
    case round =>
      obtain ⟨x, j, f, b, c, hx, rfl, rfl, hb2, rfl, hj, hR2, hf, hcb, hbl⟩ := hrel
      have hbs := hbl.size
      by_cases hlt : j < m
      · have k1 : (j : Int) < (m : Int) := by omega
        have hj2 : j ≤ 1000 := by omega
        obtain ⟨g, rfl, e, hg⟩ := runJ_step x c hlt hf.out
        have HE := hide1 (e.symm.trans hR2.out)
        have HG := hide1 hg
        have hy := jx_lt x
        have hjg := jj_gt j hy
        have hjl := jj_le j (jx x)
        have C1 := hide1 (fun w' => drawnFrom_any x w' hx)
        have C2 := hide1 (fun w' => jumpFrom_any j (jx x) w' hj2 hy)
        clear e hg hR2 hf hx hcb
        obtain ⟨y, hye⟩ : ∃ y, jx x = y := ⟨_, rfl⟩
        rw [hye] at hy hjg hjl C1 C2 HE HG
        clear hye
        obtain ⟨t, hte⟩ : ∃ t, jj j y = t := ⟨_, rfl⟩
        rw [hte] at hjg hjl C2 HE HG
        clear hte
        have ht : t ≤ 2147483648000 := by omega
        clear hjl
        go_wp2_with fail
        refine (C1.out _).mono ?_
        rintro e w1 ⟨rfl, hb1⟩
        have hbl1 := hbl.trans (hb1.mono hbs)
        clear hb1
        have hbs1 := hbl1.size
        go_wp2_with fail
        refine (C2.out _).mono ?_
        rintro e w2 ⟨rfl, hb2⟩
        have hbl2 := hbl1.trans (hb2.mono hbs1)
        clear hb2
        go_wp2
        go_roundw
        case rel => exact ⟨y, t, g, j, (j : Int), hy, rfl, rfl, hj2, rfl, ht, HE, HG, .inl rfl, hbl2⟩
        case measure => exact Nat.sub_lt_sub_left hlt hjg
      · have k1 : ¬ (j : Int) < (m : Int) := by omega
        have HB := hide1 (show (b : Int) = (R : Int) by rw [← hR2.out, runJ_end f x c hlt]; rcases hcb.out with h | h <;> omega)
        clear hR2 hf hcb
        have w6 : IntKind.i64.wrap (b : Int) = (b : Int) := IntWalk.i64_in _ ⟨by omega, by omega⟩
        go_wp2
        go_ret
        exact ⟨by rw [← HB.out]; rfl, hbl⟩
end Go.Proofs.Ytejjheoimafeoaa
