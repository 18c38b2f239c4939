/- The walk of the law on numbers and texts that are read back. -/
import Derived.Test.YtdbajlbabjoohaaDoorNumW
namespace Go.Proofs.YtdbajlbabjoohaaDoor
open Go.RowKit

set_option maxRecDepth 100000 in
set_option maxHeartbeats 4000000 in
theorem walk_FnNumbers (a : Option Addr) (len cap : Nat) (w : World) (hr : RowB w a len) (ht : Tens w) :
    Calls Tryd.prog 3 #[.slice a len cap] w fun e w' => e = .returned (.bool true) ∧ Below w.heap.size w w' := by
  by_cases hlen : len ≤ 1048576
  · have HC := hide1 (hr.code hlen)
    have HT := hide1 ht
    have hpos := ht.pos
    clear hr ht
    go_enter Tryd.func3, Tryd.ntmps3
    go_wp2_with fail
    refine (big_no a len cap w hlen).mono ?_
    rintro e _ ⟨rfl, rfl⟩
    go_wp2_with fail
    refine (drawVar_any w a len cap HC.out).mono ?_
    rintro e w1 ⟨n0, rfl, hb1⟩
    have B1 := hide1 hb1
    have s1 := hb1.size
    clear hb1
    have key : ∃ n : Nat, n ≤ 1000000000 ∧ ((0 ≤ n0 ∧ n0 ≤ 1000000000 ∧ n0 = (n : Int)) ∨ ((n0 < 0 ∨ 1000000000 < n0) ∧ (12345 : Int) = (n : Int))) := by
      by_cases c : 0 ≤ n0 ∧ n0 ≤ 1000000000
      · exact ⟨n0.toNat, by omega, .inl ⟨c.1, c.2, by omega⟩⟩
      · exact ⟨12345, by omega, .inr ⟨by omega, rfl⟩⟩
    obtain ⟨n, hn, hk⟩ := key
    obtain ⟨A, q, hA, hq, V1, V2⟩ := var_pair n hn
    obtain ⟨z, D1, D2⟩ := dec_pair n hn
    have V1 := hide1 V1
    have V2 := hide1 V2
    have D1 := hide1 D1
    have D2 := hide1 D2
    have T1 := hide1 (HT.out.below B1.out hpos)
    rcases hk with ⟨k1, k2, rfl⟩ | ⟨k1, k2⟩
    · have q1 : decide ((n : Int) < 0) = false := by simp
      have q2' : decide ((1000000000 : Int) < (n : Int)) = false := by simp; omega
      go_wp2_with fail
      refine (V1.out _).mono ?_
      rintro e w2 ⟨rfl, hb2⟩
      have T2 := hide1 (T1.out.below hb2 (by omega))
      have s2 : w.heap.size ≤ w2.heap.size := Nat.le_trans s1 hb2.size
      have B2 := hide1 (B1.out.trans (hb2.mono s1))
      clear hb2
      go_wp2_with fail
      refine (V2.out _).mono ?_
      rintro e _ ⟨rfl, rfl⟩
      go_wp2_with fail
      refine (D1.out _ T2.out).mono ?_
      rintro e w3 ⟨rfl, hb3⟩
      have T3 := hide1 (T2.out.below hb3 (by omega))
      have s3 : w.heap.size ≤ w3.heap.size := Nat.le_trans s2 hb3.size
      have B3 := hide1 (B2.out.trans (hb3.mono s2))
      clear hb3
      go_wp2_with fail
      refine (D2.out _ T3.out).mono ?_
      rintro e w4 ⟨rfl, hb4⟩
      have s4 : w.heap.size ≤ w4.heap.size := Nat.le_trans s3 hb4.size
      have B4 := hide1 (B3.out.trans (hb4.mono s3))
      clear hb4
      go_wp2_with fail
      refine (drawHex_any w4 a len cap ((HC.out.below B4.out (Nat.le_refl _)).mono s4)).mono ?_
      rintro e w5 ⟨t0, rfl, ht0, hb5⟩
      have s5 : w.heap.size ≤ w5.heap.size := Nat.le_trans s4 hb5.size
      have B5 := hide1 (B4.out.trans (hb5.mono s4))
      clear hb5
      by_cases ct : t0.size ≤ 300
      · obtain ⟨t, ht, ht3⟩ : ∃ t, t = t0 ∧ t.size ≤ 300 := ⟨t0, rfl, ct⟩
        subst ht
        obtain ⟨S, q2, hS, hq2, S1, S2⟩ := short_pair t ht3
        obtain ⟨y, H1, H2⟩ := hex_pair t ht3
        have S1 := hide1 S1
        have S2 := hide1 S2
        have H1 := hide1 H1
        have H2 := hide1 H2
        have e1 : ((n : Int) == (n : Int)) = true := by simp
        have e2 : (q == (A.size : Int) + 1) = true := by rw [beq_iff_eq, hq.out]; omega
        have e3 : (q2 == (S.size : Int)) = true := by rw [beq_iff_eq]; exact hq2.out
        have e4 : (t.toList == t.toList) = true := by simp
        go_wp2_with fail
        refine (S1.out _).mono ?_
        rintro e w6 ⟨rfl, hb6⟩
        go_wp2_with fail
        refine (S2.out _).mono ?_
        rintro e w7 ⟨rfl, hb7⟩
        go_wp2_with fail
        refine (H1.out _).mono ?_
        rintro e w8 ⟨rfl, hb8⟩
        go_wp2_with fail
        refine (H2.out _).mono ?_
        rintro e w9 ⟨rfl, hb9⟩
        go_wp2
        go_ret
        exact ⟨rfl, (((B5.out.trans (hb6.mono s5)).trans (hb7.mono (Nat.le_trans s5 hb6.size))).trans (hb8.mono (Nat.le_trans (Nat.le_trans s5 hb6.size) hb7.size))).trans (hb9.mono (Nat.le_trans (Nat.le_trans (Nat.le_trans s5 hb6.size) hb7.size) hb8.size))⟩
      · obtain ⟨t, ht, ht3⟩ : ∃ t : ByteArray, ({ data := #[97, 98, 99] } : ByteArray) = t ∧ t.size ≤ 300 := ⟨_, rfl, by decide⟩
        obtain ⟨S, q2, hS, hq2, S1, S2⟩ := short_pair t ht3
        obtain ⟨y, H1, H2⟩ := hex_pair t ht3
        have S1 := hide1 S1
        have S2 := hide1 S2
        have H1 := hide1 H1
        have H2 := hide1 H2
        have e1 : ((n : Int) == (n : Int)) = true := by simp
        have e2 : (q == (A.size : Int) + 1) = true := by rw [beq_iff_eq, hq.out]; omega
        have e3 : (q2 == (S.size : Int)) = true := by rw [beq_iff_eq]; exact hq2.out
        have e4 : (t.toList == t.toList) = true := by simp
        go_wp2_with fail
        refine (S1.out _).mono ?_
        rintro e w6 ⟨rfl, hb6⟩
        go_wp2_with fail
        refine (S2.out _).mono ?_
        rintro e w7 ⟨rfl, hb7⟩
        go_wp2_with fail
        refine (H1.out _).mono ?_
        rintro e w8 ⟨rfl, hb8⟩
        go_wp2_with fail
        refine (H2.out _).mono ?_
        rintro e w9 ⟨rfl, hb9⟩
        go_wp2
        go_ret
        exact ⟨rfl, (((B5.out.trans (hb6.mono s5)).trans (hb7.mono (Nat.le_trans s5 hb6.size))).trans (hb8.mono (Nat.le_trans (Nat.le_trans s5 hb6.size) hb7.size))).trans (hb9.mono (Nat.le_trans (Nat.le_trans (Nat.le_trans s5 hb6.size) hb7.size) hb8.size))⟩
    · rcases k1 with k1 | k1
      · have q1 : decide (n0 < 0) = true := by simpa using k1
        go_wp2_with fail
        refine (V1.out _).mono ?_
        rintro e w2 ⟨rfl, hb2⟩
        have T2 := hide1 (T1.out.below hb2 (by omega))
        have s2 : w.heap.size ≤ w2.heap.size := Nat.le_trans s1 hb2.size
        have B2 := hide1 (B1.out.trans (hb2.mono s1))
        clear hb2
        go_wp2_with fail
        refine (V2.out _).mono ?_
        rintro e _ ⟨rfl, rfl⟩
        go_wp2_with fail
        refine (D1.out _ T2.out).mono ?_
        rintro e w3 ⟨rfl, hb3⟩
        have T3 := hide1 (T2.out.below hb3 (by omega))
        have s3 : w.heap.size ≤ w3.heap.size := Nat.le_trans s2 hb3.size
        have B3 := hide1 (B2.out.trans (hb3.mono s2))
        clear hb3
        go_wp2_with fail
        refine (D2.out _ T3.out).mono ?_
        rintro e w4 ⟨rfl, hb4⟩
        have s4 : w.heap.size ≤ w4.heap.size := Nat.le_trans s3 hb4.size
        have B4 := hide1 (B3.out.trans (hb4.mono s3))
        clear hb4
        go_wp2_with fail
        refine (drawHex_any w4 a len cap ((HC.out.below B4.out (Nat.le_refl _)).mono s4)).mono ?_
        rintro e w5 ⟨t0, rfl, ht0, hb5⟩
        have s5 : w.heap.size ≤ w5.heap.size := Nat.le_trans s4 hb5.size
        have B5 := hide1 (B4.out.trans (hb5.mono s4))
        clear hb5
        by_cases ct : t0.size ≤ 300
        · obtain ⟨t, ht, ht3⟩ : ∃ t, t = t0 ∧ t.size ≤ 300 := ⟨t0, rfl, ct⟩
          subst ht
          obtain ⟨S, q2, hS, hq2, S1, S2⟩ := short_pair t ht3
          obtain ⟨y, H1, H2⟩ := hex_pair t ht3
          have S1 := hide1 S1
          have S2 := hide1 S2
          have H1 := hide1 H1
          have H2 := hide1 H2
          have e1 : ((n : Int) == (n : Int)) = true := by simp
          have e2 : (q == (A.size : Int) + 1) = true := by rw [beq_iff_eq, hq.out]; omega
          have e3 : (q2 == (S.size : Int)) = true := by rw [beq_iff_eq]; exact hq2.out
          have e4 : (t.toList == t.toList) = true := by simp
          go_wp2_with fail
          refine (S1.out _).mono ?_
          rintro e w6 ⟨rfl, hb6⟩
          go_wp2_with fail
          refine (S2.out _).mono ?_
          rintro e w7 ⟨rfl, hb7⟩
          go_wp2_with fail
          refine (H1.out _).mono ?_
          rintro e w8 ⟨rfl, hb8⟩
          go_wp2_with fail
          refine (H2.out _).mono ?_
          rintro e w9 ⟨rfl, hb9⟩
          go_wp2
          go_ret
          exact ⟨rfl, (((B5.out.trans (hb6.mono s5)).trans (hb7.mono (Nat.le_trans s5 hb6.size))).trans (hb8.mono (Nat.le_trans (Nat.le_trans s5 hb6.size) hb7.size))).trans (hb9.mono (Nat.le_trans (Nat.le_trans (Nat.le_trans s5 hb6.size) hb7.size) hb8.size))⟩
        · obtain ⟨t, ht, ht3⟩ : ∃ t : ByteArray, ({ data := #[97, 98, 99] } : ByteArray) = t ∧ t.size ≤ 300 := ⟨_, rfl, by decide⟩
          obtain ⟨S, q2, hS, hq2, S1, S2⟩ := short_pair t ht3
          obtain ⟨y, H1, H2⟩ := hex_pair t ht3
          have S1 := hide1 S1
          have S2 := hide1 S2
          have H1 := hide1 H1
          have H2 := hide1 H2
          have e1 : ((n : Int) == (n : Int)) = true := by simp
          have e2 : (q == (A.size : Int) + 1) = true := by rw [beq_iff_eq, hq.out]; omega
          have e3 : (q2 == (S.size : Int)) = true := by rw [beq_iff_eq]; exact hq2.out
          have e4 : (t.toList == t.toList) = true := by simp
          go_wp2_with fail
          refine (S1.out _).mono ?_
          rintro e w6 ⟨rfl, hb6⟩
          go_wp2_with fail
          refine (S2.out _).mono ?_
          rintro e w7 ⟨rfl, hb7⟩
          go_wp2_with fail
          refine (H1.out _).mono ?_
          rintro e w8 ⟨rfl, hb8⟩
          go_wp2_with fail
          refine (H2.out _).mono ?_
          rintro e w9 ⟨rfl, hb9⟩
          go_wp2
          go_ret
          exact ⟨rfl, (((B5.out.trans (hb6.mono s5)).trans (hb7.mono (Nat.le_trans s5 hb6.size))).trans (hb8.mono (Nat.le_trans (Nat.le_trans s5 hb6.size) hb7.size))).trans (hb9.mono (Nat.le_trans (Nat.le_trans (Nat.le_trans s5 hb6.size) hb7.size) hb8.size))⟩
      · have q1 : decide (n0 < 0) = false := by simp; omega
        have q2' : decide ((1000000000 : Int) < n0) = true := by simp; omega
        go_wp2_with fail
        refine (V1.out _).mono ?_
        rintro e w2 ⟨rfl, hb2⟩
        have T2 := hide1 (T1.out.below hb2 (by omega))
        have s2 : w.heap.size ≤ w2.heap.size := Nat.le_trans s1 hb2.size
        have B2 := hide1 (B1.out.trans (hb2.mono s1))
        clear hb2
        go_wp2_with fail
        refine (V2.out _).mono ?_
        rintro e _ ⟨rfl, rfl⟩
        go_wp2_with fail
        refine (D1.out _ T2.out).mono ?_
        rintro e w3 ⟨rfl, hb3⟩
        have T3 := hide1 (T2.out.below hb3 (by omega))
        have s3 : w.heap.size ≤ w3.heap.size := Nat.le_trans s2 hb3.size
        have B3 := hide1 (B2.out.trans (hb3.mono s2))
        clear hb3
        go_wp2_with fail
        refine (D2.out _ T3.out).mono ?_
        rintro e w4 ⟨rfl, hb4⟩
        have s4 : w.heap.size ≤ w4.heap.size := Nat.le_trans s3 hb4.size
        have B4 := hide1 (B3.out.trans (hb4.mono s3))
        clear hb4
        go_wp2_with fail
        refine (drawHex_any w4 a len cap ((HC.out.below B4.out (Nat.le_refl _)).mono s4)).mono ?_
        rintro e w5 ⟨t0, rfl, ht0, hb5⟩
        have s5 : w.heap.size ≤ w5.heap.size := Nat.le_trans s4 hb5.size
        have B5 := hide1 (B4.out.trans (hb5.mono s4))
        clear hb5
        by_cases ct : t0.size ≤ 300
        · obtain ⟨t, ht, ht3⟩ : ∃ t, t = t0 ∧ t.size ≤ 300 := ⟨t0, rfl, ct⟩
          subst ht
          obtain ⟨S, q2, hS, hq2, S1, S2⟩ := short_pair t ht3
          obtain ⟨y, H1, H2⟩ := hex_pair t ht3
          have S1 := hide1 S1
          have S2 := hide1 S2
          have H1 := hide1 H1
          have H2 := hide1 H2
          have e1 : ((n : Int) == (n : Int)) = true := by simp
          have e2 : (q == (A.size : Int) + 1) = true := by rw [beq_iff_eq, hq.out]; omega
          have e3 : (q2 == (S.size : Int)) = true := by rw [beq_iff_eq]; exact hq2.out
          have e4 : (t.toList == t.toList) = true := by simp
          go_wp2_with fail
          refine (S1.out _).mono ?_
          rintro e w6 ⟨rfl, hb6⟩
          go_wp2_with fail
          refine (S2.out _).mono ?_
          rintro e w7 ⟨rfl, hb7⟩
          go_wp2_with fail
          refine (H1.out _).mono ?_
          rintro e w8 ⟨rfl, hb8⟩
          go_wp2_with fail
          refine (H2.out _).mono ?_
          rintro e w9 ⟨rfl, hb9⟩
          go_wp2
          go_ret
          exact ⟨rfl, (((B5.out.trans (hb6.mono s5)).trans (hb7.mono (Nat.le_trans s5 hb6.size))).trans (hb8.mono (Nat.le_trans (Nat.le_trans s5 hb6.size) hb7.size))).trans (hb9.mono (Nat.le_trans (Nat.le_trans (Nat.le_trans s5 hb6.size) hb7.size) hb8.size))⟩
        · obtain ⟨t, ht, ht3⟩ : ∃ t : ByteArray, ({ data := #[97, 98, 99] } : ByteArray) = t ∧ t.size ≤ 300 := ⟨_, rfl, by decide⟩
          obtain ⟨S, q2, hS, hq2, S1, S2⟩ := short_pair t ht3
          obtain ⟨y, H1, H2⟩ := hex_pair t ht3
          have S1 := hide1 S1
          have S2 := hide1 S2
          have H1 := hide1 H1
          have H2 := hide1 H2
          have e1 : ((n : Int) == (n : Int)) = true := by simp
          have e2 : (q == (A.size : Int) + 1) = true := by rw [beq_iff_eq, hq.out]; omega
          have e3 : (q2 == (S.size : Int)) = true := by rw [beq_iff_eq]; exact hq2.out
          have e4 : (t.toList == t.toList) = true := by simp
          go_wp2_with fail
          refine (S1.out _).mono ?_
          rintro e w6 ⟨rfl, hb6⟩
          go_wp2_with fail
          refine (S2.out _).mono ?_
          rintro e w7 ⟨rfl, hb7⟩
          go_wp2_with fail
          refine (H1.out _).mono ?_
          rintro e w8 ⟨rfl, hb8⟩
          go_wp2_with fail
          refine (H2.out _).mono ?_
          rintro e w9 ⟨rfl, hb9⟩
          go_wp2
          go_ret
          exact ⟨rfl, (((B5.out.trans (hb6.mono s5)).trans (hb7.mono (Nat.le_trans s5 hb6.size))).trans (hb8.mono (Nat.le_trans (Nat.le_trans s5 hb6.size) hb7.size))).trans (hb9.mono (Nat.le_trans (Nat.le_trans (Nat.le_trans s5 hb6.size) hb7.size) hb8.size))⟩
  · go_enter Tryd.func3, Tryd.ntmps3
    go_wp2_with (go_at_call 4; refine (big_yes a len cap w hlen).mono ?_; rintro e w1 ⟨rfl, rfl⟩)
    go_ret
    exact ⟨rfl, Below.refl _ _⟩
end Go.Proofs.YtdbajlbabjoohaaDoor
