/- Ballots, by the program: what a voice hears. -/
import Derived.Test.YtgehdgmllilmgaaYK
import Derived.Deep.DeepCutAuto
namespace Go.Proofs.Ytgehdgmllilmgaa
open Go.RowKit
set_option linter.unusedVariables false

theorem ansElse (x : Vo) (m : Nt) (w : World) (h1 : ¬ (m.k = 1 ∧ x.p < m.b)) (h2 : ¬ (m.k = 3 ∧ x.p ≤ m.b)) : Calls Try.prog 115 #[voV x, sayV m] w fun e w' => e = .returned (.tuple #[voV x, .nilIface]) ∧ Below w.heap.size w w' := by
  by_cases c1 : m.k = 1
  · rw [sayV1 c1]; exact ansNo1 _ _ _ _ w (fun h => h1 ⟨c1, h⟩)
  · by_cases c2 : m.k = 2
    · rw [sayV2 c2]; exact ansNo2 _ _ _ _ _ _ w
    · by_cases c3 : m.k = 3
      · rw [sayV3 c3]; exact ansNo3 _ _ _ _ _ w (fun h => h2 ⟨c3, h⟩)
      · by_cases c4 : m.k = 4
        · rw [sayV4 c4]; exact ansNo4 _ _ _ _ _ w
        · rw [sayVn c1 c2 c3 c4]; exact ansNon _ _ _ w

set_option maxRecDepth 100000 in
set_option maxHeartbeats 4000000 in
theorem implHear_any (x : Vo) (m : Nt) (w : World) (hx : x.v.size ≤ 1048576) (hm : m.v.size ≤ 1048576) :
    Calls Try.prog 105 #[voV x, ntV m] w fun e w' => HearE x m e ∧ Below w.heap.size w w' := by
  have CV := hide1 (fun w' => implVoice_any x w' hx)
  have CF := hide1 (fun w' => fitsB_any m w' hm)
  have CN := hide1 (fun w' => newVoice_any x w')
  have CS := hide1 (fun w' => sayingOf_any m w')
  unfold HearE
  obtain ⟨p, t, v⟩ := x
  obtain ⟨k, f, o, b, q, z⟩ := m
  have F0 := hide1 (blkN4 w #[.int .i64 p, .int .i64 t, .string v] #[.int .i64 k, .int .i64 f, .int .i64 o, .int .i64 b, .int .i64 q, .string z] #[.int .i64 0, .int .i64 0, .string ⟨#[]⟩] #[.int .i64 0, .int .i64 0, .int .i64 0, .int .i64 0, .int .i64 0, .string ⟨#[]⟩] 43 111 43 111)
  unfold voV at CV CN
  unfold ntV at CF CS
  unfold voV ntV
  dsimp only at hx hm CV CF CN CS
  go_enter Try.func105, Try.ntmps105
  go_wp2_with fail
  generalize ((((w.alloc (.cells #[.int .i64 p, .int .i64 t, .string v] 43)).alloc (.cells #[.int .i64 k, .int .i64 f, .int .i64 o, .int .i64 b, .int .i64 q, .string z] 111)).alloc (.cells #[.int .i64 0, .int .i64 0, .string ⟨#[]⟩] 43)).alloc (.cells #[.int .i64 0, .int .i64 0, .int .i64 0, .int .i64 0, .int .i64 0, .string ⟨#[]⟩] 111)) = w0 at F0 ⊢
  obtain ⟨K0, K1, K2, K3, B0⟩ := F0.out
  refine (CV.out w0).mono ?_
  rintro e w1 ⟨rfl, hb1⟩
  have J0 := hide1 (K0.below hb1 K0.lt)
  have J1 := hide1 (K1.below hb1 K1.lt)
  have J2 := hide1 (K2.below hb1 K2.lt)
  have J3 := hide1 (K3.below hb1 K3.lt)
  have B1 := hide1 (B0.trans (hb1.mono B0.size))
  clear K0 K1 K2 K3 B0 hb1 F0 CV
  have a0 : w1.cell? ⟨w.heap.size, 0, none⟩ = some (.int .i64 p) := J0.out.cell 0
  have a1 : w1.cell? ⟨w.heap.size, 1, none⟩ = some (.int .i64 t) := J0.out.cell 1
  have a2 : w1.cell? ⟨w.heap.size, 2, none⟩ = some (.string v) := J0.out.cell 2
  have n0 : w1.cell? ⟨w.heap.size + 1, 0, none⟩ = some (.int .i64 k) := J1.out.cell 0
  have n1 : w1.cell? ⟨w.heap.size + 1, 1, none⟩ = some (.int .i64 f) := J1.out.cell 1
  have n2 : w1.cell? ⟨w.heap.size + 1, 2, none⟩ = some (.int .i64 o) := J1.out.cell 2
  have n3 : w1.cell? ⟨w.heap.size + 1, 3, none⟩ = some (.int .i64 b) := J1.out.cell 3
  have n4 : w1.cell? ⟨w.heap.size + 1, 4, none⟩ = some (.int .i64 q) := J1.out.cell 4
  have n5 : w1.cell? ⟨w.heap.size + 1, 5, none⟩ = some (.string z) := J1.out.cell 5
  by_cases c0 : okVo ⟨p, t, v⟩
  · rw [decide_eq_true c0]
    go_wp2_with fail
    refine (CF.out _).mono ?_
    rintro e w2 ⟨rfl, hb2⟩
    have L0 := hide1 (J0.out.below hb2 J0.out.lt)
    have L1 := hide1 (J1.out.below hb2 J1.out.lt)
    have L2 := hide1 (J2.out.below hb2 J2.out.lt)
    have L3 := hide1 (J3.out.below hb2 J3.out.lt)
    have B2 := hide1 (B1.out.trans (hb2.mono B1.out.size))
    clear hb2 J0 J1 J2 J3 B1 CF a0 a1 a2 n0 n1 n2 n3 n4 n5
    have a0 : w2.cell? ⟨w.heap.size, 0, none⟩ = some (.int .i64 p) := L0.out.cell 0
    have a1 : w2.cell? ⟨w.heap.size, 1, none⟩ = some (.int .i64 t) := L0.out.cell 1
    have a2 : w2.cell? ⟨w.heap.size, 2, none⟩ = some (.string v) := L0.out.cell 2
    have n0 : w2.cell? ⟨w.heap.size + 1, 0, none⟩ = some (.int .i64 k) := L1.out.cell 0
    have n1 : w2.cell? ⟨w.heap.size + 1, 1, none⟩ = some (.int .i64 f) := L1.out.cell 1
    have n2 : w2.cell? ⟨w.heap.size + 1, 2, none⟩ = some (.int .i64 o) := L1.out.cell 2
    have n3 : w2.cell? ⟨w.heap.size + 1, 3, none⟩ = some (.int .i64 b) := L1.out.cell 3
    have n4 : w2.cell? ⟨w.heap.size + 1, 4, none⟩ = some (.int .i64 q) := L1.out.cell 4
    have n5 : w2.cell? ⟨w.heap.size + 1, 5, none⟩ = some (.string z) := L1.out.cell 5
    by_cases c1 : fitM ⟨k, f, o, b, q, z⟩
    · rw [decide_eq_true c1]
      have HF := hide1 (show fitN ⟨p, t, v⟩ ⟨k, f, o, b, q, z⟩ from ⟨c0, c1⟩)
      clear c0 c1 a0 a1 a2 n0 n1 n2 n3 n4 n5
      have hs2 : w.heap.size + 1 + 1 + 1 < w2.heap.size := L3.out.lt
      by_cases c3 : k = 1 ∧ p < b
      · obtain ⟨rfl, c4⟩ := c3
        have HR := hide1 (hear_ask HF.out ⟨rfl, c4⟩)
        have CA := hide1 (fun w' => ansYes1 p t v b w' c4)
        rw [show sayV ⟨1, f, o, b, q, z⟩ = saV1 b from sayV1 rfl] at CS
        clear c4 HF
        unfold saV1 saV2 at CA
        unfold saV1 at CS
        have L0x := hide1 L0.out
        go_upto_region 3 with fail
        go_cut [7, 8] (fun bv sv wx => ∃ bx : Nat, bv = .pointer (some ⟨bx, 0, none⟩) ∧ sv = .iface 162 (.agg #[.int .i64 b, .int .i64 t, .string v]) ∧ Hid (w2.heap.size ≤ bx) ∧ Hid (Blk wx bx 43 [.int .i64 b, .int .i64 t, .string v]) ∧ Hid (Below w2.heap.size w2 wx))
        case first =>
          refine regAns rfl L0.out L1.out CS.out CA.out ?_
          intro bx w' h1 h2 h3
          go_wp2_with fail
          go_meet
          exact ⟨bx, rfl, rfl, hide1 h1, hide1 h2, hide1 h3⟩
        case rest =>
          obtain ⟨bx, rfl, rfl, hbx, hcB, HB3⟩ := hcut
          have M1 := hide1 (L1.out.below HB3.out L1.out.lt)
          have M2 := hide1 (L2.out.below HB3.out L2.out.lt)
          have M3 := hide1 (L3.out.below HB3.out L3.out.lt)
          have B3 := hide1 (B2.out.trans (HB3.out.mono B2.out.size))
          have M4 := hide1 hcB.out
          have hbn : w.heap.size + 1 + 1 + 1 < bx := Nat.lt_of_lt_of_le hs2 hbx.out
          clear L0 L1 L2 L3 L0x B2 CA CS CN HB3 hcB hbx
          have x0 : wc.cell? ⟨bx, 0, none⟩ = some (.int .i64 b) := M4.out.cell 0
          have x1 : wc.cell? ⟨bx, 1, none⟩ = some (.int .i64 t) := M4.out.cell 1
          have x2 : wc.cell? ⟨bx, 2, none⟩ = some (.string v) := M4.out.cell 2
          have n0 : wc.cell? ⟨w.heap.size + 1, 0, none⟩ = some (.int .i64 1) := M1.out.cell 0
          have n1 : wc.cell? ⟨w.heap.size + 1, 1, none⟩ = some (.int .i64 f) := M1.out.cell 1
          have n2 : wc.cell? ⟨w.heap.size + 1, 2, none⟩ = some (.int .i64 o) := M1.out.cell 2
          have n3 : wc.cell? ⟨w.heap.size + 1, 3, none⟩ = some (.int .i64 b) := M1.out.cell 3
          have n4 : wc.cell? ⟨w.heap.size + 1, 4, none⟩ = some (.int .i64 q) := M1.out.cell 4
          have n5 : wc.cell? ⟨w.heap.size + 1, 5, none⟩ = some (.string z) := M1.out.cell 5
          have r0 : wc.cell? ⟨w.heap.size + 1 + 1, 0, none⟩ = some (.int .i64 0) := M2.out.cell 0
          have r1 : wc.cell? ⟨w.heap.size + 1 + 1, 1, none⟩ = some (.int .i64 0) := M2.out.cell 1
          have r2 : wc.cell? ⟨w.heap.size + 1 + 1, 2, none⟩ = some (.string ⟨#[]⟩) := M2.out.cell 2
          have s0 : wc.cell? ⟨w.heap.size + 1 + 1 + 1, 0, none⟩ = some (.int .i64 0) := M3.out.cell 0
          have s1 : wc.cell? ⟨w.heap.size + 1 + 1 + 1, 1, none⟩ = some (.int .i64 0) := M3.out.cell 1
          have s2 : wc.cell? ⟨w.heap.size + 1 + 1 + 1, 2, none⟩ = some (.int .i64 0) := M3.out.cell 2
          have s3 : wc.cell? ⟨w.heap.size + 1 + 1 + 1, 3, none⟩ = some (.int .i64 0) := M3.out.cell 3
          have s4 : wc.cell? ⟨w.heap.size + 1 + 1 + 1, 4, none⟩ = some (.int .i64 0) := M3.out.cell 4
          have s5 : wc.cell? ⟨w.heap.size + 1 + 1 + 1, 5, none⟩ = some (.string ⟨#[]⟩) := M3.out.cell 5
          have rf : ∀ j, wc.frozen? ⟨w.heap.size + 1 + 1, j, none⟩ = false := fun j => M2.out.froz j
          have sf : ∀ j, wc.frozen? ⟨w.heap.size + 1 + 1 + 1, j, none⟩ = false := fun j => M3.out.froz j
          have qn : ∀ w, (binOp .eql 145 (.iface 162 (.agg #[.int .i64 b, .int .i64 t, .string v])) .nilIface).run Try.prog w = .ok (.bool false) w := fun _ => by kernel_rfl
          have CW : Hid (∀ w', Calls Try.prog 114 #[.agg #[.int .i64 b, .int .i64 t, .string v]] w' fun e w'' => e = .returned (.agg #[.int .i64 b, .int .i64 t, .string v]) ∧ Below w'.heap.size w' w'') := fun w' => newVoice_any ⟨b, t, v⟩ w'
          go_upto_region 6 with fail
          have krx : ∀ (u : World) (i j : Nat) (y : Value), (u.setCell ⟨w.heap.size + 1 + 1, i, none⟩ y).cell? ⟨bx, j, none⟩ = u.cell? ⟨bx, j, none⟩ := fun u i j y => World.cell?_setCell_far _ _ _ _ (by dsimp only; omega)
          have krn : ∀ (u : World) (i j : Nat) (y : Value), (u.setCell ⟨w.heap.size + 1 + 1, i, none⟩ y).cell? ⟨w.heap.size + 1, j, none⟩ = u.cell? ⟨w.heap.size + 1, j, none⟩ := fun u i j y => World.cell?_setCell_far _ _ _ _ (by dsimp only; omega)
          have ksx : ∀ (u : World) (i j : Nat) (y : Value), (u.setCell ⟨w.heap.size + 1 + 1 + 1, i, none⟩ y).cell? ⟨bx, j, none⟩ = u.cell? ⟨bx, j, none⟩ := fun u i j y => World.cell?_setCell_far _ _ _ _ (by dsimp only; omega)
          have ksn : ∀ (u : World) (i j : Nat) (y : Value), (u.setCell ⟨w.heap.size + 1 + 1 + 1, i, none⟩ y).cell? ⟨w.heap.size + 1, j, none⟩ = u.cell? ⟨w.heap.size + 1, j, none⟩ := fun u i j y => World.cell?_setCell_far _ _ _ _ (by dsimp only; omega)
          go_region_held3 (fun w' => w'.cell? ⟨bx, 0, none⟩ = some (.int .i64 b) ∧ w'.cell? ⟨bx, 1, none⟩ = some (.int .i64 t) ∧ w'.cell? ⟨bx, 2, none⟩ = some (.string v) ∧ w'.cell? ⟨w.heap.size + 1, 1, none⟩ = some (.int .i64 f) ∧ w'.cell? ⟨w.heap.size + 1, 2, none⟩ = some (.int .i64 o)) (first | go_keep | simp only [World.cell?_drew, krx, krn, ksx, ksn, x0, x1, x2, n1, n2, and_self]) ((first | (go_at_call 114; refine (CW.out _).mono ?_; rintro e wa ⟨rfl, hb1⟩; have Ba : Hid (Below wc.heap.size wc wa) := (show Below wc.heap.size wc _ by go_grown).trans (hb1.mono (by go_size)); clear x0 x1 x2 n0 n1 n2 n3 n4 n5 r0 r1 r2 s0 s1 s2 s3 s4 s5 rf sf; clear hb1; have x0 : wa.cell? ⟨bx, 0, none⟩ = some (.int .i64 b) := (M4.out.below Ba.out M4.out.lt).cell 0; have x1 : wa.cell? ⟨bx, 1, none⟩ = some (.int .i64 t) := (M4.out.below Ba.out M4.out.lt).cell 1; have x2 : wa.cell? ⟨bx, 2, none⟩ = some (.string v) := (M4.out.below Ba.out M4.out.lt).cell 2; have n0 : wa.cell? ⟨w.heap.size + 1, 0, none⟩ = some (.int .i64 1) := (M1.out.below Ba.out M1.out.lt).cell 0; have n1 : wa.cell? ⟨w.heap.size + 1, 1, none⟩ = some (.int .i64 f) := (M1.out.below Ba.out M1.out.lt).cell 1; have n2 : wa.cell? ⟨w.heap.size + 1, 2, none⟩ = some (.int .i64 o) := (M1.out.below Ba.out M1.out.lt).cell 2; have n3 : wa.cell? ⟨w.heap.size + 1, 3, none⟩ = some (.int .i64 b) := (M1.out.below Ba.out M1.out.lt).cell 3; have n4 : wa.cell? ⟨w.heap.size + 1, 4, none⟩ = some (.int .i64 q) := (M1.out.below Ba.out M1.out.lt).cell 4; have n5 : wa.cell? ⟨w.heap.size + 1, 5, none⟩ = some (.string z) := (M1.out.below Ba.out M1.out.lt).cell 5; have r0 : wa.cell? ⟨w.heap.size + 1 + 1, 0, none⟩ = some (.int .i64 0) := (M2.out.below Ba.out M2.out.lt).cell 0; have r1 : wa.cell? ⟨w.heap.size + 1 + 1, 1, none⟩ = some (.int .i64 0) := (M2.out.below Ba.out M2.out.lt).cell 1; have r2 : wa.cell? ⟨w.heap.size + 1 + 1, 2, none⟩ = some (.string ⟨#[]⟩) := (M2.out.below Ba.out M2.out.lt).cell 2; have s0 : wa.cell? ⟨w.heap.size + 1 + 1 + 1, 0, none⟩ = some (.int .i64 0) := (M3.out.below Ba.out M3.out.lt).cell 0; have s1 : wa.cell? ⟨w.heap.size + 1 + 1 + 1, 1, none⟩ = some (.int .i64 0) := (M3.out.below Ba.out M3.out.lt).cell 1; have s2 : wa.cell? ⟨w.heap.size + 1 + 1 + 1, 2, none⟩ = some (.int .i64 0) := (M3.out.below Ba.out M3.out.lt).cell 2; have s3 : wa.cell? ⟨w.heap.size + 1 + 1 + 1, 3, none⟩ = some (.int .i64 0) := (M3.out.below Ba.out M3.out.lt).cell 3; have s4 : wa.cell? ⟨w.heap.size + 1 + 1 + 1, 4, none⟩ = some (.int .i64 0) := (M3.out.below Ba.out M3.out.lt).cell 4; have s5 : wa.cell? ⟨w.heap.size + 1 + 1 + 1, 5, none⟩ = some (.string ⟨#[]⟩) := (M3.out.below Ba.out M3.out.lt).cell 5; have rf : ∀ j, wa.frozen? ⟨w.heap.size + 1 + 1, j, none⟩ = false := fun j => (M2.out.below Ba.out M2.out.lt).froz j; have sf : ∀ j, wa.frozen? ⟨w.heap.size + 1 + 1 + 1, j, none⟩ = false := fun j => (M3.out.below Ba.out M3.out.lt).froz j) | (go_at_call 139; refine (note2_any _ _ _ _ _ _).mono ?_; rintro e wb ⟨rfl, hb2⟩; have Bb : Hid (Below wc.heap.size wc wb) := Ba.out.trans (((show Below wa.heap.size wa _ by go_grown).trans (hb2.mono (by go_size))).mono Ba.out.size); clear x0 x1 x2 n0 n1 n2 n3 n4 n5 r0 r1 r2 s0 s1 s2 s3 s4 s5 rf sf; clear hb2; have x0 : wb.cell? ⟨bx, 0, none⟩ = some (.int .i64 b) := (M4.out.below Bb.out M4.out.lt).cell 0; have x1 : wb.cell? ⟨bx, 1, none⟩ = some (.int .i64 t) := (M4.out.below Bb.out M4.out.lt).cell 1; have x2 : wb.cell? ⟨bx, 2, none⟩ = some (.string v) := (M4.out.below Bb.out M4.out.lt).cell 2; have n0 : wb.cell? ⟨w.heap.size + 1, 0, none⟩ = some (.int .i64 1) := (M1.out.below Bb.out M1.out.lt).cell 0; have n1 : wb.cell? ⟨w.heap.size + 1, 1, none⟩ = some (.int .i64 f) := (M1.out.below Bb.out M1.out.lt).cell 1; have n2 : wb.cell? ⟨w.heap.size + 1, 2, none⟩ = some (.int .i64 o) := (M1.out.below Bb.out M1.out.lt).cell 2; have n3 : wb.cell? ⟨w.heap.size + 1, 3, none⟩ = some (.int .i64 b) := (M1.out.below Bb.out M1.out.lt).cell 3; have n4 : wb.cell? ⟨w.heap.size + 1, 4, none⟩ = some (.int .i64 q) := (M1.out.below Bb.out M1.out.lt).cell 4; have n5 : wb.cell? ⟨w.heap.size + 1, 5, none⟩ = some (.string z) := (M1.out.below Bb.out M1.out.lt).cell 5; have r0 : wb.cell? ⟨w.heap.size + 1 + 1, 0, none⟩ = some (.int .i64 0) := (M2.out.below Bb.out M2.out.lt).cell 0; have r1 : wb.cell? ⟨w.heap.size + 1 + 1, 1, none⟩ = some (.int .i64 0) := (M2.out.below Bb.out M2.out.lt).cell 1; have r2 : wb.cell? ⟨w.heap.size + 1 + 1, 2, none⟩ = some (.string ⟨#[]⟩) := (M2.out.below Bb.out M2.out.lt).cell 2; have s0 : wb.cell? ⟨w.heap.size + 1 + 1 + 1, 0, none⟩ = some (.int .i64 0) := (M3.out.below Bb.out M3.out.lt).cell 0; have s1 : wb.cell? ⟨w.heap.size + 1 + 1 + 1, 1, none⟩ = some (.int .i64 0) := (M3.out.below Bb.out M3.out.lt).cell 1; have s2 : wb.cell? ⟨w.heap.size + 1 + 1 + 1, 2, none⟩ = some (.int .i64 0) := (M3.out.below Bb.out M3.out.lt).cell 2; have s3 : wb.cell? ⟨w.heap.size + 1 + 1 + 1, 3, none⟩ = some (.int .i64 0) := (M3.out.below Bb.out M3.out.lt).cell 3; have s4 : wb.cell? ⟨w.heap.size + 1 + 1 + 1, 4, none⟩ = some (.int .i64 0) := (M3.out.below Bb.out M3.out.lt).cell 4; have s5 : wb.cell? ⟨w.heap.size + 1 + 1 + 1, 5, none⟩ = some (.string ⟨#[]⟩) := (M3.out.below Bb.out M3.out.lt).cell 5; have rf : ∀ j, wb.frozen? ⟨w.heap.size + 1 + 1, j, none⟩ = false := fun j => (M2.out.below Bb.out M2.out.lt).froz j; have sf : ∀ j, wb.frozen? ⟨w.heap.size + 1 + 1 + 1, j, none⟩ = false := fun j => (M3.out.below Bb.out M3.out.lt).froz j)))
          clear x0 x1 x2 n0 n1 n2 n3 n4 n5 r0 r1 r2 s0 s1 s2 s3 s4 s5 rf sf krx krn ksx ksn CW qn
          have I2 := hide1 (M2.out.below Bb.out M2.out.lt)
          have I3 := hide1 (M3.out.below Bb.out M3.out.lt)
          have BN := hide1 (B3.out.trans (Bb.out.mono B3.out.size))
          have VB : Blk (((((((((wb.setCell ⟨w.heap.size + 1 + 1, 0, none⟩ (.int .i64 b)).setCell ⟨w.heap.size + 1 + 1, 1, none⟩ (.int .i64 t)).setCell ⟨w.heap.size + 1 + 1, 2, none⟩ (.string v)).setCell ⟨w.heap.size + 1 + 1 + 1, 0, none⟩ (.int .i64 2)).setCell ⟨w.heap.size + 1 + 1 + 1, 1, none⟩ (.int .i64 o)).setCell ⟨w.heap.size + 1 + 1 + 1, 2, none⟩ (.int .i64 f)).setCell ⟨w.heap.size + 1 + 1 + 1, 3, none⟩ (.int .i64 b)).setCell ⟨w.heap.size + 1 + 1 + 1, 4, none⟩ (.int .i64 t)).setCell ⟨w.heap.size + 1 + 1 + 1, 5, none⟩ (.string v)) (w.heap.size + 1 + 1) 43 [.int .i64 b, .int .i64 t, .string v] := (Blk.far (Blk.far (Blk.far (Blk.far (Blk.far (Blk.far (Blk.set (Blk.set (Blk.set I2.out 0 (.int .i64 b)) 1 (.int .i64 t)) 2 (.string v)) ⟨w.heap.size + 1 + 1 + 1, 0, none⟩ _ (by dsimp only; omega)) ⟨w.heap.size + 1 + 1 + 1, 1, none⟩ _ (by dsimp only; omega)) ⟨w.heap.size + 1 + 1 + 1, 2, none⟩ _ (by dsimp only; omega)) ⟨w.heap.size + 1 + 1 + 1, 3, none⟩ _ (by dsimp only; omega)) ⟨w.heap.size + 1 + 1 + 1, 4, none⟩ _ (by dsimp only; omega)) ⟨w.heap.size + 1 + 1 + 1, 5, none⟩ _ (by dsimp only; omega))
          have NB : Blk (((((((((wb.setCell ⟨w.heap.size + 1 + 1, 0, none⟩ (.int .i64 b)).setCell ⟨w.heap.size + 1 + 1, 1, none⟩ (.int .i64 t)).setCell ⟨w.heap.size + 1 + 1, 2, none⟩ (.string v)).setCell ⟨w.heap.size + 1 + 1 + 1, 0, none⟩ (.int .i64 2)).setCell ⟨w.heap.size + 1 + 1 + 1, 1, none⟩ (.int .i64 o)).setCell ⟨w.heap.size + 1 + 1 + 1, 2, none⟩ (.int .i64 f)).setCell ⟨w.heap.size + 1 + 1 + 1, 3, none⟩ (.int .i64 b)).setCell ⟨w.heap.size + 1 + 1 + 1, 4, none⟩ (.int .i64 t)).setCell ⟨w.heap.size + 1 + 1 + 1, 5, none⟩ (.string v)) (w.heap.size + 1 + 1 + 1) 111 [.int .i64 2, .int .i64 o, .int .i64 f, .int .i64 b, .int .i64 t, .string v] := (Blk.set (Blk.set (Blk.set (Blk.set (Blk.set (Blk.set (Blk.far (Blk.far (Blk.far I3.out ⟨w.heap.size + 1 + 1, 0, none⟩ _ (by dsimp only; omega)) ⟨w.heap.size + 1 + 1, 1, none⟩ _ (by dsimp only; omega)) ⟨w.heap.size + 1 + 1, 2, none⟩ _ (by dsimp only; omega)) 0 (.int .i64 2)) 1 (.int .i64 o)) 2 (.int .i64 f)) 3 (.int .i64 b)) 4 (.int .i64 t)) 5 (.string v))
          have BF : Below w.heap.size w (((((((((wb.setCell ⟨w.heap.size + 1 + 1, 0, none⟩ (.int .i64 b)).setCell ⟨w.heap.size + 1 + 1, 1, none⟩ (.int .i64 t)).setCell ⟨w.heap.size + 1 + 1, 2, none⟩ (.string v)).setCell ⟨w.heap.size + 1 + 1 + 1, 0, none⟩ (.int .i64 2)).setCell ⟨w.heap.size + 1 + 1 + 1, 1, none⟩ (.int .i64 o)).setCell ⟨w.heap.size + 1 + 1 + 1, 2, none⟩ (.int .i64 f)).setCell ⟨w.heap.size + 1 + 1 + 1, 3, none⟩ (.int .i64 b)).setCell ⟨w.heap.size + 1 + 1 + 1, 4, none⟩ (.int .i64 t)).setCell ⟨w.heap.size + 1 + 1 + 1, 5, none⟩ (.string v)) := (((((((((BN.out.setCell (p := ⟨w.heap.size + 1 + 1, 0, none⟩) (by dsimp only; omega) _).setCell (p := ⟨w.heap.size + 1 + 1, 1, none⟩) (by dsimp only; omega) _).setCell (p := ⟨w.heap.size + 1 + 1, 2, none⟩) (by dsimp only; omega) _).setCell (p := ⟨w.heap.size + 1 + 1 + 1, 0, none⟩) (by dsimp only; omega) _).setCell (p := ⟨w.heap.size + 1 + 1 + 1, 1, none⟩) (by dsimp only; omega) _).setCell (p := ⟨w.heap.size + 1 + 1 + 1, 2, none⟩) (by dsimp only; omega) _).setCell (p := ⟨w.heap.size + 1 + 1 + 1, 3, none⟩) (by dsimp only; omega) _).setCell (p := ⟨w.heap.size + 1 + 1 + 1, 4, none⟩) (by dsimp only; omega) _).setCell (p := ⟨w.heap.size + 1 + 1 + 1, 5, none⟩) (by dsimp only; omega) _)
          clear M1 M2 M3 M4 I2 I3 BN Ba Bb
          generalize (((((((((wb.setCell ⟨w.heap.size + 1 + 1, 0, none⟩ (.int .i64 b)).setCell ⟨w.heap.size + 1 + 1, 1, none⟩ (.int .i64 t)).setCell ⟨w.heap.size + 1 + 1, 2, none⟩ (.string v)).setCell ⟨w.heap.size + 1 + 1 + 1, 0, none⟩ (.int .i64 2)).setCell ⟨w.heap.size + 1 + 1 + 1, 1, none⟩ (.int .i64 o)).setCell ⟨w.heap.size + 1 + 1 + 1, 2, none⟩ (.int .i64 f)).setCell ⟨w.heap.size + 1 + 1 + 1, 3, none⟩ (.int .i64 b)).setCell ⟨w.heap.size + 1 + 1 + 1, 4, none⟩ (.int .i64 t)).setCell ⟨w.heap.size + 1 + 1 + 1, 5, none⟩ (.string v)) = w9 at *
          go_wp2
          refine bodyPost_ret (resH3 Try.results105 _ _ (w.heap.size + 1 + 1) (w.heap.size + 1 + 1 + 1) 43 111 #[.int .i64 b, .int .i64 t, .string v] #[.int .i64 2, .int .i64 o, .int .i64 f, .int .i64 b, .int .i64 t, .string v] (0, 0) (0, 0) _ _ rfl VB Try.underlying43 rfl (by kernel_rfl) rfl NB Try.underlying111 rfl (by kernel_rfl)) rfl ?_
          first | exact ⟨by rw [HR.out]; rfl, BF⟩ | exact ⟨by rw [HR.out]; rfl, BF.drew⟩
      · by_cases c5 : k = 3 ∧ p ≤ b
        · obtain ⟨rfl, c4⟩ := c5
          have HR := hide1 (hear_take HF.out ⟨rfl, c4⟩)
          have CA := hide1 (fun w' => ansYes3 p t v b z w' c4)
          rw [show sayV ⟨3, f, o, b, q, z⟩ = saV3 b z from sayV3 rfl] at CS
          clear c4 HF c3
          unfold saV3 saV4 at CA
          unfold saV3 at CS
          have L0x := hide1 L0.out
          go_upto_region 3 with fail
          go_cut [7, 8] (fun bv sv wx => ∃ bx : Nat, bv = .pointer (some ⟨bx, 0, none⟩) ∧ sv = .iface 163 (.agg #[.int .i64 b, .string z]) ∧ Hid (w2.heap.size ≤ bx) ∧ Hid (Blk wx bx 43 [.int .i64 b, .int .i64 b, .string z]) ∧ Hid (Below w2.heap.size w2 wx))
          case first =>
            refine regAns rfl L0.out L1.out CS.out CA.out ?_
            intro bx w' h1 h2 h3
            go_wp2_with fail
            go_meet
            exact ⟨bx, rfl, rfl, hide1 h1, hide1 h2, hide1 h3⟩
          case rest =>
            obtain ⟨bx, rfl, rfl, hbx, hcB, HB3⟩ := hcut
            have M1 := hide1 (L1.out.below HB3.out L1.out.lt)
            have M2 := hide1 (L2.out.below HB3.out L2.out.lt)
            have M3 := hide1 (L3.out.below HB3.out L3.out.lt)
            have B3 := hide1 (B2.out.trans (HB3.out.mono B2.out.size))
            have M4 := hide1 hcB.out
            have hbn : w.heap.size + 1 + 1 + 1 < bx := Nat.lt_of_lt_of_le hs2 hbx.out
            clear L0 L1 L2 L3 L0x B2 CA CS CN HB3 hcB hbx
            have x0 : wc.cell? ⟨bx, 0, none⟩ = some (.int .i64 b) := M4.out.cell 0
            have x1 : wc.cell? ⟨bx, 1, none⟩ = some (.int .i64 b) := M4.out.cell 1
            have x2 : wc.cell? ⟨bx, 2, none⟩ = some (.string z) := M4.out.cell 2
            have n0 : wc.cell? ⟨w.heap.size + 1, 0, none⟩ = some (.int .i64 3) := M1.out.cell 0
            have n1 : wc.cell? ⟨w.heap.size + 1, 1, none⟩ = some (.int .i64 f) := M1.out.cell 1
            have n2 : wc.cell? ⟨w.heap.size + 1, 2, none⟩ = some (.int .i64 o) := M1.out.cell 2
            have n3 : wc.cell? ⟨w.heap.size + 1, 3, none⟩ = some (.int .i64 b) := M1.out.cell 3
            have n4 : wc.cell? ⟨w.heap.size + 1, 4, none⟩ = some (.int .i64 q) := M1.out.cell 4
            have n5 : wc.cell? ⟨w.heap.size + 1, 5, none⟩ = some (.string z) := M1.out.cell 5
            have r0 : wc.cell? ⟨w.heap.size + 1 + 1, 0, none⟩ = some (.int .i64 0) := M2.out.cell 0
            have r1 : wc.cell? ⟨w.heap.size + 1 + 1, 1, none⟩ = some (.int .i64 0) := M2.out.cell 1
            have r2 : wc.cell? ⟨w.heap.size + 1 + 1, 2, none⟩ = some (.string ⟨#[]⟩) := M2.out.cell 2
            have s0 : wc.cell? ⟨w.heap.size + 1 + 1 + 1, 0, none⟩ = some (.int .i64 0) := M3.out.cell 0
            have s1 : wc.cell? ⟨w.heap.size + 1 + 1 + 1, 1, none⟩ = some (.int .i64 0) := M3.out.cell 1
            have s2 : wc.cell? ⟨w.heap.size + 1 + 1 + 1, 2, none⟩ = some (.int .i64 0) := M3.out.cell 2
            have s3 : wc.cell? ⟨w.heap.size + 1 + 1 + 1, 3, none⟩ = some (.int .i64 0) := M3.out.cell 3
            have s4 : wc.cell? ⟨w.heap.size + 1 + 1 + 1, 4, none⟩ = some (.int .i64 0) := M3.out.cell 4
            have s5 : wc.cell? ⟨w.heap.size + 1 + 1 + 1, 5, none⟩ = some (.string ⟨#[]⟩) := M3.out.cell 5
            have rf : ∀ j, wc.frozen? ⟨w.heap.size + 1 + 1, j, none⟩ = false := fun j => M2.out.froz j
            have sf : ∀ j, wc.frozen? ⟨w.heap.size + 1 + 1 + 1, j, none⟩ = false := fun j => M3.out.froz j
            have qn : ∀ w, (binOp .eql 145 (.iface 163 (.agg #[.int .i64 b, .string z])) .nilIface).run Try.prog w = .ok (.bool false) w := fun _ => by kernel_rfl
            have CW : Hid (∀ w', Calls Try.prog 114 #[.agg #[.int .i64 b, .int .i64 b, .string z]] w' fun e w'' => e = .returned (.agg #[.int .i64 b, .int .i64 b, .string z]) ∧ Below w'.heap.size w' w'') := fun w' => newVoice_any ⟨b, b, z⟩ w'
            go_upto_region 6 with fail
            have krx : ∀ (u : World) (i j : Nat) (y : Value), (u.setCell ⟨w.heap.size + 1 + 1, i, none⟩ y).cell? ⟨bx, j, none⟩ = u.cell? ⟨bx, j, none⟩ := fun u i j y => World.cell?_setCell_far _ _ _ _ (by dsimp only; omega)
            have krn : ∀ (u : World) (i j : Nat) (y : Value), (u.setCell ⟨w.heap.size + 1 + 1, i, none⟩ y).cell? ⟨w.heap.size + 1, j, none⟩ = u.cell? ⟨w.heap.size + 1, j, none⟩ := fun u i j y => World.cell?_setCell_far _ _ _ _ (by dsimp only; omega)
            have ksx : ∀ (u : World) (i j : Nat) (y : Value), (u.setCell ⟨w.heap.size + 1 + 1 + 1, i, none⟩ y).cell? ⟨bx, j, none⟩ = u.cell? ⟨bx, j, none⟩ := fun u i j y => World.cell?_setCell_far _ _ _ _ (by dsimp only; omega)
            have ksn : ∀ (u : World) (i j : Nat) (y : Value), (u.setCell ⟨w.heap.size + 1 + 1 + 1, i, none⟩ y).cell? ⟨w.heap.size + 1, j, none⟩ = u.cell? ⟨w.heap.size + 1, j, none⟩ := fun u i j y => World.cell?_setCell_far _ _ _ _ (by dsimp only; omega)
            go_region_held3 (fun w' => w'.cell? ⟨bx, 0, none⟩ = some (.int .i64 b) ∧ w'.cell? ⟨bx, 1, none⟩ = some (.int .i64 b) ∧ w'.cell? ⟨bx, 2, none⟩ = some (.string z) ∧ w'.cell? ⟨w.heap.size + 1, 1, none⟩ = some (.int .i64 f) ∧ w'.cell? ⟨w.heap.size + 1, 2, none⟩ = some (.int .i64 o)) (first | go_keep | simp only [World.cell?_drew, krx, krn, ksx, ksn, x0, x1, x2, n1, n2, and_self]) ((first | (go_at_call 114; refine (CW.out _).mono ?_; rintro e wa ⟨rfl, hb1⟩; have Ba : Hid (Below wc.heap.size wc wa) := (show Below wc.heap.size wc _ by go_grown).trans (hb1.mono (by go_size)); clear x0 x1 x2 n0 n1 n2 n3 n4 n5 r0 r1 r2 s0 s1 s2 s3 s4 s5 rf sf; clear hb1; have x0 : wa.cell? ⟨bx, 0, none⟩ = some (.int .i64 b) := (M4.out.below Ba.out M4.out.lt).cell 0; have x1 : wa.cell? ⟨bx, 1, none⟩ = some (.int .i64 b) := (M4.out.below Ba.out M4.out.lt).cell 1; have x2 : wa.cell? ⟨bx, 2, none⟩ = some (.string z) := (M4.out.below Ba.out M4.out.lt).cell 2; have n0 : wa.cell? ⟨w.heap.size + 1, 0, none⟩ = some (.int .i64 3) := (M1.out.below Ba.out M1.out.lt).cell 0; have n1 : wa.cell? ⟨w.heap.size + 1, 1, none⟩ = some (.int .i64 f) := (M1.out.below Ba.out M1.out.lt).cell 1; have n2 : wa.cell? ⟨w.heap.size + 1, 2, none⟩ = some (.int .i64 o) := (M1.out.below Ba.out M1.out.lt).cell 2; have n3 : wa.cell? ⟨w.heap.size + 1, 3, none⟩ = some (.int .i64 b) := (M1.out.below Ba.out M1.out.lt).cell 3; have n4 : wa.cell? ⟨w.heap.size + 1, 4, none⟩ = some (.int .i64 q) := (M1.out.below Ba.out M1.out.lt).cell 4; have n5 : wa.cell? ⟨w.heap.size + 1, 5, none⟩ = some (.string z) := (M1.out.below Ba.out M1.out.lt).cell 5; have r0 : wa.cell? ⟨w.heap.size + 1 + 1, 0, none⟩ = some (.int .i64 0) := (M2.out.below Ba.out M2.out.lt).cell 0; have r1 : wa.cell? ⟨w.heap.size + 1 + 1, 1, none⟩ = some (.int .i64 0) := (M2.out.below Ba.out M2.out.lt).cell 1; have r2 : wa.cell? ⟨w.heap.size + 1 + 1, 2, none⟩ = some (.string ⟨#[]⟩) := (M2.out.below Ba.out M2.out.lt).cell 2; have s0 : wa.cell? ⟨w.heap.size + 1 + 1 + 1, 0, none⟩ = some (.int .i64 0) := (M3.out.below Ba.out M3.out.lt).cell 0; have s1 : wa.cell? ⟨w.heap.size + 1 + 1 + 1, 1, none⟩ = some (.int .i64 0) := (M3.out.below Ba.out M3.out.lt).cell 1; have s2 : wa.cell? ⟨w.heap.size + 1 + 1 + 1, 2, none⟩ = some (.int .i64 0) := (M3.out.below Ba.out M3.out.lt).cell 2; have s3 : wa.cell? ⟨w.heap.size + 1 + 1 + 1, 3, none⟩ = some (.int .i64 0) := (M3.out.below Ba.out M3.out.lt).cell 3; have s4 : wa.cell? ⟨w.heap.size + 1 + 1 + 1, 4, none⟩ = some (.int .i64 0) := (M3.out.below Ba.out M3.out.lt).cell 4; have s5 : wa.cell? ⟨w.heap.size + 1 + 1 + 1, 5, none⟩ = some (.string ⟨#[]⟩) := (M3.out.below Ba.out M3.out.lt).cell 5; have rf : ∀ j, wa.frozen? ⟨w.heap.size + 1 + 1, j, none⟩ = false := fun j => (M2.out.below Ba.out M2.out.lt).froz j; have sf : ∀ j, wa.frozen? ⟨w.heap.size + 1 + 1 + 1, j, none⟩ = false := fun j => (M3.out.below Ba.out M3.out.lt).froz j) | (go_at_call 140; refine (note4_any _ _ _ _ _).mono ?_; rintro e wb ⟨rfl, hb2⟩; have Bb : Hid (Below wc.heap.size wc wb) := Ba.out.trans (((show Below wa.heap.size wa _ by go_grown).trans (hb2.mono (by go_size))).mono Ba.out.size); clear x0 x1 x2 n0 n1 n2 n3 n4 n5 r0 r1 r2 s0 s1 s2 s3 s4 s5 rf sf; clear hb2; have x0 : wb.cell? ⟨bx, 0, none⟩ = some (.int .i64 b) := (M4.out.below Bb.out M4.out.lt).cell 0; have x1 : wb.cell? ⟨bx, 1, none⟩ = some (.int .i64 b) := (M4.out.below Bb.out M4.out.lt).cell 1; have x2 : wb.cell? ⟨bx, 2, none⟩ = some (.string z) := (M4.out.below Bb.out M4.out.lt).cell 2; have n0 : wb.cell? ⟨w.heap.size + 1, 0, none⟩ = some (.int .i64 3) := (M1.out.below Bb.out M1.out.lt).cell 0; have n1 : wb.cell? ⟨w.heap.size + 1, 1, none⟩ = some (.int .i64 f) := (M1.out.below Bb.out M1.out.lt).cell 1; have n2 : wb.cell? ⟨w.heap.size + 1, 2, none⟩ = some (.int .i64 o) := (M1.out.below Bb.out M1.out.lt).cell 2; have n3 : wb.cell? ⟨w.heap.size + 1, 3, none⟩ = some (.int .i64 b) := (M1.out.below Bb.out M1.out.lt).cell 3; have n4 : wb.cell? ⟨w.heap.size + 1, 4, none⟩ = some (.int .i64 q) := (M1.out.below Bb.out M1.out.lt).cell 4; have n5 : wb.cell? ⟨w.heap.size + 1, 5, none⟩ = some (.string z) := (M1.out.below Bb.out M1.out.lt).cell 5; have r0 : wb.cell? ⟨w.heap.size + 1 + 1, 0, none⟩ = some (.int .i64 0) := (M2.out.below Bb.out M2.out.lt).cell 0; have r1 : wb.cell? ⟨w.heap.size + 1 + 1, 1, none⟩ = some (.int .i64 0) := (M2.out.below Bb.out M2.out.lt).cell 1; have r2 : wb.cell? ⟨w.heap.size + 1 + 1, 2, none⟩ = some (.string ⟨#[]⟩) := (M2.out.below Bb.out M2.out.lt).cell 2; have s0 : wb.cell? ⟨w.heap.size + 1 + 1 + 1, 0, none⟩ = some (.int .i64 0) := (M3.out.below Bb.out M3.out.lt).cell 0; have s1 : wb.cell? ⟨w.heap.size + 1 + 1 + 1, 1, none⟩ = some (.int .i64 0) := (M3.out.below Bb.out M3.out.lt).cell 1; have s2 : wb.cell? ⟨w.heap.size + 1 + 1 + 1, 2, none⟩ = some (.int .i64 0) := (M3.out.below Bb.out M3.out.lt).cell 2; have s3 : wb.cell? ⟨w.heap.size + 1 + 1 + 1, 3, none⟩ = some (.int .i64 0) := (M3.out.below Bb.out M3.out.lt).cell 3; have s4 : wb.cell? ⟨w.heap.size + 1 + 1 + 1, 4, none⟩ = some (.int .i64 0) := (M3.out.below Bb.out M3.out.lt).cell 4; have s5 : wb.cell? ⟨w.heap.size + 1 + 1 + 1, 5, none⟩ = some (.string ⟨#[]⟩) := (M3.out.below Bb.out M3.out.lt).cell 5; have rf : ∀ j, wb.frozen? ⟨w.heap.size + 1 + 1, j, none⟩ = false := fun j => (M2.out.below Bb.out M2.out.lt).froz j; have sf : ∀ j, wb.frozen? ⟨w.heap.size + 1 + 1 + 1, j, none⟩ = false := fun j => (M3.out.below Bb.out M3.out.lt).froz j)))
            clear x0 x1 x2 n0 n1 n2 n3 n4 n5 r0 r1 r2 s0 s1 s2 s3 s4 s5 rf sf krx krn ksx ksn CW qn
            have I2 := hide1 (M2.out.below Bb.out M2.out.lt)
            have I3 := hide1 (M3.out.below Bb.out M3.out.lt)
            have BN := hide1 (B3.out.trans (Bb.out.mono B3.out.size))
            have VB : Blk (((((((((wb.setCell ⟨w.heap.size + 1 + 1, 0, none⟩ (.int .i64 b)).setCell ⟨w.heap.size + 1 + 1, 1, none⟩ (.int .i64 b)).setCell ⟨w.heap.size + 1 + 1, 2, none⟩ (.string z)).setCell ⟨w.heap.size + 1 + 1 + 1, 0, none⟩ (.int .i64 4)).setCell ⟨w.heap.size + 1 + 1 + 1, 1, none⟩ (.int .i64 o)).setCell ⟨w.heap.size + 1 + 1 + 1, 2, none⟩ (.int .i64 f)).setCell ⟨w.heap.size + 1 + 1 + 1, 3, none⟩ (.int .i64 b)).setCell ⟨w.heap.size + 1 + 1 + 1, 4, none⟩ (.int .i64 0)).setCell ⟨w.heap.size + 1 + 1 + 1, 5, none⟩ (.string z)) (w.heap.size + 1 + 1) 43 [.int .i64 b, .int .i64 b, .string z] := (Blk.far (Blk.far (Blk.far (Blk.far (Blk.far (Blk.far (Blk.set (Blk.set (Blk.set I2.out 0 (.int .i64 b)) 1 (.int .i64 b)) 2 (.string z)) ⟨w.heap.size + 1 + 1 + 1, 0, none⟩ _ (by dsimp only; omega)) ⟨w.heap.size + 1 + 1 + 1, 1, none⟩ _ (by dsimp only; omega)) ⟨w.heap.size + 1 + 1 + 1, 2, none⟩ _ (by dsimp only; omega)) ⟨w.heap.size + 1 + 1 + 1, 3, none⟩ _ (by dsimp only; omega)) ⟨w.heap.size + 1 + 1 + 1, 4, none⟩ _ (by dsimp only; omega)) ⟨w.heap.size + 1 + 1 + 1, 5, none⟩ _ (by dsimp only; omega))
            have NB : Blk (((((((((wb.setCell ⟨w.heap.size + 1 + 1, 0, none⟩ (.int .i64 b)).setCell ⟨w.heap.size + 1 + 1, 1, none⟩ (.int .i64 b)).setCell ⟨w.heap.size + 1 + 1, 2, none⟩ (.string z)).setCell ⟨w.heap.size + 1 + 1 + 1, 0, none⟩ (.int .i64 4)).setCell ⟨w.heap.size + 1 + 1 + 1, 1, none⟩ (.int .i64 o)).setCell ⟨w.heap.size + 1 + 1 + 1, 2, none⟩ (.int .i64 f)).setCell ⟨w.heap.size + 1 + 1 + 1, 3, none⟩ (.int .i64 b)).setCell ⟨w.heap.size + 1 + 1 + 1, 4, none⟩ (.int .i64 0)).setCell ⟨w.heap.size + 1 + 1 + 1, 5, none⟩ (.string z)) (w.heap.size + 1 + 1 + 1) 111 [.int .i64 4, .int .i64 o, .int .i64 f, .int .i64 b, .int .i64 0, .string z] := (Blk.set (Blk.set (Blk.set (Blk.set (Blk.set (Blk.set (Blk.far (Blk.far (Blk.far I3.out ⟨w.heap.size + 1 + 1, 0, none⟩ _ (by dsimp only; omega)) ⟨w.heap.size + 1 + 1, 1, none⟩ _ (by dsimp only; omega)) ⟨w.heap.size + 1 + 1, 2, none⟩ _ (by dsimp only; omega)) 0 (.int .i64 4)) 1 (.int .i64 o)) 2 (.int .i64 f)) 3 (.int .i64 b)) 4 (.int .i64 0)) 5 (.string z))
            have BF : Below w.heap.size w (((((((((wb.setCell ⟨w.heap.size + 1 + 1, 0, none⟩ (.int .i64 b)).setCell ⟨w.heap.size + 1 + 1, 1, none⟩ (.int .i64 b)).setCell ⟨w.heap.size + 1 + 1, 2, none⟩ (.string z)).setCell ⟨w.heap.size + 1 + 1 + 1, 0, none⟩ (.int .i64 4)).setCell ⟨w.heap.size + 1 + 1 + 1, 1, none⟩ (.int .i64 o)).setCell ⟨w.heap.size + 1 + 1 + 1, 2, none⟩ (.int .i64 f)).setCell ⟨w.heap.size + 1 + 1 + 1, 3, none⟩ (.int .i64 b)).setCell ⟨w.heap.size + 1 + 1 + 1, 4, none⟩ (.int .i64 0)).setCell ⟨w.heap.size + 1 + 1 + 1, 5, none⟩ (.string z)) := (((((((((BN.out.setCell (p := ⟨w.heap.size + 1 + 1, 0, none⟩) (by dsimp only; omega) _).setCell (p := ⟨w.heap.size + 1 + 1, 1, none⟩) (by dsimp only; omega) _).setCell (p := ⟨w.heap.size + 1 + 1, 2, none⟩) (by dsimp only; omega) _).setCell (p := ⟨w.heap.size + 1 + 1 + 1, 0, none⟩) (by dsimp only; omega) _).setCell (p := ⟨w.heap.size + 1 + 1 + 1, 1, none⟩) (by dsimp only; omega) _).setCell (p := ⟨w.heap.size + 1 + 1 + 1, 2, none⟩) (by dsimp only; omega) _).setCell (p := ⟨w.heap.size + 1 + 1 + 1, 3, none⟩) (by dsimp only; omega) _).setCell (p := ⟨w.heap.size + 1 + 1 + 1, 4, none⟩) (by dsimp only; omega) _).setCell (p := ⟨w.heap.size + 1 + 1 + 1, 5, none⟩) (by dsimp only; omega) _)
            clear M1 M2 M3 M4 I2 I3 BN Ba Bb
            generalize (((((((((wb.setCell ⟨w.heap.size + 1 + 1, 0, none⟩ (.int .i64 b)).setCell ⟨w.heap.size + 1 + 1, 1, none⟩ (.int .i64 b)).setCell ⟨w.heap.size + 1 + 1, 2, none⟩ (.string z)).setCell ⟨w.heap.size + 1 + 1 + 1, 0, none⟩ (.int .i64 4)).setCell ⟨w.heap.size + 1 + 1 + 1, 1, none⟩ (.int .i64 o)).setCell ⟨w.heap.size + 1 + 1 + 1, 2, none⟩ (.int .i64 f)).setCell ⟨w.heap.size + 1 + 1 + 1, 3, none⟩ (.int .i64 b)).setCell ⟨w.heap.size + 1 + 1 + 1, 4, none⟩ (.int .i64 0)).setCell ⟨w.heap.size + 1 + 1 + 1, 5, none⟩ (.string z)) = w9 at *
            go_wp2
            refine bodyPost_ret (resH3 Try.results105 _ _ (w.heap.size + 1 + 1) (w.heap.size + 1 + 1 + 1) 43 111 #[.int .i64 b, .int .i64 b, .string z] #[.int .i64 4, .int .i64 o, .int .i64 f, .int .i64 b, .int .i64 0, .string z] (0, 0) (0, 0) _ _ rfl VB Try.underlying43 rfl (by kernel_rfl) rfl NB Try.underlying111 rfl (by kernel_rfl)) rfl ?_
            first | exact ⟨by rw [HR.out]; rfl, BF⟩ | exact ⟨by rw [HR.out]; rfl, BF.drew⟩
        · have HR := hide1 (hear_else (x := ⟨p, t, v⟩) (m := ⟨k, f, o, b, q, z⟩) c3 c5)
          have CA := hide1 (fun w' => ansElse ⟨p, t, v⟩ ⟨k, f, o, b, q, z⟩ w' c3 c5)
          generalize sayV ⟨k, f, o, b, q, z⟩ = s1 at *
          unfold voV at CA
          dsimp only at CA
          clear c3 c5 HF
          have L0x := hide1 L0.out
          go_upto_region 3 with fail
          go_cut [7, 8] (fun bv sv wx => ∃ bx : Nat, bv = .pointer (some ⟨bx, 0, none⟩) ∧ sv = .nilIface ∧ Hid (w2.heap.size ≤ bx) ∧ Hid (Blk wx bx 43 [.int .i64 p, .int .i64 t, .string v]) ∧ Hid (Below w2.heap.size w2 wx))
          case first =>
            refine regAns rfl L0.out L1.out CS.out CA.out ?_
            intro bx w' h1 h2 h3
            go_wp2_with fail
            go_meet
            exact ⟨bx, rfl, rfl, hide1 h1, hide1 h2, hide1 h3⟩
          case rest =>
            obtain ⟨bx, rfl, rfl, hbx, hcB, HB3⟩ := hcut
            clear L0 L1 CA CS
            have M0 := hide1 (hcB.out)
            have M2 := hide1 (L2.out.below HB3.out L2.out.lt)
            have M3 := hide1 (L3.out.below HB3.out L3.out.lt)
            have M0 := hide1 (L0x.out.below HB3.out L0x.out.lt)
            have B3 := hide1 (B2.out.trans (HB3.out.mono B2.out.size))
            clear L2 L3 B2 L0x
            have a0 : wc.cell? ⟨w.heap.size, 0, none⟩ = some (.int .i64 p) := M0.out.cell 0
            have a1 : wc.cell? ⟨w.heap.size, 1, none⟩ = some (.int .i64 t) := M0.out.cell 1
            have a2 : wc.cell? ⟨w.heap.size, 2, none⟩ = some (.string v) := M0.out.cell 2
            have qn : ∀ w, (binOp .eql 145 .nilIface .nilIface).run Try.prog w = .ok (.bool true) w := fun _ => by kernel_rfl
            go_wp2_with fail
            refine (CN.out _).mono ?_
            rintro e wn ⟨rfl, hbn⟩
            have I2 := hide1 (M2.out.below hbn M2.out.lt)
            have I3 := hide1 (M3.out.below hbn M3.out.lt)
            have BN := hide1 (B3.out.trans (hbn.mono B3.out.size))
            have hsn : w.heap.size + 1 + 1 + 1 < wn.heap.size := I3.out.lt
            clear hbn
            have r0 : wn.cell? ⟨w.heap.size + 1 + 1, 0, none⟩ = some (.int .i64 0) := I2.out.cell 0
            have r1 : wn.cell? ⟨w.heap.size + 1 + 1, 1, none⟩ = some (.int .i64 0) := I2.out.cell 1
            have r2 : wn.cell? ⟨w.heap.size + 1 + 1, 2, none⟩ = some (.string ⟨#[]⟩) := I2.out.cell 2
            have s0 : wn.cell? ⟨w.heap.size + 1 + 1 + 1, 0, none⟩ = some (.int .i64 0) := I3.out.cell 0
            have s1 : wn.cell? ⟨w.heap.size + 1 + 1 + 1, 1, none⟩ = some (.int .i64 0) := I3.out.cell 1
            have s2 : wn.cell? ⟨w.heap.size + 1 + 1 + 1, 2, none⟩ = some (.int .i64 0) := I3.out.cell 2
            have s3 : wn.cell? ⟨w.heap.size + 1 + 1 + 1, 3, none⟩ = some (.int .i64 0) := I3.out.cell 3
            have s4 : wn.cell? ⟨w.heap.size + 1 + 1 + 1, 4, none⟩ = some (.int .i64 0) := I3.out.cell 4
            have s5 : wn.cell? ⟨w.heap.size + 1 + 1 + 1, 5, none⟩ = some (.string ⟨#[]⟩) := I3.out.cell 5
            have rf : ∀ j, wn.frozen? ⟨w.heap.size + 1 + 1, j, none⟩ = false := fun j => I2.out.froz j
            have sf : ∀ j, wn.frozen? ⟨w.heap.size + 1 + 1 + 1, j, none⟩ = false := fun j => I3.out.froz j
            go_wp2
            refine bodyPost_ret (resH3 Try.results105 _ _ (w.heap.size + 1 + 1) (w.heap.size + 1 + 1 + 1) 43 111 #[.int .i64 p, .int .i64 t, .string v] #[.int .i64 0, .int .i64 0, .int .i64 0, .int .i64 0, .int .i64 0, .string ⟨#[]⟩] (0, 0) (0, 0) _ _ rfl (Blk.far (Blk.far (Blk.far (Blk.far (Blk.far (Blk.far (Blk.set (Blk.set (Blk.set I2.out 0 (.int .i64 p)) 1 (.int .i64 t)) 2 (.string v)) ⟨w.heap.size + 1 + 1 + 1, 0, none⟩ _ (by dsimp only; omega)) ⟨w.heap.size + 1 + 1 + 1, 1, none⟩ _ (by dsimp only; omega)) ⟨w.heap.size + 1 + 1 + 1, 2, none⟩ _ (by dsimp only; omega)) ⟨w.heap.size + 1 + 1 + 1, 3, none⟩ _ (by dsimp only; omega)) ⟨w.heap.size + 1 + 1 + 1, 4, none⟩ _ (by dsimp only; omega)) ⟨w.heap.size + 1 + 1 + 1, 5, none⟩ _ (by dsimp only; omega)) Try.underlying43 rfl (by kernel_rfl) rfl (Blk.set (Blk.set (Blk.set (Blk.set (Blk.set (Blk.set (Blk.far (Blk.far (Blk.far I3.out ⟨w.heap.size + 1 + 1, 0, none⟩ _ (by dsimp only; omega)) ⟨w.heap.size + 1 + 1, 1, none⟩ _ (by dsimp only; omega)) ⟨w.heap.size + 1 + 1, 2, none⟩ _ (by dsimp only; omega)) 0 (.int .i64 0)) 1 (.int .i64 0)) 2 (.int .i64 0)) 3 (.int .i64 0)) 4 (.int .i64 0)) 5 (.string ⟨#[]⟩)) Try.underlying111 rfl (by kernel_rfl)) rfl ?_
            exact ⟨by rw [HR.out]; rfl, (((((((((BN.out.setCell (p := ⟨w.heap.size + 1 + 1, 0, none⟩) (by dsimp only; omega) _).setCell (p := ⟨w.heap.size + 1 + 1, 1, none⟩) (by dsimp only; omega) _).setCell (p := ⟨w.heap.size + 1 + 1, 2, none⟩) (by dsimp only; omega) _).setCell (p := ⟨w.heap.size + 1 + 1 + 1, 0, none⟩) (by dsimp only; omega) _).setCell (p := ⟨w.heap.size + 1 + 1 + 1, 1, none⟩) (by dsimp only; omega) _).setCell (p := ⟨w.heap.size + 1 + 1 + 1, 2, none⟩) (by dsimp only; omega) _).setCell (p := ⟨w.heap.size + 1 + 1 + 1, 3, none⟩) (by dsimp only; omega) _).setCell (p := ⟨w.heap.size + 1 + 1 + 1, 4, none⟩) (by dsimp only; omega) _).setCell (p := ⟨w.heap.size + 1 + 1 + 1, 5, none⟩) (by dsimp only; omega) _)⟩
    · rw [decide_eq_false c1]
      have HR := hide1 (hear_no (x := ⟨p, t, v⟩) (m := ⟨k, f, o, b, q, z⟩) (fun h => c1 h.2))
      clear c0 c1
      go_wp2_with fail
      refine (CN.out _).mono ?_
      rintro e wn ⟨rfl, hbn⟩
      have I2 := hide1 (L2.out.below hbn L2.out.lt)
      have I3 := hide1 (L3.out.below hbn L3.out.lt)
      have BN := hide1 (B2.out.trans (hbn.mono B2.out.size))
      have hsn : w.heap.size + 1 + 1 + 1 < wn.heap.size := I3.out.lt
      clear hbn
      have r0 : wn.cell? ⟨w.heap.size + 1 + 1, 0, none⟩ = some (.int .i64 0) := I2.out.cell 0
      have r1 : wn.cell? ⟨w.heap.size + 1 + 1, 1, none⟩ = some (.int .i64 0) := I2.out.cell 1
      have r2 : wn.cell? ⟨w.heap.size + 1 + 1, 2, none⟩ = some (.string ⟨#[]⟩) := I2.out.cell 2
      have s0 : wn.cell? ⟨w.heap.size + 1 + 1 + 1, 0, none⟩ = some (.int .i64 0) := I3.out.cell 0
      have s1 : wn.cell? ⟨w.heap.size + 1 + 1 + 1, 1, none⟩ = some (.int .i64 0) := I3.out.cell 1
      have s2 : wn.cell? ⟨w.heap.size + 1 + 1 + 1, 2, none⟩ = some (.int .i64 0) := I3.out.cell 2
      have s3 : wn.cell? ⟨w.heap.size + 1 + 1 + 1, 3, none⟩ = some (.int .i64 0) := I3.out.cell 3
      have s4 : wn.cell? ⟨w.heap.size + 1 + 1 + 1, 4, none⟩ = some (.int .i64 0) := I3.out.cell 4
      have s5 : wn.cell? ⟨w.heap.size + 1 + 1 + 1, 5, none⟩ = some (.string ⟨#[]⟩) := I3.out.cell 5
      have rf : ∀ j, wn.frozen? ⟨w.heap.size + 1 + 1, j, none⟩ = false := fun j => I2.out.froz j
      have sf : ∀ j, wn.frozen? ⟨w.heap.size + 1 + 1 + 1, j, none⟩ = false := fun j => I3.out.froz j
      go_wp2
      refine bodyPost_ret (resH3 Try.results105 _ _ (w.heap.size + 1 + 1) (w.heap.size + 1 + 1 + 1) 43 111 #[.int .i64 p, .int .i64 t, .string v] #[.int .i64 0, .int .i64 0, .int .i64 0, .int .i64 0, .int .i64 0, .string ⟨#[]⟩] (0, 0) (0, 0) _ _ rfl (Blk.far (Blk.far (Blk.far (Blk.far (Blk.far (Blk.far (Blk.set (Blk.set (Blk.set I2.out 0 (.int .i64 p)) 1 (.int .i64 t)) 2 (.string v)) ⟨w.heap.size + 1 + 1 + 1, 0, none⟩ _ (by dsimp only; omega)) ⟨w.heap.size + 1 + 1 + 1, 1, none⟩ _ (by dsimp only; omega)) ⟨w.heap.size + 1 + 1 + 1, 2, none⟩ _ (by dsimp only; omega)) ⟨w.heap.size + 1 + 1 + 1, 3, none⟩ _ (by dsimp only; omega)) ⟨w.heap.size + 1 + 1 + 1, 4, none⟩ _ (by dsimp only; omega)) ⟨w.heap.size + 1 + 1 + 1, 5, none⟩ _ (by dsimp only; omega)) Try.underlying43 rfl (by kernel_rfl) rfl (Blk.set (Blk.set (Blk.set (Blk.set (Blk.set (Blk.set (Blk.far (Blk.far (Blk.far I3.out ⟨w.heap.size + 1 + 1, 0, none⟩ _ (by dsimp only; omega)) ⟨w.heap.size + 1 + 1, 1, none⟩ _ (by dsimp only; omega)) ⟨w.heap.size + 1 + 1, 2, none⟩ _ (by dsimp only; omega)) 0 (.int .i64 0)) 1 (.int .i64 0)) 2 (.int .i64 0)) 3 (.int .i64 0)) 4 (.int .i64 0)) 5 (.string ⟨#[]⟩)) Try.underlying111 rfl (by kernel_rfl)) rfl ?_
      exact ⟨by rw [HR.out]; rfl, (((((((((BN.out.setCell (p := ⟨w.heap.size + 1 + 1, 0, none⟩) (by dsimp only; omega) _).setCell (p := ⟨w.heap.size + 1 + 1, 1, none⟩) (by dsimp only; omega) _).setCell (p := ⟨w.heap.size + 1 + 1, 2, none⟩) (by dsimp only; omega) _).setCell (p := ⟨w.heap.size + 1 + 1 + 1, 0, none⟩) (by dsimp only; omega) _).setCell (p := ⟨w.heap.size + 1 + 1 + 1, 1, none⟩) (by dsimp only; omega) _).setCell (p := ⟨w.heap.size + 1 + 1 + 1, 2, none⟩) (by dsimp only; omega) _).setCell (p := ⟨w.heap.size + 1 + 1 + 1, 3, none⟩) (by dsimp only; omega) _).setCell (p := ⟨w.heap.size + 1 + 1 + 1, 4, none⟩) (by dsimp only; omega) _).setCell (p := ⟨w.heap.size + 1 + 1 + 1, 5, none⟩) (by dsimp only; omega) _)⟩
  · rw [decide_eq_false c0]
    have HR := hide1 (hear_no (m := ⟨k, f, o, b, q, z⟩) (fun h => c0 h.1))
    clear c0
    go_wp2_with fail
    refine (CN.out _).mono ?_
    rintro e wn ⟨rfl, hbn⟩
    have I2 := hide1 (J2.out.below hbn J2.out.lt)
    have I3 := hide1 (J3.out.below hbn J3.out.lt)
    have BN := hide1 (B1.out.trans (hbn.mono B1.out.size))
    have hsn : w.heap.size + 1 + 1 + 1 < wn.heap.size := I3.out.lt
    clear hbn
    have r0 : wn.cell? ⟨w.heap.size + 1 + 1, 0, none⟩ = some (.int .i64 0) := I2.out.cell 0
    have r1 : wn.cell? ⟨w.heap.size + 1 + 1, 1, none⟩ = some (.int .i64 0) := I2.out.cell 1
    have r2 : wn.cell? ⟨w.heap.size + 1 + 1, 2, none⟩ = some (.string ⟨#[]⟩) := I2.out.cell 2
    have s0 : wn.cell? ⟨w.heap.size + 1 + 1 + 1, 0, none⟩ = some (.int .i64 0) := I3.out.cell 0
    have s1 : wn.cell? ⟨w.heap.size + 1 + 1 + 1, 1, none⟩ = some (.int .i64 0) := I3.out.cell 1
    have s2 : wn.cell? ⟨w.heap.size + 1 + 1 + 1, 2, none⟩ = some (.int .i64 0) := I3.out.cell 2
    have s3 : wn.cell? ⟨w.heap.size + 1 + 1 + 1, 3, none⟩ = some (.int .i64 0) := I3.out.cell 3
    have s4 : wn.cell? ⟨w.heap.size + 1 + 1 + 1, 4, none⟩ = some (.int .i64 0) := I3.out.cell 4
    have s5 : wn.cell? ⟨w.heap.size + 1 + 1 + 1, 5, none⟩ = some (.string ⟨#[]⟩) := I3.out.cell 5
    have rf : ∀ j, wn.frozen? ⟨w.heap.size + 1 + 1, j, none⟩ = false := fun j => I2.out.froz j
    have sf : ∀ j, wn.frozen? ⟨w.heap.size + 1 + 1 + 1, j, none⟩ = false := fun j => I3.out.froz j
    go_wp2
    refine bodyPost_ret (resH3 Try.results105 _ _ (w.heap.size + 1 + 1) (w.heap.size + 1 + 1 + 1) 43 111 #[.int .i64 p, .int .i64 t, .string v] #[.int .i64 0, .int .i64 0, .int .i64 0, .int .i64 0, .int .i64 0, .string ⟨#[]⟩] (0, 0) (0, 0) _ _ rfl (Blk.far (Blk.far (Blk.far (Blk.far (Blk.far (Blk.far (Blk.set (Blk.set (Blk.set I2.out 0 (.int .i64 p)) 1 (.int .i64 t)) 2 (.string v)) ⟨w.heap.size + 1 + 1 + 1, 0, none⟩ _ (by dsimp only; omega)) ⟨w.heap.size + 1 + 1 + 1, 1, none⟩ _ (by dsimp only; omega)) ⟨w.heap.size + 1 + 1 + 1, 2, none⟩ _ (by dsimp only; omega)) ⟨w.heap.size + 1 + 1 + 1, 3, none⟩ _ (by dsimp only; omega)) ⟨w.heap.size + 1 + 1 + 1, 4, none⟩ _ (by dsimp only; omega)) ⟨w.heap.size + 1 + 1 + 1, 5, none⟩ _ (by dsimp only; omega)) Try.underlying43 rfl (by kernel_rfl) rfl (Blk.set (Blk.set (Blk.set (Blk.set (Blk.set (Blk.set (Blk.far (Blk.far (Blk.far I3.out ⟨w.heap.size + 1 + 1, 0, none⟩ _ (by dsimp only; omega)) ⟨w.heap.size + 1 + 1, 1, none⟩ _ (by dsimp only; omega)) ⟨w.heap.size + 1 + 1, 2, none⟩ _ (by dsimp only; omega)) 0 (.int .i64 0)) 1 (.int .i64 0)) 2 (.int .i64 0)) 3 (.int .i64 0)) 4 (.int .i64 0)) 5 (.string ⟨#[]⟩)) Try.underlying111 rfl (by kernel_rfl)) rfl ?_
    exact ⟨by rw [HR.out]; rfl, (((((((((BN.out.setCell (p := ⟨w.heap.size + 1 + 1, 0, none⟩) (by dsimp only; omega) _).setCell (p := ⟨w.heap.size + 1 + 1, 1, none⟩) (by dsimp only; omega) _).setCell (p := ⟨w.heap.size + 1 + 1, 2, none⟩) (by dsimp only; omega) _).setCell (p := ⟨w.heap.size + 1 + 1 + 1, 0, none⟩) (by dsimp only; omega) _).setCell (p := ⟨w.heap.size + 1 + 1 + 1, 1, none⟩) (by dsimp only; omega) _).setCell (p := ⟨w.heap.size + 1 + 1 + 1, 2, none⟩) (by dsimp only; omega) _).setCell (p := ⟨w.heap.size + 1 + 1 + 1, 3, none⟩) (by dsimp only; omega) _).setCell (p := ⟨w.heap.size + 1 + 1 + 1, 4, none⟩) (by dsimp only; omega) _).setCell (p := ⟨w.heap.size + 1 + 1 + 1, 5, none⟩) (by dsimp only; omega) _)⟩

end Go.Proofs.Ytgehdgmllilmgaa
