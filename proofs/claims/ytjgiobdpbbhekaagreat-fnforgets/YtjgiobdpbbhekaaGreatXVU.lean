/- A key of Trial is wanted where Safe holds none, by the model. -/
import Derived.Test.YtjgiobdpbbhekaaGreatXVT
namespace Go.Proofs.YtjgiobdpbbhekaaGreat
open Go.RowKit

set_option maxRecDepth 100000 in
set_option maxHeartbeats 8000000 in
theorem specTchZ_any {w : World} {r B : Nat} {A : NA} {N : Nr} (h : VaN w r B A N) (hN : InN N) (hl : SmN N) (k : ByteArray) (hnw : ¬ k ∈ N.w) (hns : ¬ k ∈ N.s) (hin : k ∈ N.t) (hz : N.sm = 0) :
    Calls Tryz.prog 64 #[.pointer (some ⟨r, 0, none⟩), .string k] w fun e w' => e = .returned (.tuple #[]) ∧ ∃ A', VaN w' r B A' (tchN N k) ∧ w.grownBy w' (some r) := by
  have H := hide1 h
  have HI := hide1 hN
  have s4 := hl.fw
  have s5 := hl.ft
  have s6 := hl.fs
  clear h hN hl
  have x5 : w.cell? ⟨r, 5, none⟩ = some (.int .i64 N.wm) := H.out.cell 5
  have x6 : w.cell? ⟨r, 6, none⟩ = some (.slice A.w N.w.length A.wc) := H.out.cell 6
  have hqw : hasQ N.w k = false := by
    rcases e : hasQ N.w k with _ | _
    · rfl
    · exact absurd ((hasQ_iff _ _).1 e) hnw
  have hqs : hasQ N.s k = false := by
    rcases e : hasQ N.s k with _ | _
    · rfl
    · exact absurd ((hasQ_iff _ _).1 e) hns
  have HT := hide1 (show tchN N k = { N with t := k :: wthQ N.t k } by unfold tchN; rw [if_neg (by rw [hqw]; simp), if_neg (by rw [hqs]; simp), if_pos hz])
  have HZ := hide1 hz
  have HIN := hide1 hin
  clear hqw hqs hz hin
  have C1 := hide1 (specTouch_own A.w N.w A.wc N.wm k w s4 H.out.own.rd.fw (touR_no (fun e => hnw e.2)))
  go_enter Tryz.func64, Tryz.ntmps64
  go_wp2_with fail
  refine C1.out.mono ?_
  rintro e w1 ⟨po, cp, rfl, ho, hb1⟩
  have F : Hid (VaN (w1.alloc (.cells #[.int .i64 0, .slice po 0 cp] 32)) r B A N ∧ Blk (w1.alloc (.cells #[.int .i64 0, .slice po 0 cp] 32)) w1.heap.size 32 [.int .i64 0, .slice po 0 cp] ∧ w.grownBy (w1.alloc (.cells #[.int .i64 0, .slice po 0 cp] 32)) (some r) ∧ w.heap.size ≤ w1.heap.size) :=
    ⟨(H.out.later hb1).later ((Below.refl _ _).alloc (Nat.le_refl _) _), Blk.new w1 _ _, gnew (hb1.alloc hb1.size _), hb1.size⟩
  clear ho hb1 C1 x5 x6
  rw [List.length_nil]
  go_upto_region 1 with fail
  generalize (w1.alloc (.cells #[.int .i64 0, .slice po 0 cp] 32)) = W at F ⊢
  generalize w1.heap.size = Q at F ⊢
  have VW := hide1 F.out.1
  have KQ := hide1 F.out.2.1
  have GW := hide1 F.out.2.2.1
  have hQ := F.out.2.2.2
  clear F
  have hQW : Q < W.heap.size := KQ.out.lt
  have x9 : W.cell? ⟨r, 9, none⟩ = some (.int .i64 N.sm) := VW.out.cell 9
  have x10 : W.cell? ⟨r, 10, none⟩ = some (.slice A.s N.s.length A.sc) := VW.out.cell 10
  have hrw : r < w.heap.size := H.out.var.lt
  have hQ2 : Hid (∀ v ∈ vlN A N, ∀ g, v.ownBlock = some g → g < w.heap.size) := H.out.own.below_of (Nat.le_refl _)
  have C2 := hide1 (specTouch_own A.s N.s A.sc N.sm k W s6 VW.out.own.rd.fs (touR_no (fun e => hns e.2)))
  go_wp2_with fail
  refine C2.out.mono ?_
  rintro e w2 ⟨p2, c2, rfl, ho, hb2⟩
  rw [List.length_nil]
  have V2 := hide1 (VW.out.later hb2)
  have K2 := hide1 (KQ.out.below hb2 KQ.out.lt)
  have G2 := hide1 (gtrans GW.out (gnew hb2))
  have O2 := hide1 ho
  have hs2 : W.heap.size ≤ w2.heap.size := hb2.size
  clear hb2 ho C2 x9 x10
  have q0 : w2.cell? ⟨Q, 0, none⟩ = some (.int .i64 0) := K2.out.cell 0
  have q1 : w2.cell? ⟨Q, 1, none⟩ = some (.slice po 0 cp) := K2.out.cell 1
  have qf : ∀ j, w2.frozen? ⟨Q, j, none⟩ = false := fun j => K2.out.froz j
  have hfar : Hid (Q ≠ r ∧ ∀ v ∈ vlN A N, ∀ g, v.ownBlock = some g → g ≠ Q) := ⟨by omega, fun v hv g hg => by have := hQ2.out v hv g hg; omega⟩
  have V3 := hide1 ((V2.out.far (.inr hfar.out) 0 (.int .i64 0)).far (.inr hfar.out) 1 (.slice p2 0 c2))
  have K3 := hide1 (Blk.set (Blk.set K2.out 0 (.int .i64 0)) 1 (.slice p2 0 c2))
  have G3 : Hid (w.grownBy ((w2.setCell ⟨Q, 0, none⟩ (.int .i64 0)).setCell ⟨Q, 1, none⟩ (.slice p2 0 c2)) (some r)) := ⟨G2.out.os, G2.out.tape, G2.out.output, by simpa using G2.out.size, fun j hj hne => by rw [Below.heap_setCell _ _ _ _ (by dsimp only; omega), Below.heap_setCell _ _ _ _ (by dsimp only; omega)]; exact G2.out.block j hj hne⟩
  have hz3 := hide1 (show w2.heap.size ≤ ((w2.setCell ⟨Q, 0, none⟩ (.int .i64 0)).setCell ⟨Q, 1, none⟩ (.slice p2 0 c2)).heap.size by simp)
  clear V2 K2 G2 O2
  go_upto_region 4 with fail
  generalize ((w2.setCell ⟨Q, 0, none⟩ (.int .i64 0)).setCell ⟨Q, 1, none⟩ (.slice p2 0 c2)) = W3 at V3 K3 G3 hz3 ⊢
  have y9 : W3.cell? ⟨r, 9, none⟩ = some (.int .i64 N.sm) := V3.out.cell 9
  have hv3 : Hid (∀ v ∈ vlN A N, ∀ g, v.ownBlock = some g → g < w2.heap.size) := fun v hv g hg => by have := hQ2.out v hv g hg; omega
  have hB3 := hide1 (show B ≤ w2.heap.size ∧ r < w2.heap.size by have := VW.out.le; exact ⟨by omega, by omega⟩)
  clear q0 q1 qf K3
  obtain ⟨L, hL⟩ : ∃ L, k :: wthQ N.t k = L := ⟨_, rfl⟩
  have RT := touR_yes HI.out.qt HIN.out
  rw [hL] at RT HT
  have C3 := hide1 (specTouch_own A.t N.t A.tc N.tm k W3 s5 V3.out.own.rd.ft RT)
  clear RT hL
  rw [HZ.out] at y9
  have y7 : W3.cell? ⟨r, 7, none⟩ = some (.int .i64 N.tm) := V3.out.cell 7
  have y8 : W3.cell? ⟨r, 8, none⟩ = some (.slice A.t N.t.length A.tc) := V3.out.cell 8
  go_upto_region 7 with fail
  go_wp2_with fail
  refine C3.out.mono ?_
  rintro e w4 ⟨p4, c4, rfl, ho, hb4⟩
  have V4 := hide1 (V3.out.later hb4)
  have G4 := hide1 (gtrans G3.out (gnew hb4))
  have u7 : w4.cell? ⟨r, 7, none⟩ = some (.int .i64 N.tm) := V4.out.cell 7
  have u8 : w4.cell? ⟨r, 8, none⟩ = some (.slice A.t N.t.length A.tc) := V4.out.cell 8
  have uf : ∀ j, w4.frozen? ⟨r, j, none⟩ = false := fun j => V4.out.var.froz j
  have VV := hide1 (V4.out.putT (m := N.tm) ho (fun v hv g hg => Nat.lt_of_lt_of_le (hv3.out v hv g hg) hz3.out) ⟨Nat.le_trans hB3.out.1 hz3.out, Nat.lt_of_lt_of_le hB3.out.2 hz3.out⟩)
  clear y7 y8 y9 ho hb4 C3 V3 V4
  go_wp2
  refine bodyPost_ret (results_none Tryz.results64 _ _ _) rfl ?_
  exact ⟨rfl, _, by rw [HT.out]; exact VV.out, gset (gset G4.out 7 _) 8 _⟩
end Go.Proofs.YtjgiobdpbbhekaaGreat
namespace Go.Proofs.YtjgiobdpbbhekaaGreat
open Go.RowKit

theorem InN.pushT {N : Nr} (h : InN N) {k : ByteArray} (ht : k ∈ N.t) (hkn : ¬ k ∈ N.s) (hm0 : ¬ N.sm = 0) :
    PshQ N.s N.sm k ∧ ∀ x, (k :: N.s).getD N.sm.toNat ⟨#[]⟩ = x → ¬ x = ⟨#[]⟩ → pshR (wthQ N.t k) N.tm x = ((x :: wthQ N.t k, N.tm), (x :: wthQ N.t k).getD N.tm.toNat ⟨#[]⟩, true) := by
  have hP : PshQ N.s N.sm k := ⟨h.qs, h.qt.2.2.2.1 k ht, hkn, hm0⟩
  refine ⟨hP, fun x hx hne => ?_⟩
  have hnd := h.nd
  unfold keysN at hnd
  rw [List.nodup_append, List.nodup_append] at hnd
  obtain ⟨_, _, dws⟩ := hnd
  have hlt := wthQ_lt ht
  have htl := h.qt.2.2.1
  have hsl := h.qs.2.2.1
  have h0 : 0 < N.t.length := List.length_pos_of_mem ht
  have hq0 := h.qs.1
  have hxm : x ∈ N.s := by
    rcases push_two (l := N.s) (m := N.sm.toNat) (k := k) (by omega) (by omega) with ⟨_, _, e2⟩ | ⟨_, s0, y, es, _, e2⟩
    · exact absurd (hx.symm.trans e2) hne
    · rw [← hx, e2, es]; simp
  have hxt : ¬ x ∈ N.t := fun e => dws x (List.mem_append_right _ e) x hxm rfl
  rw [pshR_yes ⟨h.qt.drop, h.qs.2.2.2.1 x hxm, fun e => hxt ((wthQ_mem _ _ _).1 e).1, by omega⟩]
  rw [List.take_of_length_le (by simp only [List.length_cons]; omega)]
set_option maxRecDepth 100000 in
set_option maxHeartbeats 8000000 in
theorem specTchT_any {w : World} {r B : Nat} {A : NA} {N : Nr} (h : VaN w r B A N) (hN : InN N) (hl : SmN N) (k : ByteArray) (hnw : ¬ k ∈ N.w) (hns : ¬ k ∈ N.s) (hin : k ∈ N.t) (hz : ¬ N.sm = 0) :
    Calls Tryz.prog 64 #[.pointer (some ⟨r, 0, none⟩), .string k] w fun e w' => e = .returned (.tuple #[]) ∧ ∃ A', VaN w' r B A' (tchN N k) ∧ w.grownBy w' (some r) := by
  have H := hide1 h
  have HI := hide1 hN
  have s4 := hl.fw
  have s5 := hl.ft
  have s6 := hl.fs
  clear h hN hl
  have x5 : w.cell? ⟨r, 5, none⟩ = some (.int .i64 N.wm) := H.out.cell 5
  have x6 : w.cell? ⟨r, 6, none⟩ = some (.slice A.w N.w.length A.wc) := H.out.cell 6
  have hqw : hasQ N.w k = false := by
    rcases e : hasQ N.w k with _ | _
    · rfl
    · exact absurd ((hasQ_iff _ _).1 e) hnw
  have hqs : hasQ N.s k = false := by
    rcases e : hasQ N.s k with _ | _
    · rfl
    · exact absurd ((hasQ_iff _ _).1 e) hns
  obtain ⟨hP, hX⟩ := HI.out.pushT hin hns hz
  have RP := pshR_yes hP
  obtain ⟨x, hx⟩ : ∃ x, (k :: N.s).getD N.sm.toNat ⟨#[]⟩ = x := ⟨_, rfl⟩
  obtain ⟨M, hM⟩ : ∃ M, (k :: N.s).take N.sm.toNat = M := ⟨_, rfl⟩
  obtain ⟨L, hL⟩ : ∃ L, wthQ N.t k = L := ⟨_, rfl⟩
  have RD := drpR_yes HI.out.qt hin
  have HT := hide1 (show tchN N k = { N with s := M, t := if x = ⟨#[]⟩ then L else x :: L } by unfold tchN; rw [if_neg (by rw [hqw]; simp), if_neg (by rw [hqs]; simp), if_neg hz, hx, hM, hL])
  have HX := hide1 (hX x hx)
  have hLl : L.length ≤ 1048576 := by have := wthQ_length N.t k; rw [hL] at this; omega
  rw [hx, hM] at RP
  rw [hL] at RD HX
  have HP := hide1 RP
  have HD := hide1 RD
  have hzz : (N.sm == 0) = false := by simpa using hz
  have HZZ := hide1 hzz
  clear hqw hqs hz hin hP hX RP RD hx hM hL hzz
  have C1 := hide1 (specTouch_own A.w N.w A.wc N.wm k w s4 H.out.own.rd.fw (touR_no (fun e => hnw e.2)))
  go_enter Tryz.func64, Tryz.ntmps64
  go_wp2_with fail
  refine C1.out.mono ?_
  rintro e w1 ⟨po, cp, rfl, ho, hb1⟩
  have F : Hid (VaN (w1.alloc (.cells #[.int .i64 0, .slice po 0 cp] 32)) r B A N ∧ Blk (w1.alloc (.cells #[.int .i64 0, .slice po 0 cp] 32)) w1.heap.size 32 [.int .i64 0, .slice po 0 cp] ∧ w.grownBy (w1.alloc (.cells #[.int .i64 0, .slice po 0 cp] 32)) (some r) ∧ w.heap.size ≤ w1.heap.size) :=
    ⟨(H.out.later hb1).later ((Below.refl _ _).alloc (Nat.le_refl _) _), Blk.new w1 _ _, gnew (hb1.alloc hb1.size _), hb1.size⟩
  clear ho hb1 C1 x5 x6
  rw [List.length_nil]
  go_upto_region 1 with fail
  generalize (w1.alloc (.cells #[.int .i64 0, .slice po 0 cp] 32)) = W at F ⊢
  generalize w1.heap.size = Q at F ⊢
  have VW := hide1 F.out.1
  have KQ := hide1 F.out.2.1
  have GW := hide1 F.out.2.2.1
  have hQ := F.out.2.2.2
  clear F
  have hQW : Q < W.heap.size := KQ.out.lt
  have x9 : W.cell? ⟨r, 9, none⟩ = some (.int .i64 N.sm) := VW.out.cell 9
  have x10 : W.cell? ⟨r, 10, none⟩ = some (.slice A.s N.s.length A.sc) := VW.out.cell 10
  have hrw : r < w.heap.size := H.out.var.lt
  have hQ2 : Hid (∀ v ∈ vlN A N, ∀ g, v.ownBlock = some g → g < w.heap.size) := H.out.own.below_of (Nat.le_refl _)
  have C2 := hide1 (specTouch_own A.s N.s A.sc N.sm k W s6 VW.out.own.rd.fs (touR_no (fun e => hns e.2)))
  go_wp2_with fail
  refine C2.out.mono ?_
  rintro e w2 ⟨p2, c2, rfl, ho, hb2⟩
  rw [List.length_nil]
  have V2 := hide1 (VW.out.later hb2)
  have K2 := hide1 (KQ.out.below hb2 KQ.out.lt)
  have G2 := hide1 (gtrans GW.out (gnew hb2))
  have O2 := hide1 ho
  have hs2 : W.heap.size ≤ w2.heap.size := hb2.size
  clear hb2 ho C2 x9 x10
  have q0 : w2.cell? ⟨Q, 0, none⟩ = some (.int .i64 0) := K2.out.cell 0
  have q1 : w2.cell? ⟨Q, 1, none⟩ = some (.slice po 0 cp) := K2.out.cell 1
  have qf : ∀ j, w2.frozen? ⟨Q, j, none⟩ = false := fun j => K2.out.froz j
  have hfar : Hid (Q ≠ r ∧ ∀ v ∈ vlN A N, ∀ g, v.ownBlock = some g → g ≠ Q) := ⟨by omega, fun v hv g hg => by have := hQ2.out v hv g hg; omega⟩
  have V3 := hide1 ((V2.out.far (.inr hfar.out) 0 (.int .i64 0)).far (.inr hfar.out) 1 (.slice p2 0 c2))
  have K3 := hide1 (Blk.set (Blk.set K2.out 0 (.int .i64 0)) 1 (.slice p2 0 c2))
  have G3 : Hid (w.grownBy ((w2.setCell ⟨Q, 0, none⟩ (.int .i64 0)).setCell ⟨Q, 1, none⟩ (.slice p2 0 c2)) (some r)) := ⟨G2.out.os, G2.out.tape, G2.out.output, by simpa using G2.out.size, fun j hj hne => by rw [Below.heap_setCell _ _ _ _ (by dsimp only; omega), Below.heap_setCell _ _ _ _ (by dsimp only; omega)]; exact G2.out.block j hj hne⟩
  have hz3 := hide1 (show w2.heap.size ≤ ((w2.setCell ⟨Q, 0, none⟩ (.int .i64 0)).setCell ⟨Q, 1, none⟩ (.slice p2 0 c2)).heap.size by simp)
  clear V2 K2 G2 O2
  go_upto_region 4 with fail
  generalize ((w2.setCell ⟨Q, 0, none⟩ (.int .i64 0)).setCell ⟨Q, 1, none⟩ (.slice p2 0 c2)) = W3 at V3 K3 G3 hz3 ⊢
  have y9 : W3.cell? ⟨r, 9, none⟩ = some (.int .i64 N.sm) := V3.out.cell 9
  have hv3 : Hid (∀ v ∈ vlN A N, ∀ g, v.ownBlock = some g → g < w2.heap.size) := fun v hv g hg => by have := hQ2.out v hv g hg; omega
  have hB3 := hide1 (show B ≤ w2.heap.size ∧ r < w2.heap.size by have := VW.out.le; exact ⟨by omega, by omega⟩)
  clear q0 q1 qf K3
  have C3 := hide1 (specDrop_own A.t N.t A.tc N.tm k W3 s5 V3.out.own.rd.ft HD.out)
  have y7 : W3.cell? ⟨r, 7, none⟩ = some (.int .i64 N.tm) := V3.out.cell 7
  have y8 : W3.cell? ⟨r, 8, none⟩ = some (.slice A.t N.t.length A.tc) := V3.out.cell 8
  have hzz := HZZ.out
  go_upto_region 8 with fail
  clear hzz y9
  go_wp2_with fail
  refine C3.out.mono ?_
  rintro e w4 ⟨p4, c4, rfl, ho, hb4⟩
  have V4 := hide1 (V3.out.later hb4)
  have G4 := hide1 (gtrans G3.out (gnew hb4))
  have u7 : w4.cell? ⟨r, 7, none⟩ = some (.int .i64 N.tm) := V4.out.cell 7
  have u8 : w4.cell? ⟨r, 8, none⟩ = some (.slice A.t N.t.length A.tc) := V4.out.cell 8
  have uf : ∀ j, w4.frozen? ⟨r, j, none⟩ = false := fun j => V4.out.var.froz j
  have V5 := hide1 (V4.out.putT (m := N.tm) ho (fun v hv g hg => Nat.lt_of_lt_of_le (hv3.out v hv g hg) hz3.out) ⟨Nat.le_trans hB3.out.1 hz3.out, Nat.lt_of_lt_of_le hB3.out.2 hz3.out⟩)
  have G5 := hide1 (gset (gset G4.out 7 (.int .i64 N.tm)) 8 (.slice p4 L.length c4))
  clear y7 y8 ho hb4 C3 V3 G3 V4 G4 hz3 hv3 hB3 VW KQ GW
  go_upto_region 9 with fail
  generalize ((w4.setCell ⟨r, 7, none⟩ (.int .i64 N.tm)).setCell ⟨r, 8, none⟩ (.slice p4 L.length c4)) = W5 at V5 G5 ⊢
  clear u7 u8 uf
  have t9 : W5.cell? ⟨r, 9, none⟩ = some (.int .i64 N.sm) := V5.out.cell 9
  have t10 : W5.cell? ⟨r, 10, none⟩ = some (.slice A.s N.s.length A.sc) := V5.out.cell 10
  have C5 := hide1 (specPush_own A.s N.s A.sc N.sm k W5 s6 V5.out.own.rd.fs HP.out)
  go_wp2_with fail
  refine C5.out.mono ?_
  rintro e w6 ⟨p6, c6, rfl, ho, hb6⟩
  have F : Hid (VaN (w6.alloc (.cells #[.int .i64 N.sm, .slice p6 M.length c6] 32)) r B { A with t := p4, tc := c4 } { N with t := L, tm := N.tm } ∧ Blk (w6.alloc (.cells #[.int .i64 N.sm, .slice p6 M.length c6] 32)) w6.heap.size 32 [.int .i64 N.sm, .slice p6 M.length c6] ∧ OwnQ (w6.alloc (.cells #[.int .i64 N.sm, .slice p6 M.length c6] 32)) W5.heap.size p6 c6 M ∧ w.grownBy (w6.alloc (.cells #[.int .i64 N.sm, .slice p6 M.length c6] 32)) (some r)) :=
    ⟨(V5.out.later hb6).later ((Below.refl _ _).alloc (Nat.le_refl _) _), Blk.new w6 _ _, ho.later ((Below.refl _ _).alloc (Nat.le_refl _) _), gtrans G5.out (gnew (hb6.alloc hb6.size _))⟩
  have hv5 : Hid (∀ v ∈ vlN { A with t := p4, tc := c4 } { N with t := L, tm := N.tm }, ∀ g, v.ownBlock = some g → g < W5.heap.size) := V5.out.own.below_of (Nat.le_refl _)
  have hB5 := hide1 V5.out.le
  clear ho hb6 C5 t9 t10 V5 G5
  go_upto_region 10 with fail
  generalize (w6.alloc (.cells #[.int .i64 N.sm, .slice p6 M.length c6] 32)) = W7 at F ⊢
  generalize w6.heap.size = Q7 at F ⊢
  have V7 := hide1 F.out.1
  have K7 := hide1 F.out.2.1
  have O7 := hide1 F.out.2.2.1
  have G7 := hide1 F.out.2.2.2
  clear F
  have z0 : W7.cell? ⟨Q7, 0, none⟩ = some (.int .i64 N.sm) := K7.out.cell 0
  have z1 : W7.cell? ⟨Q7, 1, none⟩ = some (.slice p6 M.length c6) := K7.out.cell 1
  have z9 : W7.cell? ⟨r, 9, none⟩ = some (.int .i64 N.sm) := V7.out.cell 9
  have z10 : W7.cell? ⟨r, 10, none⟩ = some (.slice A.s N.s.length A.sc) := V7.out.cell 10
  have zf : ∀ j, W7.frozen? ⟨r, j, none⟩ = false := fun j => V7.out.var.froz j
  have V8 := hide1 (V7.out.putS (m := N.sm) O7.out hv5.out hB5.out)
  have G8 := hide1 (gset (gset G7.out 9 (.int .i64 N.sm)) 10 (.slice p6 M.length c6))
  clear V7 K7 O7 G7 hv5 hB5
  go_upto_region 11 with fail
  generalize ((W7.setCell ⟨r, 9, none⟩ (.int .i64 N.sm)).setCell ⟨r, 10, none⟩ (.slice p6 M.length c6)) = W8 at V8 G8 ⊢
  clear z0 z1 z9 z10 zf
  by_cases hx : x = ⟨#[]⟩
  · have HT2 := hide1 (HT.out.trans (by rw [if_pos hx]))
    have q : x.toList.isEmpty = true := by rw [hx]; simp
    clear hx HT
    go_wp2
    refine bodyPost_end (results_none Tryz.results64 _ _ _) rfl ?_
    exact ⟨rfl, ⟨_, by rw [HT2.out]; exact V8.out⟩, G8.out⟩
  · have HT2 := hide1 (HT.out.trans (by rw [if_neg hx]))
    have HR := hide1 (HX.out hx)
    have q : x.toList.isEmpty = false := by
      obtain ⟨q, _⟩ := text_ne hx
      rcases e : x.toList with _ | _
      · rw [e] at q; simp at q
      · rfl
    have C8 := hide1 (specPush_own p4 L c4 N.tm x W8 hLl V8.out.own.rd.ft HR.out)
    have e7 : W8.cell? ⟨r, 7, none⟩ = some (.int .i64 N.tm) := V8.out.cell 7
    have e8 : W8.cell? ⟨r, 8, none⟩ = some (.slice p4 L.length c4) := V8.out.cell 8
    clear hx HT HR
    go_upto_region 12 with fail
    clear q
    go_wp2_with fail
    refine C8.out.mono ?_
    rintro e w9 ⟨p9, c9, rfl, ho, hb9⟩
    have V9 := hide1 (V8.out.later hb9)
    have G9 := hide1 (gtrans G8.out (gnew hb9))
    have u7 : w9.cell? ⟨r, 7, none⟩ = some (.int .i64 N.tm) := V9.out.cell 7
    have u8 : w9.cell? ⟨r, 8, none⟩ = some (.slice p4 L.length c4) := V9.out.cell 8
    have uf : ∀ j, w9.frozen? ⟨r, j, none⟩ = false := fun j => V9.out.var.froz j
    have VV := hide1 (V9.out.putT (m := N.tm) ho (V8.out.own.below_of (Nat.le_refl _)) V8.out.le)
    clear ho hb9 C8 e7 e8 V8 G8 V9
    go_wp2
    refine bodyPost_end (results_none Tryz.results64 _ _ _) rfl ?_
    exact ⟨rfl, _, by rw [HT2.out]; exact VV.out, gset (gset G9.out 7 _) 8 _⟩
theorem specTch_any {w : World} {r B : Nat} {A : NA} {N : Nr} (h : VaN w r B A N) (hN : InN N) (hl : SmN N) (k : ByteArray) (hk : k ∈ keysN N) :
    Calls Tryz.prog 64 #[.pointer (some ⟨r, 0, none⟩), .string k] w fun e w' => e = .returned (.tuple #[]) ∧ ∃ A', VaN w' r B A' (tchN N k) ∧ w.grownBy w' (some r) := by
  by_cases h1 : k ∈ N.w
  · exact specTchW_any h hN hl k h1
  by_cases h2 : k ∈ N.s
  · exact specTchS_any h hN hl k h1 h2
  have h3 : k ∈ N.t := by
    rcases InN.mem.1 hk with a | a | a
    · exact absurd a h1
    · exact a
    · exact absurd a h2
  by_cases h4 : N.sm = 0
  · exact specTchZ_any h hN hl k h1 h2 h3 h4
  · exact specTchT_any h hN hl k h1 h2 h3 h4
end Go.Proofs.YtjgiobdpbbhekaaGreat
