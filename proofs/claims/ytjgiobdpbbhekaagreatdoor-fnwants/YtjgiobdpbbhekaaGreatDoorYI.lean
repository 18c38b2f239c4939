/- An entry is laid, by the model. -/
import Derived.Test.YtjgiobdpbbhekaaGreatDoorXVY
import Derived.Test.YtjgiobdpbbhekaaGreatDoorYH
import Derived.Test.YtjgiobdpbbhekaaGreatDoorXBW
namespace Go.Proofs.YtjgiobdpbbhekaaGreatDoor
open Go.RowKit

set_option maxRecDepth 100000 in
set_option maxHeartbeats 3200000 in
theorem specLayP_any {w : World} {r B f : Nat} {A : NA} {N : Nr} (h : VaN w r B A N) (hl : SmN N) (hok : OkT N.ce N.od N.mv) (har : OkA N.sl N.fr) (hfr : N.fr = (f : Int)) (hf : f < N.sl.length) (k v : ByteArray) (hk : keyQ k) (hv : v.size ≤ 20) {L : List Ce} (hR : putR N.ce N.od N.mv k (24 * N.sl[f].gen + (f : Int)) = some (L, [], 0)) :
    Calls Tryz.prog 48 #[.pointer (some ⟨r, 0, none⟩), .string k, .string v] w fun e w' => e = .returned (.tuple #[]) ∧ ∃ A', VaN w' r B A' { N with sl := N.sl.set f ⟨N.sl[f].gen, true, k, v, 0⟩, fr := N.sl[f].next, ce := L, od := [], mv := 0 } ∧ w.grownBy w' (some r) := by
  have hh : 0 ≤ 24 * N.sl[f].gen + (f : Int) := by have := (har.slots f hf).1; omega
  have H := hide1 h
  have x0 : w.cell? ⟨r, 0, none⟩ = some (.slice A.a N.sl.length A.ac) := h.cell 0
  have x1 : w.cell? ⟨r, 1, none⟩ = some (.int .i64 (f : Int)) := by rw [← hfr]; exact h.cell 1
  have CL := hide1 (specLay_own A.a N.sl A.ac f k v w hl.fa h.own.rd.fa hf (by rw [← hfr]; exact har) hk hv)
  have CP := hide1 (fun w' (hA : RdC w' A.c N.ce) (hA' : RdC w' A.o N.od) => specPut_own A.c A.o N.ce N.od A.cc A.oc N.mv k _ w' hl.fc hl.fo hk hA hA' hok hh hR)
  unfold tbV at CP
  unfold arV at CL
  have c0 := hl.fc
  have c0' := hl.fo
  clear h hok har hfr hk hv hR hh hl
  generalize N.sl.set f ⟨N.sl[f].gen, true, k, v, 0⟩ = X at *
  generalize 24 * N.sl[f].gen + (f : Int) = hd at *
  generalize N.sl[f].next = nx at *
  clear hf
  go_enter Tryz.func48, Tryz.ntmps48
  go_wp2_with fail
  refine CL.out.mono ?_
  rintro e w1 ⟨b1, c1, rfl, ho, hb1⟩
  have hS1 := hide1 (H.out.own.below_of (Nat.le_refl _))
  have hB1 := hide1 H.out.le
  have hr1 := H.out.var.lt
  have F : Hid (VaN (w1.alloc (.cells #[.slice (some ⟨b1, 0, none⟩) X.length c1, .int .i64 nx] 26)) r B A N ∧ Blk (w1.alloc (.cells #[.slice (some ⟨b1, 0, none⟩) X.length c1, .int .i64 nx] 26)) w1.heap.size 26 [.slice (some ⟨b1, 0, none⟩) X.length c1, .int .i64 nx] ∧ (w1.alloc (.cells #[.slice (some ⟨b1, 0, none⟩) X.length c1, .int .i64 nx] 26)).ownsRow w.heap.size 99 5 (.slice (some ⟨b1, 0, none⟩) X.length c1) X.length (sls X) ∧ w.grownBy (w1.alloc (.cells #[.slice (some ⟨b1, 0, none⟩) X.length c1, .int .i64 nx] 26)) (some r)) :=
    ⟨(H.out.later hb1).later ((Below.refl _ _).alloc (Nat.le_refl _) _), Blk.new w1 _ _, own_kept ho ((Below.refl _ _).alloc (Nat.le_refl _) _), gnew (hb1.alloc hb1.size _)⟩
  clear ho hb1 CL x0 x1 H
  go_upto_region 1 with fail
  generalize (w1.alloc (.cells #[.slice (some ⟨b1, 0, none⟩) X.length c1, .int .i64 nx] 26)) = W2 at F ⊢
  generalize w1.heap.size = Q1 at F ⊢
  have V2 := hide1 F.out.1
  have K2 := hide1 F.out.2.1
  have O2 := hide1 F.out.2.2.1
  have G2 := hide1 F.out.2.2.2
  clear F
  have x0 : W2.cell? ⟨r, 0, none⟩ = some (.slice A.a N.sl.length A.ac) := V2.out.cell 0
  have x1 : W2.cell? ⟨r, 1, none⟩ = some (.int .i64 N.fr) := V2.out.cell 1
  have z0 : W2.cell? ⟨Q1, 0, none⟩ = some (.slice (some ⟨b1, 0, none⟩) X.length c1) := K2.out.cell 0
  have z1 : W2.cell? ⟨Q1, 1, none⟩ = some (.int .i64 nx) := K2.out.cell 1
  have xf : ∀ i, W2.frozen? ⟨r, i, none⟩ = false := fun i => V2.out.var.froz i
  have V3 := hide1 (V2.out.putA (f := nx) O2.out hS1.out hB1.out)
  have G3 := hide1 (gset (gset G2.out 0 (.slice (some ⟨b1, 0, none⟩) X.length c1)) 1 (.int .i64 nx))
  clear V2 K2 O2 G2
  go_upto_region 2 with fail
  generalize ((W2.setCell ⟨r, 0, none⟩ (.slice (some ⟨b1, 0, none⟩) X.length c1)).setCell ⟨r, 1, none⟩ (.int .i64 nx)) = W3 at V3 G3 ⊢
  clear x0 x1 z0 z1 xf hS1 hB1
  have x0 : W3.cell? ⟨r, 2, none⟩ = some (.slice A.c N.ce.length A.cc) := V3.out.cell 2
  have x1 : W3.cell? ⟨r, 3, none⟩ = some (.slice A.o N.od.length A.oc) := V3.out.cell 3
  have x2 : W3.cell? ⟨r, 4, none⟩ = some (.int .i64 N.mv) := V3.out.cell 4
  have hS3 := hide1 (V3.out.own.below_of (Nat.le_refl _))
  have hB3 := hide1 V3.out.le
  go_wp2_with fail
  refine (CP.out _ V3.out.own.rd.fc V3.out.own.rd.fo).mono ?_
  rintro e w4 ⟨b4, c4, b5, c5, rfl, ho, hb4⟩
  rw [List.length_nil]
  have F : Hid (VaN (w4.alloc (.cells #[.slice b4 L.length c4, .slice b5 0 c5, .int .i64 0] 29)) r B { A with a := some ⟨b1, 0, none⟩, ac := c1 } { N with sl := X, fr := nx } ∧ Blk (w4.alloc (.cells #[.slice b4 L.length c4, .slice b5 0 c5, .int .i64 0] 29)) w4.heap.size 29 [.slice b4 L.length c4, .slice b5 0 c5, .int .i64 0] ∧ Own2 (w4.alloc (.cells #[.slice b4 L.length c4, .slice b5 0 c5, .int .i64 0] 29)) W3.heap.size b4 c4 L b5 c5 [] ∧ w.grownBy (w4.alloc (.cells #[.slice b4 L.length c4, .slice b5 0 c5, .int .i64 0] 29)) (some r)) :=
    ⟨(V3.out.later hb4).later ((Below.refl _ _).alloc (Nat.le_refl _) _), Blk.new w4 _ _, ho.later ((Below.refl _ _).alloc (Nat.le_refl _) _), gtrans G3.out (gnew (hb4.alloc hb4.size _))⟩
  clear ho hb4 CP x0 x1 x2 V3 G3
  go_upto_region 6 with fail
  generalize (w4.alloc (.cells #[.slice b4 L.length c4, .slice b5 0 c5, .int .i64 0] 29)) = W5 at F ⊢
  generalize w4.heap.size = Q2 at F ⊢
  have V5 := hide1 F.out.1
  have K5 := hide1 F.out.2.1
  have O5 := hide1 F.out.2.2.1
  have G5 := hide1 F.out.2.2.2
  clear F
  have x0 : W5.cell? ⟨r, 2, none⟩ = some (.slice A.c N.ce.length A.cc) := V5.out.cell 2
  have x1 : W5.cell? ⟨r, 3, none⟩ = some (.slice A.o N.od.length A.oc) := V5.out.cell 3
  have x2 : W5.cell? ⟨r, 4, none⟩ = some (.int .i64 N.mv) := V5.out.cell 4
  have z0 : W5.cell? ⟨Q2, 0, none⟩ = some (.slice b4 L.length c4) := K5.out.cell 0
  have z1 : W5.cell? ⟨Q2, 1, none⟩ = some (.slice b5 0 c5) := K5.out.cell 1
  have z2 : W5.cell? ⟨Q2, 2, none⟩ = some (.int .i64 0) := K5.out.cell 2
  have xf : ∀ i, W5.frozen? ⟨r, i, none⟩ = false := fun i => V5.out.var.froz i
  have VV := hide1 (V5.out.putC (m := 0) O5.out hS3.out hB3.out)
  clear V5 K5 O5
  go_wp2
  refine bodyPost_end (results_none Tryz.results48 _ _ _) rfl ?_
  exact ⟨rfl, ⟨_, VV.out⟩, gset (gset (gset G5.out 2 _) 3 _) 4 _⟩
set_option maxRecDepth 100000 in
set_option maxHeartbeats 3200000 in
theorem specLayC_any {w : World} {r B f : Nat} {A : NA} {N : Nr} (h : VaN w r B A N) (hl : SmN N) (hok : OkT N.ce N.od N.mv) (har : OkA N.sl N.fr) (hfr : N.fr = (f : Int)) (hf : f < N.sl.length) (k v : ByteArray) (hk : keyQ k) (hv : v.size ≤ 20) {L : List Ce} {Y : List Ce} (hR : putR N.ce N.od N.mv k (24 * N.sl[f].gen + (f : Int)) = none) (hX : cleanR N.ce N.od = some (Y, [], 0)) (hokY : OkT Y [] 0) (hYl : Y.length ≤ 1048576) (hY : putR Y [] 0 k (24 * N.sl[f].gen + (f : Int)) = some (L, [], 0)) :
    Calls Tryz.prog 48 #[.pointer (some ⟨r, 0, none⟩), .string k, .string v] w fun e w' => e = .returned (.tuple #[]) ∧ ∃ A', VaN w' r B A' { N with sl := N.sl.set f ⟨N.sl[f].gen, true, k, v, 0⟩, fr := N.sl[f].next, ce := L, od := [], mv := 0 } ∧ w.grownBy w' (some r) := by
  have hh : 0 ≤ 24 * N.sl[f].gen + (f : Int) := by have := (har.slots f hf).1; omega
  have H := hide1 h
  have x0 : w.cell? ⟨r, 0, none⟩ = some (.slice A.a N.sl.length A.ac) := h.cell 0
  have x1 : w.cell? ⟨r, 1, none⟩ = some (.int .i64 (f : Int)) := by rw [← hfr]; exact h.cell 1
  have CL := hide1 (specLay_own A.a N.sl A.ac f k v w hl.fa h.own.rd.fa hf (by rw [← hfr]; exact har) hk hv)
  have CP := hide1 (fun w' (hA : RdC w' A.c N.ce) (hA' : RdC w' A.o N.od) => specPut_no A.c A.o N.ce N.od A.cc A.oc N.mv k _ w' hl.fc hl.fo hk hA hA' hR)
  have CC := hide1 (fun w' (hA : RdC w' A.c N.ce) (hA' : RdC w' A.o N.od) => specClean_own A.c A.o N.ce N.od A.cc A.oc N.mv w' hl.fc hl.fo hA hA' hok hX)
  have CQ := hide1 (fun w' ao ca a' ca' (hA : RdC w' ao Y) (hA' : RdC w' a' []) => specPut_own ao a' Y [] ca ca' 0 k _ w' hYl (by simp) hk hA hA' hokY hh hY)
  unfold tbV at CP CC CQ
  clear hX hokY hYl hY
  unfold arV at CL
  have c0 := hl.fc
  have c0' := hl.fo
  clear h hok har hfr hk hv hR hh hl
  generalize N.sl.set f ⟨N.sl[f].gen, true, k, v, 0⟩ = X at *
  generalize 24 * N.sl[f].gen + (f : Int) = hd at *
  generalize N.sl[f].next = nx at *
  clear hf
  go_enter Tryz.func48, Tryz.ntmps48
  go_wp2_with fail
  refine CL.out.mono ?_
  rintro e w1 ⟨b1, c1, rfl, ho, hb1⟩
  have hS1 := hide1 (H.out.own.below_of (Nat.le_refl _))
  have hB1 := hide1 H.out.le
  have hr1 := H.out.var.lt
  have F : Hid (VaN (w1.alloc (.cells #[.slice (some ⟨b1, 0, none⟩) X.length c1, .int .i64 nx] 26)) r B A N ∧ Blk (w1.alloc (.cells #[.slice (some ⟨b1, 0, none⟩) X.length c1, .int .i64 nx] 26)) w1.heap.size 26 [.slice (some ⟨b1, 0, none⟩) X.length c1, .int .i64 nx] ∧ (w1.alloc (.cells #[.slice (some ⟨b1, 0, none⟩) X.length c1, .int .i64 nx] 26)).ownsRow w.heap.size 99 5 (.slice (some ⟨b1, 0, none⟩) X.length c1) X.length (sls X) ∧ w.grownBy (w1.alloc (.cells #[.slice (some ⟨b1, 0, none⟩) X.length c1, .int .i64 nx] 26)) (some r)) :=
    ⟨(H.out.later hb1).later ((Below.refl _ _).alloc (Nat.le_refl _) _), Blk.new w1 _ _, own_kept ho ((Below.refl _ _).alloc (Nat.le_refl _) _), gnew (hb1.alloc hb1.size _)⟩
  clear ho hb1 CL x0 x1 H
  go_upto_region 1 with fail
  generalize (w1.alloc (.cells #[.slice (some ⟨b1, 0, none⟩) X.length c1, .int .i64 nx] 26)) = W2 at F ⊢
  generalize w1.heap.size = Q1 at F ⊢
  have V2 := hide1 F.out.1
  have K2 := hide1 F.out.2.1
  have O2 := hide1 F.out.2.2.1
  have G2 := hide1 F.out.2.2.2
  clear F
  have x0 : W2.cell? ⟨r, 0, none⟩ = some (.slice A.a N.sl.length A.ac) := V2.out.cell 0
  have x1 : W2.cell? ⟨r, 1, none⟩ = some (.int .i64 N.fr) := V2.out.cell 1
  have z0 : W2.cell? ⟨Q1, 0, none⟩ = some (.slice (some ⟨b1, 0, none⟩) X.length c1) := K2.out.cell 0
  have z1 : W2.cell? ⟨Q1, 1, none⟩ = some (.int .i64 nx) := K2.out.cell 1
  have xf : ∀ i, W2.frozen? ⟨r, i, none⟩ = false := fun i => V2.out.var.froz i
  have V3 := hide1 (V2.out.putA (f := nx) O2.out hS1.out hB1.out)
  have G3 := hide1 (gset (gset G2.out 0 (.slice (some ⟨b1, 0, none⟩) X.length c1)) 1 (.int .i64 nx))
  clear V2 K2 O2 G2
  go_upto_region 2 with fail
  generalize ((W2.setCell ⟨r, 0, none⟩ (.slice (some ⟨b1, 0, none⟩) X.length c1)).setCell ⟨r, 1, none⟩ (.int .i64 nx)) = W3 at V3 G3 ⊢
  clear x0 x1 z0 z1 xf hS1 hB1
  have x0 : W3.cell? ⟨r, 2, none⟩ = some (.slice A.c N.ce.length A.cc) := V3.out.cell 2
  have x1 : W3.cell? ⟨r, 3, none⟩ = some (.slice A.o N.od.length A.oc) := V3.out.cell 3
  have x2 : W3.cell? ⟨r, 4, none⟩ = some (.int .i64 N.mv) := V3.out.cell 4
  have hS3 := hide1 (V3.out.own.below_of (Nat.le_refl _))
  have hB3 := hide1 V3.out.le
  go_wp2_with fail
  refine (CP.out _ V3.out.own.rd.fc V3.out.own.rd.fo).mono ?_
  rintro e w4 ⟨b4, c4, b5, c5, rfl, hb4⟩
  have F : Hid (VaN (w4.alloc (.cells #[.slice b4 0 c4, .slice b5 0 c5, .int .i64 0] 29)) r B { A with a := some ⟨b1, 0, none⟩, ac := c1 } { N with sl := X, fr := nx } ∧ Blk (w4.alloc (.cells #[.slice b4 0 c4, .slice b5 0 c5, .int .i64 0] 29)) w4.heap.size 29 [.slice b4 0 c4, .slice b5 0 c5, .int .i64 0] ∧ w.grownBy (w4.alloc (.cells #[.slice b4 0 c4, .slice b5 0 c5, .int .i64 0] 29)) (some r) ∧ W3.heap.size ≤ w4.heap.size) :=
    ⟨(V3.out.later hb4).later ((Below.refl _ _).alloc (Nat.le_refl _) _), Blk.new w4 _ _, gtrans G3.out (gnew (hb4.alloc hb4.size _)), hb4.size⟩
  have hr3 := V3.out.var.lt
  have hw3 : w.heap.size ≤ W3.heap.size := G3.out.size
  clear hb4 CP x0 x1 x2 V3 G3
  go_upto_region 4 with fail
  generalize (w4.alloc (.cells #[.slice b4 0 c4, .slice b5 0 c5, .int .i64 0] 29)) = W5 at F ⊢
  generalize w4.heap.size = Q2 at F ⊢
  have V5 := hide1 F.out.1
  have K5 := hide1 F.out.2.1
  have G5 := hide1 F.out.2.2.1
  have hQ2 := F.out.2.2.2
  clear F
  have hq5 : Q2 < W5.heap.size := K5.out.lt
  have x0 : W5.cell? ⟨r, 2, none⟩ = some (.slice A.c N.ce.length A.cc) := V5.out.cell 2
  have x1 : W5.cell? ⟨r, 3, none⟩ = some (.slice A.o N.od.length A.oc) := V5.out.cell 3
  have x2 : W5.cell? ⟨r, 4, none⟩ = some (.int .i64 N.mv) := V5.out.cell 4
  go_wp2_with fail
  refine (CC.out _ V5.out.own.rd.fc V5.out.own.rd.fo).mono ?_
  rintro e w6 ⟨b6, c6, b7, c7, rfl, ho, hb6⟩
  rw [List.length_nil]
  have F : Hid (VaN (w6.alloc (.cells #[.slice b6 Y.length c6, .slice b7 0 c7, .int .i64 0] 29)) r B { A with a := some ⟨b1, 0, none⟩, ac := c1 } { N with sl := X, fr := nx } ∧ Blk (w6.alloc (.cells #[.slice b6 Y.length c6, .slice b7 0 c7, .int .i64 0] 29)) Q2 29 [.slice b4 0 c4, .slice b5 0 c5, .int .i64 0] ∧ Blk (w6.alloc (.cells #[.slice b6 Y.length c6, .slice b7 0 c7, .int .i64 0] 29)) w6.heap.size 29 [.slice b6 Y.length c6, .slice b7 0 c7, .int .i64 0] ∧ Own2 (w6.alloc (.cells #[.slice b6 Y.length c6, .slice b7 0 c7, .int .i64 0] 29)) W5.heap.size b6 c6 Y b7 c7 [] ∧ w.grownBy (w6.alloc (.cells #[.slice b6 Y.length c6, .slice b7 0 c7, .int .i64 0] 29)) (some r) ∧ W5.heap.size ≤ w6.heap.size) :=
    ⟨(V5.out.later hb6).later ((Below.refl _ _).alloc (Nat.le_refl _) _), (K5.out.below hb6 hq5).below ((Below.refl w6.heap.size w6).alloc (Nat.le_refl _) _) (Nat.lt_of_lt_of_le hq5 hb6.size), Blk.new w6 _ _, ho.later ((Below.refl _ _).alloc (Nat.le_refl _) _), gtrans G5.out (gnew (hb6.alloc hb6.size _)), hb6.size⟩
  clear ho hb6 CC x0 x1 x2 V5 K5 G5
  go_upto_region 5 with fail
  generalize (w6.alloc (.cells #[.slice b6 Y.length c6, .slice b7 0 c7, .int .i64 0] 29)) = W7 at F ⊢
  generalize w6.heap.size = Q3 at F ⊢
  have V7 := hide1 F.out.1
  have K7 := hide1 F.out.2.1
  have K8 := hide1 F.out.2.2.1
  have O7 := hide1 F.out.2.2.2.1
  have G7 := hide1 F.out.2.2.2.2.1
  have hQ3 := F.out.2.2.2.2.2
  clear F
  have hq7 : Q2 < W7.heap.size := K7.out.lt
  have z0 : W7.cell? ⟨Q3, 0, none⟩ = some (.slice b6 Y.length c6) := K8.out.cell 0
  have z1 : W7.cell? ⟨Q3, 1, none⟩ = some (.slice b7 0 c7) := K8.out.cell 1
  have z2 : W7.cell? ⟨Q3, 2, none⟩ = some (.int .i64 0) := K8.out.cell 2
  go_wp2_with fail
  refine (CQ.out _ b6 c6 b7 c7 O7.out.rd.1 O7.out.rd.2).mono ?_
  rintro e w8 ⟨b8, c8, b9, c9, rfl, ho, hb8⟩
  rw [List.length_nil]
  have hz8 : W7.heap.size ≤ w8.heap.size := hb8.size
  have V8 := hide1 (V7.out.later hb8)
  have M8 := hide1 (K7.out.below hb8 hq7)
  have O8 := hide1 ho
  have G8 := hide1 (gtrans G7.out (gnew hb8))
  have hfar : Hid (Q2 ≠ r ∧ ∀ u ∈ vlN { A with a := some ⟨b1, 0, none⟩, ac := c1 } { N with sl := X, fr := nx }, ∀ g, u.ownBlock = some g → g ≠ Q2) := ⟨by omega, fun u hu g hg => by have := hS3.out u hu g hg; omega⟩
  have q0 : w8.cell? ⟨Q2, 0, none⟩ = some (.slice b4 0 c4) := M8.out.cell 0
  have q1 : w8.cell? ⟨Q2, 1, none⟩ = some (.slice b5 0 c5) := M8.out.cell 1
  have q2 : w8.cell? ⟨Q2, 2, none⟩ = some (.int .i64 0) := M8.out.cell 2
  have qf : ∀ i, w8.frozen? ⟨Q2, i, none⟩ = false := fun i => M8.out.froz i
  have V5 := hide1 (((V8.out.far (.inr hfar.out) 0 (.slice b8 L.length c8)).far (.inr hfar.out) 1 (.slice b9 0 c9)).far (.inr hfar.out) 2 (.int .i64 0))
  have K5 := hide1 (Blk.set (Blk.set (Blk.set M8.out 0 (.slice b8 L.length c8)) 1 (.slice b9 0 c9)) 2 (.int .i64 0))
  have hs5 : W3.heap.size ≤ W7.heap.size := by omega
  have hn1 : ∀ g, (Value.slice b8 L.length c8).ownBlock = some g → g ≠ Q2 := fun g hg => by have := (O8.out.1.lt g hg).1; omega
  have hn2 : ∀ g, (Value.slice b9 ([] : List Ce).length c9).ownBlock = some g → g ≠ Q2 := fun g hg => by have := (O8.out.2.1.lt g hg).1; omega
  have O5 : Hid (Own2 (((w8.setCell ⟨Q2, 0, none⟩ (.slice b8 L.length c8)).setCell ⟨Q2, 1, none⟩ (.slice b9 0 c9)).setCell ⟨Q2, 2, none⟩ (.int .i64 0)) W3.heap.size b8 c8 L b9 c9 []) := Own2.base ⟨own_far (own_far (own_far O8.out.1 _ _ hn1) _ _ hn1) _ _ hn1, own_far (own_far (own_far O8.out.2.1 _ _ hn2) _ _ hn2) _ _ hn2, O8.out.2.2⟩ hs5
  have G5 : Hid (w.grownBy (((w8.setCell ⟨Q2, 0, none⟩ (.slice b8 L.length c8)).setCell ⟨Q2, 1, none⟩ (.slice b9 0 c9)).setCell ⟨Q2, 2, none⟩ (.int .i64 0)) (some r)) := ⟨G8.out.os, G8.out.tape, G8.out.output, by simpa using G8.out.size, fun i hi hne => by rw [Below.heap_setCell _ _ _ _ (by dsimp only; omega), Below.heap_setCell _ _ _ _ (by dsimp only; omega), Below.heap_setCell _ _ _ _ (by dsimp only; omega)]; exact G8.out.block i hi hne⟩
  clear V7 K7 K8 O7 G7 V8 M8 O8 G8 ho hb8 CQ z0 z1 z2 hfar hn1 hn2
  go_upto_region 6 with fail
  generalize (((w8.setCell ⟨Q2, 0, none⟩ (.slice b8 L.length c8)).setCell ⟨Q2, 1, none⟩ (.slice b9 0 c9)).setCell ⟨Q2, 2, none⟩ (.int .i64 0)) = W9 at V5 K5 O5 G5 ⊢
  clear q0 q1 q2 qf
  have x0 : W9.cell? ⟨r, 2, none⟩ = some (.slice A.c N.ce.length A.cc) := V5.out.cell 2
  have x1 : W9.cell? ⟨r, 3, none⟩ = some (.slice A.o N.od.length A.oc) := V5.out.cell 3
  have x2 : W9.cell? ⟨r, 4, none⟩ = some (.int .i64 N.mv) := V5.out.cell 4
  have z0 : W9.cell? ⟨Q2, 0, none⟩ = some (.slice b8 L.length c8) := K5.out.cell 0
  have z1 : W9.cell? ⟨Q2, 1, none⟩ = some (.slice b9 0 c9) := K5.out.cell 1
  have z2 : W9.cell? ⟨Q2, 2, none⟩ = some (.int .i64 0) := K5.out.cell 2
  have xf : ∀ i, W9.frozen? ⟨r, i, none⟩ = false := fun i => V5.out.var.froz i
  have VV := hide1 (V5.out.putC (m := 0) O5.out hS3.out hB3.out)
  clear V5 K5 O5
  go_wp2
  refine bodyPost_end (results_none Tryz.results48 _ _ _) rfl ?_
  exact ⟨rfl, ⟨_, VV.out⟩, gset (gset (gset G5.out 2 _) 3 _) 4 _⟩
theorem specLyN_any {w : World} {r B f : Nat} {A : NA} {N : Nr} {K : List ByteArray} (h : VaN w r B A N) (hl : SmN N) (hT : InT N.sl N.fr N.ce K) (hod : N.od = []) (hmv : N.mv = 0) (hn : K.Nodup) (hK : K.length + 2 ≤ N.ce.length) (hfr : N.fr = (f : Int)) (hf : f < N.sl.length) (k v : ByteArray) (hk : keyQ k) (hk0 : k.toList ≠ []) (hkn : ¬ k ∈ K) (hv : v.size ≤ 20) :
    Calls Tryz.prog 48 #[.pointer (some ⟨r, 0, none⟩), .string k, .string v] w fun e w' => e = .returned (.tuple #[]) ∧ ∃ A', VaN w' r B A' (layN N k v) ∧ w.grownBy w' (some r) := by
  have hok : OkT N.ce N.od N.mv := by rw [hod, hmv]; exact okN_iff.2 hT.tb
  have e : layN N k v = { N with sl := N.sl.set f ⟨N.sl[f].gen, true, k, v, 0⟩, fr := N.sl[f].next, ce := layT N.ce k (24 * N.sl[f].gen + (f : Int)), od := [], mv := 0 } := by
    rw [layN_eq hfr hf k v, ← hod, ← hmv]
  rw [e]
  rcases lay_some hT hn hK hk0 hkn (24 * N.sl[f].gen + (f : Int)) with h1 | ⟨h1, Y, h2, h3⟩
  · exact specLayP_any h hl hok hT.ar hfr hf k v hk hv (by rw [hod, hmv]; exact h1)
  · have hc := hT.clean h2
    have hY : Y.length ≤ 1048576 := by have := hc.tb.size; omega
    exact specLayC_any h hl hok hT.ar hfr hf k v hk hv (by rw [hod, hmv]; exact h1) (by rw [hod]; exact h2) (okN_iff.2 hc.tb) hY h3
end Go.Proofs.YtjgiobdpbbhekaaGreatDoor
namespace Go.Proofs.YtjgiobdpbbhekaaGreatDoor
open Go.RowKit
set_option linter.unusedVariables false

set_option maxRecDepth 100000 in
set_option maxHeartbeats 4000000 in
theorem keepSY {w : World} {A : NA} {N : Nr} (h : InN N) (hA : RdN w A N) (k v : ByteArray) (hk : keyQ k) (hv : v.size ≤ 20) (hin : k ∈ keysN N) :
    Calls Tryz.prog 9 #[neV A N, .string k, .string v] w fun e w' => ∃ A', e = .returned (.tuple #[neV A' (tchN (rnwN (cnN N k) k v) k), .string ⟨#[]⟩, .bool true]) ∧ OwnN w' w.heap.size A' (tchN (rnwN (cnN N k) k v) k) ∧ Below w.heap.size w w' := by
  have hl := h.small
  have F0 := hide1 (blkN2 w #[.slice A.a N.sl.length A.ac, .int .i64 N.fr, .slice A.c N.ce.length A.cc, .slice A.o N.od.length A.oc, .int .i64 N.mv, .int .i64 N.wm, .slice A.w N.w.length A.wc, .int .i64 N.tm, .slice A.t N.t.length A.tc, .int .i64 N.sm, .slice A.s N.s.length A.sc, .slice A.k N.sk.length A.kc, .int .i64 N.ad, .int .i64 N.dr] #[.slice none 0 0, .int .i64 0, .slice none 0 0, .slice none 0 0, .int .i64 0, .int .i64 0, .slice none 0 0, .int .i64 0, .slice none 0 0, .int .i64 0, .slice none 0 0, .slice none 0 0, .int .i64 0, .int .i64 0] 39 39)
  have C2 := hide1 (fun w' (hb : Below w.heap.size w w') => nearOkS h (hA.later hb))
  have C1 := hide1 (fun w' (hb : Below w.heap.size w w') => copyS h (hA.later hb))
  have C3 := hide1 (fun w' r A1 (V : VaN w' r (w.heap.size + 2) A1 N) => specCnt_any V hl k (by have := hk.2; omega))
  have CI : Hid (∀ w', Calls Tryz.prog 37 #[.int .i64 (k.size : Int), .int .i64 1, .int .i64 12] w' fun e w'' => e = .returned (.bool true) ∧ w'' = w') := by
    show ∀ w', _
    intro w'
    refine (in_any (k.size : Int) 1 12 w').mono ?_
    rintro e w'' ⟨rfl, hw⟩
    exact ⟨by rw [show (decide ((1 : Int) ≤ (k.size : Int)) && decide ((k.size : Int) ≤ 12)) = true by have := hk.1; have := hk.2; simp; omega], hw.symm⟩
  unfold neV at C1 C2
  have HC := hide1 (h.cn k)
  have HKq := hide1 hk
  have hks : (k.size : Int) ≤ 12 := by have := hk.2; omega
  have hvs : (v.size : Int) ≤ 20 := by omega
  have hin3 : k ∈ keysN (cnN N k) := by rw [cnN_keys]; exact hin
  have HR := (h.cn k).rnw hin3 hv
  have HRI := hide1 HR.1
  have hin4 : k ∈ keysN (rnwN (cnN N k) k v) := by rw [HR.2.1]; exact hin3
  have HEND := hide1 (HR.1.tch hin4).1
  have CT := hide1 (fun w' r A1 (V : VaN w' r (w.heap.size + 2) A1 (rnwN (cnN N k) k v)) => specTch_any V HRI.out HRI.out.small k hin4)
  generalize tchN (rnwN (cnN N k) k v) k = M at *
  generalize hN3 : cnN N k = N3 at *
  obtain ⟨j, hj, hu, hkj, hS, hat, hd1, hd2⟩ := HC.out.seek (k := k) hin3
  obtain ⟨L, hL, hLl, hRN⟩ := InN.rnwN_eq HC.out.inT hj hu v
  rw [hkj] at hL hRN
  have hl3 := HC.out.small
  have hX : ∀ h : j < (N3.sl.set j (lifted N3.sl[j] N3.fr)).length, (N3.sl.set j (lifted N3.sl[j] N3.fr))[j] = lifted N3.sl[j] N3.fr := fun h => List.getElem_set_self h
  have hXl : j < (N3.sl.set j (lifted N3.sl[j] N3.fr)).length := by rw [List.length_set]; exact hj
  have hXm : (N3.sl.set j (lifted N3.sl[j] N3.fr)).length ≤ 1048576 := by rw [List.length_set]; exact hl3.fa
  have hXok := HC.out.inT.ar.lift hj hu
  have hup : 0 ≤ upGen N3.sl[j].gen := by have h9 := (hXok.slots j hXl).1; rw [hX hXl] at h9; exact h9
  have C4 := hide1 (fun w' r A1 (V : VaN w' r (w.heap.size + 2) A1 N3) => specSeek_own A1.c A1.o N3.ce N3.od A1.cc A1.oc N3.mv k w' hl3.fc hl3.fo (by have := HKq.out.2; omega) V.own.rd.fc V.own.rd.fo HC.out.okT (keyQ_toList HKq.out) hS)
  have C5 := hide1 (fun w' r A1 (V : VaN w' r (w.heap.size + 2) A1 N3) => specLift_own A1.a N3.sl A1.ac N3.fr (24 * N3.sl[j].gen + (j : Int)) w' hl3.fa hd1 hd2 V.own.rd.fa hj hat)
  have C6 : Hid (∀ w' ao ca, RdA w' ao (N3.sl.set j (lifted N3.sl[j] N3.fr)) → Calls Tryz.prog 42 #[.agg #[.slice ao (N3.sl.set j (lifted N3.sl[j] N3.fr)).length ca, .int .i64 (j : Int)], .string k, .string v] w' fun e w'' => ∃ b c, e = .returned (.tuple #[.agg #[.slice (some ⟨b, 0, none⟩) (N3.sl.set j ⟨upGen N3.sl[j].gen, true, k, v, 0⟩).length c, .int .i64 N3.fr], .int .i64 (24 * upGen N3.sl[j].gen + (j : Int)), .bool true]) ∧ w''.ownsRow w'.heap.size 99 5 (.slice (some ⟨b, 0, none⟩) (N3.sl.set j ⟨upGen N3.sl[j].gen, true, k, v, 0⟩).length c) (N3.sl.set j ⟨upGen N3.sl[j].gen, true, k, v, 0⟩).length (sls (N3.sl.set j ⟨upGen N3.sl[j].gen, true, k, v, 0⟩)) ∧ Below w'.heap.size w' w'') := by
    show ∀ w' ao ca, _
    intro w' ao ca hR
    have h9 := specLay_own ao _ ca j k v w' hXm hR hXl hXok HKq.out hv
    rw [hX hXl, List.set_set] at h9
    exact h9
  have C7 := hide1 (fun w' r A1 (V : VaN w' r (w.heap.size + 2) A1 N3) => specPut_own A1.c A1.o N3.ce N3.od A1.cc A1.oc N3.mv k (24 * upGen N3.sl[j].gen + (j : Int)) w' hl3.fc hl3.fo HKq.out V.own.rd.fc V.own.rd.fo HC.out.okT (by omega) (L := L) (O := []) (M := 0) (by rw [HC.out.od, HC.out.mv]; exact hL))
  unfold tbV at C4 C7
  unfold arV at C5
  have HRN : Hid (rnwN N3 k v = { N3 with sl := N3.sl.set j ⟨upGen N3.sl[j].gen, true, k, v, 0⟩, fr := N3.fr, ce := L, od := [], mv := 0 }) := by
    show _ = _
    rw [hRN, ← HC.out.od, ← HC.out.mv]
  generalize N3.sl.set j (lifted N3.sl[j] N3.fr) = X at *
  generalize N3.sl.set j ⟨upGen N3.sl[j].gen, true, k, v, 0⟩ = Y at *
  generalize 24 * N3.sl[j].gen + (j : Int) = hd at *
  generalize 24 * upGen N3.sl[j].gen + (j : Int) = hn at *
  generalize rnwN N3 k v = N8 at *
  have hj24 : (j : Int) ≤ 24 := by have := HC.out.inT.ar.most; omega
  clear hX hXl hup hXm hXok hat hd1 hd2 hS hL hLl hRN hkj hu hj hl3 hin hin3 hin4 HR hN3 hA hl h hk hv
  unfold neV
  go_enter Tryz.func9, Tryz.ntmps9
  go_wp2_with fail
  generalize ((w.alloc (.cells #[.slice A.a N.sl.length A.ac, .int .i64 N.fr, .slice A.c N.ce.length A.cc, .slice A.o N.od.length A.oc, .int .i64 N.mv, .int .i64 N.wm, .slice A.w N.w.length A.wc, .int .i64 N.tm, .slice A.t N.t.length A.tc, .int .i64 N.sm, .slice A.s N.s.length A.sc, .slice A.k N.sk.length A.kc, .int .i64 N.ad, .int .i64 N.dr] 39)).alloc (.cells #[.slice none 0 0, .int .i64 0, .slice none 0 0, .slice none 0 0, .int .i64 0, .int .i64 0, .slice none 0 0, .int .i64 0, .slice none 0 0, .int .i64 0, .slice none 0 0, .slice none 0 0, .int .i64 0, .int .i64 0] 39)) = w0 at F0 ⊢
  obtain ⟨P0, R0, B0⟩ := F0.out
  have P0 := hide1 P0
  have R0 := hide1 R0
  have B0 := hide1 B0
  have sz0 : w.heap.size + 2 ≤ w0.heap.size := by have := R0.out.lt; omega
  clear F0
  refine (C2.out w0 B0.out).mono ?_
  rintro e w1 ⟨rfl, hb1⟩
  have P1 := hide1 (P0.out.below hb1 P0.out.lt)
  have R1 := hide1 (R0.out.below hb1 R0.out.lt)
  have B1 := hide1 (B0.out.trans (hb1.mono B0.out.size))
  have z1 : w0.heap.size ≤ w1.heap.size := hb1.size
  clear hb1 C2 P0 R0 B0
  go_wp2_with fail
  refine (CI.out _).mono ?_
  rintro e w1' ⟨rfl, hw1⟩
  have hw1 := hw1.symm
  subst hw1
  clear CI
  obtain ⟨_, v0, v1, v2, v3, v4, v5, v6, v7, v8, v9, v10, v11, v12, v13⟩ := nbox P1.out
  go_wp2_with fail
  refine (C1.out w1 B1.out).mono ?_
  rintro e w2 ⟨A2, rfl, ho2, hb2⟩
  have R2 := hide1 (R1.out.below hb2 R1.out.lt)
  have B2 := hide1 (B1.out.trans (hb2.mono B1.out.size))
  have z2 : w1.heap.size ≤ w2.heap.size := hb2.size
  have VX : Hid (VaN (w2.alloc (.cells #[.slice A2.a N.sl.length A2.ac, .int .i64 N.fr, .slice A2.c N.ce.length A2.cc, .slice A2.o N.od.length A2.oc, .int .i64 N.mv, .int .i64 N.wm, .slice A2.w N.w.length A2.wc, .int .i64 N.tm, .slice A2.t N.t.length A2.tc, .int .i64 N.sm, .slice A2.s N.s.length A2.sc, .slice A2.k N.sk.length A2.kc, .int .i64 N.ad, .int .i64 N.dr] 39)) w2.heap.size (w.heap.size + 2) A2 N ∧ Below w2.heap.size w2 (w2.alloc (.cells #[.slice A2.a N.sl.length A2.ac, .int .i64 N.fr, .slice A2.c N.ce.length A2.cc, .slice A2.o N.od.length A2.oc, .int .i64 N.mv, .int .i64 N.wm, .slice A2.w N.w.length A2.wc, .int .i64 N.tm, .slice A2.t N.t.length A2.tc, .int .i64 N.sm, .slice A2.s N.s.length A2.sc, .slice A2.k N.sk.length A2.kc, .int .i64 N.ad, .int .i64 N.dr] 39))) :=
    ⟨VaN.box (S := w1.heap.size) ho2 (by omega) z2 (Blk.new w2 39 _) ((Below.refl _ _).alloc (Nat.le_refl _) _), (Below.refl _ _).alloc (Nat.le_refl _) _⟩
  clear hb2 ho2 C1 P1 R1 B1 v0 v1 v2 v3 v4 v5 v6 v7 v8 v9 v10 v11 v12 v13
  go_wp2_with fail
  generalize (w2.alloc (.cells #[.slice A2.a N.sl.length A2.ac, .int .i64 N.fr, .slice A2.c N.ce.length A2.cc, .slice A2.o N.od.length A2.oc, .int .i64 N.mv, .int .i64 N.wm, .slice A2.w N.w.length A2.wc, .int .i64 N.tm, .slice A2.t N.t.length A2.tc, .int .i64 N.sm, .slice A2.s N.s.length A2.sc, .slice A2.k N.sk.length A2.kc, .int .i64 N.ad, .int .i64 N.dr] 39)) = w3 at VX ⊢
  obtain ⟨V3, b23⟩ := VX.out
  have V3 := hide1 V3
  have R3 := hide1 (R2.out.below b23 R2.out.lt)
  have B3 := hide1 (B2.out.trans (b23.mono B2.out.size))
  have hr : w.heap.size + 1 < w2.heap.size := by omega
  clear b23 VX R2 B2
  generalize w2.heap.size = r at *
  refine (C3.out w3 r A2 V3.out).mono ?_
  rintro e w4 ⟨rfl, A4, hv4, hg4⟩
  have V4 := hide1 hv4
  have R4 := hide1 (gblk hg4 R3.out (fun e => by injection e; omega))
  have B4 := hide1 (B3.out.trans (gbelow hg4 (fun g e => by injection e; omega) B3.out.size))
  clear hv4 hg4 C3 V3 R3 B3
  have x2 : w4.cell? ⟨r, 2, none⟩ = some (.slice A4.c N3.ce.length A4.cc) := V4.out.cell 2
  have x3 : w4.cell? ⟨r, 3, none⟩ = some (.slice A4.o N3.od.length A4.oc) := V4.out.cell 3
  have x4 : w4.cell? ⟨r, 4, none⟩ = some (.int .i64 N3.mv) := V4.out.cell 4
  go_wp2_with fail
  refine (C4.out w4 r A4 V4.out).mono ?_
  rintro e w5 ⟨rfl, hb5⟩
  have V5 := hide1 (V4.out.later hb5)
  have R5 := hide1 (R4.out.below hb5 R4.out.lt)
  have B5 := hide1 (B4.out.trans (hb5.mono B4.out.size))
  clear hb5 C4 V4 R4 B4 x2 x3 x4
  have x0 : w5.cell? ⟨r, 0, none⟩ = some (.slice A4.a N3.sl.length A4.ac) := V5.out.cell 0
  have x1 : w5.cell? ⟨r, 1, none⟩ = some (.int .i64 N3.fr) := V5.out.cell 1
  go_wp2_with fail
  refine (C5.out w5 r A4 V5.out).mono ?_
  rintro e w6 ⟨b6, c6, rfl, ho6, hb6⟩
  have V6 := hide1 (V5.out.later hb6)
  have R6 := hide1 (R5.out.below hb6 R5.out.lt)
  have B6 := hide1 (B5.out.trans (hb6.mono B5.out.size))
  have FX := hide1 (And.intro (Blk.new w6 26 #[.slice (some ⟨b6, 0, none⟩) X.length c6, .int .i64 (j : Int)]) (And.intro (V6.out.later ((Below.refl _ _).alloc (Nat.le_refl _) (.cells #[.slice (some ⟨b6, 0, none⟩) X.length c6, .int .i64 (j : Int)] 26))) (And.intro (Blk.more R6.out (.cells #[.slice (some ⟨b6, 0, none⟩) X.length c6, .int .i64 (j : Int)] 26)) (And.intro (B6.out.alloc B6.out.size (.cells #[.slice (some ⟨b6, 0, none⟩) X.length c6, .int .i64 (j : Int)] 26)) (rdA_of_own (own_kept ho6 ((Below.refl _ _).alloc (Nat.le_refl _) (.cells #[.slice (some ⟨b6, 0, none⟩) X.length c6, .int .i64 (j : Int)] 26))))))))
  clear hb6 ho6 C5 V5 R5 B5 x0 x1 V6 R6 B6
  go_wp2_with fail
  generalize (w6.alloc (.cells #[.slice (some ⟨b6, 0, none⟩) X.length c6, .int .i64 (j : Int)] 26)) = w7 at FX ⊢
  obtain ⟨_, V7, R7, B7, A7⟩ := FX.out
  have V7 := hide1 V7
  have R7 := hide1 R7
  have B7 := hide1 B7
  clear FX
  refine (C6.out w7 (some ⟨b6, 0, none⟩) c6 A7).mono ?_
  rintro e w8 ⟨b8, c8, rfl, ho8, hb8⟩
  have hS7 := hide1 (V7.out.own.below_of (Nat.le_refl _))
  have hB7 := hide1 V7.out.le
  have V8 := hide1 (V7.out.later hb8)
  have R8 := hide1 (R7.out.below hb8 R7.out.lt)
  have B8 := hide1 (B7.out.trans (hb8.mono B7.out.size))
  have z8 : w7.heap.size ≤ w8.heap.size := hb8.size
  have O8 := hide1 ho8
  have hr8 : r < w8.heap.size := V8.out.var.lt
  clear hb8 C6 V7 R7 B7 A7
  have FX := hide1 (And.intro (Blk.new w8 26 #[.slice (some ⟨b8, 0, none⟩) Y.length c8, .int .i64 N3.fr]) (And.intro (V8.out.later ((Below.refl _ _).alloc (Nat.le_refl _) (.cells #[.slice (some ⟨b8, 0, none⟩) Y.length c8, .int .i64 N3.fr] 26))) (And.intro (Blk.more R8.out (.cells #[.slice (some ⟨b8, 0, none⟩) Y.length c8, .int .i64 N3.fr] 26)) (And.intro (B8.out.alloc B8.out.size (.cells #[.slice (some ⟨b8, 0, none⟩) Y.length c8, .int .i64 N3.fr] 26)) (own_kept ho8 ((Below.refl _ _).alloc (Nat.le_refl _) (.cells #[.slice (some ⟨b8, 0, none⟩) Y.length c8, .int .i64 N3.fr] 26)))))))
  have ZX := hide1 (World.size_alloc w8 (.cells #[.slice (some ⟨b8, 0, none⟩) Y.length c8, .int .i64 N3.fr] 26))
  have x2 : w8.cell? ⟨r, 2, none⟩ = some (.slice A4.c N3.ce.length A4.cc) := V8.out.cell 2
  have x3 : w8.cell? ⟨r, 3, none⟩ = some (.slice A4.o N3.od.length A4.oc) := V8.out.cell 3
  have x4 : w8.cell? ⟨r, 4, none⟩ = some (.int .i64 N3.mv) := V8.out.cell 4
  clear ho8 R8 B8 V8 O8
  go_wp2_with fail
  generalize (w8.alloc (.cells #[.slice (some ⟨b8, 0, none⟩) Y.length c8, .int .i64 N3.fr] 26)) = w9 at FX ZX ⊢
  obtain ⟨Q9, V9, R9, B9, O9⟩ := FX.out
  have Q9 := hide1 Q9
  have V9 := hide1 V9
  have R9 := hide1 R9
  have B9 := hide1 B9
  have O9 := hide1 O9
  have z9 : w9.heap.size = w8.heap.size + 1 := ZX.out
  generalize w8.heap.size = q at *
  clear FX ZX x2 x3 x4
  have VS9 := hide1 ((V9.out.own.setA O9.out hS7.out hB7.out.1 N3.fr).below_of (Nat.le_refl _))
  have hB9 := hide1 V9.out.le
  refine (C7.out w9 r A4 V9.out).mono ?_
  rintro e w10 ⟨tb, tc, tb', tc', rfl, ho10, hb10⟩
  have V10 := hide1 (V9.out.later hb10)
  have R10 := hide1 (R9.out.below hb10 R9.out.lt)
  have B10 := hide1 (B9.out.trans (hb10.mono B9.out.size))
  have Q10 := hide1 (Q9.out.below hb10 Q9.out.lt)
  have O10 := hide1 (own_kept O9.out hb10)
  have T10 := hide1 ho10
  have z10 : w9.heap.size ≤ w10.heap.size := hb10.size
  clear hb10 ho10 C7 V9 R9 B9 Q9 O9
  have VA := hide1 (V10.out.putA (f := N3.fr) O10.out hS7.out hB7.out)
  have hrn : ∀ g, w9.heap.size ≤ g → g ≠ r := fun g hg => by have := hB9.out.2; omega
  have T2 := hide1 (show Own2 ((w10.setCell ⟨r, 0, none⟩ (.slice (some ⟨b8, 0, none⟩) Y.length c8)).setCell ⟨r, 1, none⟩ (.int .i64 N3.fr)) w9.heap.size tb tc L tb' tc' [] from ⟨own_far (own_far T10.out.1 _ _ (fun g hg => hrn g (T10.out.1.lt g hg).1)) _ _ (fun g hg => hrn g (T10.out.1.lt g hg).1), own_far (own_far T10.out.2.1 _ _ (fun g hg => hrn g (T10.out.2.1.lt g hg).1)) _ _ (fun g hg => hrn g (T10.out.2.1.lt g hg).1), T10.out.2.2⟩)
  have VC := hide1 (VA.out.putC (m := 0) T2.out VS9.out hB9.out)
  have BC := hide1 ((((((B10.out).setCell (p := ⟨r, 0, none⟩) (by show w.heap.size ≤ r; omega) (.slice (some ⟨b8, 0, none⟩) Y.length c8)).setCell (p := ⟨r, 1, none⟩) (by show w.heap.size ≤ r; omega) (.int .i64 N3.fr)).setCell (p := ⟨r, 2, none⟩) (by show w.heap.size ≤ r; omega) (.slice tb L.length tc)).setCell (p := ⟨r, 3, none⟩) (by show w.heap.size ≤ r; omega) (.slice tb' 0 tc')).setCell (p := ⟨r, 4, none⟩) (by show w.heap.size ≤ r; omega) (.int .i64 0))
  have FX := hide1 (And.intro (VC.out.later ((Below.refl _ _).alloc (Nat.le_refl _) (.cells #[.slice tb L.length tc, .slice tb' 0 tc', .int .i64 0] 29))) (And.intro (Blk.more (Blk.far (Blk.far (Blk.far (Blk.far (Blk.far (R10.out) ⟨r, 0, none⟩ (.slice (some ⟨b8, 0, none⟩) Y.length c8) (by show w.heap.size + 1 ≠ r; omega)) ⟨r, 1, none⟩ (.int .i64 N3.fr) (by show w.heap.size + 1 ≠ r; omega)) ⟨r, 2, none⟩ (.slice tb L.length tc) (by show w.heap.size + 1 ≠ r; omega)) ⟨r, 3, none⟩ (.slice tb' 0 tc') (by show w.heap.size + 1 ≠ r; omega)) ⟨r, 4, none⟩ (.int .i64 0) (by show w.heap.size + 1 ≠ r; omega)) (.cells #[.slice tb L.length tc, .slice tb' 0 tc', .int .i64 0] 29)) (BC.out.alloc BC.out.size (.cells #[.slice tb L.length tc, .slice tb' 0 tc', .int .i64 0] 29))))
  have y0 : w10.cell? ⟨r, 0, none⟩ = some (.slice A4.a N3.sl.length A4.ac) := V10.out.cell 0
  have y1 : w10.cell? ⟨r, 1, none⟩ = some (.int .i64 N3.fr) := V10.out.cell 1
  have y2 : w10.cell? ⟨r, 2, none⟩ = some (.slice A4.c N3.ce.length A4.cc) := V10.out.cell 2
  have y3 : w10.cell? ⟨r, 3, none⟩ = some (.slice A4.o N3.od.length A4.oc) := V10.out.cell 3
  have y4 : w10.cell? ⟨r, 4, none⟩ = some (.int .i64 N3.mv) := V10.out.cell 4
  have yf : ∀ j, w10.frozen? ⟨r, j, none⟩ = false := fun j => V10.out.var.froz j
  have q0 : w10.cell? ⟨q, 0, none⟩ = some (.slice (some ⟨b8, 0, none⟩) Y.length c8) := Q10.out.cell 0
  have q1 : w10.cell? ⟨q, 1, none⟩ = some (.int .i64 N3.fr) := Q10.out.cell 1
  have qlt : q < w10.heap.size := Q10.out.lt
  have rlt : r < w10.heap.size := V10.out.var.lt
  have qne : q ≠ r := by omega
  clear VA T2 VC BC V10 R10 B10 Q10 O10 T10 hS7 hB7 VS9 hB9 hrn
  go_wp2_with fail
  generalize ((((((w10.setCell ⟨r, 0, none⟩ (.slice (some ⟨b8, 0, none⟩) Y.length c8)).setCell ⟨r, 1, none⟩ (.int .i64 N3.fr)).setCell ⟨r, 2, none⟩ (.slice tb L.length tc)).setCell ⟨r, 3, none⟩ (.slice tb' 0 tc')).setCell ⟨r, 4, none⟩ (.int .i64 0)).alloc (.cells #[.slice tb L.length tc, .slice tb' 0 tc', .int .i64 0] 29)) = w11 at FX ⊢
  obtain ⟨V11, R11, B11⟩ := FX.out
  rw [← HRN.out] at V11
  generalize ({ ({ A4 with a := some ⟨b8, 0, none⟩, ac := c8 } : NA) with c := tb, cc := tc, o := tb', oc := tc' } : NA) = A11 at V11
  have R11 := hide1 R11
  have B11 := hide1 B11
  clear FX y0 y1 y2 y3 y4 yf q0 q1
  refine (CT.out w11 r A11 V11).mono ?_
  rintro e w12 ⟨rfl, A12, hv12, hg12⟩
  have V12 := hide1 hv12
  have R12 := hide1 (gblk hg12 R11.out (fun e => by injection e; omega))
  have B12 := hide1 (B11.out.trans (gbelow hg12 (fun g e => by injection e; omega) B11.out.size))
  clear hv12 hg12 CT V11 R11 B11
  have CX := hide1 (fun w' A1 (hR : RdN w' A1 M) => copyS HEND.out hR)
  unfold neV at CX
  obtain ⟨_, v0, v1, v2, v3, v4, v5, v6, v7, v8, v9, v10, v11, v12, v13⟩ := nbox V12.out.var
  go_wp2_with fail
  refine (CX.out w12 A12 V12.out.own.rd).mono ?_
  rintro e wz ⟨Az, rfl, hoz, hbz⟩
  have Rz := hide1 (R12.out.below hbz R12.out.lt)
  have BW := hide1 (B12.out.trans (hbz.mono B12.out.size))
  have Oz := hide1 (hoz.base (B' := w.heap.size + 2) (by have := R12.out.lt; omega))
  clear hbz hoz CX v0 v1 v2 v3 v4 v5 v6 v7 v8 v9 v10 v11 v12 v13
  have u0 : wz.cell? ⟨w.heap.size + 1, 0, none⟩ = some (.slice none 0 0) := Rz.out.cell 0
  have u1 : wz.cell? ⟨w.heap.size + 1, 1, none⟩ = some (.int .i64 0) := Rz.out.cell 1
  have u2 : wz.cell? ⟨w.heap.size + 1, 2, none⟩ = some (.slice none 0 0) := Rz.out.cell 2
  have u3 : wz.cell? ⟨w.heap.size + 1, 3, none⟩ = some (.slice none 0 0) := Rz.out.cell 3
  have u4 : wz.cell? ⟨w.heap.size + 1, 4, none⟩ = some (.int .i64 0) := Rz.out.cell 4
  have u5 : wz.cell? ⟨w.heap.size + 1, 5, none⟩ = some (.int .i64 0) := Rz.out.cell 5
  have u6 : wz.cell? ⟨w.heap.size + 1, 6, none⟩ = some (.slice none 0 0) := Rz.out.cell 6
  have u7 : wz.cell? ⟨w.heap.size + 1, 7, none⟩ = some (.int .i64 0) := Rz.out.cell 7
  have u8 : wz.cell? ⟨w.heap.size + 1, 8, none⟩ = some (.slice none 0 0) := Rz.out.cell 8
  have u9 : wz.cell? ⟨w.heap.size + 1, 9, none⟩ = some (.int .i64 0) := Rz.out.cell 9
  have u10 : wz.cell? ⟨w.heap.size + 1, 10, none⟩ = some (.slice none 0 0) := Rz.out.cell 10
  have u11 : wz.cell? ⟨w.heap.size + 1, 11, none⟩ = some (.slice none 0 0) := Rz.out.cell 11
  have u12 : wz.cell? ⟨w.heap.size + 1, 12, none⟩ = some (.int .i64 0) := Rz.out.cell 12
  have u13 : wz.cell? ⟨w.heap.size + 1, 13, none⟩ = some (.int .i64 0) := Rz.out.cell 13
  have uf : ∀ j, wz.frozen? ⟨w.heap.size + 1, j, none⟩ = false := fun j => Rz.out.froz j
  have HH := hide1 (Blk.set (Blk.set (Blk.set (Blk.set (Blk.set (Blk.set (Blk.set (Blk.set (Blk.set (Blk.set (Blk.set (Blk.set (Blk.set (Blk.set (Rz.out) 0 (.slice Az.a M.sl.length Az.ac)) 1 (.int .i64 M.fr)) 2 (.slice Az.c M.ce.length Az.cc)) 3 (.slice Az.o M.od.length Az.oc)) 4 (.int .i64 M.mv)) 5 (.int .i64 M.wm)) 6 (.slice Az.w M.w.length Az.wc)) 7 (.int .i64 M.tm)) 8 (.slice Az.t M.t.length Az.tc)) 9 (.int .i64 M.sm)) 10 (.slice Az.s M.s.length Az.sc)) 11 (.slice Az.k M.sk.length Az.kc)) 12 (.int .i64 M.ad)) 13 (.int .i64 M.dr))
  have OX := hide1 (OwnN.put14 (s := w.heap.size + 1) Oz.out (by omega) (.slice Az.a M.sl.length Az.ac) (.int .i64 M.fr) (.slice Az.c M.ce.length Az.cc) (.slice Az.o M.od.length Az.oc) (.int .i64 M.mv) (.int .i64 M.wm) (.slice Az.w M.w.length Az.wc) (.int .i64 M.tm) (.slice Az.t M.t.length Az.tc) (.int .i64 M.sm) (.slice Az.s M.s.length Az.sc) (.slice Az.k M.sk.length Az.kc) (.int .i64 M.ad) (.int .i64 M.dr))
  have BX := hide1 (below_put14 (s := w.heap.size + 1) BW.out (by omega) (.slice Az.a M.sl.length Az.ac) (.int .i64 M.fr) (.slice Az.c M.ce.length Az.cc) (.slice Az.o M.od.length Az.oc) (.int .i64 M.mv) (.int .i64 M.wm) (.slice Az.w M.w.length Az.wc) (.int .i64 M.tm) (.slice Az.t M.t.length Az.tc) (.int .i64 M.sm) (.slice Az.s M.s.length Az.sc) (.slice Az.k M.sk.length Az.kc) (.int .i64 M.ad) (.int .i64 M.dr))
  go_wp2
  refine bodyPost_ret (resQ3 Tryz.results9 _ _ (w.heap.size + 1) 39 #[.slice Az.a M.sl.length Az.ac, .int .i64 M.fr, .slice Az.c M.ce.length Az.cc, .slice Az.o M.od.length Az.oc, .int .i64 M.mv, .int .i64 M.wm, .slice Az.w M.w.length Az.wc, .int .i64 M.tm, .slice Az.t M.t.length Az.tc, .int .i64 M.sm, .slice Az.s M.s.length Az.sc, .slice Az.k M.sk.length Az.kc, .int .i64 M.ad, .int .i64 M.dr] (0, 0) _ rfl HH.out Tryz.underlying39 rfl (by kernel_rfl)) rfl ?_
  exact ⟨Az, rfl, OX.out.base (by omega), BX.out⟩
end Go.Proofs.YtjgiobdpbbhekaaGreatDoor
namespace Go.Proofs.YtjgiobdpbbhekaaGreatDoor
open Go.RowKit
set_option linter.unusedVariables false

/-- What the arena and the table hold when the new entry is laid. -/
structure StpN (N P : Nr) (k gone : ByteArray) (K : List ByteArray) (f : Nat) : Prop where
  inT : InT P.sl P.fr P.ce K
  nd : K.Nodup
  mem : ∀ x, x ∈ K ↔ x ∈ keysN N ∧ x ≠ gone
  od : P.od = []
  mv : P.mv = 0
  len : K.length + 2 ≤ P.ce.length
  fr : P.fr = (f : Int)
  lt : f < P.sl.length
  sm : SmN P
theorem InN.stp {N Q : Nr} {k gone : ByteArray} (h : InN N) (hn : ¬ k ∈ keysN N) (q : KepQ N Q k gone) : ∃ K f, StpN N (if gone = ⟨#[]⟩ then Q else liftN Q gone) k gone K f := by
  have step : ∃ (P : Nr) (K : List ByteArray), (if gone = ⟨#[]⟩ then Q else liftN Q gone) = P ∧ InT P.sl P.fr P.ce K ∧ K.Nodup ∧ (∀ x, x ∈ K ↔ x ∈ keysN N ∧ x ≠ gone) ∧ P.w = Q.w ∧ P.t = Q.t ∧ P.s = Q.s ∧ P.od = N.od ∧ P.mv = N.mv ∧ P.sk = N.sk ∧ P.sl.length = N.sl.length ∧ P.ce.length = N.ce.length := by
    by_cases hg : gone = ⟨#[]⟩
    · rw [if_pos hg]
      have hx : ∀ x, x ∈ keysN N → x ≠ gone := fun x hx e => keyQ_ne (h.key hx) (by rw [e, hg])
      exact ⟨Q, keysN N, rfl, by rw [q.sl, q.fr, q.ce]; exact h.inT, h.nd, fun x => ⟨fun a => ⟨a, hx x a⟩, fun a => a.1⟩, rfl, rfl, rfl, q.od, q.mv, q.sk, by rw [q.sl], by rw [q.ce]⟩
    · rw [if_neg hg]
      have hgk : gone ∈ keysN N := by
        rcases q.was with e | e
        · exact absurd e hg
        · exact e
      obtain ⟨j, hj, hu, ej⟩ := h.inT.ent gone hgk
      have hQ : InT Q.sl Q.fr Q.ce (keysN N) := by rw [q.sl, q.fr, q.ce]; exact h.inT
      have hjQ : j < Q.sl.length := by rw [q.sl]; exact hj
      have huQ : Q.sl[j].used = true := by simp only [q.sl]; exact hu
      have ejQ : Q.sl[j].key = gone := by simp only [q.sl]; exact ej
      obtain ⟨L, e, hl, el⟩ := InN.liftN_eq hQ hjQ huQ
      rw [ejQ] at e el
      have hmem : ∀ x, x ∈ wthQ (keysN N) gone ↔ x ∈ keysN N ∧ x ≠ Q.sl[j].key := fun x => by rw [wthQ_mem, ejQ]
      rw [el]
      exact ⟨_, wthQ (keysN N) gone, rfl, hQ.lift hjQ huQ (by rw [ejQ]; exact e) hmem, wthQ_nodup h.nd, fun x => wthQ_mem _ _ _, rfl, rfl, rfl, q.od, q.mv, q.sk, by dsimp only; rw [List.length_set, q.sl], by dsimp only; rw [hl, q.ce]⟩
  obtain ⟨P, K, eP, hT, hKn, hKm, p1, p2, p3, p4, p5, p6, p12, p13⟩ := step
  rw [eP]
  have hkK : ¬ k ∈ K := fun e => hn ((hKm k).1 e).1
  have hsum := h.sum
  have hmQ : ∀ x, x ∈ keysN Q ↔ x = k ∨ x ∈ K := fun x => by
    rw [q.mem, hKm]
    constructor
    · rintro ⟨rfl | a, b⟩
      · exact .inl rfl
      · exact .inr ⟨a, b⟩
    · rintro (rfl | ⟨a, b⟩)
      · exact ⟨.inl rfl, fun e => q.ne e.symm⟩
      · exact ⟨.inr a, b⟩
  have hlen : K.length + 1 = (keysN Q).length := by
    have := nodup_eqlen (List.nodup_cons.2 ⟨hkK, hKn⟩) q.nd (fun x => by rw [List.mem_cons, hmQ])
    simpa using this
  have hful : (keysN Q).length ≤ N.sl.length := by
    have h1 := q.qw.2.2.1
    have h2 := q.qt.2.2.1
    have h3 := q.qs.2.2.1
    unfold keysN
    rw [List.length_append, List.length_append]
    omega
  have hmost := h.inT.ar.most
  have hcells := cells_more hmost
  rw [← h.len, ← p13] at hcells
  obtain ⟨f, hf, hfl⟩ := hT.room hKn (by omega)
  have hs := h.small
  have s1 := q.qw.small
  have s2 := q.qt.small
  have s3 := q.qs.small
  have t2 := h.two
  exact ⟨K, f, hT, hKn, hKm, by rw [p4]; exact h.od, by rw [p5]; exact h.mv, by omega, hf, hfl, ⟨by have := hs.fa; omega, by have := hs.fc; omega, by rw [p4]; exact hs.fo, by rw [p1]; omega, by rw [p2]; omega, by rw [p3]; omega, by rw [p6]; exact hs.fk⟩⟩

set_option maxRecDepth 100000 in
set_option maxHeartbeats 4000000 in
theorem keepSN1 {w : World} {A : NA} {N : Nr} (h : InN N) (hA : RdN w A N) (k v : ByteArray) (hk : keyQ k) (hv : v.size ≤ 20) (hnin : ¬ k ∈ keysN N) (hlf : (k :: (cnN N k).w).getD (cnN N k).wm.toNat ⟨#[]⟩ = ⟨#[]⟩) :
    Calls Tryz.prog 9 #[neV A N, .string k, .string v] w fun e w' => ∃ A', e = .returned (.tuple #[neV A' (layN (if (kepQ (cnN N k) k).2 = ⟨#[]⟩ then (kepQ (cnN N k) k).1 else liftN (kepQ (cnN N k) k).1 (kepQ (cnN N k) k).2) k v), .string (kepQ (cnN N k) k).2, .bool true]) ∧ OwnN w' w.heap.size A' (layN (if (kepQ (cnN N k) k).2 = ⟨#[]⟩ then (kepQ (cnN N k) k).1 else liftN (kepQ (cnN N k) k).1 (kepQ (cnN N k) k).2) k v) ∧ Below w.heap.size w w' := by
  have hl := h.small
  have F0 := hide1 (blkN2 w #[.slice A.a N.sl.length A.ac, .int .i64 N.fr, .slice A.c N.ce.length A.cc, .slice A.o N.od.length A.oc, .int .i64 N.mv, .int .i64 N.wm, .slice A.w N.w.length A.wc, .int .i64 N.tm, .slice A.t N.t.length A.tc, .int .i64 N.sm, .slice A.s N.s.length A.sc, .slice A.k N.sk.length A.kc, .int .i64 N.ad, .int .i64 N.dr] #[.slice none 0 0, .int .i64 0, .slice none 0 0, .slice none 0 0, .int .i64 0, .int .i64 0, .slice none 0 0, .int .i64 0, .slice none 0 0, .int .i64 0, .slice none 0 0, .slice none 0 0, .int .i64 0, .int .i64 0] 39 39)
  have C2 := hide1 (fun w' (hb : Below w.heap.size w w') => nearOkS h (hA.later hb))
  have C1 := hide1 (fun w' (hb : Below w.heap.size w w') => copyS h (hA.later hb))
  have C3 := hide1 (fun w' r A1 (V : VaN w' r (w.heap.size + 2) A1 N) => specCnt_any V hl k (by have := hk.2; omega))
  have CI : Hid (∀ w', Calls Tryz.prog 37 #[.int .i64 (k.size : Int), .int .i64 1, .int .i64 12] w' fun e w'' => e = .returned (.bool true) ∧ w'' = w') := by
    show ∀ w', _
    intro w'
    refine (in_any (k.size : Int) 1 12 w').mono ?_
    rintro e w'' ⟨rfl, hw⟩
    exact ⟨by rw [show (decide ((1 : Int) ≤ (k.size : Int)) && decide ((k.size : Int) ≤ 12)) = true by have := hk.1; have := hk.2; simp; omega], hw.symm⟩
  unfold neV at C1 C2
  have HC := hide1 (h.cn k)
  have HKq := hide1 hk
  have hks : (k.size : Int) ≤ 12 := by have := hk.2; omega
  have hvs : (v.size : Int) ≤ 20 := by omega
  have hn3 : ¬ k ∈ keysN (cnN N k) := by rw [cnN_keys]; exact hnin
  have hq := (h.cn k).kep hk hn3
  have HEND := hide1 ((h.cn k).lay hk hv hn3 hq).ok
  obtain ⟨K, f, st⟩ := (h.cn k).stp hn3 hq
  have hk0 := keyQ_toList hk
  have hkK : ¬ k ∈ K := fun e => hn3 ((st.mem k).1 e).1
  have hP : PshQ (cnN N k).w (cnN N k).wm k := ⟨(h.cn k).qw, hk, fun e => hn3 (InN.mem.2 (.inl e)), by have := (h.cn k).sum; omega⟩
  have hPR := pshR_yes hP
  have hPok := hP.ok
  have hkq : kepQ (cnN N k) k = ({ cnN N k with w := (k :: (cnN N k).w).take (cnN N k).wm.toNat }, ⟨#[]⟩) := by unfold kepQ; rw [if_pos hlf]
  rw [hlf] at hPR
  generalize hlfg : (k :: (cnN N k).w).getD (cnN N k).wm.toNat ⟨#[]⟩ = lf at *
  generalize hLg : (k :: (cnN N k).w).take (cnN N k).wm.toNat = L at *
  generalize hN3 : cnN N k = N3 at *
  have hl3 := HC.out.small
  have hLs : L.length ≤ 24 := by rw [← hLg, List.length_take]; have := HC.out.qw.2.1; have := HC.out.qw.1; omega
  have C4 := hide1 (fun w' r A1 (V : VaN w' r (w.heap.size + 2) A1 N3) => specSeek_no A1.c A1.o N3.ce N3.od A1.cc A1.oc N3.mv k w' hl3.fc hl3.fo (by have := HKq.out.2; omega) V.own.rd.fc V.own.rd.fo (HC.out.noSeek hn3))
  have C5 := hide1 (fun w' r A1 (V : VaN w' r (w.heap.size + 2) A1 N3) => specPush_own A1.w N3.w A1.wc N3.wm k w' hl3.fw V.own.rd.fw hPR)
  rw [hkq] at st HEND hq ⊢
  dsimp only at st HEND hq ⊢
  rw [if_pos rfl] at st HEND ⊢
  have CL := hide1 (fun w' r A1 (V : VaN w' r (w.heap.size + 2) A1 { N3 with w := L }) => specLyN_any V st.sm st.inT st.od st.mv st.nd st.len st.fr st.lt k v HKq.out hk0 hkK hv)
  generalize layN { N3 with w := L } k v = M at *
  clear hlf st hq hkq hP hPR hPok hn3 hnin hk0 hkK hl3 hN3 hLg hlfg hA hl h hk hv
  unfold neV
  go_enter Tryz.func9, Tryz.ntmps9
  go_wp2_with fail
  generalize ((w.alloc (.cells #[.slice A.a N.sl.length A.ac, .int .i64 N.fr, .slice A.c N.ce.length A.cc, .slice A.o N.od.length A.oc, .int .i64 N.mv, .int .i64 N.wm, .slice A.w N.w.length A.wc, .int .i64 N.tm, .slice A.t N.t.length A.tc, .int .i64 N.sm, .slice A.s N.s.length A.sc, .slice A.k N.sk.length A.kc, .int .i64 N.ad, .int .i64 N.dr] 39)).alloc (.cells #[.slice none 0 0, .int .i64 0, .slice none 0 0, .slice none 0 0, .int .i64 0, .int .i64 0, .slice none 0 0, .int .i64 0, .slice none 0 0, .int .i64 0, .slice none 0 0, .slice none 0 0, .int .i64 0, .int .i64 0] 39)) = w0 at F0 ⊢
  obtain ⟨P0, R0, B0⟩ := F0.out
  have P0 := hide1 P0
  have R0 := hide1 R0
  have B0 := hide1 B0
  have sz0 : w.heap.size + 2 ≤ w0.heap.size := by have := R0.out.lt; omega
  clear F0
  refine (C2.out w0 B0.out).mono ?_
  rintro e w1 ⟨rfl, hb1⟩
  have P1 := hide1 (P0.out.below hb1 P0.out.lt)
  have R1 := hide1 (R0.out.below hb1 R0.out.lt)
  have B1 := hide1 (B0.out.trans (hb1.mono B0.out.size))
  have z1 : w0.heap.size ≤ w1.heap.size := hb1.size
  clear hb1 C2 P0 R0 B0
  go_wp2_with fail
  refine (CI.out _).mono ?_
  rintro e w1' ⟨rfl, hw1⟩
  have hw1 := hw1.symm
  subst hw1
  clear CI
  obtain ⟨_, v0, v1, v2, v3, v4, v5, v6, v7, v8, v9, v10, v11, v12, v13⟩ := nbox P1.out
  go_wp2_with fail
  refine (C1.out w1 B1.out).mono ?_
  rintro e w2 ⟨A2, rfl, ho2, hb2⟩
  have R2 := hide1 (R1.out.below hb2 R1.out.lt)
  have B2 := hide1 (B1.out.trans (hb2.mono B1.out.size))
  have z2 : w1.heap.size ≤ w2.heap.size := hb2.size
  have VX : Hid (VaN (w2.alloc (.cells #[.slice A2.a N.sl.length A2.ac, .int .i64 N.fr, .slice A2.c N.ce.length A2.cc, .slice A2.o N.od.length A2.oc, .int .i64 N.mv, .int .i64 N.wm, .slice A2.w N.w.length A2.wc, .int .i64 N.tm, .slice A2.t N.t.length A2.tc, .int .i64 N.sm, .slice A2.s N.s.length A2.sc, .slice A2.k N.sk.length A2.kc, .int .i64 N.ad, .int .i64 N.dr] 39)) w2.heap.size (w.heap.size + 2) A2 N ∧ Below w2.heap.size w2 (w2.alloc (.cells #[.slice A2.a N.sl.length A2.ac, .int .i64 N.fr, .slice A2.c N.ce.length A2.cc, .slice A2.o N.od.length A2.oc, .int .i64 N.mv, .int .i64 N.wm, .slice A2.w N.w.length A2.wc, .int .i64 N.tm, .slice A2.t N.t.length A2.tc, .int .i64 N.sm, .slice A2.s N.s.length A2.sc, .slice A2.k N.sk.length A2.kc, .int .i64 N.ad, .int .i64 N.dr] 39))) :=
    ⟨VaN.box (S := w1.heap.size) ho2 (by omega) z2 (Blk.new w2 39 _) ((Below.refl _ _).alloc (Nat.le_refl _) _), (Below.refl _ _).alloc (Nat.le_refl _) _⟩
  clear hb2 ho2 C1 P1 R1 B1 v0 v1 v2 v3 v4 v5 v6 v7 v8 v9 v10 v11 v12 v13
  go_wp2_with fail
  generalize (w2.alloc (.cells #[.slice A2.a N.sl.length A2.ac, .int .i64 N.fr, .slice A2.c N.ce.length A2.cc, .slice A2.o N.od.length A2.oc, .int .i64 N.mv, .int .i64 N.wm, .slice A2.w N.w.length A2.wc, .int .i64 N.tm, .slice A2.t N.t.length A2.tc, .int .i64 N.sm, .slice A2.s N.s.length A2.sc, .slice A2.k N.sk.length A2.kc, .int .i64 N.ad, .int .i64 N.dr] 39)) = w3 at VX ⊢
  obtain ⟨V3, b23⟩ := VX.out
  have V3 := hide1 V3
  have R3 := hide1 (R2.out.below b23 R2.out.lt)
  have B3 := hide1 (B2.out.trans (b23.mono B2.out.size))
  have hr : w.heap.size + 1 < w2.heap.size := by omega
  clear b23 VX R2 B2
  generalize w2.heap.size = r at *
  refine (C3.out w3 r A2 V3.out).mono ?_
  rintro e w4 ⟨rfl, A4, hv4, hg4⟩
  have V4 := hide1 hv4
  have R4 := hide1 (gblk hg4 R3.out (fun e => by injection e; omega))
  have B4 := hide1 (B3.out.trans (gbelow hg4 (fun g e => by injection e; omega) B3.out.size))
  clear hv4 hg4 C3 V3 R3 B3
  have x2 : w4.cell? ⟨r, 2, none⟩ = some (.slice A4.c N3.ce.length A4.cc) := V4.out.cell 2
  have x3 : w4.cell? ⟨r, 3, none⟩ = some (.slice A4.o N3.od.length A4.oc) := V4.out.cell 3
  have x4 : w4.cell? ⟨r, 4, none⟩ = some (.int .i64 N3.mv) := V4.out.cell 4
  go_wp2_with fail
  refine (C4.out w4 r A4 V4.out).mono ?_
  rintro e w5 ⟨rfl, hb5⟩
  have V5 := hide1 (V4.out.later hb5)
  have R5 := hide1 (R4.out.below hb5 R4.out.lt)
  have B5 := hide1 (B4.out.trans (hb5.mono B4.out.size))
  clear hb5 C4 V4 R4 B4 x2 x3 x4
  have x5 : w5.cell? ⟨r, 5, none⟩ = some (.int .i64 N3.wm) := V5.out.cell 5
  have x6 : w5.cell? ⟨r, 6, none⟩ = some (.slice A4.w N3.w.length A4.wc) := V5.out.cell 6
  go_wp2_with fail
  refine (C5.out w5 r A4 V5.out).mono ?_
  rintro e w6 ⟨po, pc, rfl, ho6, hb6⟩
  have V6 := hide1 (V5.out.later hb6)
  have R6 := hide1 (R5.out.below hb6 R5.out.lt)
  have B6 := hide1 (B5.out.trans (hb6.mono B5.out.size))
  have VP := hide1 (V6.out.putW (m := N3.wm) ho6 (V5.out.own.below_of (Nat.le_refl _)) V5.out.le)
  have BP := hide1 ((B6.out.setCell (p := ⟨r, 5, none⟩) (by show w.heap.size ≤ r; omega) (.int .i64 N3.wm)).setCell (p := ⟨r, 6, none⟩) (by show w.heap.size ≤ r; omega) (.slice po L.length pc))
  have FX := hide1 (And.intro (VP.out.later ((Below.refl _ _).alloc (Nat.le_refl _) (.cells #[.int .i64 N3.wm, .slice po L.length pc] 32))) (And.intro (Blk.more (Blk.far (Blk.far R6.out ⟨r, 5, none⟩ (.int .i64 N3.wm) (by show w.heap.size + 1 ≠ r; omega)) ⟨r, 6, none⟩ (.slice po L.length pc) (by show w.heap.size + 1 ≠ r; omega)) (.cells #[.int .i64 N3.wm, .slice po L.length pc] 32)) (BP.out.alloc BP.out.size (.cells #[.int .i64 N3.wm, .slice po L.length pc] 32))))
  have y5 : w6.cell? ⟨r, 5, none⟩ = some (.int .i64 N3.wm) := V6.out.cell 5
  have y6 : w6.cell? ⟨r, 6, none⟩ = some (.slice A4.w N3.w.length A4.wc) := V6.out.cell 6
  have yf : ∀ j, w6.frozen? ⟨r, j, none⟩ = false := fun j => V6.out.var.froz j
  have rlt : r < w6.heap.size := V6.out.var.lt
  clear hb6 ho6 C5 V5 R5 B5 x5 x6 VP BP V6 R6 B6
  go_wp2_with fail
  generalize (((w6.setCell ⟨r, 5, none⟩ (.int .i64 N3.wm)).setCell ⟨r, 6, none⟩ (.slice po L.length pc)).alloc (.cells #[.int .i64 N3.wm, .slice po L.length pc] 32)) = w7 at FX ⊢
  obtain ⟨V7, R7, B7⟩ := FX.out
  have V7 : Hid (VaN w7 r (w.heap.size + 2) { A4 with w := po, wc := pc } { N3 with w := L }) := V7
  have R7 := hide1 R7
  have B7 := hide1 B7
  clear FX y5 y6 yf rlt
  generalize ({ A4 with w := po, wc := pc } : NA) = A7 at V7
  refine (CL.out w7 r A7 V7.out).mono ?_
  rintro e w8 ⟨rfl, A8, hv8, hg8⟩
  have V8 := hide1 hv8
  have R8 := hide1 (gblk hg8 R7.out (fun e => by injection e; omega))
  have B8 := hide1 (B7.out.trans (gbelow hg8 (fun g e => by injection e; omega) B7.out.size))
  clear hv8 hg8 CL V7 R7 B7
  have CX := hide1 (fun w' A1 (hR : RdN w' A1 M) => copyS HEND.out hR)
  unfold neV at CX
  obtain ⟨_, v0, v1, v2, v3, v4, v5, v6, v7, v8, v9, v10, v11, v12, v13⟩ := nbox V8.out.var
  go_wp2_with fail
  refine (CX.out w8 A8 V8.out.own.rd).mono ?_
  rintro e wz ⟨Az, rfl, hoz, hbz⟩
  have Rz := hide1 (R8.out.below hbz R8.out.lt)
  have BW := hide1 (B8.out.trans (hbz.mono B8.out.size))
  have Oz := hide1 (hoz.base (B' := w.heap.size + 2) (by have := R8.out.lt; omega))
  clear hbz hoz CX v0 v1 v2 v3 v4 v5 v6 v7 v8 v9 v10 v11 v12 v13
  have u0 : wz.cell? ⟨w.heap.size + 1, 0, none⟩ = some (.slice none 0 0) := Rz.out.cell 0
  have u1 : wz.cell? ⟨w.heap.size + 1, 1, none⟩ = some (.int .i64 0) := Rz.out.cell 1
  have u2 : wz.cell? ⟨w.heap.size + 1, 2, none⟩ = some (.slice none 0 0) := Rz.out.cell 2
  have u3 : wz.cell? ⟨w.heap.size + 1, 3, none⟩ = some (.slice none 0 0) := Rz.out.cell 3
  have u4 : wz.cell? ⟨w.heap.size + 1, 4, none⟩ = some (.int .i64 0) := Rz.out.cell 4
  have u5 : wz.cell? ⟨w.heap.size + 1, 5, none⟩ = some (.int .i64 0) := Rz.out.cell 5
  have u6 : wz.cell? ⟨w.heap.size + 1, 6, none⟩ = some (.slice none 0 0) := Rz.out.cell 6
  have u7 : wz.cell? ⟨w.heap.size + 1, 7, none⟩ = some (.int .i64 0) := Rz.out.cell 7
  have u8 : wz.cell? ⟨w.heap.size + 1, 8, none⟩ = some (.slice none 0 0) := Rz.out.cell 8
  have u9 : wz.cell? ⟨w.heap.size + 1, 9, none⟩ = some (.int .i64 0) := Rz.out.cell 9
  have u10 : wz.cell? ⟨w.heap.size + 1, 10, none⟩ = some (.slice none 0 0) := Rz.out.cell 10
  have u11 : wz.cell? ⟨w.heap.size + 1, 11, none⟩ = some (.slice none 0 0) := Rz.out.cell 11
  have u12 : wz.cell? ⟨w.heap.size + 1, 12, none⟩ = some (.int .i64 0) := Rz.out.cell 12
  have u13 : wz.cell? ⟨w.heap.size + 1, 13, none⟩ = some (.int .i64 0) := Rz.out.cell 13
  have uf : ∀ j, wz.frozen? ⟨w.heap.size + 1, j, none⟩ = false := fun j => Rz.out.froz j
  have HH := hide1 (Blk.set (Blk.set (Blk.set (Blk.set (Blk.set (Blk.set (Blk.set (Blk.set (Blk.set (Blk.set (Blk.set (Blk.set (Blk.set (Blk.set (Rz.out) 0 (.slice Az.a M.sl.length Az.ac)) 1 (.int .i64 M.fr)) 2 (.slice Az.c M.ce.length Az.cc)) 3 (.slice Az.o M.od.length Az.oc)) 4 (.int .i64 M.mv)) 5 (.int .i64 M.wm)) 6 (.slice Az.w M.w.length Az.wc)) 7 (.int .i64 M.tm)) 8 (.slice Az.t M.t.length Az.tc)) 9 (.int .i64 M.sm)) 10 (.slice Az.s M.s.length Az.sc)) 11 (.slice Az.k M.sk.length Az.kc)) 12 (.int .i64 M.ad)) 13 (.int .i64 M.dr))
  have OX := hide1 (OwnN.put14 (s := w.heap.size + 1) Oz.out (by omega) (.slice Az.a M.sl.length Az.ac) (.int .i64 M.fr) (.slice Az.c M.ce.length Az.cc) (.slice Az.o M.od.length Az.oc) (.int .i64 M.mv) (.int .i64 M.wm) (.slice Az.w M.w.length Az.wc) (.int .i64 M.tm) (.slice Az.t M.t.length Az.tc) (.int .i64 M.sm) (.slice Az.s M.s.length Az.sc) (.slice Az.k M.sk.length Az.kc) (.int .i64 M.ad) (.int .i64 M.dr))
  have BX := hide1 (below_put14 (s := w.heap.size + 1) BW.out (by omega) (.slice Az.a M.sl.length Az.ac) (.int .i64 M.fr) (.slice Az.c M.ce.length Az.cc) (.slice Az.o M.od.length Az.oc) (.int .i64 M.mv) (.int .i64 M.wm) (.slice Az.w M.w.length Az.wc) (.int .i64 M.tm) (.slice Az.t M.t.length Az.tc) (.int .i64 M.sm) (.slice Az.s M.s.length Az.sc) (.slice Az.k M.sk.length Az.kc) (.int .i64 M.ad) (.int .i64 M.dr))
  go_wp2
  refine bodyPost_ret (resQ3 Tryz.results9 _ _ (w.heap.size + 1) 39 #[.slice Az.a M.sl.length Az.ac, .int .i64 M.fr, .slice Az.c M.ce.length Az.cc, .slice Az.o M.od.length Az.oc, .int .i64 M.mv, .int .i64 M.wm, .slice Az.w M.w.length Az.wc, .int .i64 M.tm, .slice Az.t M.t.length Az.tc, .int .i64 M.sm, .slice Az.s M.s.length Az.sc, .slice Az.k M.sk.length Az.kc, .int .i64 M.ad, .int .i64 M.dr] (0, 0) _ rfl HH.out Tryz.underlying39 rfl (by kernel_rfl)) rfl ?_
  exact ⟨Az, rfl, OX.out.base (by omega), BX.out⟩

set_option maxRecDepth 100000 in
set_option maxHeartbeats 4000000 in
theorem keepSN2 {w : World} {A : NA} {N : Nr} (h : InN N) (hA : RdN w A N) (k v : ByteArray) (hk : keyQ k) (hv : v.size ≤ 20) (hnin : ¬ k ∈ keysN N) (hlf : ¬ (k :: (cnN N k).w).getD (cnN N k).wm.toNat ⟨#[]⟩ = ⟨#[]⟩) (hgo : (kepQ (cnN N k) k).2 = ⟨#[]⟩) :
    Calls Tryz.prog 9 #[neV A N, .string k, .string v] w fun e w' => ∃ A', e = .returned (.tuple #[neV A' (layN (if (kepQ (cnN N k) k).2 = ⟨#[]⟩ then (kepQ (cnN N k) k).1 else liftN (kepQ (cnN N k) k).1 (kepQ (cnN N k) k).2) k v), .string (kepQ (cnN N k) k).2, .bool true]) ∧ OwnN w' w.heap.size A' (layN (if (kepQ (cnN N k) k).2 = ⟨#[]⟩ then (kepQ (cnN N k) k).1 else liftN (kepQ (cnN N k) k).1 (kepQ (cnN N k) k).2) k v) ∧ Below w.heap.size w w' := by
  have hl := h.small
  have F0 := hide1 (blkN2 w #[.slice A.a N.sl.length A.ac, .int .i64 N.fr, .slice A.c N.ce.length A.cc, .slice A.o N.od.length A.oc, .int .i64 N.mv, .int .i64 N.wm, .slice A.w N.w.length A.wc, .int .i64 N.tm, .slice A.t N.t.length A.tc, .int .i64 N.sm, .slice A.s N.s.length A.sc, .slice A.k N.sk.length A.kc, .int .i64 N.ad, .int .i64 N.dr] #[.slice none 0 0, .int .i64 0, .slice none 0 0, .slice none 0 0, .int .i64 0, .int .i64 0, .slice none 0 0, .int .i64 0, .slice none 0 0, .int .i64 0, .slice none 0 0, .slice none 0 0, .int .i64 0, .int .i64 0] 39 39)
  have C2 := hide1 (fun w' (hb : Below w.heap.size w w') => nearOkS h (hA.later hb))
  have C1 := hide1 (fun w' (hb : Below w.heap.size w w') => copyS h (hA.later hb))
  have C3 := hide1 (fun w' r A1 (V : VaN w' r (w.heap.size + 2) A1 N) => specCnt_any V hl k (by have := hk.2; omega))
  have CI : Hid (∀ w', Calls Tryz.prog 37 #[.int .i64 (k.size : Int), .int .i64 1, .int .i64 12] w' fun e w'' => e = .returned (.bool true) ∧ w'' = w') := by
    show ∀ w', _
    intro w'
    refine (in_any (k.size : Int) 1 12 w').mono ?_
    rintro e w'' ⟨rfl, hw⟩
    exact ⟨by rw [show (decide ((1 : Int) ≤ (k.size : Int)) && decide ((k.size : Int) ≤ 12)) = true by have := hk.1; have := hk.2; simp; omega], hw.symm⟩
  unfold neV at C1 C2
  have HC := hide1 (h.cn k)
  have HKq := hide1 hk
  have hks : (k.size : Int) ≤ 12 := by have := hk.2; omega
  have hvs : (v.size : Int) ≤ 20 := by omega
  have hn3 : ¬ k ∈ keysN (cnN N k) := by rw [cnN_keys]; exact hnin
  have hq := (h.cn k).kep hk hn3
  have HEND := hide1 ((h.cn k).lay hk hv hn3 hq).ok
  obtain ⟨K, f, st⟩ := (h.cn k).stp hn3 hq
  have hk0 := keyQ_toList hk
  have hkK : ¬ k ∈ K := fun e => hn3 ((st.mem k).1 e).1
  have hP : PshQ (cnN N k).w (cnN N k).wm k := ⟨(h.cn k).qw, hk, fun e => hn3 (InN.mem.2 (.inl e)), by have := (h.cn k).sum; omega⟩
  have hPR := pshR_yes hP
  have hPok := hP.ok
  have hkq : kepQ (cnN N k) k = tryN { cnN N k with w := (k :: (cnN N k).w).take (cnN N k).wm.toNat } ((k :: (cnN N k).w).getD (cnN N k).wm.toNat ⟨#[]⟩) := by unfold kepQ; rw [if_neg hlf]
  have hlw : (k :: (cnN N k).w).getD (cnN N k).wm.toNat ⟨#[]⟩ ∈ (k :: (cnN N k).w) := by
    rw [List.getD_eq_getElem?_getD] at hlf ⊢
    cases e : (k :: (cnN N k).w)[(cnN N k).wm.toNat]? with
    | none => rw [e] at hlf; exact absurd rfl hlf
    | some x => rw [Option.getD_some]; exact List.mem_of_getElem? e
  have hlk : keyQ ((k :: (cnN N k).w).getD (cnN N k).wm.toNat ⟨#[]⟩) ∧ ¬ ((k :: (cnN N k).w).getD (cnN N k).wm.toNat ⟨#[]⟩) ∈ (cnN N k).t := by
    obtain ⟨_, _, _, d1, _, _⟩ := nodup3.1 (h.cn k).nd
    rcases List.mem_cons.1 hlw with e | e
    · rw [e]
      exact ⟨hk, fun e2 => hn3 (InN.mem.2 (.inr (.inl e2)))⟩
    · exact ⟨(h.cn k).qw.2.2.2.1 _ e, d1 _ e⟩
  generalize hlfg : (k :: (cnN N k).w).getD (cnN N k).wm.toNat ⟨#[]⟩ = lf at *
  generalize hLg : (k :: (cnN N k).w).take (cnN N k).wm.toNat = L at *
  generalize hN3 : cnN N k = N3 at *
  have hl3 := HC.out.small
  have hLs : L.length ≤ 24 := by rw [← hLg, List.length_take]; have := HC.out.qw.2.1; have := HC.out.qw.1; omega
  have C4 := hide1 (fun w' r A1 (V : VaN w' r (w.heap.size + 2) A1 N3) => specSeek_no A1.c A1.o N3.ce N3.od A1.cc A1.oc N3.mv k w' hl3.fc hl3.fo (by have := HKq.out.2; omega) V.own.rd.fc V.own.rd.fo (HC.out.noSeek hn3))
  have C5 := hide1 (fun w' r A1 (V : VaN w' r (w.heap.size + 2) A1 N3) => specPush_own A1.w N3.w A1.wc N3.wm k w' hl3.fw V.own.rd.fw hPR)
  have hsm7 : SmN { N3 with w := L } := ⟨hl3.fa, hl3.fc, hl3.fo, by dsimp only; omega, hl3.ft, hl3.fs, hl3.fk⟩
  have CY := hide1 (fun w' r A1 (V : VaN w' r (w.heap.size + 2) A1 { N3 with w := L }) => specTry_any V hsm7 lf HC.out.qt hlk.1 hlk.2)
  rw [← hkq] at CY
  generalize (kepQ N3 k).1 = Q at *
  generalize hgg : (kepQ N3 k).2 = gone at *
  rw [if_pos hgo] at st HEND ⊢
  have CL := hide1 (fun w' r A1 (V : VaN w' r (w.heap.size + 2) A1 Q) => specLyN_any V st.sm st.inT st.od st.mv st.nd st.len st.fr st.lt k v HKq.out hk0 hkK hv)
  generalize layN Q k v = M at *
  have qg : gone.toList.isEmpty = true := by rw [hgo, ByteArray.toList_eq]; rfl
  have ql : lf.toList.isEmpty = false := by cases e : lf.toList with | nil => exact absurd e (keyQ_toList hlk.1) | cons a b => rfl
  clear hlf st hq hkq hP hPR hPok hn3 hnin hk0 hkK hl3 hN3 hLg hlfg hA hl h hk hv hlw hlk hsm7 hgg hgo
  unfold neV
  go_enter Tryz.func9, Tryz.ntmps9
  go_wp2_with fail
  generalize ((w.alloc (.cells #[.slice A.a N.sl.length A.ac, .int .i64 N.fr, .slice A.c N.ce.length A.cc, .slice A.o N.od.length A.oc, .int .i64 N.mv, .int .i64 N.wm, .slice A.w N.w.length A.wc, .int .i64 N.tm, .slice A.t N.t.length A.tc, .int .i64 N.sm, .slice A.s N.s.length A.sc, .slice A.k N.sk.length A.kc, .int .i64 N.ad, .int .i64 N.dr] 39)).alloc (.cells #[.slice none 0 0, .int .i64 0, .slice none 0 0, .slice none 0 0, .int .i64 0, .int .i64 0, .slice none 0 0, .int .i64 0, .slice none 0 0, .int .i64 0, .slice none 0 0, .slice none 0 0, .int .i64 0, .int .i64 0] 39)) = w0 at F0 ⊢
  obtain ⟨P0, R0, B0⟩ := F0.out
  have P0 := hide1 P0
  have R0 := hide1 R0
  have B0 := hide1 B0
  have sz0 : w.heap.size + 2 ≤ w0.heap.size := by have := R0.out.lt; omega
  clear F0
  refine (C2.out w0 B0.out).mono ?_
  rintro e w1 ⟨rfl, hb1⟩
  have P1 := hide1 (P0.out.below hb1 P0.out.lt)
  have R1 := hide1 (R0.out.below hb1 R0.out.lt)
  have B1 := hide1 (B0.out.trans (hb1.mono B0.out.size))
  have z1 : w0.heap.size ≤ w1.heap.size := hb1.size
  clear hb1 C2 P0 R0 B0
  go_wp2_with fail
  refine (CI.out _).mono ?_
  rintro e w1' ⟨rfl, hw1⟩
  have hw1 := hw1.symm
  subst hw1
  clear CI
  obtain ⟨_, v0, v1, v2, v3, v4, v5, v6, v7, v8, v9, v10, v11, v12, v13⟩ := nbox P1.out
  go_wp2_with fail
  refine (C1.out w1 B1.out).mono ?_
  rintro e w2 ⟨A2, rfl, ho2, hb2⟩
  have R2 := hide1 (R1.out.below hb2 R1.out.lt)
  have B2 := hide1 (B1.out.trans (hb2.mono B1.out.size))
  have z2 : w1.heap.size ≤ w2.heap.size := hb2.size
  have VX : Hid (VaN (w2.alloc (.cells #[.slice A2.a N.sl.length A2.ac, .int .i64 N.fr, .slice A2.c N.ce.length A2.cc, .slice A2.o N.od.length A2.oc, .int .i64 N.mv, .int .i64 N.wm, .slice A2.w N.w.length A2.wc, .int .i64 N.tm, .slice A2.t N.t.length A2.tc, .int .i64 N.sm, .slice A2.s N.s.length A2.sc, .slice A2.k N.sk.length A2.kc, .int .i64 N.ad, .int .i64 N.dr] 39)) w2.heap.size (w.heap.size + 2) A2 N ∧ Below w2.heap.size w2 (w2.alloc (.cells #[.slice A2.a N.sl.length A2.ac, .int .i64 N.fr, .slice A2.c N.ce.length A2.cc, .slice A2.o N.od.length A2.oc, .int .i64 N.mv, .int .i64 N.wm, .slice A2.w N.w.length A2.wc, .int .i64 N.tm, .slice A2.t N.t.length A2.tc, .int .i64 N.sm, .slice A2.s N.s.length A2.sc, .slice A2.k N.sk.length A2.kc, .int .i64 N.ad, .int .i64 N.dr] 39))) :=
    ⟨VaN.box (S := w1.heap.size) ho2 (by omega) z2 (Blk.new w2 39 _) ((Below.refl _ _).alloc (Nat.le_refl _) _), (Below.refl _ _).alloc (Nat.le_refl _) _⟩
  clear hb2 ho2 C1 P1 R1 B1 v0 v1 v2 v3 v4 v5 v6 v7 v8 v9 v10 v11 v12 v13
  go_wp2_with fail
  generalize (w2.alloc (.cells #[.slice A2.a N.sl.length A2.ac, .int .i64 N.fr, .slice A2.c N.ce.length A2.cc, .slice A2.o N.od.length A2.oc, .int .i64 N.mv, .int .i64 N.wm, .slice A2.w N.w.length A2.wc, .int .i64 N.tm, .slice A2.t N.t.length A2.tc, .int .i64 N.sm, .slice A2.s N.s.length A2.sc, .slice A2.k N.sk.length A2.kc, .int .i64 N.ad, .int .i64 N.dr] 39)) = w3 at VX ⊢
  obtain ⟨V3, b23⟩ := VX.out
  have V3 := hide1 V3
  have R3 := hide1 (R2.out.below b23 R2.out.lt)
  have B3 := hide1 (B2.out.trans (b23.mono B2.out.size))
  have hr : w.heap.size + 1 < w2.heap.size := by omega
  clear b23 VX R2 B2
  generalize w2.heap.size = r at *
  refine (C3.out w3 r A2 V3.out).mono ?_
  rintro e w4 ⟨rfl, A4, hv4, hg4⟩
  have V4 := hide1 hv4
  have R4 := hide1 (gblk hg4 R3.out (fun e => by injection e; omega))
  have B4 := hide1 (B3.out.trans (gbelow hg4 (fun g e => by injection e; omega) B3.out.size))
  clear hv4 hg4 C3 V3 R3 B3
  have x2 : w4.cell? ⟨r, 2, none⟩ = some (.slice A4.c N3.ce.length A4.cc) := V4.out.cell 2
  have x3 : w4.cell? ⟨r, 3, none⟩ = some (.slice A4.o N3.od.length A4.oc) := V4.out.cell 3
  have x4 : w4.cell? ⟨r, 4, none⟩ = some (.int .i64 N3.mv) := V4.out.cell 4
  go_wp2_with fail
  refine (C4.out w4 r A4 V4.out).mono ?_
  rintro e w5 ⟨rfl, hb5⟩
  have V5 := hide1 (V4.out.later hb5)
  have R5 := hide1 (R4.out.below hb5 R4.out.lt)
  have B5 := hide1 (B4.out.trans (hb5.mono B4.out.size))
  clear hb5 C4 V4 R4 B4 x2 x3 x4
  have x5 : w5.cell? ⟨r, 5, none⟩ = some (.int .i64 N3.wm) := V5.out.cell 5
  have x6 : w5.cell? ⟨r, 6, none⟩ = some (.slice A4.w N3.w.length A4.wc) := V5.out.cell 6
  go_wp2_with fail
  refine (C5.out w5 r A4 V5.out).mono ?_
  rintro e w6 ⟨po, pc, rfl, ho6, hb6⟩
  have V6 := hide1 (V5.out.later hb6)
  have R6 := hide1 (R5.out.below hb6 R5.out.lt)
  have B6 := hide1 (B5.out.trans (hb6.mono B5.out.size))
  have VP := hide1 (V6.out.putW (m := N3.wm) ho6 (V5.out.own.below_of (Nat.le_refl _)) V5.out.le)
  have BP := hide1 ((B6.out.setCell (p := ⟨r, 5, none⟩) (by show w.heap.size ≤ r; omega) (.int .i64 N3.wm)).setCell (p := ⟨r, 6, none⟩) (by show w.heap.size ≤ r; omega) (.slice po L.length pc))
  have FX := hide1 (And.intro (VP.out.later ((Below.refl _ _).alloc (Nat.le_refl _) (.cells #[.int .i64 N3.wm, .slice po L.length pc] 32))) (And.intro (Blk.more (Blk.far (Blk.far R6.out ⟨r, 5, none⟩ (.int .i64 N3.wm) (by show w.heap.size + 1 ≠ r; omega)) ⟨r, 6, none⟩ (.slice po L.length pc) (by show w.heap.size + 1 ≠ r; omega)) (.cells #[.int .i64 N3.wm, .slice po L.length pc] 32)) (BP.out.alloc BP.out.size (.cells #[.int .i64 N3.wm, .slice po L.length pc] 32))))
  have y5 : w6.cell? ⟨r, 5, none⟩ = some (.int .i64 N3.wm) := V6.out.cell 5
  have y6 : w6.cell? ⟨r, 6, none⟩ = some (.slice A4.w N3.w.length A4.wc) := V6.out.cell 6
  have yf : ∀ j, w6.frozen? ⟨r, j, none⟩ = false := fun j => V6.out.var.froz j
  have rlt : r < w6.heap.size := V6.out.var.lt
  clear hb6 ho6 C5 V5 R5 B5 x5 x6 VP BP V6 R6 B6
  go_wp2_with fail
  generalize (((w6.setCell ⟨r, 5, none⟩ (.int .i64 N3.wm)).setCell ⟨r, 6, none⟩ (.slice po L.length pc)).alloc (.cells #[.int .i64 N3.wm, .slice po L.length pc] 32)) = w7 at FX ⊢
  obtain ⟨V7, R7, B7⟩ := FX.out
  have V7 : Hid (VaN w7 r (w.heap.size + 2) { A4 with w := po, wc := pc } { N3 with w := L }) := V7
  have R7 := hide1 R7
  have B7 := hide1 B7
  clear FX y5 y6 yf rlt
  generalize ({ A4 with w := po, wc := pc } : NA) = A7 at V7
  refine (CY.out w7 r A7 V7.out).mono ?_
  rintro e w8 ⟨rfl, A8, hv8, hg8⟩
  have V8 := hide1 hv8
  have R8 := hide1 (gblk hg8 R7.out (fun e => by injection e; omega))
  have B8 := hide1 (B7.out.trans (gbelow hg8 (fun g e => by injection e; omega) B7.out.size))
  clear hv8 hg8 CY V7 R7 B7
  go_wp2_with fail
  refine (CL.out w8 r A8 V8.out).mono ?_
  rintro e w9 ⟨rfl, A9, hv9, hg9⟩
  have V9 := hide1 hv9
  have R9 := hide1 (gblk hg9 R8.out (fun e => by injection e; omega))
  have B9 := hide1 (B8.out.trans (gbelow hg9 (fun g e => by injection e; omega) B8.out.size))
  clear hv9 hg9 CL V8 R8 B8
  have CX := hide1 (fun w' A1 (hR : RdN w' A1 M) => copyS HEND.out hR)
  unfold neV at CX
  obtain ⟨_, v0, v1, v2, v3, v4, v5, v6, v7, v8, v9, v10, v11, v12, v13⟩ := nbox V9.out.var
  go_wp2_with fail
  refine (CX.out w9 A9 V9.out.own.rd).mono ?_
  rintro e wz ⟨Az, rfl, hoz, hbz⟩
  have Rz := hide1 (R9.out.below hbz R9.out.lt)
  have BW := hide1 (B9.out.trans (hbz.mono B9.out.size))
  have Oz := hide1 (hoz.base (B' := w.heap.size + 2) (by have := R9.out.lt; omega))
  clear hbz hoz CX v0 v1 v2 v3 v4 v5 v6 v7 v8 v9 v10 v11 v12 v13
  have u0 : wz.cell? ⟨w.heap.size + 1, 0, none⟩ = some (.slice none 0 0) := Rz.out.cell 0
  have u1 : wz.cell? ⟨w.heap.size + 1, 1, none⟩ = some (.int .i64 0) := Rz.out.cell 1
  have u2 : wz.cell? ⟨w.heap.size + 1, 2, none⟩ = some (.slice none 0 0) := Rz.out.cell 2
  have u3 : wz.cell? ⟨w.heap.size + 1, 3, none⟩ = some (.slice none 0 0) := Rz.out.cell 3
  have u4 : wz.cell? ⟨w.heap.size + 1, 4, none⟩ = some (.int .i64 0) := Rz.out.cell 4
  have u5 : wz.cell? ⟨w.heap.size + 1, 5, none⟩ = some (.int .i64 0) := Rz.out.cell 5
  have u6 : wz.cell? ⟨w.heap.size + 1, 6, none⟩ = some (.slice none 0 0) := Rz.out.cell 6
  have u7 : wz.cell? ⟨w.heap.size + 1, 7, none⟩ = some (.int .i64 0) := Rz.out.cell 7
  have u8 : wz.cell? ⟨w.heap.size + 1, 8, none⟩ = some (.slice none 0 0) := Rz.out.cell 8
  have u9 : wz.cell? ⟨w.heap.size + 1, 9, none⟩ = some (.int .i64 0) := Rz.out.cell 9
  have u10 : wz.cell? ⟨w.heap.size + 1, 10, none⟩ = some (.slice none 0 0) := Rz.out.cell 10
  have u11 : wz.cell? ⟨w.heap.size + 1, 11, none⟩ = some (.slice none 0 0) := Rz.out.cell 11
  have u12 : wz.cell? ⟨w.heap.size + 1, 12, none⟩ = some (.int .i64 0) := Rz.out.cell 12
  have u13 : wz.cell? ⟨w.heap.size + 1, 13, none⟩ = some (.int .i64 0) := Rz.out.cell 13
  have uf : ∀ j, wz.frozen? ⟨w.heap.size + 1, j, none⟩ = false := fun j => Rz.out.froz j
  have HH := hide1 (Blk.set (Blk.set (Blk.set (Blk.set (Blk.set (Blk.set (Blk.set (Blk.set (Blk.set (Blk.set (Blk.set (Blk.set (Blk.set (Blk.set (Rz.out) 0 (.slice Az.a M.sl.length Az.ac)) 1 (.int .i64 M.fr)) 2 (.slice Az.c M.ce.length Az.cc)) 3 (.slice Az.o M.od.length Az.oc)) 4 (.int .i64 M.mv)) 5 (.int .i64 M.wm)) 6 (.slice Az.w M.w.length Az.wc)) 7 (.int .i64 M.tm)) 8 (.slice Az.t M.t.length Az.tc)) 9 (.int .i64 M.sm)) 10 (.slice Az.s M.s.length Az.sc)) 11 (.slice Az.k M.sk.length Az.kc)) 12 (.int .i64 M.ad)) 13 (.int .i64 M.dr))
  have OX := hide1 (OwnN.put14 (s := w.heap.size + 1) Oz.out (by omega) (.slice Az.a M.sl.length Az.ac) (.int .i64 M.fr) (.slice Az.c M.ce.length Az.cc) (.slice Az.o M.od.length Az.oc) (.int .i64 M.mv) (.int .i64 M.wm) (.slice Az.w M.w.length Az.wc) (.int .i64 M.tm) (.slice Az.t M.t.length Az.tc) (.int .i64 M.sm) (.slice Az.s M.s.length Az.sc) (.slice Az.k M.sk.length Az.kc) (.int .i64 M.ad) (.int .i64 M.dr))
  have BX := hide1 (below_put14 (s := w.heap.size + 1) BW.out (by omega) (.slice Az.a M.sl.length Az.ac) (.int .i64 M.fr) (.slice Az.c M.ce.length Az.cc) (.slice Az.o M.od.length Az.oc) (.int .i64 M.mv) (.int .i64 M.wm) (.slice Az.w M.w.length Az.wc) (.int .i64 M.tm) (.slice Az.t M.t.length Az.tc) (.int .i64 M.sm) (.slice Az.s M.s.length Az.sc) (.slice Az.k M.sk.length Az.kc) (.int .i64 M.ad) (.int .i64 M.dr))
  go_wp2
  refine bodyPost_ret (resQ3 Tryz.results9 _ _ (w.heap.size + 1) 39 #[.slice Az.a M.sl.length Az.ac, .int .i64 M.fr, .slice Az.c M.ce.length Az.cc, .slice Az.o M.od.length Az.oc, .int .i64 M.mv, .int .i64 M.wm, .slice Az.w M.w.length Az.wc, .int .i64 M.tm, .slice Az.t M.t.length Az.tc, .int .i64 M.sm, .slice Az.s M.s.length Az.sc, .slice Az.k M.sk.length Az.kc, .int .i64 M.ad, .int .i64 M.dr] (0, 0) _ rfl HH.out Tryz.underlying39 rfl (by kernel_rfl)) rfl ?_
  exact ⟨Az, rfl, OX.out.base (by omega), BX.out⟩

set_option maxRecDepth 100000 in
set_option maxHeartbeats 4000000 in
theorem keepSN3 {w : World} {A : NA} {N : Nr} (h : InN N) (hA : RdN w A N) (k v : ByteArray) (hk : keyQ k) (hv : v.size ≤ 20) (hnin : ¬ k ∈ keysN N) (hlf : ¬ (k :: (cnN N k).w).getD (cnN N k).wm.toNat ⟨#[]⟩ = ⟨#[]⟩) (hgo : ¬ (kepQ (cnN N k) k).2 = ⟨#[]⟩) :
    Calls Tryz.prog 9 #[neV A N, .string k, .string v] w fun e w' => ∃ A', e = .returned (.tuple #[neV A' (layN (if (kepQ (cnN N k) k).2 = ⟨#[]⟩ then (kepQ (cnN N k) k).1 else liftN (kepQ (cnN N k) k).1 (kepQ (cnN N k) k).2) k v), .string (kepQ (cnN N k) k).2, .bool true]) ∧ OwnN w' w.heap.size A' (layN (if (kepQ (cnN N k) k).2 = ⟨#[]⟩ then (kepQ (cnN N k) k).1 else liftN (kepQ (cnN N k) k).1 (kepQ (cnN N k) k).2) k v) ∧ Below w.heap.size w w' := by
  have hl := h.small
  have F0 := hide1 (blkN2 w #[.slice A.a N.sl.length A.ac, .int .i64 N.fr, .slice A.c N.ce.length A.cc, .slice A.o N.od.length A.oc, .int .i64 N.mv, .int .i64 N.wm, .slice A.w N.w.length A.wc, .int .i64 N.tm, .slice A.t N.t.length A.tc, .int .i64 N.sm, .slice A.s N.s.length A.sc, .slice A.k N.sk.length A.kc, .int .i64 N.ad, .int .i64 N.dr] #[.slice none 0 0, .int .i64 0, .slice none 0 0, .slice none 0 0, .int .i64 0, .int .i64 0, .slice none 0 0, .int .i64 0, .slice none 0 0, .int .i64 0, .slice none 0 0, .slice none 0 0, .int .i64 0, .int .i64 0] 39 39)
  have C2 := hide1 (fun w' (hb : Below w.heap.size w w') => nearOkS h (hA.later hb))
  have C1 := hide1 (fun w' (hb : Below w.heap.size w w') => copyS h (hA.later hb))
  have C3 := hide1 (fun w' r A1 (V : VaN w' r (w.heap.size + 2) A1 N) => specCnt_any V hl k (by have := hk.2; omega))
  have CI : Hid (∀ w', Calls Tryz.prog 37 #[.int .i64 (k.size : Int), .int .i64 1, .int .i64 12] w' fun e w'' => e = .returned (.bool true) ∧ w'' = w') := by
    show ∀ w', _
    intro w'
    refine (in_any (k.size : Int) 1 12 w').mono ?_
    rintro e w'' ⟨rfl, hw⟩
    exact ⟨by rw [show (decide ((1 : Int) ≤ (k.size : Int)) && decide ((k.size : Int) ≤ 12)) = true by have := hk.1; have := hk.2; simp; omega], hw.symm⟩
  unfold neV at C1 C2
  have HC := hide1 (h.cn k)
  have HKq := hide1 hk
  have hks : (k.size : Int) ≤ 12 := by have := hk.2; omega
  have hvs : (v.size : Int) ≤ 20 := by omega
  have hn3 : ¬ k ∈ keysN (cnN N k) := by rw [cnN_keys]; exact hnin
  have hq := (h.cn k).kep hk hn3
  have HEND := hide1 ((h.cn k).lay hk hv hn3 hq).ok
  obtain ⟨K, f, st⟩ := (h.cn k).stp hn3 hq
  have hk0 := keyQ_toList hk
  have hkK : ¬ k ∈ K := fun e => hn3 ((st.mem k).1 e).1
  have hP : PshQ (cnN N k).w (cnN N k).wm k := ⟨(h.cn k).qw, hk, fun e => hn3 (InN.mem.2 (.inl e)), by have := (h.cn k).sum; omega⟩
  have hPR := pshR_yes hP
  have hPok := hP.ok
  have hkq : kepQ (cnN N k) k = tryN { cnN N k with w := (k :: (cnN N k).w).take (cnN N k).wm.toNat } ((k :: (cnN N k).w).getD (cnN N k).wm.toNat ⟨#[]⟩) := by unfold kepQ; rw [if_neg hlf]
  have hlw : (k :: (cnN N k).w).getD (cnN N k).wm.toNat ⟨#[]⟩ ∈ (k :: (cnN N k).w) := by
    rw [List.getD_eq_getElem?_getD] at hlf ⊢
    cases e : (k :: (cnN N k).w)[(cnN N k).wm.toNat]? with
    | none => rw [e] at hlf; exact absurd rfl hlf
    | some x => rw [Option.getD_some]; exact List.mem_of_getElem? e
  have hlk : keyQ ((k :: (cnN N k).w).getD (cnN N k).wm.toNat ⟨#[]⟩) ∧ ¬ ((k :: (cnN N k).w).getD (cnN N k).wm.toNat ⟨#[]⟩) ∈ (cnN N k).t := by
    obtain ⟨_, _, _, d1, _, _⟩ := nodup3.1 (h.cn k).nd
    rcases List.mem_cons.1 hlw with e | e
    · rw [e]
      exact ⟨hk, fun e2 => hn3 (InN.mem.2 (.inr (.inl e2)))⟩
    · exact ⟨(h.cn k).qw.2.2.2.1 _ e, d1 _ e⟩
  generalize hlfg : (k :: (cnN N k).w).getD (cnN N k).wm.toNat ⟨#[]⟩ = lf at *
  generalize hLg : (k :: (cnN N k).w).take (cnN N k).wm.toNat = L at *
  generalize hN3 : cnN N k = N3 at *
  have hl3 := HC.out.small
  have hLs : L.length ≤ 24 := by rw [← hLg, List.length_take]; have := HC.out.qw.2.1; have := HC.out.qw.1; omega
  have C4 := hide1 (fun w' r A1 (V : VaN w' r (w.heap.size + 2) A1 N3) => specSeek_no A1.c A1.o N3.ce N3.od A1.cc A1.oc N3.mv k w' hl3.fc hl3.fo (by have := HKq.out.2; omega) V.own.rd.fc V.own.rd.fo (HC.out.noSeek hn3))
  have C5 := hide1 (fun w' r A1 (V : VaN w' r (w.heap.size + 2) A1 N3) => specPush_own A1.w N3.w A1.wc N3.wm k w' hl3.fw V.own.rd.fw hPR)
  have hsm7 : SmN { N3 with w := L } := ⟨hl3.fa, hl3.fc, hl3.fo, by dsimp only; omega, hl3.ft, hl3.fs, hl3.fk⟩
  have CY := hide1 (fun w' r A1 (V : VaN w' r (w.heap.size + 2) A1 { N3 with w := L }) => specTry_any V hsm7 lf HC.out.qt hlk.1 hlk.2)
  rw [← hkq] at CY
  generalize (kepQ N3 k).1 = Q at *
  generalize hgg : (kepQ N3 k).2 = gone at *
  rw [if_neg hgo] at st HEND ⊢
  have CL := hide1 (fun w' r A1 (V : VaN w' r (w.heap.size + 2) A1 (liftN Q gone)) => specLyN_any V st.sm st.inT st.od st.mv st.nd st.len st.fr st.lt k v HKq.out hk0 hkK hv)
  have hgk : gone ∈ keysN N3 := by
    rcases hq.was with e | e
    · exact absurd e hgo
    · exact e
  have hQT : InT Q.sl Q.fr Q.ce (keysN N3) := by rw [hq.sl, hq.fr, hq.ce]; exact HC.out.inT
  have hsQ : SmN Q := ⟨by rw [hq.sl]; exact hl3.fa, by rw [hq.ce]; exact hl3.fc, by rw [hq.od]; exact hl3.fo, by have := hq.qw.small; omega, by have := hq.qt.small; omega, by have := hq.qs.small; omega, by rw [hq.sk]; exact hl3.fk⟩
  have CF := hide1 (fun w' r A1 (V : VaN w' r (w.heap.size + 2) A1 Q) => specLft_any V hsQ hQT (by rw [hq.od]; exact HC.out.od) (by rw [hq.mv]; exact HC.out.mv) gone hgk)
  generalize layN (liftN Q gone) k v = M at *
  generalize liftN Q gone = P8 at *
  have qg : gone.toList.isEmpty = false := by cases e : gone.toList with | nil => exact absurd e (keyQ_toList (HC.out.key hgk)) | cons a b => rfl
  have ql : lf.toList.isEmpty = false := by cases e : lf.toList with | nil => exact absurd e (keyQ_toList hlk.1) | cons a b => rfl
  clear hlf st hq hkq hP hPR hPok hn3 hnin hk0 hkK hl3 hN3 hLg hlfg hA hl h hk hv hlw hlk hsm7 hgg hgo hgk hQT hsQ
  unfold neV
  go_enter Tryz.func9, Tryz.ntmps9
  go_wp2_with fail
  generalize ((w.alloc (.cells #[.slice A.a N.sl.length A.ac, .int .i64 N.fr, .slice A.c N.ce.length A.cc, .slice A.o N.od.length A.oc, .int .i64 N.mv, .int .i64 N.wm, .slice A.w N.w.length A.wc, .int .i64 N.tm, .slice A.t N.t.length A.tc, .int .i64 N.sm, .slice A.s N.s.length A.sc, .slice A.k N.sk.length A.kc, .int .i64 N.ad, .int .i64 N.dr] 39)).alloc (.cells #[.slice none 0 0, .int .i64 0, .slice none 0 0, .slice none 0 0, .int .i64 0, .int .i64 0, .slice none 0 0, .int .i64 0, .slice none 0 0, .int .i64 0, .slice none 0 0, .slice none 0 0, .int .i64 0, .int .i64 0] 39)) = w0 at F0 ⊢
  obtain ⟨P0, R0, B0⟩ := F0.out
  have P0 := hide1 P0
  have R0 := hide1 R0
  have B0 := hide1 B0
  have sz0 : w.heap.size + 2 ≤ w0.heap.size := by have := R0.out.lt; omega
  clear F0
  refine (C2.out w0 B0.out).mono ?_
  rintro e w1 ⟨rfl, hb1⟩
  have P1 := hide1 (P0.out.below hb1 P0.out.lt)
  have R1 := hide1 (R0.out.below hb1 R0.out.lt)
  have B1 := hide1 (B0.out.trans (hb1.mono B0.out.size))
  have z1 : w0.heap.size ≤ w1.heap.size := hb1.size
  clear hb1 C2 P0 R0 B0
  go_wp2_with fail
  refine (CI.out _).mono ?_
  rintro e w1' ⟨rfl, hw1⟩
  have hw1 := hw1.symm
  subst hw1
  clear CI
  obtain ⟨_, v0, v1, v2, v3, v4, v5, v6, v7, v8, v9, v10, v11, v12, v13⟩ := nbox P1.out
  go_wp2_with fail
  refine (C1.out w1 B1.out).mono ?_
  rintro e w2 ⟨A2, rfl, ho2, hb2⟩
  have R2 := hide1 (R1.out.below hb2 R1.out.lt)
  have B2 := hide1 (B1.out.trans (hb2.mono B1.out.size))
  have z2 : w1.heap.size ≤ w2.heap.size := hb2.size
  have VX : Hid (VaN (w2.alloc (.cells #[.slice A2.a N.sl.length A2.ac, .int .i64 N.fr, .slice A2.c N.ce.length A2.cc, .slice A2.o N.od.length A2.oc, .int .i64 N.mv, .int .i64 N.wm, .slice A2.w N.w.length A2.wc, .int .i64 N.tm, .slice A2.t N.t.length A2.tc, .int .i64 N.sm, .slice A2.s N.s.length A2.sc, .slice A2.k N.sk.length A2.kc, .int .i64 N.ad, .int .i64 N.dr] 39)) w2.heap.size (w.heap.size + 2) A2 N ∧ Below w2.heap.size w2 (w2.alloc (.cells #[.slice A2.a N.sl.length A2.ac, .int .i64 N.fr, .slice A2.c N.ce.length A2.cc, .slice A2.o N.od.length A2.oc, .int .i64 N.mv, .int .i64 N.wm, .slice A2.w N.w.length A2.wc, .int .i64 N.tm, .slice A2.t N.t.length A2.tc, .int .i64 N.sm, .slice A2.s N.s.length A2.sc, .slice A2.k N.sk.length A2.kc, .int .i64 N.ad, .int .i64 N.dr] 39))) :=
    ⟨VaN.box (S := w1.heap.size) ho2 (by omega) z2 (Blk.new w2 39 _) ((Below.refl _ _).alloc (Nat.le_refl _) _), (Below.refl _ _).alloc (Nat.le_refl _) _⟩
  clear hb2 ho2 C1 P1 R1 B1 v0 v1 v2 v3 v4 v5 v6 v7 v8 v9 v10 v11 v12 v13
  go_wp2_with fail
  generalize (w2.alloc (.cells #[.slice A2.a N.sl.length A2.ac, .int .i64 N.fr, .slice A2.c N.ce.length A2.cc, .slice A2.o N.od.length A2.oc, .int .i64 N.mv, .int .i64 N.wm, .slice A2.w N.w.length A2.wc, .int .i64 N.tm, .slice A2.t N.t.length A2.tc, .int .i64 N.sm, .slice A2.s N.s.length A2.sc, .slice A2.k N.sk.length A2.kc, .int .i64 N.ad, .int .i64 N.dr] 39)) = w3 at VX ⊢
  obtain ⟨V3, b23⟩ := VX.out
  have V3 := hide1 V3
  have R3 := hide1 (R2.out.below b23 R2.out.lt)
  have B3 := hide1 (B2.out.trans (b23.mono B2.out.size))
  have hr : w.heap.size + 1 < w2.heap.size := by omega
  clear b23 VX R2 B2
  generalize w2.heap.size = r at *
  refine (C3.out w3 r A2 V3.out).mono ?_
  rintro e w4 ⟨rfl, A4, hv4, hg4⟩
  have V4 := hide1 hv4
  have R4 := hide1 (gblk hg4 R3.out (fun e => by injection e; omega))
  have B4 := hide1 (B3.out.trans (gbelow hg4 (fun g e => by injection e; omega) B3.out.size))
  clear hv4 hg4 C3 V3 R3 B3
  have x2 : w4.cell? ⟨r, 2, none⟩ = some (.slice A4.c N3.ce.length A4.cc) := V4.out.cell 2
  have x3 : w4.cell? ⟨r, 3, none⟩ = some (.slice A4.o N3.od.length A4.oc) := V4.out.cell 3
  have x4 : w4.cell? ⟨r, 4, none⟩ = some (.int .i64 N3.mv) := V4.out.cell 4
  go_wp2_with fail
  refine (C4.out w4 r A4 V4.out).mono ?_
  rintro e w5 ⟨rfl, hb5⟩
  have V5 := hide1 (V4.out.later hb5)
  have R5 := hide1 (R4.out.below hb5 R4.out.lt)
  have B5 := hide1 (B4.out.trans (hb5.mono B4.out.size))
  clear hb5 C4 V4 R4 B4 x2 x3 x4
  have x5 : w5.cell? ⟨r, 5, none⟩ = some (.int .i64 N3.wm) := V5.out.cell 5
  have x6 : w5.cell? ⟨r, 6, none⟩ = some (.slice A4.w N3.w.length A4.wc) := V5.out.cell 6
  go_wp2_with fail
  refine (C5.out w5 r A4 V5.out).mono ?_
  rintro e w6 ⟨po, pc, rfl, ho6, hb6⟩
  have V6 := hide1 (V5.out.later hb6)
  have R6 := hide1 (R5.out.below hb6 R5.out.lt)
  have B6 := hide1 (B5.out.trans (hb6.mono B5.out.size))
  have VP := hide1 (V6.out.putW (m := N3.wm) ho6 (V5.out.own.below_of (Nat.le_refl _)) V5.out.le)
  have BP := hide1 ((B6.out.setCell (p := ⟨r, 5, none⟩) (by show w.heap.size ≤ r; omega) (.int .i64 N3.wm)).setCell (p := ⟨r, 6, none⟩) (by show w.heap.size ≤ r; omega) (.slice po L.length pc))
  have FX := hide1 (And.intro (VP.out.later ((Below.refl _ _).alloc (Nat.le_refl _) (.cells #[.int .i64 N3.wm, .slice po L.length pc] 32))) (And.intro (Blk.more (Blk.far (Blk.far R6.out ⟨r, 5, none⟩ (.int .i64 N3.wm) (by show w.heap.size + 1 ≠ r; omega)) ⟨r, 6, none⟩ (.slice po L.length pc) (by show w.heap.size + 1 ≠ r; omega)) (.cells #[.int .i64 N3.wm, .slice po L.length pc] 32)) (BP.out.alloc BP.out.size (.cells #[.int .i64 N3.wm, .slice po L.length pc] 32))))
  have y5 : w6.cell? ⟨r, 5, none⟩ = some (.int .i64 N3.wm) := V6.out.cell 5
  have y6 : w6.cell? ⟨r, 6, none⟩ = some (.slice A4.w N3.w.length A4.wc) := V6.out.cell 6
  have yf : ∀ j, w6.frozen? ⟨r, j, none⟩ = false := fun j => V6.out.var.froz j
  have rlt : r < w6.heap.size := V6.out.var.lt
  clear hb6 ho6 C5 V5 R5 B5 x5 x6 VP BP V6 R6 B6
  go_wp2_with fail
  generalize (((w6.setCell ⟨r, 5, none⟩ (.int .i64 N3.wm)).setCell ⟨r, 6, none⟩ (.slice po L.length pc)).alloc (.cells #[.int .i64 N3.wm, .slice po L.length pc] 32)) = w7 at FX ⊢
  obtain ⟨V7, R7, B7⟩ := FX.out
  have V7 : Hid (VaN w7 r (w.heap.size + 2) { A4 with w := po, wc := pc } { N3 with w := L }) := V7
  have R7 := hide1 R7
  have B7 := hide1 B7
  clear FX y5 y6 yf rlt
  generalize ({ A4 with w := po, wc := pc } : NA) = A7 at V7
  refine (CY.out w7 r A7 V7.out).mono ?_
  rintro e w8 ⟨rfl, A8, hv8, hg8⟩
  have V8 := hide1 hv8
  have R8 := hide1 (gblk hg8 R7.out (fun e => by injection e; omega))
  have B8 := hide1 (B7.out.trans (gbelow hg8 (fun g e => by injection e; omega) B7.out.size))
  clear hv8 hg8 CY V7 R7 B7
  go_wp2_with fail
  refine (CF.out w8 r A8 V8.out).mono ?_
  rintro e w9 ⟨rfl, A9, hv9, hg9⟩
  have V9 := hide1 hv9
  have R9 := hide1 (gblk hg9 R8.out (fun e => by injection e; omega))
  have B9 := hide1 (B8.out.trans (gbelow hg9 (fun g e => by injection e; omega) B8.out.size))
  clear hv9 hg9 CF V8 R8 B8
  go_wp2_with fail
  refine (CL.out w9 r A9 V9.out).mono ?_
  rintro e w10 ⟨rfl, A10, hv10, hg10⟩
  have V10 := hide1 hv10
  have R10 := hide1 (gblk hg10 R9.out (fun e => by injection e; omega))
  have B10 := hide1 (B9.out.trans (gbelow hg10 (fun g e => by injection e; omega) B9.out.size))
  clear hv10 hg10 CL V9 R9 B9
  have CX := hide1 (fun w' A1 (hR : RdN w' A1 M) => copyS HEND.out hR)
  unfold neV at CX
  obtain ⟨_, v0, v1, v2, v3, v4, v5, v6, v7, v8, v9, v10, v11, v12, v13⟩ := nbox V10.out.var
  go_wp2_with fail
  refine (CX.out w10 A10 V10.out.own.rd).mono ?_
  rintro e wz ⟨Az, rfl, hoz, hbz⟩
  have Rz := hide1 (R10.out.below hbz R10.out.lt)
  have BW := hide1 (B10.out.trans (hbz.mono B10.out.size))
  have Oz := hide1 (hoz.base (B' := w.heap.size + 2) (by have := R10.out.lt; omega))
  clear hbz hoz CX v0 v1 v2 v3 v4 v5 v6 v7 v8 v9 v10 v11 v12 v13
  have u0 : wz.cell? ⟨w.heap.size + 1, 0, none⟩ = some (.slice none 0 0) := Rz.out.cell 0
  have u1 : wz.cell? ⟨w.heap.size + 1, 1, none⟩ = some (.int .i64 0) := Rz.out.cell 1
  have u2 : wz.cell? ⟨w.heap.size + 1, 2, none⟩ = some (.slice none 0 0) := Rz.out.cell 2
  have u3 : wz.cell? ⟨w.heap.size + 1, 3, none⟩ = some (.slice none 0 0) := Rz.out.cell 3
  have u4 : wz.cell? ⟨w.heap.size + 1, 4, none⟩ = some (.int .i64 0) := Rz.out.cell 4
  have u5 : wz.cell? ⟨w.heap.size + 1, 5, none⟩ = some (.int .i64 0) := Rz.out.cell 5
  have u6 : wz.cell? ⟨w.heap.size + 1, 6, none⟩ = some (.slice none 0 0) := Rz.out.cell 6
  have u7 : wz.cell? ⟨w.heap.size + 1, 7, none⟩ = some (.int .i64 0) := Rz.out.cell 7
  have u8 : wz.cell? ⟨w.heap.size + 1, 8, none⟩ = some (.slice none 0 0) := Rz.out.cell 8
  have u9 : wz.cell? ⟨w.heap.size + 1, 9, none⟩ = some (.int .i64 0) := Rz.out.cell 9
  have u10 : wz.cell? ⟨w.heap.size + 1, 10, none⟩ = some (.slice none 0 0) := Rz.out.cell 10
  have u11 : wz.cell? ⟨w.heap.size + 1, 11, none⟩ = some (.slice none 0 0) := Rz.out.cell 11
  have u12 : wz.cell? ⟨w.heap.size + 1, 12, none⟩ = some (.int .i64 0) := Rz.out.cell 12
  have u13 : wz.cell? ⟨w.heap.size + 1, 13, none⟩ = some (.int .i64 0) := Rz.out.cell 13
  have uf : ∀ j, wz.frozen? ⟨w.heap.size + 1, j, none⟩ = false := fun j => Rz.out.froz j
  have HH := hide1 (Blk.set (Blk.set (Blk.set (Blk.set (Blk.set (Blk.set (Blk.set (Blk.set (Blk.set (Blk.set (Blk.set (Blk.set (Blk.set (Blk.set (Rz.out) 0 (.slice Az.a M.sl.length Az.ac)) 1 (.int .i64 M.fr)) 2 (.slice Az.c M.ce.length Az.cc)) 3 (.slice Az.o M.od.length Az.oc)) 4 (.int .i64 M.mv)) 5 (.int .i64 M.wm)) 6 (.slice Az.w M.w.length Az.wc)) 7 (.int .i64 M.tm)) 8 (.slice Az.t M.t.length Az.tc)) 9 (.int .i64 M.sm)) 10 (.slice Az.s M.s.length Az.sc)) 11 (.slice Az.k M.sk.length Az.kc)) 12 (.int .i64 M.ad)) 13 (.int .i64 M.dr))
  have OX := hide1 (OwnN.put14 (s := w.heap.size + 1) Oz.out (by omega) (.slice Az.a M.sl.length Az.ac) (.int .i64 M.fr) (.slice Az.c M.ce.length Az.cc) (.slice Az.o M.od.length Az.oc) (.int .i64 M.mv) (.int .i64 M.wm) (.slice Az.w M.w.length Az.wc) (.int .i64 M.tm) (.slice Az.t M.t.length Az.tc) (.int .i64 M.sm) (.slice Az.s M.s.length Az.sc) (.slice Az.k M.sk.length Az.kc) (.int .i64 M.ad) (.int .i64 M.dr))
  have BX := hide1 (below_put14 (s := w.heap.size + 1) BW.out (by omega) (.slice Az.a M.sl.length Az.ac) (.int .i64 M.fr) (.slice Az.c M.ce.length Az.cc) (.slice Az.o M.od.length Az.oc) (.int .i64 M.mv) (.int .i64 M.wm) (.slice Az.w M.w.length Az.wc) (.int .i64 M.tm) (.slice Az.t M.t.length Az.tc) (.int .i64 M.sm) (.slice Az.s M.s.length Az.sc) (.slice Az.k M.sk.length Az.kc) (.int .i64 M.ad) (.int .i64 M.dr))
  go_wp2
  refine bodyPost_ret (resQ3 Tryz.results9 _ _ (w.heap.size + 1) 39 #[.slice Az.a M.sl.length Az.ac, .int .i64 M.fr, .slice Az.c M.ce.length Az.cc, .slice Az.o M.od.length Az.oc, .int .i64 M.mv, .int .i64 M.wm, .slice Az.w M.w.length Az.wc, .int .i64 M.tm, .slice Az.t M.t.length Az.tc, .int .i64 M.sm, .slice Az.s M.s.length Az.sc, .slice Az.k M.sk.length Az.kc, .int .i64 M.ad, .int .i64 M.dr] (0, 0) _ rfl HH.out Tryz.underlying39 rfl (by kernel_rfl)) rfl ?_
  exact ⟨Az, rfl, OX.out.base (by omega), BX.out⟩

/-- KeepKey of right near entries, by the model. -/
theorem keepS {w : World} {A : NA} {N : Nr} (h : InN N) (hA : RdN w A N) (k v : ByteArray) (hk : keyQ k) (hv : v.size ≤ 20) :
    Calls Tryz.prog 9 #[neV A N, .string k, .string v] w fun e w' => ∃ A', e = .returned (.tuple #[neV A' (keepN N k v).1, .string (keepN N k v).2, .bool true]) ∧ OwnN w' w.heap.size A' (keepN N k v).1 ∧ Below w.heap.size w w' := by
  unfold keepN
  by_cases hin : hasQ (keysN N) k = true
  · rw [if_pos hin]
    exact keepSY h hA k v hk hv ((hasQ_iff _ _).1 hin)
  · rw [if_neg hin]
    have hn : ¬ k ∈ keysN N := fun e => hin ((hasQ_iff _ _).2 e)
    by_cases hlf : (k :: (cnN N k).w).getD (cnN N k).wm.toNat ⟨#[]⟩ = ⟨#[]⟩
    · exact keepSN1 h hA k v hk hv hn hlf
    · by_cases hgo : (kepQ (cnN N k) k).2 = ⟨#[]⟩
      · exact keepSN2 h hA k v hk hv hn hlf hgo
      · exact keepSN3 h hA k v hk hv hn hlf hgo
end Go.Proofs.YtjgiobdpbbhekaaGreatDoor
