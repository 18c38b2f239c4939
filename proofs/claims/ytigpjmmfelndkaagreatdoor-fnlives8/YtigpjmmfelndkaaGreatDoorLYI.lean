import Derived.Test.YtigpjmmfelndkaaGreatDoorLYG
namespace Go.Proofs.YtigpjmmfelndkaaGreatDoor
open Go.RowKit
set_option linter.unusedVariables false
set_option maxRecDepth 100000
set_option maxHeartbeats 4000000
theorem qqA {w : World} {r B f : Nat} {A : NA} {N : Nr} (h : VaN w r B A N) (hl : SmN N) (hok : OkT N.ce N.od N.mv) (har : OkA N.sl N.fr) (hfr : N.fr = (f : Int)) (hf : f < N.sl.length) (k v : ByteArray) (hk : qcV k) (hv : v.size <= 20) {L : List Ce} (hR : qcJ N.ce N.od N.mv k (24 * N.sl[f].gen + (f : Int)) = some (L, [], 0)) :
  Calls Tryz.prog 47 #[.pointer (some ⟨r, 0, none⟩), .string k, .string v] w fun e w' => e = .returned (.tuple #[]) /\ ∃ A', VaN w' r B A' { N with sl := N.sl.set f ⟨N.sl[f].gen, true, k, v, 0⟩, fr := N.sl[f].next, ce := L, od := [], mv := 0 } /\ w.grownBy w' (some r) := by
 have hh : 0 <= 24 * N.sl[f].gen + (f : Int) := by have := (har.slots f hf).1; omega
 have H := hI h
 have x0 : w.cell? ⟨r, 0, none⟩ = _ := cRn (h.cell 0) rfl
 have x1 : w.cell? ⟨r, 1, none⟩ = some (.int .i64 (f : Int)) := by rw [<- hfr]; exact h.cell 1
 have CL := hI (qhA A.a N.sl A.ac f k v w hl.fa h.own.rd.fa hf (by rw [<- hfr]; exact har) hk hv)
 have CP := hI (fun w' (hA : RdC w' A.c N.ce) (hA' : RdC w' A.o N.od) => qgX A.c A.o N.ce N.od A.cc A.oc N.mv k _ w' hl.fc hl.fo hk hA hA' hok hh hR)
 unfold tbV at CP
 unfold arV at CL
 have c0 := hl.fc
 have c0' := hl.fo
 clear h hok har hfr hk hv hR hh hl
 generalize N.sl.set f ⟨N.sl[f].gen, true, k, v, 0⟩ = X at *
 generalize 24 * N.sl[f].gen + (f : Int) = hd at *
 generalize N.sl[f].next = nx at *
 clear hf
 go_enter Tryz.func47, Tryz.ntmps47
 go_wp2_with fail
 refine CL.out.mono ?_
 rintro e w1 ⟨b1, c1, rfl, ho, hb1⟩
 have hS1 := hI (H.out.own.below_of (Nat.le_refl _))
 have hB1 := hI H.out.le
 have hr1 := H.out.var.lt
 have F : Hid (VaN (w1.alloc (.cells #[.slice (some ⟨b1, 0, none⟩) X.length c1, .int .i64 nx] 26)) r B A N /\ Blk (w1.alloc (.cells #[.slice (some ⟨b1, 0, none⟩) X.length c1, .int .i64 nx] 26)) w1.heap.size 26 [.slice (some ⟨b1, 0, none⟩) X.length c1, .int .i64 nx] /\ (w1.alloc (.cells #[.slice (some ⟨b1, 0, none⟩) X.length c1, .int .i64 nx] 26)).ownsRow w.heap.size 99 5 (.slice (some ⟨b1, 0, none⟩) X.length c1) X.length (sls X) /\ w.grownBy (w1.alloc (.cells #[.slice (some ⟨b1, 0, none⟩) X.length c1, .int .i64 nx] 26)) (some r)) :=
  ⟨(H.out.later hb1).later (bAl _ _), Blk.new w1 _ _, qaE ho (bAl _ _), qbO (hb1.alloc hb1.size _)⟩
 clear ho hb1 CL x0 x1 H
 go_upto_region 1 with fail
 generalize (w1.alloc (.cells #[.slice (some ⟨b1, 0, none⟩) X.length c1, .int .i64 nx] 26)) = W2 at F ⊢
 generalize w1.heap.size = Q1 at F ⊢
 have V2 := hI F.out.1
 have K2 := hI F.out.2.1
 have O2 := hI F.out.2.2.1
 have G2 := hI F.out.2.2.2
 clear F
 have x0 : W2.cell? ⟨r, 0, none⟩ = _ := cRn (V2.out.cell 0) rfl
 have x1 : W2.cell? ⟨r, 1, none⟩ = _ := cRn (V2.out.cell 1) rfl
 have z0 : W2.cell? ⟨Q1, 0, none⟩ = some (.slice (some ⟨b1, 0, none⟩) X.length c1) := K2.out.cell 0
 have z1 : W2.cell? ⟨Q1, 1, none⟩ = _ := cRn (K2.out.cell 1) rfl
 have xf : ∀ i, W2.frozen? ⟨r, i, none⟩ = false := fun i => V2.out.var.froz i
 have V3 := hI (V2.out.putA (f := nx) O2.out hS1.out hB1.out)
 have G3 := hI (qbF (qbF G2.out 0 (.slice (some ⟨b1, 0, none⟩) X.length c1)) 1 (.int .i64 nx))
 clear V2 K2 O2 G2
 go_upto_region 2 with fail
 generalize ((W2.setCell ⟨r, 0, none⟩ (.slice (some ⟨b1, 0, none⟩) X.length c1)).setCell ⟨r, 1, none⟩ (.int .i64 nx)) = W3 at V3 G3 ⊢
 clear x0 x1 z0 z1 xf hS1 hB1
 have x0 : W3.cell? ⟨r, 2, none⟩ = _ := cRn (V3.out.cell 2) rfl
 have x1 : W3.cell? ⟨r, 3, none⟩ = _ := cRn (V3.out.cell 3) rfl
 have x2 : W3.cell? ⟨r, 4, none⟩ = _ := cRn (V3.out.cell 4) rfl
 have hS3 := hI (V3.out.own.below_of (Nat.le_refl _))
 have hB3 := hI V3.out.le
 go_wp2_with fail
 refine (CP.out _ V3.out.own.rd.fc V3.out.own.rd.fo).mono ?_
 rintro e w4 ⟨b4, c4, b5, c5, rfl, ho, hb4⟩
 rw [List.length_nil]
 have F : Hid (VaN (w4.alloc (.cells #[.slice b4 L.length c4, .slice b5 0 c5, .int .i64 0] 29)) r B { A with a := some ⟨b1, 0, none⟩, ac := c1 } { N with sl := X, fr := nx } /\ Blk (w4.alloc (.cells #[.slice b4 L.length c4, .slice b5 0 c5, .int .i64 0] 29)) w4.heap.size 29 [.slice b4 L.length c4, .slice b5 0 c5, .int .i64 0] /\ Own2 (w4.alloc (.cells #[.slice b4 L.length c4, .slice b5 0 c5, .int .i64 0] 29)) W3.heap.size b4 c4 L b5 c5 [] /\ w.grownBy (w4.alloc (.cells #[.slice b4 L.length c4, .slice b5 0 c5, .int .i64 0] 29)) (some r)) :=
  ⟨(V3.out.later hb4).later (bAl _ _), Blk.new w4 _ _, ho.later (bAl _ _), qaK G3.out (qbO (hb4.alloc hb4.size _))⟩
 clear ho hb4 CP x0 x1 x2 V3 G3
 go_upto_region 6 with fail
 generalize (w4.alloc (.cells #[.slice b4 L.length c4, .slice b5 0 c5, .int .i64 0] 29)) = W5 at F ⊢
 generalize w4.heap.size = Q2 at F ⊢
 have V5 := hI F.out.1
 have K5 := hI F.out.2.1
 have O5 := hI F.out.2.2.1
 have G5 := hI F.out.2.2.2
 clear F
 have x0 : W5.cell? ⟨r, 2, none⟩ = _ := cRn (V5.out.cell 2) rfl
 have x1 : W5.cell? ⟨r, 3, none⟩ = _ := cRn (V5.out.cell 3) rfl
 have x2 : W5.cell? ⟨r, 4, none⟩ = _ := cRn (V5.out.cell 4) rfl
 have z0 : W5.cell? ⟨Q2, 0, none⟩ = _ := cRn (K5.out.cell 0) rfl
 have z1 : W5.cell? ⟨Q2, 1, none⟩ = _ := cRn (K5.out.cell 1) rfl
 have z2 : W5.cell? ⟨Q2, 2, none⟩ = _ := cRn (K5.out.cell 2) rfl
 have xf : ∀ i, W5.frozen? ⟨r, i, none⟩ = false := fun i => V5.out.var.froz i
 have VV := hI (V5.out.putC (m := 0) O5.out hS3.out hB3.out)
 clear V5 K5 O5
 go_wp2
 refine bodyPost_end (results_none Tryz.results47 _ _ _) rfl ?_
 exact ⟨rfl, ⟨_, VV.out⟩, qbF (qbF (qbF G5.out 2 _) 3 _) 4 _⟩
theorem qqB {w : World} {r B f : Nat} {A : NA} {N : Nr} (h : VaN w r B A N) (hl : SmN N) (hok : OkT N.ce N.od N.mv) (har : OkA N.sl N.fr) (hfr : N.fr = (f : Int)) (hf : f < N.sl.length) (k v : ByteArray) (hk : qcV k) (hv : v.size <= 20) {L : List Ce} {Y : List Ce} (hR : qcJ N.ce N.od N.mv k (24 * N.sl[f].gen + (f : Int)) = none) (hX : qbQ N.ce N.od = some (Y, [], 0)) (hokY : OkT Y [] 0) (hYl : Y.length <= 1048576) (hY : qcJ Y [] 0 k (24 * N.sl[f].gen + (f : Int)) = some (L, [], 0)) :
  Calls Tryz.prog 47 #[.pointer (some ⟨r, 0, none⟩), .string k, .string v] w fun e w' => e = .returned (.tuple #[]) /\ ∃ A', VaN w' r B A' { N with sl := N.sl.set f ⟨N.sl[f].gen, true, k, v, 0⟩, fr := N.sl[f].next, ce := L, od := [], mv := 0 } /\ w.grownBy w' (some r) := by
 have hh : 0 <= 24 * N.sl[f].gen + (f : Int) := by have := (har.slots f hf).1; omega
 have H := hI h
 have x0 : w.cell? ⟨r, 0, none⟩ = _ := cRn (h.cell 0) rfl
 have x1 : w.cell? ⟨r, 1, none⟩ = some (.int .i64 (f : Int)) := by rw [<- hfr]; exact h.cell 1
 have CL := hI (qhA A.a N.sl A.ac f k v w hl.fa h.own.rd.fa hf (by rw [<- hfr]; exact har) hk hv)
 have CP := hI (fun w' (hA : RdC w' A.c N.ce) (hA' : RdC w' A.o N.od) => qvL A.c A.o N.ce N.od A.cc A.oc N.mv k _ w' hl.fc hl.fo hk hA hA' hR)
 have CC := hI (fun w' (hA : RdC w' A.c N.ce) (hA' : RdC w' A.o N.od) => qnV A.c A.o N.ce N.od A.cc A.oc N.mv w' hl.fc hl.fo hA hA' hok hX)
 have CQ := hI (fun w' ao ca a' ca' (hA : RdC w' ao Y) (hA' : RdC w' a' []) => qgX ao a' Y [] ca ca' 0 k _ w' hYl (by simp) hk hA hA' hokY hh hY)
 unfold tbV at CP CC CQ
 clear hX hokY hYl hY
 unfold arV at CL
 have c0 := hl.fc
 have c0' := hl.fo
 clear h hok har hfr hk hv hR hh hl
 generalize N.sl.set f ⟨N.sl[f].gen, true, k, v, 0⟩ = X at *
 generalize 24 * N.sl[f].gen + (f : Int) = hd at *
 generalize N.sl[f].next = nx at *
 clear hf
 go_enter Tryz.func47, Tryz.ntmps47
 go_wp2_with fail
 refine CL.out.mono ?_
 rintro e w1 ⟨b1, c1, rfl, ho, hb1⟩
 have hS1 := hI (H.out.own.below_of (Nat.le_refl _))
 have hB1 := hI H.out.le
 have hr1 := H.out.var.lt
 have F : Hid (VaN (w1.alloc (.cells #[.slice (some ⟨b1, 0, none⟩) X.length c1, .int .i64 nx] 26)) r B A N /\ Blk (w1.alloc (.cells #[.slice (some ⟨b1, 0, none⟩) X.length c1, .int .i64 nx] 26)) w1.heap.size 26 [.slice (some ⟨b1, 0, none⟩) X.length c1, .int .i64 nx] /\ (w1.alloc (.cells #[.slice (some ⟨b1, 0, none⟩) X.length c1, .int .i64 nx] 26)).ownsRow w.heap.size 99 5 (.slice (some ⟨b1, 0, none⟩) X.length c1) X.length (sls X) /\ w.grownBy (w1.alloc (.cells #[.slice (some ⟨b1, 0, none⟩) X.length c1, .int .i64 nx] 26)) (some r)) :=
  ⟨(H.out.later hb1).later (bAl _ _), Blk.new w1 _ _, qaE ho (bAl _ _), qbO (hb1.alloc hb1.size _)⟩
 clear ho hb1 CL x0 x1 H
 go_upto_region 1 with fail
 generalize (w1.alloc (.cells #[.slice (some ⟨b1, 0, none⟩) X.length c1, .int .i64 nx] 26)) = W2 at F ⊢
 generalize w1.heap.size = Q1 at F ⊢
 have V2 := hI F.out.1
 have K2 := hI F.out.2.1
 have O2 := hI F.out.2.2.1
 have G2 := hI F.out.2.2.2
 clear F
 have x0 : W2.cell? ⟨r, 0, none⟩ = _ := cRn (V2.out.cell 0) rfl
 have x1 : W2.cell? ⟨r, 1, none⟩ = _ := cRn (V2.out.cell 1) rfl
 have z0 : W2.cell? ⟨Q1, 0, none⟩ = some (.slice (some ⟨b1, 0, none⟩) X.length c1) := K2.out.cell 0
 have z1 : W2.cell? ⟨Q1, 1, none⟩ = _ := cRn (K2.out.cell 1) rfl
 have xf : ∀ i, W2.frozen? ⟨r, i, none⟩ = false := fun i => V2.out.var.froz i
 have V3 := hI (V2.out.putA (f := nx) O2.out hS1.out hB1.out)
 have G3 := hI (qbF (qbF G2.out 0 (.slice (some ⟨b1, 0, none⟩) X.length c1)) 1 (.int .i64 nx))
 clear V2 K2 O2 G2
 go_upto_region 2 with fail
 generalize ((W2.setCell ⟨r, 0, none⟩ (.slice (some ⟨b1, 0, none⟩) X.length c1)).setCell ⟨r, 1, none⟩ (.int .i64 nx)) = W3 at V3 G3 ⊢
 clear x0 x1 z0 z1 xf hS1 hB1
 have x0 : W3.cell? ⟨r, 2, none⟩ = _ := cRn (V3.out.cell 2) rfl
 have x1 : W3.cell? ⟨r, 3, none⟩ = _ := cRn (V3.out.cell 3) rfl
 have x2 : W3.cell? ⟨r, 4, none⟩ = _ := cRn (V3.out.cell 4) rfl
 have hS3 := hI (V3.out.own.below_of (Nat.le_refl _))
 have hB3 := hI V3.out.le
 go_wp2_with fail
 refine (CP.out _ V3.out.own.rd.fc V3.out.own.rd.fo).mono ?_
 rintro e w4 ⟨b4, c4, b5, c5, rfl, hb4⟩
 have F : Hid (VaN (w4.alloc (.cells #[.slice b4 0 c4, .slice b5 0 c5, .int .i64 0] 29)) r B { A with a := some ⟨b1, 0, none⟩, ac := c1 } { N with sl := X, fr := nx } /\ Blk (w4.alloc (.cells #[.slice b4 0 c4, .slice b5 0 c5, .int .i64 0] 29)) w4.heap.size 29 [.slice b4 0 c4, .slice b5 0 c5, .int .i64 0] /\ w.grownBy (w4.alloc (.cells #[.slice b4 0 c4, .slice b5 0 c5, .int .i64 0] 29)) (some r) /\ W3.heap.size <= w4.heap.size) :=
  ⟨(V3.out.later hb4).later (bAl _ _), Blk.new w4 _ _, qaK G3.out (qbO (hb4.alloc hb4.size _)), hb4.size⟩
 have hr3 := V3.out.var.lt
 have hw3 : w.heap.size <= W3.heap.size := G3.out.size
 clear hb4 CP x0 x1 x2 V3 G3
 go_upto_region 4 with fail
 generalize (w4.alloc (.cells #[.slice b4 0 c4, .slice b5 0 c5, .int .i64 0] 29)) = W5 at F ⊢
 generalize w4.heap.size = Q2 at F ⊢
 have V5 := hI F.out.1
 have K5 := hI F.out.2.1
 have G5 := hI F.out.2.2.1
 have hQ2 := F.out.2.2.2
 clear F
 have hq5 : Q2 < W5.heap.size := K5.out.lt
 have x0 : W5.cell? ⟨r, 2, none⟩ = _ := cRn (V5.out.cell 2) rfl
 have x1 : W5.cell? ⟨r, 3, none⟩ = _ := cRn (V5.out.cell 3) rfl
 have x2 : W5.cell? ⟨r, 4, none⟩ = _ := cRn (V5.out.cell 4) rfl
 go_wp2_with fail
 refine (CC.out _ V5.out.own.rd.fc V5.out.own.rd.fo).mono ?_
 rintro e w6 ⟨b6, c6, b7, c7, rfl, ho, hb6⟩
 rw [List.length_nil]
 have F : Hid (VaN (w6.alloc (.cells #[.slice b6 Y.length c6, .slice b7 0 c7, .int .i64 0] 29)) r B { A with a := some ⟨b1, 0, none⟩, ac := c1 } { N with sl := X, fr := nx } /\ Blk (w6.alloc (.cells #[.slice b6 Y.length c6, .slice b7 0 c7, .int .i64 0] 29)) Q2 29 [.slice b4 0 c4, .slice b5 0 c5, .int .i64 0] /\ Blk (w6.alloc (.cells #[.slice b6 Y.length c6, .slice b7 0 c7, .int .i64 0] 29)) w6.heap.size 29 [.slice b6 Y.length c6, .slice b7 0 c7, .int .i64 0] /\ Own2 (w6.alloc (.cells #[.slice b6 Y.length c6, .slice b7 0 c7, .int .i64 0] 29)) W5.heap.size b6 c6 Y b7 c7 [] /\ w.grownBy (w6.alloc (.cells #[.slice b6 Y.length c6, .slice b7 0 c7, .int .i64 0] 29)) (some r) /\ W5.heap.size <= w6.heap.size) :=
  ⟨(V5.out.later hb6).later (bAl _ _), (K5.out.below hb6 hq5).below (bAl w6 _) (Nat.lt_of_lt_of_le hq5 hb6.size), Blk.new w6 _ _, ho.later (bAl _ _), qaK G5.out (qbO (hb6.alloc hb6.size _)), hb6.size⟩
 clear ho hb6 CC x0 x1 x2 V5 K5 G5
 go_upto_region 5 with fail
 generalize (w6.alloc (.cells #[.slice b6 Y.length c6, .slice b7 0 c7, .int .i64 0] 29)) = W7 at F ⊢
 generalize w6.heap.size = Q3 at F ⊢
 have V7 := hI F.out.1
 have K7 := hI F.out.2.1
 have K8 := hI F.out.2.2.1
 have O7 := hI F.out.2.2.2.1
 have G7 := hI F.out.2.2.2.2.1
 have hQ3 := F.out.2.2.2.2.2
 clear F
 have hq7 : Q2 < W7.heap.size := K7.out.lt
 have z0 : W7.cell? ⟨Q3, 0, none⟩ = _ := cRn (K8.out.cell 0) rfl
 have z1 : W7.cell? ⟨Q3, 1, none⟩ = _ := cRn (K8.out.cell 1) rfl
 have z2 : W7.cell? ⟨Q3, 2, none⟩ = _ := cRn (K8.out.cell 2) rfl
 go_wp2_with fail
 refine (CQ.out _ b6 c6 b7 c7 O7.out.rd.1 O7.out.rd.2).mono ?_
 rintro e w8 ⟨b8, c8, b9, c9, rfl, ho, hb8⟩
 rw [List.length_nil]
 have hz8 : W7.heap.size <= w8.heap.size := hb8.size
 have V8 := hI (V7.out.later hb8)
 have M8 := hI (K7.out.below hb8 hq7)
 have O8 := hI ho
 have G8 := hI (qaK G7.out (qbO hb8))
 have hfar : Hid (Q2 ≠ r /\ ∀ u ∈ vlN { A with a := some ⟨b1, 0, none⟩, ac := c1 } { N with sl := X, fr := nx }, ∀ g, u.ownBlock = some g -> g ≠ Q2) := ⟨by omega, fun u hu g hg => by have := hS3.out u hu g hg; omega⟩
 have q0 : w8.cell? ⟨Q2, 0, none⟩ = _ := cRn (M8.out.cell 0) rfl
 have q1 : w8.cell? ⟨Q2, 1, none⟩ = _ := cRn (M8.out.cell 1) rfl
 have q2 : w8.cell? ⟨Q2, 2, none⟩ = _ := cRn (M8.out.cell 2) rfl
 have qf : ∀ i, w8.frozen? ⟨Q2, i, none⟩ = false := fun i => M8.out.froz i
 have V5 := hI (((V8.out.far (.inr hfar.out) 0 (.slice b8 L.length c8)).far (.inr hfar.out) 1 (.slice b9 0 c9)).far (.inr hfar.out) 2 (.int .i64 0))
 have K5 := hI (Blk.set (Blk.set (Blk.set M8.out 0 (.slice b8 L.length c8)) 1 (.slice b9 0 c9)) 2 (.int .i64 0))
 have hs5 : W3.heap.size <= W7.heap.size := by omega
 have hn1 : ∀ g, (Value.slice b8 L.length c8).ownBlock = some g -> g ≠ Q2 := fun g hg => by have := (O8.out.1.lt g hg).1; omega
 have hn2 : ∀ g, (Value.slice b9 ([] : List Ce).length c9).ownBlock = some g -> g ≠ Q2 := fun g hg => by have := (O8.out.2.1.lt g hg).1; omega
 have O5 : Hid (Own2 (((w8.setCell ⟨Q2, 0, none⟩ (.slice b8 L.length c8)).setCell ⟨Q2, 1, none⟩ (.slice b9 0 c9)).setCell ⟨Q2, 2, none⟩ (.int .i64 0)) W3.heap.size b8 c8 L b9 c9 []) := Own2.base ⟨qaA (qaA (qaA O8.out.1 _ _ hn1) _ _ hn1) _ _ hn1, qaA (qaA (qaA O8.out.2.1 _ _ hn2) _ _ hn2) _ _ hn2, O8.out.2.2⟩ hs5
 have G5 : Hid (w.grownBy (((w8.setCell ⟨Q2, 0, none⟩ (.slice b8 L.length c8)).setCell ⟨Q2, 1, none⟩ (.slice b9 0 c9)).setCell ⟨Q2, 2, none⟩ (.int .i64 0)) (some r)) := ⟨G8.out.os, G8.out.tape, G8.out.output, by simpa using G8.out.size, fun i hi hne => by rw [Below.heap_setCell _ _ _ _ (by dsimp only; omega), Below.heap_setCell _ _ _ _ (by dsimp only; omega), Below.heap_setCell _ _ _ _ (by dsimp only; omega)]; exact G8.out.block i hi hne⟩
 clear V7 K7 K8 O7 G7 V8 M8 O8 G8 ho hb8 CQ z0 z1 z2 hfar hn1 hn2
 go_upto_region 6 with fail
 generalize (((w8.setCell ⟨Q2, 0, none⟩ (.slice b8 L.length c8)).setCell ⟨Q2, 1, none⟩ (.slice b9 0 c9)).setCell ⟨Q2, 2, none⟩ (.int .i64 0)) = W9 at V5 K5 O5 G5 ⊢
 clear q0 q1 q2 qf
 have x0 : W9.cell? ⟨r, 2, none⟩ = _ := cRn (V5.out.cell 2) rfl
 have x1 : W9.cell? ⟨r, 3, none⟩ = _ := cRn (V5.out.cell 3) rfl
 have x2 : W9.cell? ⟨r, 4, none⟩ = _ := cRn (V5.out.cell 4) rfl
 have z0 : W9.cell? ⟨Q2, 0, none⟩ = _ := cRn (K5.out.cell 0) rfl
 have z1 : W9.cell? ⟨Q2, 1, none⟩ = _ := cRn (K5.out.cell 1) rfl
 have z2 : W9.cell? ⟨Q2, 2, none⟩ = _ := cRn (K5.out.cell 2) rfl
 have xf : ∀ i, W9.frozen? ⟨r, i, none⟩ = false := fun i => V5.out.var.froz i
 have VV := hI (V5.out.putC (m := 0) O5.out hS3.out hB3.out)
 clear V5 K5 O5
 go_wp2
 refine bodyPost_end (results_none Tryz.results47 _ _ _) rfl ?_
 exact ⟨rfl, ⟨_, VV.out⟩, qbF (qbF (qbF G5.out 2 _) 3 _) 4 _⟩
theorem qgZ {w : World} {r B f : Nat} {A : NA} {N : Nr} {K : List ByteArray} (h : VaN w r B A N) (hl : SmN N) (hT : InT N.sl N.fr N.ce K) (hod : N.od = []) (hmv : N.mv = 0) (hn : K.Nodup) (hK : K.length + 2 <= N.ce.length) (hfr : N.fr = (f : Int)) (hf : f < N.sl.length) (k v : ByteArray) (hk : qcV k) (hk0 : k.toList ≠ []) (hkn : ¬ k ∈ K) (hv : v.size <= 20) :
  Calls Tryz.prog 47 #[.pointer (some ⟨r, 0, none⟩), .string k, .string v] w fun e w' => e = .returned (.tuple #[]) /\ ∃ A', VaN w' r B A' (qmK N k v) /\ w.grownBy w' (some r) := by
 have hok : OkT N.ce N.od N.mv := by rw [hod, hmv]; exact qcG.2 hT.tb
 have e : qmK N k v = { N with sl := N.sl.set f ⟨N.sl[f].gen, true, k, v, 0⟩, fr := N.sl[f].next, ce := layT N.ce k (24 * N.sl[f].gen + (f : Int)), od := [], mv := 0 } := by
  rw [qtB hfr hf k v, <- hod, <- hmv]
 rw [e]
 rcases qkN hT hn hK hk0 hkn (24 * N.sl[f].gen + (f : Int)) with h1 | ⟨h1, Y, h2, h3⟩
 ·exact qqA h hl hok hT.ar hfr hf k v hk hv (by rw [hod, hmv]; exact h1)
 ·have hc := hT.clean h2
  have hY : Y.length <= 1048576 := by have := hc.tb.size; omega
  exact qqB h hl hok hT.ar hfr hf k v hk hv (by rw [hod, hmv]; exact h1) (by rw [hod]; exact h2) (qcG.2 hc.tb) hY h3
theorem zeC {w : World} {A : NA} {N : Nr} (h : InN N) (hA : RdN w A N) (k v : ByteArray) (hk : qcV k) (hv : v.size <= 20) (hin : k ∈ qaD N) :
  Calls Tryz.prog 8 #[neV A N, .string k, .string v] w fun e w' => ∃ A', e = .returned (.tuple #[neV A' (qdR (qlF (cnN N k) k v) k), .string ⟨#[]⟩, .bool true]) /\ OwnN w' w.heap.size A' (qdR (qlF (cnN N k) k v) k) /\ Below w.heap.size w w' := by
 have hl := h.small
 have F0 := hI (qdI w (nA A N) nZ 39 39)
 have C2 := hI (fun w' (hb : Below w.heap.size w w') => qiP h (hA.later hb))
 have C1 := hI (fun w' (hb : Below w.heap.size w w') => qoV h (hA.later hb))
 have C3 := hI (fun w' r A1 (V : VaN w' r (w.heap.size + 2) A1 N) => qeA V hl k (by have := hk.2; omega))
 have CI : Hid (∀ w', Calls Tryz.prog 36 #[.int .i64 (k.size : Int), .int .i64 1, .int .i64 12] w' fun e w'' => e = .returned (.bool true) /\ w'' = w') := by
  show ∀ w', _
  intro w'
  refine (qdP (k.size : Int) 1 12 w').mono ?_
  rintro e w'' ⟨rfl, hw⟩
  exact ⟨by rw [show (decide ((1 : Int) <= (k.size : Int)) && decide ((k.size : Int) <= 12)) = true by have := hk.1; have := hk.2; simp; omega], hw.symm⟩
 unfold neV at C1 C2
 have HC := hI (h.cn k)
 have HKq := hI hk
 have hks : (k.size : Int) <= 12 := by have := hk.2; omega
 have hvs : (v.size : Int) <= 20 := by omega
 have hin3 : k ∈ qaD (cnN N k) := by rw [qcD]; exact hin
 have HR := (h.cn k).rnw hin3 hv
 have HRI := hI HR.1
 have hin4 : k ∈ qaD (qlF (cnN N k) k v) := by rw [HR.2.1]; exact hin3
 have HEND := hI (HR.1.tch hin4).1
 have CT := hI (fun w' r A1 (V : VaN w' r (w.heap.size + 2) A1 (qlF (cnN N k) k v)) => qkW V HRI.out HRI.out.small k hin4)
 generalize qdR (qlF (cnN N k) k v) k = M at *
 generalize hN3 : cnN N k = N3 at *
 obtain ⟨j, hj, hu, hkj, hS, hat, hd1, hd2⟩ := HC.out.seek (k := k) hin3
 obtain ⟨L, hL, hLl, hRN⟩ := InN.rnwN_eq HC.out.inT hj hu v
 rw [hkj] at hL hRN
 have hl3 := HC.out.small
 have hX : ∀ h : j < (N3.sl.set j (qaS N3.sl[j] N3.fr)).length, (N3.sl.set j (qaS N3.sl[j] N3.fr))[j] = qaS N3.sl[j] N3.fr := fun h => List.getElem_set_self h
 have hXl : j < (N3.sl.set j (qaS N3.sl[j] N3.fr)).length := by rw [List.length_set]; exact hj
 have hXm : (N3.sl.set j (qaS N3.sl[j] N3.fr)).length <= 1048576 := by rw [List.length_set]; exact hl3.fa
 have hXok := HC.out.inT.ar.lift hj hu
 have hup : 0 <= qbM N3.sl[j].gen := by have h9 := (hXok.slots j hXl).1; rw [hX hXl] at h9; exact h9
 have C4 := hI (fun w' r A1 (V : VaN w' r (w.heap.size + 2) A1 N3) => qeI A1.c A1.o N3.ce N3.od A1.cc A1.oc N3.mv k w' hl3.fc hl3.fo (by have := HKq.out.2; omega) V.own.rd.fc V.own.rd.fo HC.out.okT (qbD HKq.out) hS)
 have C5 := hI (fun w' r A1 (V : VaN w' r (w.heap.size + 2) A1 N3) => qjK A1.a N3.sl A1.ac N3.fr (24 * N3.sl[j].gen + (j : Int)) w' hl3.fa hd1 hd2 V.own.rd.fa hj hat)
 have C6 : Hid (∀ w' ao ca, RdA w' ao (N3.sl.set j (qaS N3.sl[j] N3.fr)) -> Calls Tryz.prog 41 #[.agg #[.slice ao (N3.sl.set j (qaS N3.sl[j] N3.fr)).length ca, .int .i64 (j : Int)], .string k, .string v] w' fun e w'' => ∃ b c, e = .returned (.tuple #[.agg #[.slice (some ⟨b, 0, none⟩) (N3.sl.set j ⟨qbM N3.sl[j].gen, true, k, v, 0⟩).length c, .int .i64 N3.fr], .int .i64 (24 * qbM N3.sl[j].gen + (j : Int)), .bool true]) /\ w''.ownsRow w'.heap.size 99 5 (.slice (some ⟨b, 0, none⟩) (N3.sl.set j ⟨qbM N3.sl[j].gen, true, k, v, 0⟩).length c) (N3.sl.set j ⟨qbM N3.sl[j].gen, true, k, v, 0⟩).length (sls (N3.sl.set j ⟨qbM N3.sl[j].gen, true, k, v, 0⟩)) /\ Below w'.heap.size w' w'') := by
  show ∀ w' ao ca, _
  intro w' ao ca hR
  have h9 := qhA ao _ ca j k v w' hXm hR hXl hXok HKq.out hv
  rw [hX hXl, List.set_set] at h9
  exact h9
 have C7 := hI (fun w' r A1 (V : VaN w' r (w.heap.size + 2) A1 N3) => qgX A1.c A1.o N3.ce N3.od A1.cc A1.oc N3.mv k (24 * qbM N3.sl[j].gen + (j : Int)) w' hl3.fc hl3.fo HKq.out V.own.rd.fc V.own.rd.fo HC.out.okT (by omega) (L := L) (O := []) (M := 0) (by rw [HC.out.od, HC.out.mv]; exact hL))
 unfold tbV at C4 C7
 unfold arV at C5
 have HRN : Hid (qlF N3 k v = { N3 with sl := N3.sl.set j ⟨qbM N3.sl[j].gen, true, k, v, 0⟩, fr := N3.fr, ce := L, od := [], mv := 0 }) := by
  show _ = _
  rw [hRN, <- HC.out.od, <- HC.out.mv]
 generalize N3.sl.set j (qaS N3.sl[j] N3.fr) = X at *
 generalize N3.sl.set j ⟨qbM N3.sl[j].gen, true, k, v, 0⟩ = Y at *
 generalize 24 * N3.sl[j].gen + (j : Int) = hd at *
 generalize 24 * qbM N3.sl[j].gen + (j : Int) = hn at *
 generalize qlF N3 k v = N8 at *
 have hj24 : (j : Int) <= 24 := by have := HC.out.inT.ar.most; omega
 clear hX hXl hup hXm hXok hat hd1 hd2 hS hL hLl hRN hkj hu hj hl3 hin hin3 hin4 HR hN3 hA hl h hk hv
 unfold neV
 go_enter Tryz.func8, Tryz.ntmps8
 go_wp2_with fail
 generalize ((w.alloc (.cells (nA A N) 39)).alloc (.cells nZ 39)) = w0 at F0 ⊢
 obtain ⟨P0, R0, B0⟩ := F0.out
 have P0 := hI P0
 have R0 := hI R0
 have B0 := hI B0
 have sz0 : w.heap.size + 2 <= w0.heap.size := by have := R0.out.lt; omega
 clear F0
 refine (C2.out w0 B0.out).mono ?_
 rintro e w1 ⟨rfl, hb1⟩
 have P1 := bRn P0 hb1
 have R1 := bRn R0 hb1
 have B1 := tRn B0 hb1
 have z1 : w0.heap.size <= w1.heap.size := hb1.size
 clear hb1 C2 P0 R0 B0
 go_wp2_with fail
 refine (CI.out _).mono ?_
 rintro e w1' ⟨rfl, hw1⟩
 have hw1 := hw1.symm
 subst hw1
 clear CI
 obtain ⟨_, v0, v1, v2, v3, v4, v5, v6, v7, v8, v9, v10, v11, v12, v13⟩ := qcR P1.out
 go_wp2_with fail
 refine (C1.out w1 B1.out).mono ?_
 rintro e w2 ⟨A2, rfl, ho2, hb2⟩
 have R2 := bRn R1 hb2
 have B2 := tRn B1 hb2
 have z2 : w1.heap.size <= w2.heap.size := hb2.size
 have VX : Hid (VaN (w2.alloc (.cells (nA A2 N) 39)) w2.heap.size (w.heap.size + 2) A2 N /\ Below w2.heap.size w2 (w2.alloc (.cells (nA A2 N) 39))) :=
  ⟨VaN.box (S := w1.heap.size) ho2 (by omega) z2 (Blk.new w2 39 _) (bAl _ _), bAl _ _⟩
 clear hb2 ho2 C1 P1 R1 B1 v0 v1 v2 v3 v4 v5 v6 v7 v8 v9 v10 v11 v12 v13
 go_wp2_with fail
 generalize (w2.alloc (.cells (nA A2 N) 39)) = w3 at VX ⊢
 obtain ⟨V3, b23⟩ := VX.out
 have V3 := hI V3
 have R3 := bRn R2 b23
 have B3 := tRn B2 b23
 have hr : w.heap.size + 1 < w2.heap.size := by omega
 clear b23 VX R2 B2
 generalize w2.heap.size = r at *
 refine (C3.out w3 r A2 V3.out).mono ?_
 rintro e w4 ⟨rfl, A4, hv4, hg4⟩
 have V4 := hI hv4
 have R4 := hI (qlV hg4 R3.out (fun e => by injection e; omega))
 have B4 := hI (B3.out.trans (qaU hg4 (fun g e => by injection e; omega) B3.out.size))
 clear hv4 hg4 C3 V3 R3 B3
 have x2 : w4.cell? ⟨r, 2, none⟩ = _ := cRn (V4.out.cell 2) rfl
 have x3 : w4.cell? ⟨r, 3, none⟩ = _ := cRn (V4.out.cell 3) rfl
 have x4 : w4.cell? ⟨r, 4, none⟩ = _ := cRn (V4.out.cell 4) rfl
 go_wp2_with fail
 refine (C4.out w4 r A4 V4.out).mono ?_
 rintro e w5 ⟨rfl, hb5⟩
 have V5 := hI (V4.out.later hb5)
 have R5 := bRn R4 hb5
 have B5 := tRn B4 hb5
 clear hb5 C4 V4 R4 B4 x2 x3 x4
 have x0 : w5.cell? ⟨r, 0, none⟩ = _ := cRn (V5.out.cell 0) rfl
 have x1 : w5.cell? ⟨r, 1, none⟩ = _ := cRn (V5.out.cell 1) rfl
 go_wp2_with fail
 refine (C5.out w5 r A4 V5.out).mono ?_
 rintro e w6 ⟨b6, c6, rfl, ho6, hb6⟩
 have V6 := hI (V5.out.later hb6)
 have R6 := bRn R5 hb6
 have B6 := tRn B5 hb6
 have FX := hI (And.intro (Blk.new w6 26 #[.slice (some ⟨b6, 0, none⟩) X.length c6, .int .i64 (j : Int)]) (And.intro (V6.out.later ((Below.refl _ _).alloc (Nat.le_refl _) (.cells #[.slice (some ⟨b6, 0, none⟩) X.length c6, .int .i64 (j : Int)] 26))) (And.intro (Blk.more R6.out (.cells #[.slice (some ⟨b6, 0, none⟩) X.length c6, .int .i64 (j : Int)] 26)) (And.intro (B6.out.alloc B6.out.size (.cells #[.slice (some ⟨b6, 0, none⟩) X.length c6, .int .i64 (j : Int)] 26)) (qmX (qaE ho6 ((Below.refl _ _).alloc (Nat.le_refl _) (.cells #[.slice (some ⟨b6, 0, none⟩) X.length c6, .int .i64 (j : Int)] 26))))))))
 clear hb6 ho6 C5 V5 R5 B5 x0 x1 V6 R6 B6
 go_wp2_with fail
 generalize (w6.alloc (.cells #[.slice (some ⟨b6, 0, none⟩) X.length c6, .int .i64 (j : Int)] 26)) = w7 at FX ⊢
 obtain ⟨_, V7, R7, B7, A7⟩ := FX.out
 have V7 := hI V7
 have R7 := hI R7
 have B7 := hI B7
 clear FX
 refine (C6.out w7 (some ⟨b6, 0, none⟩) c6 A7).mono ?_
 rintro e w8 ⟨b8, c8, rfl, ho8, hb8⟩
 have hS7 := hI (V7.out.own.below_of (Nat.le_refl _))
 have hB7 := hI V7.out.le
 have V8 := hI (V7.out.later hb8)
 have R8 := bRn R7 hb8
 have B8 := tRn B7 hb8
 have z8 : w7.heap.size <= w8.heap.size := hb8.size
 have O8 := hI ho8
 have hr8 : r < w8.heap.size := V8.out.var.lt
 clear hb8 C6 V7 R7 B7 A7
 have FX := hI (And.intro (Blk.new w8 26 #[.slice (some ⟨b8, 0, none⟩) Y.length c8, .int .i64 N3.fr]) (And.intro (V8.out.later ((Below.refl _ _).alloc (Nat.le_refl _) (.cells #[.slice (some ⟨b8, 0, none⟩) Y.length c8, .int .i64 N3.fr] 26))) (And.intro (Blk.more R8.out (.cells #[.slice (some ⟨b8, 0, none⟩) Y.length c8, .int .i64 N3.fr] 26)) (And.intro (B8.out.alloc B8.out.size (.cells #[.slice (some ⟨b8, 0, none⟩) Y.length c8, .int .i64 N3.fr] 26)) (qaE ho8 ((Below.refl _ _).alloc (Nat.le_refl _) (.cells #[.slice (some ⟨b8, 0, none⟩) Y.length c8, .int .i64 N3.fr] 26)))))))
 have ZX := hI (World.size_alloc w8 (.cells #[.slice (some ⟨b8, 0, none⟩) Y.length c8, .int .i64 N3.fr] 26))
 have x2 : w8.cell? ⟨r, 2, none⟩ = _ := cRn (V8.out.cell 2) rfl
 have x3 : w8.cell? ⟨r, 3, none⟩ = _ := cRn (V8.out.cell 3) rfl
 have x4 : w8.cell? ⟨r, 4, none⟩ = _ := cRn (V8.out.cell 4) rfl
 clear ho8 R8 B8 V8 O8
 go_wp2_with fail
 generalize (w8.alloc (.cells #[.slice (some ⟨b8, 0, none⟩) Y.length c8, .int .i64 N3.fr] 26)) = w9 at FX ZX ⊢
 obtain ⟨Q9, V9, R9, B9, O9⟩ := FX.out
 have Q9 := hI Q9
 have V9 := hI V9
 have R9 := hI R9
 have B9 := hI B9
 have O9 := hI O9
 have z9 : w9.heap.size = w8.heap.size + 1 := ZX.out
 generalize w8.heap.size = q at *
 clear FX ZX x2 x3 x4
 have VS9 := hI ((V9.out.own.setA O9.out hS7.out hB7.out.1 N3.fr).below_of (Nat.le_refl _))
 have hB9 := hI V9.out.le
 refine (C7.out w9 r A4 V9.out).mono ?_
 rintro e w10 ⟨tb, tc, tb', tc', rfl, ho10, hb10⟩
 have V10 := hI (V9.out.later hb10)
 have R10 := bRn R9 hb10
 have B10 := tRn B9 hb10
 have Q10 := bRn Q9 hb10
 have O10 := hI (qaE O9.out hb10)
 have T10 := hI ho10
 have z10 : w9.heap.size <= w10.heap.size := hb10.size
 clear hb10 ho10 C7 V9 R9 B9 Q9 O9
 have VA := hI (V10.out.putA (f := N3.fr) O10.out hS7.out hB7.out)
 have hrn : ∀ g, w9.heap.size <= g -> g ≠ r := fun g hg => by have := hB9.out.2; omega
 have T2 := hI (show Own2 ((w10.setCell ⟨r, 0, none⟩ (.slice (some ⟨b8, 0, none⟩) Y.length c8)).setCell ⟨r, 1, none⟩ (.int .i64 N3.fr)) w9.heap.size tb tc L tb' tc' [] from ⟨qaA (qaA T10.out.1 _ _ (fun g hg => hrn g (T10.out.1.lt g hg).1)) _ _ (fun g hg => hrn g (T10.out.1.lt g hg).1), qaA (qaA T10.out.2.1 _ _ (fun g hg => hrn g (T10.out.2.1.lt g hg).1)) _ _ (fun g hg => hrn g (T10.out.2.1.lt g hg).1), T10.out.2.2⟩)
 have VC := hI (VA.out.putC (m := 0) T2.out VS9.out hB9.out)
 have BC := hI ((((((B10.out).setCell (p := ⟨r, 0, none⟩) (by show w.heap.size <= r; omega) (.slice (some ⟨b8, 0, none⟩) Y.length c8)).setCell (p := ⟨r, 1, none⟩) (by show w.heap.size <= r; omega) (.int .i64 N3.fr)).setCell (p := ⟨r, 2, none⟩) (by show w.heap.size <= r; omega) (.slice tb L.length tc)).setCell (p := ⟨r, 3, none⟩) (by show w.heap.size <= r; omega) (.slice tb' 0 tc')).setCell (p := ⟨r, 4, none⟩) (by show w.heap.size <= r; omega) (.int .i64 0))
 have FX := hI (And.intro (VC.out.later ((Below.refl _ _).alloc (Nat.le_refl _) (.cells #[.slice tb L.length tc, .slice tb' 0 tc', .int .i64 0] 29))) (And.intro (Blk.more (Blk.far (Blk.far (Blk.far (Blk.far (Blk.far (R10.out) ⟨r, 0, none⟩ (.slice (some ⟨b8, 0, none⟩) Y.length c8) (by show w.heap.size + 1 ≠ r; omega)) ⟨r, 1, none⟩ (.int .i64 N3.fr) (by show w.heap.size + 1 ≠ r; omega)) ⟨r, 2, none⟩ (.slice tb L.length tc) (by show w.heap.size + 1 ≠ r; omega)) ⟨r, 3, none⟩ (.slice tb' 0 tc') (by show w.heap.size + 1 ≠ r; omega)) ⟨r, 4, none⟩ (.int .i64 0) (by show w.heap.size + 1 ≠ r; omega)) (.cells #[.slice tb L.length tc, .slice tb' 0 tc', .int .i64 0] 29)) (BC.out.alloc BC.out.size (.cells #[.slice tb L.length tc, .slice tb' 0 tc', .int .i64 0] 29))))
 have y0 : w10.cell? ⟨r, 0, none⟩ = _ := cRn (V10.out.cell 0) rfl
 have y1 : w10.cell? ⟨r, 1, none⟩ = _ := cRn (V10.out.cell 1) rfl
 have y2 : w10.cell? ⟨r, 2, none⟩ = _ := cRn (V10.out.cell 2) rfl
 have y3 : w10.cell? ⟨r, 3, none⟩ = _ := cRn (V10.out.cell 3) rfl
 have y4 : w10.cell? ⟨r, 4, none⟩ = _ := cRn (V10.out.cell 4) rfl
 have yf (j) : w10.frozen? ⟨r, j, none⟩ = false := V10.out.var.froz j
 have q0 : w10.cell? ⟨q, 0, none⟩ = some (.slice (some ⟨b8, 0, none⟩) Y.length c8) := Q10.out.cell 0
 have q1 : w10.cell? ⟨q, 1, none⟩ = _ := cRn (Q10.out.cell 1) rfl
 have qlt : q < w10.heap.size := Q10.out.lt
 have rlt : r < w10.heap.size := V10.out.var.lt
 have qne : q ≠ r := by omega
 clear VA T2 VC BC V10 R10 B10 Q10 O10 T10 hS7 hB7 VS9 hB9 hrn
 go_wp2_with fail
 generalize ((((((w10.setCell ⟨r, 0, none⟩ (.slice (some ⟨b8, 0, none⟩) Y.length c8)).setCell ⟨r, 1, none⟩ (.int .i64 N3.fr)).setCell ⟨r, 2, none⟩ (.slice tb L.length tc)).setCell ⟨r, 3, none⟩ (.slice tb' 0 tc')).setCell ⟨r, 4, none⟩ (.int .i64 0)).alloc (.cells #[.slice tb L.length tc, .slice tb' 0 tc', .int .i64 0] 29)) = w11 at FX ⊢
 obtain ⟨V11, R11, B11⟩ := FX.out
 rw [<- HRN.out] at V11
 generalize ({ ({ A4 with a := some ⟨b8, 0, none⟩, ac := c8 } : NA) with c := tb, cc := tc, o := tb', oc := tc' } : NA) = A11 at V11
 have R11 := hI R11
 have B11 := hI B11
 clear FX y0 y1 y2 y3 y4 yf q0 q1
 refine (CT.out w11 r A11 V11).mono ?_
 rintro e w12 ⟨rfl, A12, hv12, hg12⟩
 have V12 := hI hv12
 have R12 := hI (qlV hg12 R11.out (fun e => by injection e; omega))
 have B12 := hI (B11.out.trans (qaU hg12 (fun g e => by injection e; omega) B11.out.size))
 clear hv12 hg12 CT V11 R11 B11
 have CX := hI (fun w' A1 (hR : RdN w' A1 M) => qoV HEND.out hR)
 unfold neV at CX
 obtain ⟨_, v0, v1, v2, v3, v4, v5, v6, v7, v8, v9, v10, v11, v12, v13⟩ := qcR V12.out.var
 go_wp2_with fail
 refine (CX.out w12 A12 V12.out.own.rd).mono ?_
 rintro e wz ⟨Az, rfl, hoz, hbz⟩
 have Rz := bRn R12 hbz
 have BW := tRn B12 hbz
 have Oz := hI (hoz.base (B' := w.heap.size + 2) (by have := R12.out.lt; omega))
 clear hbz hoz CX v0 v1 v2 v3 v4 v5 v6 v7 v8 v9 v10 v11 v12 v13
 have u0 : wz.cell? ⟨w.heap.size + 1, 0, none⟩ = _ := cRn (Rz.out.cell 0) rfl
 have u1 : wz.cell? ⟨w.heap.size + 1, 1, none⟩ = _ := cRn (Rz.out.cell 1) rfl
 have u2 : wz.cell? ⟨w.heap.size + 1, 2, none⟩ = _ := cRn (Rz.out.cell 2) rfl
 have u3 : wz.cell? ⟨w.heap.size + 1, 3, none⟩ = _ := cRn (Rz.out.cell 3) rfl
 have u4 : wz.cell? ⟨w.heap.size + 1, 4, none⟩ = _ := cRn (Rz.out.cell 4) rfl
 have u5 : wz.cell? ⟨w.heap.size + 1, 5, none⟩ = _ := cRn (Rz.out.cell 5) rfl
 have u6 : wz.cell? ⟨w.heap.size + 1, 6, none⟩ = _ := cRn (Rz.out.cell 6) rfl
 have u7 : wz.cell? ⟨w.heap.size + 1, 7, none⟩ = _ := cRn (Rz.out.cell 7) rfl
 have u8 : wz.cell? ⟨w.heap.size + 1, 8, none⟩ = _ := cRn (Rz.out.cell 8) rfl
 have u9 : wz.cell? ⟨w.heap.size + 1, 9, none⟩ = _ := cRn (Rz.out.cell 9) rfl
 have u10 : wz.cell? ⟨w.heap.size + 1, 10, none⟩ = _ := cRn (Rz.out.cell 10) rfl
 have u11 : wz.cell? ⟨w.heap.size + 1, 11, none⟩ = _ := cRn (Rz.out.cell 11) rfl
 have u12 : wz.cell? ⟨w.heap.size + 1, 12, none⟩ = _ := cRn (Rz.out.cell 12) rfl
 have u13 : wz.cell? ⟨w.heap.size + 1, 13, none⟩ = _ := cRn (Rz.out.cell 13) rfl
 have uf (j) : wz.frozen? ⟨w.heap.size + 1, j, none⟩ = false := Rz.out.froz j
 have HH := hI (Blk.set (Blk.set (Blk.set (Blk.set (Blk.set (Blk.set (Blk.set (Blk.set (Blk.set (Blk.set (Blk.set (Blk.set (Blk.set (Blk.set (Rz.out) 0 (.slice Az.a M.sl.length Az.ac)) 1 (.int .i64 M.fr)) 2 (.slice Az.c M.ce.length Az.cc)) 3 (.slice Az.o M.od.length Az.oc)) 4 (.int .i64 M.mv)) 5 (.int .i64 M.wm)) 6 (.slice Az.w M.w.length Az.wc)) 7 (.int .i64 M.tm)) 8 (.slice Az.t M.t.length Az.tc)) 9 (.int .i64 M.sm)) 10 (.slice Az.s M.s.length Az.sc)) 11 (.slice Az.k M.sk.length Az.kc)) 12 (.int .i64 M.ad)) 13 (.int .i64 M.dr))
 have OX := hI (OwnN.put14 (s := w.heap.size + 1) Oz.out (by omega) (.slice Az.a M.sl.length Az.ac) (.int .i64 M.fr) (.slice Az.c M.ce.length Az.cc) (.slice Az.o M.od.length Az.oc) (.int .i64 M.mv) (.int .i64 M.wm) (.slice Az.w M.w.length Az.wc) (.int .i64 M.tm) (.slice Az.t M.t.length Az.tc) (.int .i64 M.sm) (.slice Az.s M.s.length Az.sc) (.slice Az.k M.sk.length Az.kc) (.int .i64 M.ad) (.int .i64 M.dr))
 have BX := hI (qaM (s := w.heap.size + 1) BW.out (by omega) (.slice Az.a M.sl.length Az.ac) (.int .i64 M.fr) (.slice Az.c M.ce.length Az.cc) (.slice Az.o M.od.length Az.oc) (.int .i64 M.mv) (.int .i64 M.wm) (.slice Az.w M.w.length Az.wc) (.int .i64 M.tm) (.slice Az.t M.t.length Az.tc) (.int .i64 M.sm) (.slice Az.s M.s.length Az.sc) (.slice Az.k M.sk.length Az.kc) (.int .i64 M.ad) (.int .i64 M.dr))
 go_wp2
 refine bodyPost_ret (qeO Tryz.results8 _ _ (w.heap.size + 1) 39 (nA Az M) (0, 0) _ rfl HH.out Tryz.underlying39 rfl (by kernel_rfl)) rfl ?_
 exact ⟨Az, rfl, OX.out.base (by omega), BX.out⟩
theorem zcG {w : World} {A : NA} {N : Nr} (h : InN N) (hA : RdN w A N) (k v : ByteArray) (hk : qcV k) (hv : v.size <= 20) (hnin : ¬ k ∈ qaD N) (hlf : (k :: (cnN N k).w).getD (cnN N k).wm.toNat ⟨#[]⟩ = ⟨#[]⟩) :
  Calls Tryz.prog 8 #[neV A N, .string k, .string v] w fun e w' => ∃ A', e = .returned (.tuple #[neV A' (qmK (if (kepQ (cnN N k) k).2 = ⟨#[]⟩ then (kepQ (cnN N k) k).1 else qdE (kepQ (cnN N k) k).1 (kepQ (cnN N k) k).2) k v), .string (kepQ (cnN N k) k).2, .bool true]) /\ OwnN w' w.heap.size A' (qmK (if (kepQ (cnN N k) k).2 = ⟨#[]⟩ then (kepQ (cnN N k) k).1 else qdE (kepQ (cnN N k) k).1 (kepQ (cnN N k) k).2) k v) /\ Below w.heap.size w w' := by
 have hl := h.small
 have F0 := hI (qdI w (nA A N) nZ 39 39)
 have C2 := hI (fun w' (hb : Below w.heap.size w w') => qiP h (hA.later hb))
 have C1 := hI (fun w' (hb : Below w.heap.size w w') => qoV h (hA.later hb))
 have C3 := hI (fun w' r A1 (V : VaN w' r (w.heap.size + 2) A1 N) => qeA V hl k (by have := hk.2; omega))
 have CI : Hid (∀ w', Calls Tryz.prog 36 #[.int .i64 (k.size : Int), .int .i64 1, .int .i64 12] w' fun e w'' => e = .returned (.bool true) /\ w'' = w') := by
  show ∀ w', _
  intro w'
  refine (qdP (k.size : Int) 1 12 w').mono ?_
  rintro e w'' ⟨rfl, hw⟩
  exact ⟨by rw [show (decide ((1 : Int) <= (k.size : Int)) && decide ((k.size : Int) <= 12)) = true by have := hk.1; have := hk.2; simp; omega], hw.symm⟩
 unfold neV at C1 C2
 have HC := hI (h.cn k)
 have HKq := hI hk
 have hks : (k.size : Int) <= 12 := by have := hk.2; omega
 have hvs : (v.size : Int) <= 20 := by omega
 have hn3 : ¬ k ∈ qaD (cnN N k) := by rw [qcD]; exact hnin
 have hq := (h.cn k).kep hk hn3
 have HEND := hI ((h.cn k).lay hk hv hn3 hq).ok
 obtain ⟨K, f, st⟩ := (h.cn k).stp hn3 hq
 have hk0 := qbD hk
 have hkK : ¬ k ∈ K := fun e => hn3 ((st.mem k).1 e).1
 have hP : PshQ (cnN N k).w (cnN N k).wm k := ⟨(h.cn k).qw, hk, fun e => hn3 (InN.mem.2 (.inl e)), by have := (h.cn k).sum; omega⟩
 have hPR := qcC hP
 have hPok := hP.ok
 have hkq : kepQ (cnN N k) k = ({ cnN N k with w := (k :: (cnN N k).w).take (cnN N k).wm.toNat }, ⟨#[]⟩) := by unfold kepQ; rw [if_pos hlf]
 rw [hlf] at hPR
 generalize hlfg : (k :: (cnN N k).w).getD (cnN N k).wm.toNat ⟨#[]⟩ = lf at *
 generalize hLg : (k :: (cnN N k).w).take (cnN N k).wm.toNat = L at *
 generalize hN3 : cnN N k = N3 at *
 have hl3 := HC.out.small
 have hLs : L.length <= 24 := by rw [<- hLg, List.length_take]; have := HC.out.qw.2.1; have := HC.out.qw.1; omega
 have C4 := hI (fun w' r A1 (V : VaN w' r (w.heap.size + 2) A1 N3) => qfE A1.c A1.o N3.ce N3.od A1.cc A1.oc N3.mv k w' hl3.fc hl3.fo (by have := HKq.out.2; omega) V.own.rd.fc V.own.rd.fo (HC.out.noSeek hn3))
 have C5 := hI (fun w' r A1 (V : VaN w' r (w.heap.size + 2) A1 N3) => qbZ A1.w N3.w A1.wc N3.wm k w' hl3.fw V.own.rd.fw hPR)
 rw [hkq] at st HEND hq ⊢
 dsimp only at st HEND hq ⊢
 rw [if_pos rfl] at st HEND ⊢
 have CL := hI (fun w' r A1 (V : VaN w' r (w.heap.size + 2) A1 { N3 with w := L }) => qgZ V st.sm st.inT st.od st.mv st.nd st.len st.fr st.lt k v HKq.out hk0 hkK hv)
 generalize qmK { N3 with w := L } k v = M at *
 clear hlf st hq hkq hP hPR hPok hn3 hnin hk0 hkK hl3 hN3 hLg hlfg hA hl h hk hv
 unfold neV
 go_enter Tryz.func8, Tryz.ntmps8
 go_wp2_with fail
 generalize ((w.alloc (.cells (nA A N) 39)).alloc (.cells nZ 39)) = w0 at F0 ⊢
 obtain ⟨P0, R0, B0⟩ := F0.out
 have P0 := hI P0
 have R0 := hI R0
 have B0 := hI B0
 have sz0 : w.heap.size + 2 <= w0.heap.size := by have := R0.out.lt; omega
 clear F0
 refine (C2.out w0 B0.out).mono ?_
 rintro e w1 ⟨rfl, hb1⟩
 have P1 := bRn P0 hb1
 have R1 := bRn R0 hb1
 have B1 := tRn B0 hb1
 have z1 : w0.heap.size <= w1.heap.size := hb1.size
 clear hb1 C2 P0 R0 B0
 go_wp2_with fail
 refine (CI.out _).mono ?_
 rintro e w1' ⟨rfl, hw1⟩
 have hw1 := hw1.symm
 subst hw1
 clear CI
 obtain ⟨_, v0, v1, v2, v3, v4, v5, v6, v7, v8, v9, v10, v11, v12, v13⟩ := qcR P1.out
 go_wp2_with fail
 refine (C1.out w1 B1.out).mono ?_
 rintro e w2 ⟨A2, rfl, ho2, hb2⟩
 have R2 := bRn R1 hb2
 have B2 := tRn B1 hb2
 have z2 : w1.heap.size <= w2.heap.size := hb2.size
 have VX : Hid (VaN (w2.alloc (.cells (nA A2 N) 39)) w2.heap.size (w.heap.size + 2) A2 N /\ Below w2.heap.size w2 (w2.alloc (.cells (nA A2 N) 39))) :=
  ⟨VaN.box (S := w1.heap.size) ho2 (by omega) z2 (Blk.new w2 39 _) (bAl _ _), bAl _ _⟩
 clear hb2 ho2 C1 P1 R1 B1 v0 v1 v2 v3 v4 v5 v6 v7 v8 v9 v10 v11 v12 v13
 go_wp2_with fail
 generalize (w2.alloc (.cells (nA A2 N) 39)) = w3 at VX ⊢
 obtain ⟨V3, b23⟩ := VX.out
 have V3 := hI V3
 have R3 := bRn R2 b23
 have B3 := tRn B2 b23
 have hr : w.heap.size + 1 < w2.heap.size := by omega
 clear b23 VX R2 B2
 generalize w2.heap.size = r at *
 refine (C3.out w3 r A2 V3.out).mono ?_
 rintro e w4 ⟨rfl, A4, hv4, hg4⟩
 have V4 := hI hv4
 have R4 := hI (qlV hg4 R3.out (fun e => by injection e; omega))
 have B4 := hI (B3.out.trans (qaU hg4 (fun g e => by injection e; omega) B3.out.size))
 clear hv4 hg4 C3 V3 R3 B3
 have x2 : w4.cell? ⟨r, 2, none⟩ = _ := cRn (V4.out.cell 2) rfl
 have x3 : w4.cell? ⟨r, 3, none⟩ = _ := cRn (V4.out.cell 3) rfl
 have x4 : w4.cell? ⟨r, 4, none⟩ = _ := cRn (V4.out.cell 4) rfl
 go_wp2_with fail
 refine (C4.out w4 r A4 V4.out).mono ?_
 rintro e w5 ⟨rfl, hb5⟩
 have V5 := hI (V4.out.later hb5)
 have R5 := bRn R4 hb5
 have B5 := tRn B4 hb5
 clear hb5 C4 V4 R4 B4 x2 x3 x4
 have x5 : w5.cell? ⟨r, 5, none⟩ = _ := cRn (V5.out.cell 5) rfl
 have x6 : w5.cell? ⟨r, 6, none⟩ = _ := cRn (V5.out.cell 6) rfl
 go_wp2_with fail
 refine (C5.out w5 r A4 V5.out).mono ?_
 rintro e w6 ⟨po, pc, rfl, ho6, hb6⟩
 have V6 := hI (V5.out.later hb6)
 have R6 := bRn R5 hb6
 have B6 := tRn B5 hb6
 have VP := hI (V6.out.putW (m := N3.wm) ho6 (V5.out.own.below_of (Nat.le_refl _)) V5.out.le)
 have BP := hI ((B6.out.setCell (p := ⟨r, 5, none⟩) (by show w.heap.size <= r; omega) (.int .i64 N3.wm)).setCell (p := ⟨r, 6, none⟩) (by show w.heap.size <= r; omega) (.slice po L.length pc))
 have FX := hI (And.intro (VP.out.later ((Below.refl _ _).alloc (Nat.le_refl _) (.cells #[.int .i64 N3.wm, .slice po L.length pc] 32))) (And.intro (Blk.more (Blk.far (Blk.far R6.out ⟨r, 5, none⟩ (.int .i64 N3.wm) (by show w.heap.size + 1 ≠ r; omega)) ⟨r, 6, none⟩ (.slice po L.length pc) (by show w.heap.size + 1 ≠ r; omega)) (.cells #[.int .i64 N3.wm, .slice po L.length pc] 32)) (BP.out.alloc BP.out.size (.cells #[.int .i64 N3.wm, .slice po L.length pc] 32))))
 have y5 : w6.cell? ⟨r, 5, none⟩ = _ := cRn (V6.out.cell 5) rfl
 have y6 : w6.cell? ⟨r, 6, none⟩ = _ := cRn (V6.out.cell 6) rfl
 have yf (j) : w6.frozen? ⟨r, j, none⟩ = false := V6.out.var.froz j
 have rlt : r < w6.heap.size := V6.out.var.lt
 clear hb6 ho6 C5 V5 R5 B5 x5 x6 VP BP V6 R6 B6
 go_wp2_with fail
 generalize (((w6.setCell ⟨r, 5, none⟩ (.int .i64 N3.wm)).setCell ⟨r, 6, none⟩ (.slice po L.length pc)).alloc (.cells #[.int .i64 N3.wm, .slice po L.length pc] 32)) = w7 at FX ⊢
 obtain ⟨V7, R7, B7⟩ := FX.out
 have V7 : Hid (VaN w7 r (w.heap.size + 2) { A4 with w := po, wc := pc } { N3 with w := L }) := V7
 have R7 := hI R7
 have B7 := hI B7
 clear FX y5 y6 yf rlt
 generalize ({ A4 with w := po, wc := pc } : NA) = A7 at V7
 refine (CL.out w7 r A7 V7.out).mono ?_
 rintro e w8 ⟨rfl, A8, hv8, hg8⟩
 have V8 := hI hv8
 have R8 := hI (qlV hg8 R7.out (fun e => by injection e; omega))
 have B8 := hI (B7.out.trans (qaU hg8 (fun g e => by injection e; omega) B7.out.size))
 clear hv8 hg8 CL V7 R7 B7
 have CX := hI (fun w' A1 (hR : RdN w' A1 M) => qoV HEND.out hR)
 unfold neV at CX
 obtain ⟨_, v0, v1, v2, v3, v4, v5, v6, v7, v8, v9, v10, v11, v12, v13⟩ := qcR V8.out.var
 go_wp2_with fail
 refine (CX.out w8 A8 V8.out.own.rd).mono ?_
 rintro e wz ⟨Az, rfl, hoz, hbz⟩
 have Rz := bRn R8 hbz
 have BW := tRn B8 hbz
 have Oz := hI (hoz.base (B' := w.heap.size + 2) (by have := R8.out.lt; omega))
 clear hbz hoz CX v0 v1 v2 v3 v4 v5 v6 v7 v8 v9 v10 v11 v12 v13
 have u0 : wz.cell? ⟨w.heap.size + 1, 0, none⟩ = _ := cRn (Rz.out.cell 0) rfl
 have u1 : wz.cell? ⟨w.heap.size + 1, 1, none⟩ = _ := cRn (Rz.out.cell 1) rfl
 have u2 : wz.cell? ⟨w.heap.size + 1, 2, none⟩ = _ := cRn (Rz.out.cell 2) rfl
 have u3 : wz.cell? ⟨w.heap.size + 1, 3, none⟩ = _ := cRn (Rz.out.cell 3) rfl
 have u4 : wz.cell? ⟨w.heap.size + 1, 4, none⟩ = _ := cRn (Rz.out.cell 4) rfl
 have u5 : wz.cell? ⟨w.heap.size + 1, 5, none⟩ = _ := cRn (Rz.out.cell 5) rfl
 have u6 : wz.cell? ⟨w.heap.size + 1, 6, none⟩ = _ := cRn (Rz.out.cell 6) rfl
 have u7 : wz.cell? ⟨w.heap.size + 1, 7, none⟩ = _ := cRn (Rz.out.cell 7) rfl
 have u8 : wz.cell? ⟨w.heap.size + 1, 8, none⟩ = _ := cRn (Rz.out.cell 8) rfl
 have u9 : wz.cell? ⟨w.heap.size + 1, 9, none⟩ = _ := cRn (Rz.out.cell 9) rfl
 have u10 : wz.cell? ⟨w.heap.size + 1, 10, none⟩ = _ := cRn (Rz.out.cell 10) rfl
 have u11 : wz.cell? ⟨w.heap.size + 1, 11, none⟩ = _ := cRn (Rz.out.cell 11) rfl
 have u12 : wz.cell? ⟨w.heap.size + 1, 12, none⟩ = _ := cRn (Rz.out.cell 12) rfl
 have u13 : wz.cell? ⟨w.heap.size + 1, 13, none⟩ = _ := cRn (Rz.out.cell 13) rfl
 have uf (j) : wz.frozen? ⟨w.heap.size + 1, j, none⟩ = false := Rz.out.froz j
 have HH := hI (Blk.set (Blk.set (Blk.set (Blk.set (Blk.set (Blk.set (Blk.set (Blk.set (Blk.set (Blk.set (Blk.set (Blk.set (Blk.set (Blk.set (Rz.out) 0 (.slice Az.a M.sl.length Az.ac)) 1 (.int .i64 M.fr)) 2 (.slice Az.c M.ce.length Az.cc)) 3 (.slice Az.o M.od.length Az.oc)) 4 (.int .i64 M.mv)) 5 (.int .i64 M.wm)) 6 (.slice Az.w M.w.length Az.wc)) 7 (.int .i64 M.tm)) 8 (.slice Az.t M.t.length Az.tc)) 9 (.int .i64 M.sm)) 10 (.slice Az.s M.s.length Az.sc)) 11 (.slice Az.k M.sk.length Az.kc)) 12 (.int .i64 M.ad)) 13 (.int .i64 M.dr))
 have OX := hI (OwnN.put14 (s := w.heap.size + 1) Oz.out (by omega) (.slice Az.a M.sl.length Az.ac) (.int .i64 M.fr) (.slice Az.c M.ce.length Az.cc) (.slice Az.o M.od.length Az.oc) (.int .i64 M.mv) (.int .i64 M.wm) (.slice Az.w M.w.length Az.wc) (.int .i64 M.tm) (.slice Az.t M.t.length Az.tc) (.int .i64 M.sm) (.slice Az.s M.s.length Az.sc) (.slice Az.k M.sk.length Az.kc) (.int .i64 M.ad) (.int .i64 M.dr))
 have BX := hI (qaM (s := w.heap.size + 1) BW.out (by omega) (.slice Az.a M.sl.length Az.ac) (.int .i64 M.fr) (.slice Az.c M.ce.length Az.cc) (.slice Az.o M.od.length Az.oc) (.int .i64 M.mv) (.int .i64 M.wm) (.slice Az.w M.w.length Az.wc) (.int .i64 M.tm) (.slice Az.t M.t.length Az.tc) (.int .i64 M.sm) (.slice Az.s M.s.length Az.sc) (.slice Az.k M.sk.length Az.kc) (.int .i64 M.ad) (.int .i64 M.dr))
 go_wp2
 refine bodyPost_ret (qeO Tryz.results8 _ _ (w.heap.size + 1) 39 (nA Az M) (0, 0) _ rfl HH.out Tryz.underlying39 rfl (by kernel_rfl)) rfl ?_
 exact ⟨Az, rfl, OX.out.base (by omega), BX.out⟩
theorem zcF {w : World} {A : NA} {N : Nr} (h : InN N) (hA : RdN w A N) (k v : ByteArray) (hk : qcV k) (hv : v.size <= 20) (hnin : ¬ k ∈ qaD N) (hlf : ¬ (k :: (cnN N k).w).getD (cnN N k).wm.toNat ⟨#[]⟩ = ⟨#[]⟩) (hgo : (kepQ (cnN N k) k).2 = ⟨#[]⟩) :
  Calls Tryz.prog 8 #[neV A N, .string k, .string v] w fun e w' => ∃ A', e = .returned (.tuple #[neV A' (qmK (if (kepQ (cnN N k) k).2 = ⟨#[]⟩ then (kepQ (cnN N k) k).1 else qdE (kepQ (cnN N k) k).1 (kepQ (cnN N k) k).2) k v), .string (kepQ (cnN N k) k).2, .bool true]) /\ OwnN w' w.heap.size A' (qmK (if (kepQ (cnN N k) k).2 = ⟨#[]⟩ then (kepQ (cnN N k) k).1 else qdE (kepQ (cnN N k) k).1 (kepQ (cnN N k) k).2) k v) /\ Below w.heap.size w w' := by
 have hl := h.small
 have F0 := hI (qdI w (nA A N) nZ 39 39)
 have C2 := hI (fun w' (hb : Below w.heap.size w w') => qiP h (hA.later hb))
 have C1 := hI (fun w' (hb : Below w.heap.size w w') => qoV h (hA.later hb))
 have C3 := hI (fun w' r A1 (V : VaN w' r (w.heap.size + 2) A1 N) => qeA V hl k (by have := hk.2; omega))
 have CI : Hid (∀ w', Calls Tryz.prog 36 #[.int .i64 (k.size : Int), .int .i64 1, .int .i64 12] w' fun e w'' => e = .returned (.bool true) /\ w'' = w') := by
  show ∀ w', _
  intro w'
  refine (qdP (k.size : Int) 1 12 w').mono ?_
  rintro e w'' ⟨rfl, hw⟩
  exact ⟨by rw [show (decide ((1 : Int) <= (k.size : Int)) && decide ((k.size : Int) <= 12)) = true by have := hk.1; have := hk.2; simp; omega], hw.symm⟩
 unfold neV at C1 C2
 have HC := hI (h.cn k)
 have HKq := hI hk
 have hks : (k.size : Int) <= 12 := by have := hk.2; omega
 have hvs : (v.size : Int) <= 20 := by omega
 have hn3 : ¬ k ∈ qaD (cnN N k) := by rw [qcD]; exact hnin
 have hq := (h.cn k).kep hk hn3
 have HEND := hI ((h.cn k).lay hk hv hn3 hq).ok
 obtain ⟨K, f, st⟩ := (h.cn k).stp hn3 hq
 have hk0 := qbD hk
 have hkK : ¬ k ∈ K := fun e => hn3 ((st.mem k).1 e).1
 have hP : PshQ (cnN N k).w (cnN N k).wm k := ⟨(h.cn k).qw, hk, fun e => hn3 (InN.mem.2 (.inl e)), by have := (h.cn k).sum; omega⟩
 have hPR := qcC hP
 have hPok := hP.ok
 have hkq : kepQ (cnN N k) k = tryN { cnN N k with w := (k :: (cnN N k).w).take (cnN N k).wm.toNat } ((k :: (cnN N k).w).getD (cnN N k).wm.toNat ⟨#[]⟩) := by unfold kepQ; rw [if_neg hlf]
 have hlw : (k :: (cnN N k).w).getD (cnN N k).wm.toNat ⟨#[]⟩ ∈ (k :: (cnN N k).w) := by
  rw [List.getD_eq_getElem?_getD] at hlf ⊢
  cases e : (k :: (cnN N k).w)[(cnN N k).wm.toNat]? with
  | none => rw [e] at hlf; exact absurd rfl hlf
  | some x => rw [Option.getD_some]; exact List.mem_of_getElem? e
 have hlk : qcV ((k :: (cnN N k).w).getD (cnN N k).wm.toNat ⟨#[]⟩) /\ ¬ ((k :: (cnN N k).w).getD (cnN N k).wm.toNat ⟨#[]⟩) ∈ (cnN N k).t := by
  obtain ⟨_, _, _, d1, _, _⟩ := qjP.1 (h.cn k).nd
  rcases List.mem_cons.1 hlw with e | e
  ·rw [e]
   exact ⟨hk, fun e2 => hn3 (InN.mem.2 (.inr (.inl e2)))⟩
  ·exact ⟨(h.cn k).qw.2.2.2.1 _ e, d1 _ e⟩
 generalize hlfg : (k :: (cnN N k).w).getD (cnN N k).wm.toNat ⟨#[]⟩ = lf at *
 generalize hLg : (k :: (cnN N k).w).take (cnN N k).wm.toNat = L at *
 generalize hN3 : cnN N k = N3 at *
 have hl3 := HC.out.small
 have hLs : L.length <= 24 := by rw [<- hLg, List.length_take]; have := HC.out.qw.2.1; have := HC.out.qw.1; omega
 have C4 := hI (fun w' r A1 (V : VaN w' r (w.heap.size + 2) A1 N3) => qfE A1.c A1.o N3.ce N3.od A1.cc A1.oc N3.mv k w' hl3.fc hl3.fo (by have := HKq.out.2; omega) V.own.rd.fc V.own.rd.fo (HC.out.noSeek hn3))
 have C5 := hI (fun w' r A1 (V : VaN w' r (w.heap.size + 2) A1 N3) => qbZ A1.w N3.w A1.wc N3.wm k w' hl3.fw V.own.rd.fw hPR)
 have hsm7 : SmN { N3 with w := L } := ⟨hl3.fa, hl3.fc, hl3.fo, by dsimp only; omega, hl3.ft, hl3.fs, hl3.fk⟩
 have CY := hI (fun w' r A1 (V : VaN w' r (w.heap.size + 2) A1 { N3 with w := L }) => qkV V hsm7 lf HC.out.qt hlk.1 hlk.2)
 rw [<- hkq] at CY
 generalize (kepQ N3 k).1 = Q at *
 generalize hgg : (kepQ N3 k).2 = gone at *
 rw [if_pos hgo] at st HEND ⊢
 have CL := hI (fun w' r A1 (V : VaN w' r (w.heap.size + 2) A1 Q) => qgZ V st.sm st.inT st.od st.mv st.nd st.len st.fr st.lt k v HKq.out hk0 hkK hv)
 generalize qmK Q k v = M at *
 have qg : gone.toList.isEmpty = true := by rw [hgo, ByteArray.toList_eq]; rfl
 have ql : lf.toList.isEmpty = false := by cases e : lf.toList with | nil => exact absurd e (qbD hlk.1) | cons a b => rfl
 clear hlf st hq hkq hP hPR hPok hn3 hnin hk0 hkK hl3 hN3 hLg hlfg hA hl h hk hv hlw hlk hsm7 hgg hgo
 unfold neV
 go_enter Tryz.func8, Tryz.ntmps8
 go_wp2_with fail
 generalize ((w.alloc (.cells (nA A N) 39)).alloc (.cells nZ 39)) = w0 at F0 ⊢
 obtain ⟨P0, R0, B0⟩ := F0.out
 have P0 := hI P0
 have R0 := hI R0
 have B0 := hI B0
 have sz0 : w.heap.size + 2 <= w0.heap.size := by have := R0.out.lt; omega
 clear F0
 refine (C2.out w0 B0.out).mono ?_
 rintro e w1 ⟨rfl, hb1⟩
 have P1 := bRn P0 hb1
 have R1 := bRn R0 hb1
 have B1 := tRn B0 hb1
 have z1 : w0.heap.size <= w1.heap.size := hb1.size
 clear hb1 C2 P0 R0 B0
 go_wp2_with fail
 refine (CI.out _).mono ?_
 rintro e w1' ⟨rfl, hw1⟩
 have hw1 := hw1.symm
 subst hw1
 clear CI
 obtain ⟨_, v0, v1, v2, v3, v4, v5, v6, v7, v8, v9, v10, v11, v12, v13⟩ := qcR P1.out
 go_wp2_with fail
 refine (C1.out w1 B1.out).mono ?_
 rintro e w2 ⟨A2, rfl, ho2, hb2⟩
 have R2 := bRn R1 hb2
 have B2 := tRn B1 hb2
 have z2 : w1.heap.size <= w2.heap.size := hb2.size
 have VX : Hid (VaN (w2.alloc (.cells (nA A2 N) 39)) w2.heap.size (w.heap.size + 2) A2 N /\ Below w2.heap.size w2 (w2.alloc (.cells (nA A2 N) 39))) :=
  ⟨VaN.box (S := w1.heap.size) ho2 (by omega) z2 (Blk.new w2 39 _) (bAl _ _), bAl _ _⟩
 clear hb2 ho2 C1 P1 R1 B1 v0 v1 v2 v3 v4 v5 v6 v7 v8 v9 v10 v11 v12 v13
 go_wp2_with fail
 generalize (w2.alloc (.cells (nA A2 N) 39)) = w3 at VX ⊢
 obtain ⟨V3, b23⟩ := VX.out
 have V3 := hI V3
 have R3 := bRn R2 b23
 have B3 := tRn B2 b23
 have hr : w.heap.size + 1 < w2.heap.size := by omega
 clear b23 VX R2 B2
 generalize w2.heap.size = r at *
 refine (C3.out w3 r A2 V3.out).mono ?_
 rintro e w4 ⟨rfl, A4, hv4, hg4⟩
 have V4 := hI hv4
 have R4 := hI (qlV hg4 R3.out (fun e => by injection e; omega))
 have B4 := hI (B3.out.trans (qaU hg4 (fun g e => by injection e; omega) B3.out.size))
 clear hv4 hg4 C3 V3 R3 B3
 have x2 : w4.cell? ⟨r, 2, none⟩ = _ := cRn (V4.out.cell 2) rfl
 have x3 : w4.cell? ⟨r, 3, none⟩ = _ := cRn (V4.out.cell 3) rfl
 have x4 : w4.cell? ⟨r, 4, none⟩ = _ := cRn (V4.out.cell 4) rfl
 go_wp2_with fail
 refine (C4.out w4 r A4 V4.out).mono ?_
 rintro e w5 ⟨rfl, hb5⟩
 have V5 := hI (V4.out.later hb5)
 have R5 := bRn R4 hb5
 have B5 := tRn B4 hb5
 clear hb5 C4 V4 R4 B4 x2 x3 x4
 have x5 : w5.cell? ⟨r, 5, none⟩ = _ := cRn (V5.out.cell 5) rfl
 have x6 : w5.cell? ⟨r, 6, none⟩ = _ := cRn (V5.out.cell 6) rfl
 go_wp2_with fail
 refine (C5.out w5 r A4 V5.out).mono ?_
 rintro e w6 ⟨po, pc, rfl, ho6, hb6⟩
 have V6 := hI (V5.out.later hb6)
 have R6 := bRn R5 hb6
 have B6 := tRn B5 hb6
 have VP := hI (V6.out.putW (m := N3.wm) ho6 (V5.out.own.below_of (Nat.le_refl _)) V5.out.le)
 have BP := hI ((B6.out.setCell (p := ⟨r, 5, none⟩) (by show w.heap.size <= r; omega) (.int .i64 N3.wm)).setCell (p := ⟨r, 6, none⟩) (by show w.heap.size <= r; omega) (.slice po L.length pc))
 have FX := hI (And.intro (VP.out.later ((Below.refl _ _).alloc (Nat.le_refl _) (.cells #[.int .i64 N3.wm, .slice po L.length pc] 32))) (And.intro (Blk.more (Blk.far (Blk.far R6.out ⟨r, 5, none⟩ (.int .i64 N3.wm) (by show w.heap.size + 1 ≠ r; omega)) ⟨r, 6, none⟩ (.slice po L.length pc) (by show w.heap.size + 1 ≠ r; omega)) (.cells #[.int .i64 N3.wm, .slice po L.length pc] 32)) (BP.out.alloc BP.out.size (.cells #[.int .i64 N3.wm, .slice po L.length pc] 32))))
 have y5 : w6.cell? ⟨r, 5, none⟩ = _ := cRn (V6.out.cell 5) rfl
 have y6 : w6.cell? ⟨r, 6, none⟩ = _ := cRn (V6.out.cell 6) rfl
 have yf (j) : w6.frozen? ⟨r, j, none⟩ = false := V6.out.var.froz j
 have rlt : r < w6.heap.size := V6.out.var.lt
 clear hb6 ho6 C5 V5 R5 B5 x5 x6 VP BP V6 R6 B6
 go_wp2_with fail
 generalize (((w6.setCell ⟨r, 5, none⟩ (.int .i64 N3.wm)).setCell ⟨r, 6, none⟩ (.slice po L.length pc)).alloc (.cells #[.int .i64 N3.wm, .slice po L.length pc] 32)) = w7 at FX ⊢
 obtain ⟨V7, R7, B7⟩ := FX.out
 have V7 : Hid (VaN w7 r (w.heap.size + 2) { A4 with w := po, wc := pc } { N3 with w := L }) := V7
 have R7 := hI R7
 have B7 := hI B7
 clear FX y5 y6 yf rlt
 generalize ({ A4 with w := po, wc := pc } : NA) = A7 at V7
 refine (CY.out w7 r A7 V7.out).mono ?_
 rintro e w8 ⟨rfl, A8, hv8, hg8⟩
 have V8 := hI hv8
 have R8 := hI (qlV hg8 R7.out (fun e => by injection e; omega))
 have B8 := hI (B7.out.trans (qaU hg8 (fun g e => by injection e; omega) B7.out.size))
 clear hv8 hg8 CY V7 R7 B7
 go_wp2_with fail
 refine (CL.out w8 r A8 V8.out).mono ?_
 rintro e w9 ⟨rfl, A9, hv9, hg9⟩
 have V9 := hI hv9
 have R9 := hI (qlV hg9 R8.out (fun e => by injection e; omega))
 have B9 := hI (B8.out.trans (qaU hg9 (fun g e => by injection e; omega) B8.out.size))
 clear hv9 hg9 CL V8 R8 B8
 have CX := hI (fun w' A1 (hR : RdN w' A1 M) => qoV HEND.out hR)
 unfold neV at CX
 obtain ⟨_, v0, v1, v2, v3, v4, v5, v6, v7, v8, v9, v10, v11, v12, v13⟩ := qcR V9.out.var
 go_wp2_with fail
 refine (CX.out w9 A9 V9.out.own.rd).mono ?_
 rintro e wz ⟨Az, rfl, hoz, hbz⟩
 have Rz := bRn R9 hbz
 have BW := tRn B9 hbz
 have Oz := hI (hoz.base (B' := w.heap.size + 2) (by have := R9.out.lt; omega))
 clear hbz hoz CX v0 v1 v2 v3 v4 v5 v6 v7 v8 v9 v10 v11 v12 v13
 have u0 : wz.cell? ⟨w.heap.size + 1, 0, none⟩ = _ := cRn (Rz.out.cell 0) rfl
 have u1 : wz.cell? ⟨w.heap.size + 1, 1, none⟩ = _ := cRn (Rz.out.cell 1) rfl
 have u2 : wz.cell? ⟨w.heap.size + 1, 2, none⟩ = _ := cRn (Rz.out.cell 2) rfl
 have u3 : wz.cell? ⟨w.heap.size + 1, 3, none⟩ = _ := cRn (Rz.out.cell 3) rfl
 have u4 : wz.cell? ⟨w.heap.size + 1, 4, none⟩ = _ := cRn (Rz.out.cell 4) rfl
 have u5 : wz.cell? ⟨w.heap.size + 1, 5, none⟩ = _ := cRn (Rz.out.cell 5) rfl
 have u6 : wz.cell? ⟨w.heap.size + 1, 6, none⟩ = _ := cRn (Rz.out.cell 6) rfl
 have u7 : wz.cell? ⟨w.heap.size + 1, 7, none⟩ = _ := cRn (Rz.out.cell 7) rfl
 have u8 : wz.cell? ⟨w.heap.size + 1, 8, none⟩ = _ := cRn (Rz.out.cell 8) rfl
 have u9 : wz.cell? ⟨w.heap.size + 1, 9, none⟩ = _ := cRn (Rz.out.cell 9) rfl
 have u10 : wz.cell? ⟨w.heap.size + 1, 10, none⟩ = _ := cRn (Rz.out.cell 10) rfl
 have u11 : wz.cell? ⟨w.heap.size + 1, 11, none⟩ = _ := cRn (Rz.out.cell 11) rfl
 have u12 : wz.cell? ⟨w.heap.size + 1, 12, none⟩ = _ := cRn (Rz.out.cell 12) rfl
 have u13 : wz.cell? ⟨w.heap.size + 1, 13, none⟩ = _ := cRn (Rz.out.cell 13) rfl
 have uf (j) : wz.frozen? ⟨w.heap.size + 1, j, none⟩ = false := Rz.out.froz j
 have HH := hI (Blk.set (Blk.set (Blk.set (Blk.set (Blk.set (Blk.set (Blk.set (Blk.set (Blk.set (Blk.set (Blk.set (Blk.set (Blk.set (Blk.set (Rz.out) 0 (.slice Az.a M.sl.length Az.ac)) 1 (.int .i64 M.fr)) 2 (.slice Az.c M.ce.length Az.cc)) 3 (.slice Az.o M.od.length Az.oc)) 4 (.int .i64 M.mv)) 5 (.int .i64 M.wm)) 6 (.slice Az.w M.w.length Az.wc)) 7 (.int .i64 M.tm)) 8 (.slice Az.t M.t.length Az.tc)) 9 (.int .i64 M.sm)) 10 (.slice Az.s M.s.length Az.sc)) 11 (.slice Az.k M.sk.length Az.kc)) 12 (.int .i64 M.ad)) 13 (.int .i64 M.dr))
 have OX := hI (OwnN.put14 (s := w.heap.size + 1) Oz.out (by omega) (.slice Az.a M.sl.length Az.ac) (.int .i64 M.fr) (.slice Az.c M.ce.length Az.cc) (.slice Az.o M.od.length Az.oc) (.int .i64 M.mv) (.int .i64 M.wm) (.slice Az.w M.w.length Az.wc) (.int .i64 M.tm) (.slice Az.t M.t.length Az.tc) (.int .i64 M.sm) (.slice Az.s M.s.length Az.sc) (.slice Az.k M.sk.length Az.kc) (.int .i64 M.ad) (.int .i64 M.dr))
 have BX := hI (qaM (s := w.heap.size + 1) BW.out (by omega) (.slice Az.a M.sl.length Az.ac) (.int .i64 M.fr) (.slice Az.c M.ce.length Az.cc) (.slice Az.o M.od.length Az.oc) (.int .i64 M.mv) (.int .i64 M.wm) (.slice Az.w M.w.length Az.wc) (.int .i64 M.tm) (.slice Az.t M.t.length Az.tc) (.int .i64 M.sm) (.slice Az.s M.s.length Az.sc) (.slice Az.k M.sk.length Az.kc) (.int .i64 M.ad) (.int .i64 M.dr))
 go_wp2
 refine bodyPost_ret (qeO Tryz.results8 _ _ (w.heap.size + 1) 39 (nA Az M) (0, 0) _ rfl HH.out Tryz.underlying39 rfl (by kernel_rfl)) rfl ?_
 exact ⟨Az, rfl, OX.out.base (by omega), BX.out⟩
theorem zcE {w : World} {A : NA} {N : Nr} (h : InN N) (hA : RdN w A N) (k v : ByteArray) (hk : qcV k) (hv : v.size <= 20) (hnin : ¬ k ∈ qaD N) (hlf : ¬ (k :: (cnN N k).w).getD (cnN N k).wm.toNat ⟨#[]⟩ = ⟨#[]⟩) (hgo : ¬ (kepQ (cnN N k) k).2 = ⟨#[]⟩) :
  Calls Tryz.prog 8 #[neV A N, .string k, .string v] w fun e w' => ∃ A', e = .returned (.tuple #[neV A' (qmK (if (kepQ (cnN N k) k).2 = ⟨#[]⟩ then (kepQ (cnN N k) k).1 else qdE (kepQ (cnN N k) k).1 (kepQ (cnN N k) k).2) k v), .string (kepQ (cnN N k) k).2, .bool true]) /\ OwnN w' w.heap.size A' (qmK (if (kepQ (cnN N k) k).2 = ⟨#[]⟩ then (kepQ (cnN N k) k).1 else qdE (kepQ (cnN N k) k).1 (kepQ (cnN N k) k).2) k v) /\ Below w.heap.size w w' := by
 have hl := h.small
 have F0 := hI (qdI w (nA A N) nZ 39 39)
 have C2 := hI (fun w' (hb : Below w.heap.size w w') => qiP h (hA.later hb))
 have C1 := hI (fun w' (hb : Below w.heap.size w w') => qoV h (hA.later hb))
 have C3 := hI (fun w' r A1 (V : VaN w' r (w.heap.size + 2) A1 N) => qeA V hl k (by have := hk.2; omega))
 have CI : Hid (∀ w', Calls Tryz.prog 36 #[.int .i64 (k.size : Int), .int .i64 1, .int .i64 12] w' fun e w'' => e = .returned (.bool true) /\ w'' = w') := by
  show ∀ w', _
  intro w'
  refine (qdP (k.size : Int) 1 12 w').mono ?_
  rintro e w'' ⟨rfl, hw⟩
  exact ⟨by rw [show (decide ((1 : Int) <= (k.size : Int)) && decide ((k.size : Int) <= 12)) = true by have := hk.1; have := hk.2; simp; omega], hw.symm⟩
 unfold neV at C1 C2
 have HC := hI (h.cn k)
 have HKq := hI hk
 have hks : (k.size : Int) <= 12 := by have := hk.2; omega
 have hvs : (v.size : Int) <= 20 := by omega
 have hn3 : ¬ k ∈ qaD (cnN N k) := by rw [qcD]; exact hnin
 have hq := (h.cn k).kep hk hn3
 have HEND := hI ((h.cn k).lay hk hv hn3 hq).ok
 obtain ⟨K, f, st⟩ := (h.cn k).stp hn3 hq
 have hk0 := qbD hk
 have hkK : ¬ k ∈ K := fun e => hn3 ((st.mem k).1 e).1
 have hP : PshQ (cnN N k).w (cnN N k).wm k := ⟨(h.cn k).qw, hk, fun e => hn3 (InN.mem.2 (.inl e)), by have := (h.cn k).sum; omega⟩
 have hPR := qcC hP
 have hPok := hP.ok
 have hkq : kepQ (cnN N k) k = tryN { cnN N k with w := (k :: (cnN N k).w).take (cnN N k).wm.toNat } ((k :: (cnN N k).w).getD (cnN N k).wm.toNat ⟨#[]⟩) := by unfold kepQ; rw [if_neg hlf]
 have hlw : (k :: (cnN N k).w).getD (cnN N k).wm.toNat ⟨#[]⟩ ∈ (k :: (cnN N k).w) := by
  rw [List.getD_eq_getElem?_getD] at hlf ⊢
  cases e : (k :: (cnN N k).w)[(cnN N k).wm.toNat]? with
  | none => rw [e] at hlf; exact absurd rfl hlf
  | some x => rw [Option.getD_some]; exact List.mem_of_getElem? e
 have hlk : qcV ((k :: (cnN N k).w).getD (cnN N k).wm.toNat ⟨#[]⟩) /\ ¬ ((k :: (cnN N k).w).getD (cnN N k).wm.toNat ⟨#[]⟩) ∈ (cnN N k).t := by
  obtain ⟨_, _, _, d1, _, _⟩ := qjP.1 (h.cn k).nd
  rcases List.mem_cons.1 hlw with e | e
  ·rw [e]
   exact ⟨hk, fun e2 => hn3 (InN.mem.2 (.inr (.inl e2)))⟩
  ·exact ⟨(h.cn k).qw.2.2.2.1 _ e, d1 _ e⟩
 generalize hlfg : (k :: (cnN N k).w).getD (cnN N k).wm.toNat ⟨#[]⟩ = lf at *
 generalize hLg : (k :: (cnN N k).w).take (cnN N k).wm.toNat = L at *
 generalize hN3 : cnN N k = N3 at *
 have hl3 := HC.out.small
 have hLs : L.length <= 24 := by rw [<- hLg, List.length_take]; have := HC.out.qw.2.1; have := HC.out.qw.1; omega
 have C4 := hI (fun w' r A1 (V : VaN w' r (w.heap.size + 2) A1 N3) => qfE A1.c A1.o N3.ce N3.od A1.cc A1.oc N3.mv k w' hl3.fc hl3.fo (by have := HKq.out.2; omega) V.own.rd.fc V.own.rd.fo (HC.out.noSeek hn3))
 have C5 := hI (fun w' r A1 (V : VaN w' r (w.heap.size + 2) A1 N3) => qbZ A1.w N3.w A1.wc N3.wm k w' hl3.fw V.own.rd.fw hPR)
 have hsm7 : SmN { N3 with w := L } := ⟨hl3.fa, hl3.fc, hl3.fo, by dsimp only; omega, hl3.ft, hl3.fs, hl3.fk⟩
 have CY := hI (fun w' r A1 (V : VaN w' r (w.heap.size + 2) A1 { N3 with w := L }) => qkV V hsm7 lf HC.out.qt hlk.1 hlk.2)
 rw [<- hkq] at CY
 generalize (kepQ N3 k).1 = Q at *
 generalize hgg : (kepQ N3 k).2 = gone at *
 rw [if_neg hgo] at st HEND ⊢
 have CL := hI (fun w' r A1 (V : VaN w' r (w.heap.size + 2) A1 (qdE Q gone)) => qgZ V st.sm st.inT st.od st.mv st.nd st.len st.fr st.lt k v HKq.out hk0 hkK hv)
 have hgk : gone ∈ qaD N3 := by
  rcases hq.was with e | e
  ·exact absurd e hgo
  ·exact e
 have hQT : InT Q.sl Q.fr Q.ce (qaD N3) := by rw [hq.sl, hq.fr, hq.ce]; exact HC.out.inT
 have hsQ : SmN Q := ⟨by rw [hq.sl]; exact hl3.fa, by rw [hq.ce]; exact hl3.fc, by rw [hq.od]; exact hl3.fo, by have := hq.qw.small; omega, by have := hq.qt.small; omega, by have := hq.qs.small; omega, by rw [hq.sk]; exact hl3.fk⟩
 have CF := hI (fun w' r A1 (V : VaN w' r (w.heap.size + 2) A1 Q) => qsR V hsQ hQT (by rw [hq.od]; exact HC.out.od) (by rw [hq.mv]; exact HC.out.mv) gone hgk)
 generalize qmK (qdE Q gone) k v = M at *
 generalize qdE Q gone = P8 at *
 have qg : gone.toList.isEmpty = false := by cases e : gone.toList with | nil => exact absurd e (qbD (HC.out.key hgk)) | cons a b => rfl
 have ql : lf.toList.isEmpty = false := by cases e : lf.toList with | nil => exact absurd e (qbD hlk.1) | cons a b => rfl
 clear hlf st hq hkq hP hPR hPok hn3 hnin hk0 hkK hl3 hN3 hLg hlfg hA hl h hk hv hlw hlk hsm7 hgg hgo hgk hQT hsQ
 unfold neV
 go_enter Tryz.func8, Tryz.ntmps8
 go_wp2_with fail
 generalize ((w.alloc (.cells (nA A N) 39)).alloc (.cells nZ 39)) = w0 at F0 ⊢
 obtain ⟨P0, R0, B0⟩ := F0.out
 have P0 := hI P0
 have R0 := hI R0
 have B0 := hI B0
 have sz0 : w.heap.size + 2 <= w0.heap.size := by have := R0.out.lt; omega
 clear F0
 refine (C2.out w0 B0.out).mono ?_
 rintro e w1 ⟨rfl, hb1⟩
 have P1 := bRn P0 hb1
 have R1 := bRn R0 hb1
 have B1 := tRn B0 hb1
 have z1 : w0.heap.size <= w1.heap.size := hb1.size
 clear hb1 C2 P0 R0 B0
 go_wp2_with fail
 refine (CI.out _).mono ?_
 rintro e w1' ⟨rfl, hw1⟩
 have hw1 := hw1.symm
 subst hw1
 clear CI
 obtain ⟨_, v0, v1, v2, v3, v4, v5, v6, v7, v8, v9, v10, v11, v12, v13⟩ := qcR P1.out
 go_wp2_with fail
 refine (C1.out w1 B1.out).mono ?_
 rintro e w2 ⟨A2, rfl, ho2, hb2⟩
 have R2 := bRn R1 hb2
 have B2 := tRn B1 hb2
 have z2 : w1.heap.size <= w2.heap.size := hb2.size
 have VX : Hid (VaN (w2.alloc (.cells (nA A2 N) 39)) w2.heap.size (w.heap.size + 2) A2 N /\ Below w2.heap.size w2 (w2.alloc (.cells (nA A2 N) 39))) :=
  ⟨VaN.box (S := w1.heap.size) ho2 (by omega) z2 (Blk.new w2 39 _) (bAl _ _), bAl _ _⟩
 clear hb2 ho2 C1 P1 R1 B1 v0 v1 v2 v3 v4 v5 v6 v7 v8 v9 v10 v11 v12 v13
 go_wp2_with fail
 generalize (w2.alloc (.cells (nA A2 N) 39)) = w3 at VX ⊢
 obtain ⟨V3, b23⟩ := VX.out
 have V3 := hI V3
 have R3 := bRn R2 b23
 have B3 := tRn B2 b23
 have hr : w.heap.size + 1 < w2.heap.size := by omega
 clear b23 VX R2 B2
 generalize w2.heap.size = r at *
 refine (C3.out w3 r A2 V3.out).mono ?_
 rintro e w4 ⟨rfl, A4, hv4, hg4⟩
 have V4 := hI hv4
 have R4 := hI (qlV hg4 R3.out (fun e => by injection e; omega))
 have B4 := hI (B3.out.trans (qaU hg4 (fun g e => by injection e; omega) B3.out.size))
 clear hv4 hg4 C3 V3 R3 B3
 have x2 : w4.cell? ⟨r, 2, none⟩ = _ := cRn (V4.out.cell 2) rfl
 have x3 : w4.cell? ⟨r, 3, none⟩ = _ := cRn (V4.out.cell 3) rfl
 have x4 : w4.cell? ⟨r, 4, none⟩ = _ := cRn (V4.out.cell 4) rfl
 go_wp2_with fail
 refine (C4.out w4 r A4 V4.out).mono ?_
 rintro e w5 ⟨rfl, hb5⟩
 have V5 := hI (V4.out.later hb5)
 have R5 := bRn R4 hb5
 have B5 := tRn B4 hb5
 clear hb5 C4 V4 R4 B4 x2 x3 x4
 have x5 : w5.cell? ⟨r, 5, none⟩ = _ := cRn (V5.out.cell 5) rfl
 have x6 : w5.cell? ⟨r, 6, none⟩ = _ := cRn (V5.out.cell 6) rfl
 go_wp2_with fail
 refine (C5.out w5 r A4 V5.out).mono ?_
 rintro e w6 ⟨po, pc, rfl, ho6, hb6⟩
 have V6 := hI (V5.out.later hb6)
 have R6 := bRn R5 hb6
 have B6 := tRn B5 hb6
 have VP := hI (V6.out.putW (m := N3.wm) ho6 (V5.out.own.below_of (Nat.le_refl _)) V5.out.le)
 have BP := hI ((B6.out.setCell (p := ⟨r, 5, none⟩) (by show w.heap.size <= r; omega) (.int .i64 N3.wm)).setCell (p := ⟨r, 6, none⟩) (by show w.heap.size <= r; omega) (.slice po L.length pc))
 have FX := hI (And.intro (VP.out.later ((Below.refl _ _).alloc (Nat.le_refl _) (.cells #[.int .i64 N3.wm, .slice po L.length pc] 32))) (And.intro (Blk.more (Blk.far (Blk.far R6.out ⟨r, 5, none⟩ (.int .i64 N3.wm) (by show w.heap.size + 1 ≠ r; omega)) ⟨r, 6, none⟩ (.slice po L.length pc) (by show w.heap.size + 1 ≠ r; omega)) (.cells #[.int .i64 N3.wm, .slice po L.length pc] 32)) (BP.out.alloc BP.out.size (.cells #[.int .i64 N3.wm, .slice po L.length pc] 32))))
 have y5 : w6.cell? ⟨r, 5, none⟩ = _ := cRn (V6.out.cell 5) rfl
 have y6 : w6.cell? ⟨r, 6, none⟩ = _ := cRn (V6.out.cell 6) rfl
 have yf (j) : w6.frozen? ⟨r, j, none⟩ = false := V6.out.var.froz j
 have rlt : r < w6.heap.size := V6.out.var.lt
 clear hb6 ho6 C5 V5 R5 B5 x5 x6 VP BP V6 R6 B6
 go_wp2_with fail
 generalize (((w6.setCell ⟨r, 5, none⟩ (.int .i64 N3.wm)).setCell ⟨r, 6, none⟩ (.slice po L.length pc)).alloc (.cells #[.int .i64 N3.wm, .slice po L.length pc] 32)) = w7 at FX ⊢
 obtain ⟨V7, R7, B7⟩ := FX.out
 have V7 : Hid (VaN w7 r (w.heap.size + 2) { A4 with w := po, wc := pc } { N3 with w := L }) := V7
 have R7 := hI R7
 have B7 := hI B7
 clear FX y5 y6 yf rlt
 generalize ({ A4 with w := po, wc := pc } : NA) = A7 at V7
 refine (CY.out w7 r A7 V7.out).mono ?_
 rintro e w8 ⟨rfl, A8, hv8, hg8⟩
 have V8 := hI hv8
 have R8 := hI (qlV hg8 R7.out (fun e => by injection e; omega))
 have B8 := hI (B7.out.trans (qaU hg8 (fun g e => by injection e; omega) B7.out.size))
 clear hv8 hg8 CY V7 R7 B7
 go_wp2_with fail
 refine (CF.out w8 r A8 V8.out).mono ?_
 rintro e w9 ⟨rfl, A9, hv9, hg9⟩
 have V9 := hI hv9
 have R9 := hI (qlV hg9 R8.out (fun e => by injection e; omega))
 have B9 := hI (B8.out.trans (qaU hg9 (fun g e => by injection e; omega) B8.out.size))
 clear hv9 hg9 CF V8 R8 B8
 go_wp2_with fail
 refine (CL.out w9 r A9 V9.out).mono ?_
 rintro e w10 ⟨rfl, A10, hv10, hg10⟩
 have V10 := hI hv10
 have R10 := hI (qlV hg10 R9.out (fun e => by injection e; omega))
 have B10 := hI (B9.out.trans (qaU hg10 (fun g e => by injection e; omega) B9.out.size))
 clear hv10 hg10 CL V9 R9 B9
 have CX := hI (fun w' A1 (hR : RdN w' A1 M) => qoV HEND.out hR)
 unfold neV at CX
 obtain ⟨_, v0, v1, v2, v3, v4, v5, v6, v7, v8, v9, v10, v11, v12, v13⟩ := qcR V10.out.var
 go_wp2_with fail
 refine (CX.out w10 A10 V10.out.own.rd).mono ?_
 rintro e wz ⟨Az, rfl, hoz, hbz⟩
 have Rz := bRn R10 hbz
 have BW := tRn B10 hbz
 have Oz := hI (hoz.base (B' := w.heap.size + 2) (by have := R10.out.lt; omega))
 clear hbz hoz CX v0 v1 v2 v3 v4 v5 v6 v7 v8 v9 v10 v11 v12 v13
 have u0 : wz.cell? ⟨w.heap.size + 1, 0, none⟩ = _ := cRn (Rz.out.cell 0) rfl
 have u1 : wz.cell? ⟨w.heap.size + 1, 1, none⟩ = _ := cRn (Rz.out.cell 1) rfl
 have u2 : wz.cell? ⟨w.heap.size + 1, 2, none⟩ = _ := cRn (Rz.out.cell 2) rfl
 have u3 : wz.cell? ⟨w.heap.size + 1, 3, none⟩ = _ := cRn (Rz.out.cell 3) rfl
 have u4 : wz.cell? ⟨w.heap.size + 1, 4, none⟩ = _ := cRn (Rz.out.cell 4) rfl
 have u5 : wz.cell? ⟨w.heap.size + 1, 5, none⟩ = _ := cRn (Rz.out.cell 5) rfl
 have u6 : wz.cell? ⟨w.heap.size + 1, 6, none⟩ = _ := cRn (Rz.out.cell 6) rfl
 have u7 : wz.cell? ⟨w.heap.size + 1, 7, none⟩ = _ := cRn (Rz.out.cell 7) rfl
 have u8 : wz.cell? ⟨w.heap.size + 1, 8, none⟩ = _ := cRn (Rz.out.cell 8) rfl
 have u9 : wz.cell? ⟨w.heap.size + 1, 9, none⟩ = _ := cRn (Rz.out.cell 9) rfl
 have u10 : wz.cell? ⟨w.heap.size + 1, 10, none⟩ = _ := cRn (Rz.out.cell 10) rfl
 have u11 : wz.cell? ⟨w.heap.size + 1, 11, none⟩ = _ := cRn (Rz.out.cell 11) rfl
 have u12 : wz.cell? ⟨w.heap.size + 1, 12, none⟩ = _ := cRn (Rz.out.cell 12) rfl
 have u13 : wz.cell? ⟨w.heap.size + 1, 13, none⟩ = _ := cRn (Rz.out.cell 13) rfl
 have uf (j) : wz.frozen? ⟨w.heap.size + 1, j, none⟩ = false := Rz.out.froz j
 have HH := hI (Blk.set (Blk.set (Blk.set (Blk.set (Blk.set (Blk.set (Blk.set (Blk.set (Blk.set (Blk.set (Blk.set (Blk.set (Blk.set (Blk.set (Rz.out) 0 (.slice Az.a M.sl.length Az.ac)) 1 (.int .i64 M.fr)) 2 (.slice Az.c M.ce.length Az.cc)) 3 (.slice Az.o M.od.length Az.oc)) 4 (.int .i64 M.mv)) 5 (.int .i64 M.wm)) 6 (.slice Az.w M.w.length Az.wc)) 7 (.int .i64 M.tm)) 8 (.slice Az.t M.t.length Az.tc)) 9 (.int .i64 M.sm)) 10 (.slice Az.s M.s.length Az.sc)) 11 (.slice Az.k M.sk.length Az.kc)) 12 (.int .i64 M.ad)) 13 (.int .i64 M.dr))
 have OX := hI (OwnN.put14 (s := w.heap.size + 1) Oz.out (by omega) (.slice Az.a M.sl.length Az.ac) (.int .i64 M.fr) (.slice Az.c M.ce.length Az.cc) (.slice Az.o M.od.length Az.oc) (.int .i64 M.mv) (.int .i64 M.wm) (.slice Az.w M.w.length Az.wc) (.int .i64 M.tm) (.slice Az.t M.t.length Az.tc) (.int .i64 M.sm) (.slice Az.s M.s.length Az.sc) (.slice Az.k M.sk.length Az.kc) (.int .i64 M.ad) (.int .i64 M.dr))
 have BX := hI (qaM (s := w.heap.size + 1) BW.out (by omega) (.slice Az.a M.sl.length Az.ac) (.int .i64 M.fr) (.slice Az.c M.ce.length Az.cc) (.slice Az.o M.od.length Az.oc) (.int .i64 M.mv) (.int .i64 M.wm) (.slice Az.w M.w.length Az.wc) (.int .i64 M.tm) (.slice Az.t M.t.length Az.tc) (.int .i64 M.sm) (.slice Az.s M.s.length Az.sc) (.slice Az.k M.sk.length Az.kc) (.int .i64 M.ad) (.int .i64 M.dr))
 go_wp2
 refine bodyPost_ret (qeO Tryz.results8 _ _ (w.heap.size + 1) 39 (nA Az M) (0, 0) _ rfl HH.out Tryz.underlying39 rfl (by kernel_rfl)) rfl ?_
 exact ⟨Az, rfl, OX.out.base (by omega), BX.out⟩
theorem keepS {w : World} {A : NA} {N : Nr} (h : InN N) (hA : RdN w A N) (k v : ByteArray) (hk : qcV k) (hv : v.size <= 20) :
  Calls Tryz.prog 8 #[neV A N, .string k, .string v] w fun e w' => ∃ A', e = .returned (.tuple #[neV A' (keepN N k v).1, .string (keepN N k v).2, .bool true]) /\ OwnN w' w.heap.size A' (keepN N k v).1 /\ Below w.heap.size w w' := by
 unfold keepN
 by_cases hin : qeG (qaD N) k = true
 ·rw [if_pos hin]
  exact zeC h hA k v hk hv ((qaF _ _).1 hin)
 ·rw [if_neg hin]
  have hn : ¬ k ∈ qaD N := fun e => hin ((qaF _ _).2 e)
  by_cases hlf : (k :: (cnN N k).w).getD (cnN N k).wm.toNat ⟨#[]⟩ = ⟨#[]⟩
  ·exact zcG h hA k v hk hv hn hlf
  ·by_cases hgo : (kepQ (cnN N k) k).2 = ⟨#[]⟩
   ·exact zcF h hA k v hk hv hn hlf hgo
   ·exact zcE h hA k v hk hv hn hlf hgo
end Go.Proofs.YtigpjmmfelndkaaGreatDoor
