import Derived.Test.YtigpjmmfelndkaaGreatDoorLYK
namespace Go.Proofs.YtigpjmmfelndkaaGreatDoor
open Go.RowKit
set_option linter.unusedVariables false
set_option maxRecDepth 100000
set_option maxHeartbeats 8000000
theorem quY {w : World} {r B : Nat} {A : NA} {N : Nr} (h : VaH w r B A N) (hl : SmN N) (k : ByteArray) (hk : k.size <= 1048576) (hD : TabD w) :
  Calls Tryz.prog 34 #[.pointer (some ⟨r, 11, none⟩), .string k] w fun e w' => e = .returned (.tuple #[]) /\ ∃ A', VaH w' r B A' (cnN N k) /\ w.grownBy w' (some r) := by
 have CS := hI (fun w' (hb : Below w.heap.size w w') => qjW N.dr k hk w' (hD.later hb))
 have CK := hI (fun w' (hb : Below w.heap.size w w') => qrL N.dr k hk w' (hD.later hb))
 have CC := hI (fun w' (hb : Below w.heap.size w w') => qoK A.k N.sk A.kc N.ad k w' hk hl.fk ((h.own.later hb).fk.rd))
 unfold MadeK skV at CC
 have H := hI h
 have hrl := h.var.lt
 clear h hl hD
 have x13 : w.cell? ⟨r, 13, none⟩ = _ := cRn (H.out.cell 13) rfl
 go_enter Tryz.func34, Tryz.ntmps34
 go_wp2_with fail
 refine (CS.out w (Below.refl _ _)).mono ?_
 rintro e w1 ⟨rfl, hb1⟩
 have H1 := hI (H.out.later hb1)
 have B1 := hI hb1
 clear hb1 CS x13
 rcases hq : qhD N.dr k with _ | _
 ·have HN := hI (show cnN N k = { N with dr := qeP N.dr k } by unfold cnN; rw [hq]; rfl)
  have x13 : w1.cell? ⟨r, 13, none⟩ = _ := cRn (H1.out.cell 13) rfl
  clear hq CC
  go_wp2_with fail
  refine (CK.out w1 B1.out).mono ?_
  rintro e w2 ⟨rfl, hb2⟩
  have H2 := hI (H1.out.later hb2)
  have B2 := tRn B1 hb2
  clear hb2 CK x13
  have y13 : w2.cell? ⟨r, 13, none⟩ = _ := cRn (H2.out.cell 13) rfl
  have yf (j) : w2.frozen? ⟨r, j, none⟩ = false := H2.out.var.froz j
  generalize qeP N.dr k = d at *
  go_wp2
  refine bodyPost_ret (results_none Tryz.results34 _ _ _) rfl ?_
  refine ⟨rfl, A, ?_, qbF (qbO B2.out) 13 _⟩
  rw [HN.out]
  exact ⟨Blk.set H2.out.var 13 (.int .i64 d), H2.out.own.off _ _ H2.out.ne |> fun o => ⟨o.fa, o.fc, o.fo, o.fw, o.ft, o.fs, o.fk, o.ap⟩, H2.out.ne, by simpa using H2.out.le⟩
 ·obtain ⟨R, hR⟩ : ∃ R, cntR N.sk N.ad k = R := ⟨_, rfl⟩
  obtain ⟨l, ad⟩ := R
  have HN := hI (show cnN N k = { N with sk := l, ad := ad, dr := if ad = 0 then 0 else N.dr } by unfold cnN; rw [hq, hR]; rfl)
  rw [hR] at CC
  have x11 : w1.cell? ⟨r, 11, none⟩ = _ := cRn (H1.out.cell 11) rfl
  have x12 : w1.cell? ⟨r, 12, none⟩ = _ := cRn (H1.out.cell 12) rfl
  clear hq CK hR
  go_wp2_with fail
  refine (CC.out w1 B1.out).mono ?_
  rintro e w2 ⟨b, c, rfl, ho, hb2⟩
  have H2 := hI (H1.out.later hb2)
  have B2 := tRn B1 hb2
  have hS := hI (show ∀ v ∈ vlN A N, ∀ g, v.ownBlock = some g -> g < w1.heap.size from H1.out.own.below_of (Nat.le_refl _))
  have hBS := H1.out.le.1
  have hrl1 : r < w1.heap.size := H1.out.var.lt
  have O2 : Hid (OwnK w2 w1.heap.size b c l) := ho
  clear hb2 ho CC x11 x12
  have y11 : w2.cell? ⟨r, 11, none⟩ = _ := cRn (H2.out.cell 11) rfl
  have y12 : w2.cell? ⟨r, 12, none⟩ = _ := cRn (H2.out.cell 12) rfl
  have y13 : w2.cell? ⟨r, 13, none⟩ = _ := cRn (H2.out.cell 13) rfl
  have yf (j) : w2.frozen? ⟨r, j, none⟩ = false := H2.out.var.froz j
  have OK : Hid (∀ v u, OwnK ((w2.setCell ⟨r, 11, none⟩ v).setCell ⟨r, 12, none⟩ u) w1.heap.size b c l) := fun v u => qaA (qaA O2.out _ _ (fun g hg => by have := (O2.out.lt g hg).1; dsimp only; omega)) _ _ (fun g hg => by have := (O2.out.lt g hg).1; dsimp only; omega)
  by_cases h0 : ad = 0
  ·have q0 : (ad == 0) = true := by simp [h0]
   have HZ := hI h0
   clear h0
   dsimp only
   go_wp2
   refine bodyPost_end (results_none Tryz.results34 _ _ _) rfl ?_
   refine ⟨rfl, { A with k := b, kc := c }, ?_, qbF (qbF (qbF (qbO B2.out) 11 _) 12 _) 13 _⟩
   rw [HN.out, if_pos HZ.out]
   have hne2 : ∀ v ∈ vlN { A with k := b, kc := c } { N with sk := l, ad := ad, dr := 0 }, ∀ g, v.ownBlock = some g -> g ≠ r := qcE (i := 6) H2.out.ne (fun g hg => by have := (O2.out.lt g hg).1; omega)
   refine ⟨Blk.set (Blk.set (Blk.set H2.out.var 11 _) 12 _) 13 _, ?_, hne2, by simpa using H2.out.le⟩
   have o1 := ((H2.out.own.off ⟨r, 11, none⟩ (.slice b l.length c) H2.out.ne).off ⟨r, 12, none⟩ (.int .i64 ad) H2.out.ne)
   exact (o1.setK (OK.out _ _) hS.out hBS ad 0).off ⟨r, 13, none⟩ (.int .i64 0) hne2
  ·have q0 : (ad == 0) = false := by simpa using h0
   have HZ := hI h0
   clear h0
   dsimp only
   go_wp2
   refine bodyPost_end (results_none Tryz.results34 _ _ _) rfl ?_
   refine ⟨rfl, { A with k := b, kc := c }, ?_, qbF (qbF (qbO B2.out) 11 _) 12 _⟩
   rw [HN.out, if_neg HZ.out]
   refine ⟨Blk.set (Blk.set H2.out.var 11 _) 12 _, ?_, qcE (i := 6) H2.out.ne (fun g hg => by have := (O2.out.lt g hg).1; omega), by simpa using H2.out.le⟩
   have o1 := ((H2.out.own.off ⟨r, 11, none⟩ (.slice b l.length c) H2.out.ne).off ⟨r, 12, none⟩ (.int .i64 ad) H2.out.ne)
   exact o1.setK (OK.out _ _) hS.out hBS ad N.dr
theorem qnL {w : World} {r B : Nat} {A : NA} {N : Nr} (h : VaH w r B A N) (k : ByteArray) (hk : k.size <= 1048576) (hD : TabD w) :
  Calls Tryz.prog 135 #[.pointer (some ⟨r, 11, none⟩), .string k] w fun e w' => e = .returned (.int .i64 (gueN N k)) /\ Below w.heap.size w w' := by
 have CS := hI (fun w' (hb : Below w.heap.size w w') => qjW N.dr k hk w' (hD.later hb))
 have CC := hI (qoJ A.k N.sk A.kc N.ad k w hk h.own.fk.rd)
 unfold skV at CC
 have H := hI h
 clear h hD
 have HG := hI (show gueN N k = gueR N.sk N.ad k + (if qhD N.dr k = true then 1 else 0) from rfl)
 have hg := qhH N.sk N.ad k
 generalize gueR N.sk N.ad k = g at *
 obtain ⟨hg0, hg1⟩ := hg
 have x11 : w.cell? ⟨r, 11, none⟩ = _ := cRn (H.out.cell 11) rfl
 have x12 : w.cell? ⟨r, 12, none⟩ = _ := cRn (H.out.cell 12) rfl
 go_enter Tryz.func135, Tryz.ntmps135
 go_wp2_with fail
 refine CC.out.mono ?_
 rintro e w1 ⟨rfl, hb1⟩
 have H1 := hI (H.out.later hb1)
 have B1 := hI hb1
 have x13 : w1.cell? ⟨r, 13, none⟩ = _ := cRn (H1.out.cell 13) rfl
 clear hb1 CC x11 x12
 go_wp2_with fail
 refine (CS.out w1 B1.out).mono ?_
 rintro e w2 ⟨rfl, hb2⟩
 have B2 := tRn B1 hb2
 clear hb2 CS x13
 rcases hq : qhD N.dr k with _ | _
 ·have HE := hI (show gueN N k = g by rw [HG.out, hq]; simp)
  clear hq
  go_wp2
  go_ret
  exact ⟨by rw [HE.out]; rfl, B2.out⟩
 ·have HE := hI (show gueN N k = g + 1 by rw [HG.out, hq, if_pos rfl])
  clear hq
  go_wp2
  go_ret
  exact ⟨by rw [HE.out]; rfl, B2.out⟩
theorem zdD {w : World} {r B : Nat} {A : NA} {N : Nr} (h : VaH w r B A N) (hN : InN N) (hl : SmN N) (k : ByteArray) (hin : k ∈ N.w) :
  Calls Tryz.prog 69 #[.pointer (some ⟨r, 5, none⟩), .string k] w fun e w' => e = .returned (.tuple #[]) /\ ∃ A', VaH w' r B A' (qdR N k) /\ w.grownBy w' (some r) := by
 have qw : qeG N.w k = true := (qaF _ _).2 hin
 have HT := hI (show qdR N k = { N with w := k :: qaX N.w k } by unfold qdR; rw [if_pos qw])
 have CW := hI (fun w' (hA : RdQ w' A.w N.w) => qbK A.w N.w A.wc N.wm k w' hl.fw hA)
 rw [qw] at CW
 have RT := qeH hN.qw hin
 have CT := hI (fun w' (hA : RdQ w' A.w N.w) => qfJ A.w N.w A.wc N.wm k w' hl.fw h.own.fw.cap.1 h.own.fw.cap.2 hA RT)
 clear RT
 generalize k :: qaX N.w k = L at *
 have H := hI h
 have G0 := hI (show w.grownBy w (some r) from qbO (Below.refl _ _))
 clear h hN hl hin qw
 go_enter Tryz.func69, Tryz.ntmps69
 have y0 : w.cell? ⟨r, 5, none⟩ = _ := cRn (H.out.cell 5) rfl
 have y1 : w.cell? ⟨r, 6, none⟩ = _ := cRn (H.out.cell 6) rfl
 go_wp2_with fail
 refine (CW.out w H.out.own.rd.fw).mono ?_
 rintro e w1 ⟨rfl, hb⟩
 have V1 := hI (H.out.later hb)
 have G1 := hI (qaK G0.out (qbO hb))
 clear hb y0 y1
 have y0 : w1.cell? ⟨r, 5, none⟩ = _ := cRn (V1.out.cell 5) rfl
 have y1 : w1.cell? ⟨r, 6, none⟩ = _ := cRn (V1.out.cell 6) rfl
 go_wp2_with fail
 refine (CT.out w1 V1.out.own.rd.fw).mono ?_
 rintro e wd ⟨po, cp, rfl, ho, hb⟩
 have hS1 := hI (V1.out.own.below_of (Nat.le_refl _))
 have hB1 := hI V1.out.le
 have Vd := hI (V1.out.later hb)
 have Gd := hI (qaK G1.out (qbO hb))
 have Od := hI ho
 clear hb ho y0 y1
 have y0 : wd.cell? ⟨r, 5, none⟩ = _ := cRn (Vd.out.cell 5) rfl
 have y1 : wd.cell? ⟨r, 6, none⟩ = _ := cRn (Vd.out.cell 6) rfl
 have yf (j) : wd.frozen? ⟨r, j, none⟩ = false := Vd.out.var.froz j
 have VV := hI (Vd.out.putW (m := N.wm) Od.out hS1.out hB1.out)
 clear Vd Od hS1 hB1
 go_wp2
 refine bodyPost_end (results_none Tryz.results69 _ _ _) rfl ?_
 exact ⟨rfl, _, by rw [HT.out]; exact VV.out, qbF (qbF Gd.out 5 _) 6 _⟩
theorem zdF {w : World} {r B : Nat} {A : NA} {N : Nr} (h : VaH w r B A N) (hN : InN N) (hl : SmN N) (k : ByteArray) (hnw : ¬ k ∈ N.w) (hin : k ∈ N.s) :
  Calls Tryz.prog 69 #[.pointer (some ⟨r, 5, none⟩), .string k] w fun e w' => e = .returned (.tuple #[]) /\ ∃ A', VaH w' r B A' (qdR N k) /\ w.grownBy w' (some r) := by
 have qw : qeG N.w k = false := (by rcases e : qeG N.w k with _ | _ <;> first | rfl | exact absurd ((qaF _ _).1 e) hnw)
 have qs : qeG N.s k = true := (qaF _ _).2 hin
 have HT := hI (show qdR N k = { N with s := k :: qaX N.s k } by unfold qdR; rw [if_neg (by rw [qw]; simp), if_pos qs])
 have CW := hI (fun w' (hA : RdQ w' A.w N.w) => qbK A.w N.w A.wc N.wm k w' hl.fw hA)
 rw [qw] at CW
 have CS := hI (fun w' (hA : RdQ w' A.s N.s) => qbK A.s N.s A.sc N.sm k w' hl.fs hA)
 rw [qs] at CS
 have RT := qeH hN.qs hin
 have CT := hI (fun w' (hA : RdQ w' A.s N.s) => qfJ A.s N.s A.sc N.sm k w' hl.fs h.own.fs.cap.1 h.own.fs.cap.2 hA RT)
 clear RT
 generalize k :: qaX N.s k = L at *
 have H := hI h
 have G0 := hI (show w.grownBy w (some r) from qbO (Below.refl _ _))
 clear h hN hl hin hnw qw qs
 go_enter Tryz.func69, Tryz.ntmps69
 have y0 : w.cell? ⟨r, 5, none⟩ = _ := cRn (H.out.cell 5) rfl
 have y1 : w.cell? ⟨r, 6, none⟩ = _ := cRn (H.out.cell 6) rfl
 go_wp2_with fail
 refine (CW.out w H.out.own.rd.fw).mono ?_
 rintro e w1 ⟨rfl, hb⟩
 have V1 := hI (H.out.later hb)
 have G1 := hI (qaK G0.out (qbO hb))
 clear hb y0 y1
 have y0 : w1.cell? ⟨r, 9, none⟩ = _ := cRn (V1.out.cell 9) rfl
 have y1 : w1.cell? ⟨r, 10, none⟩ = _ := cRn (V1.out.cell 10) rfl
 go_wp2_with fail
 refine (CS.out w1 V1.out.own.rd.fs).mono ?_
 rintro e w2 ⟨rfl, hb⟩
 have V2 := hI (V1.out.later hb)
 have G2 := hI (qaK G1.out (qbO hb))
 clear hb y0 y1
 have y0 : w2.cell? ⟨r, 9, none⟩ = _ := cRn (V2.out.cell 9) rfl
 have y1 : w2.cell? ⟨r, 10, none⟩ = _ := cRn (V2.out.cell 10) rfl
 go_wp2_with fail
 refine (CT.out w2 V2.out.own.rd.fs).mono ?_
 rintro e wd ⟨po, cp, rfl, ho, hb⟩
 have hS1 := hI (V2.out.own.below_of (Nat.le_refl _))
 have hB1 := hI V2.out.le
 have Vd := hI (V2.out.later hb)
 have Gd := hI (qaK G2.out (qbO hb))
 have Od := hI ho
 clear hb ho y0 y1
 have y0 : wd.cell? ⟨r, 9, none⟩ = _ := cRn (Vd.out.cell 9) rfl
 have y1 : wd.cell? ⟨r, 10, none⟩ = _ := cRn (Vd.out.cell 10) rfl
 have yf (j) : wd.frozen? ⟨r, j, none⟩ = false := Vd.out.var.froz j
 have VV := hI (Vd.out.putS (m := N.sm) Od.out hS1.out hB1.out)
 clear Vd Od hS1 hB1
 go_wp2
 refine bodyPost_end (results_none Tryz.results69 _ _ _) rfl ?_
 exact ⟨rfl, _, by rw [HT.out]; exact VV.out, qbF (qbF Gd.out 9 _) 10 _⟩
theorem zdC {w : World} {r B : Nat} {A : NA} {N : Nr} (h : VaH w r B A N) (hN : InN N) (hl : SmN N) (k : ByteArray) (hnw : ¬ k ∈ N.w) (hns : ¬ k ∈ N.s) (hin : k ∈ N.t) (hz : N.sm = 0) :
  Calls Tryz.prog 69 #[.pointer (some ⟨r, 5, none⟩), .string k] w fun e w' => e = .returned (.tuple #[]) /\ ∃ A', VaH w' r B A' (qdR N k) /\ w.grownBy w' (some r) := by
 have qw : qeG N.w k = false := (by rcases e : qeG N.w k with _ | _ <;> first | rfl | exact absurd ((qaF _ _).1 e) hnw)
 have qs : qeG N.s k = false := (by rcases e : qeG N.s k with _ | _ <;> first | rfl | exact absurd ((qaF _ _).1 e) hns)
 have HT := hI (show qdR N k = { N with t := k :: qaX N.t k } by unfold qdR; rw [if_neg (by rw [qw]; simp), if_neg (by rw [qs]; simp), if_pos hz])
 have CW := hI (fun w' (hA : RdQ w' A.w N.w) => qbK A.w N.w A.wc N.wm k w' hl.fw hA)
 rw [qw] at CW
 have CS := hI (fun w' (hA : RdQ w' A.s N.s) => qbK A.s N.s A.sc N.sm k w' hl.fs hA)
 rw [qs] at CS
 have RT := qeH hN.qt hin
 have CT := hI (fun w' (hA : RdQ w' A.t N.t) => qfJ A.t N.t A.tc N.tm k w' hl.ft h.own.ft.cap.1 h.own.ft.cap.2 hA RT)
 clear RT
 generalize k :: qaX N.t k = L at *
 have H := hI h
 have G0 := hI (show w.grownBy w (some r) from qbO (Below.refl _ _))
 have HZ := hI hz
 clear h hN hl hin hnw hns qw qs hz
 go_enter Tryz.func69, Tryz.ntmps69
 have y0 : w.cell? ⟨r, 5, none⟩ = _ := cRn (H.out.cell 5) rfl
 have y1 : w.cell? ⟨r, 6, none⟩ = _ := cRn (H.out.cell 6) rfl
 go_wp2_with fail
 refine (CW.out w H.out.own.rd.fw).mono ?_
 rintro e w1 ⟨rfl, hb⟩
 have V1 := hI (H.out.later hb)
 have G1 := hI (qaK G0.out (qbO hb))
 clear hb y0 y1
 have y0 : w1.cell? ⟨r, 9, none⟩ = _ := cRn (V1.out.cell 9) rfl
 have y1 : w1.cell? ⟨r, 10, none⟩ = _ := cRn (V1.out.cell 10) rfl
 go_wp2_with fail
 refine (CS.out w1 V1.out.own.rd.fs).mono ?_
 rintro e w2 ⟨rfl, hb⟩
 have V2 := hI (V1.out.later hb)
 have G2 := hI (qaK G1.out (qbO hb))
 clear hb y0 y1
 have z9 : w2.cell? ⟨r, 9, none⟩ = _ := cRn (V2.out.cell 9) rfl
 have qz : (N.sm == 0) = true := by rw [HZ.out]; rfl
 have y0 : w2.cell? ⟨r, 7, none⟩ = _ := cRn (V2.out.cell 7) rfl
 have y1 : w2.cell? ⟨r, 8, none⟩ = _ := cRn (V2.out.cell 8) rfl
 go_wp2_with fail
 clear z9 qz
 refine (CT.out w2 V2.out.own.rd.ft).mono ?_
 rintro e wd ⟨po, cp, rfl, ho, hb⟩
 have hS1 := hI (V2.out.own.below_of (Nat.le_refl _))
 have hB1 := hI V2.out.le
 have Vd := hI (V2.out.later hb)
 have Gd := hI (qaK G2.out (qbO hb))
 have Od := hI ho
 clear hb ho y0 y1
 have y0 : wd.cell? ⟨r, 7, none⟩ = _ := cRn (Vd.out.cell 7) rfl
 have y1 : wd.cell? ⟨r, 8, none⟩ = _ := cRn (Vd.out.cell 8) rfl
 have yf (j) : wd.frozen? ⟨r, j, none⟩ = false := Vd.out.var.froz j
 have VV := hI (Vd.out.putT (m := N.tm) Od.out hS1.out hB1.out)
 clear Vd Od hS1 hB1
 go_wp2
 refine bodyPost_end (results_none Tryz.results69 _ _ _) rfl ?_
 exact ⟨rfl, _, by rw [HT.out]; exact VV.out, qbF (qbF Gd.out 7 _) 8 _⟩
theorem riseI {w : World} {r B : Nat} {A : NA} {N : Nr} (h : VaH w r B A N) (hl : SmN N) (k : ByteArray) {M L : List ByteArray} {x : ByteArray} (HP : pshR N.s N.sm k = ((M, N.sm), x, true)) (HD : drpR N.t N.tm k = ((L, N.tm), true)) (hLl : L.length <= 1048576) (HX : ¬ x = ⟨#[]⟩ -> pshR L N.tm x = ((x :: L, N.tm), (x :: L).getD N.tm.toNat ⟨#[]⟩, true)) {T2 : List ByteArray} (hT : (if x = ⟨#[]⟩ then L else x :: L) = T2) :
  Calls Tryz.prog 130 #[.pointer (some ⟨r, 5, none⟩), .string k] w fun e w' => e = .returned (.tuple #[]) /\ ∃ A', VaH w' r B A' { N with s := M, t := T2 } /\ w.grownBy w' (some r) := by
 have HTT := hI hT
 clear hT
 have C3 := hI (qrR A.t N.t A.tc N.tm k w hl.ft h.own.ft.cap.1 h.own.ft.cap.2 h.own.rd.ft HD)
 have C5 := hI (fun w' (hA : RdQ w' A.s N.s) => qcA A.s N.s A.sc N.sm k w' hl.fs h.own.fs.cap.1 h.own.fs.cap.2 hA HP)
 have HXX := hI HX
 have H := hI h
 clear h hl HP HD HX
 have y7 : w.cell? ⟨r, 7, none⟩ = _ := cRn (H.out.cell 7) rfl
 have y8 : w.cell? ⟨r, 8, none⟩ = _ := cRn (H.out.cell 8) rfl
 go_enter Tryz.func130, Tryz.ntmps130
 go_wp2_with fail
 refine C3.out.mono ?_
 rintro e w4 ⟨p4, c4, rfl, ho, hb4⟩
 have V4 := hI (H.out.later hb4)
 have u7 : w4.cell? ⟨r, 7, none⟩ = _ := cRn (V4.out.cell 7) rfl
 have u8 : w4.cell? ⟨r, 8, none⟩ = _ := cRn (V4.out.cell 8) rfl
 have uf (j) : w4.frozen? ⟨r, j, none⟩ = false := V4.out.var.froz j
 have V5 := hI (V4.out.putT (m := N.tm) ho (H.out.own.below_of (Nat.le_refl _)) H.out.le)
 have G5 := hI (qbF (qbF (qbO (r := some r) hb4) 7 (.int .i64 N.tm)) 8 (.slice p4 L.length c4))
 clear y7 y8 ho hb4 C3 V4 H
 go_upto_region 1 with fail
 generalize ((w4.setCell ⟨r, 7, none⟩ (.int .i64 N.tm)).setCell ⟨r, 8, none⟩ (.slice p4 L.length c4)) = W5 at V5 G5 ⊢
 clear u7 u8 uf
 have t9 : W5.cell? ⟨r, 9, none⟩ = _ := cRn (V5.out.cell 9) rfl
 have t10 : W5.cell? ⟨r, 10, none⟩ = _ := cRn (V5.out.cell 10) rfl
 go_wp2_with fail
 refine (C5.out W5 V5.out.own.rd.fs).mono ?_
 rintro e w6 ⟨p6, c6, rfl, ho, hb6⟩
 have F := hI (show VaH (w6.alloc (.cells #[.int .i64 N.sm, .slice p6 M.length c6] 32)) r B { A with t := p4, tc := c4 } { N with t := L, tm := N.tm } /\ Blk (w6.alloc (.cells #[.int .i64 N.sm, .slice p6 M.length c6] 32)) w6.heap.size 32 [.int .i64 N.sm, .slice p6 M.length c6] /\ OwnQ (w6.alloc (.cells #[.int .i64 N.sm, .slice p6 M.length c6] 32)) W5.heap.size p6 c6 M /\ w.grownBy (w6.alloc (.cells #[.int .i64 N.sm, .slice p6 M.length c6] 32)) (some r) from
  ⟨(V5.out.later hb6).later (bAl _ _), Blk.new w6 _ _, ho.later (bAl _ _), qaK G5.out (qbO (hb6.alloc hb6.size _))⟩)
 have hv5 := hI (V5.out.own.below_of (Nat.le_refl _))
 have hB5 := hI V5.out.le
 clear ho hb6 C5 t9 t10 V5 G5
 go_upto_region 2 with fail
 generalize (w6.alloc (.cells #[.int .i64 N.sm, .slice p6 M.length c6] 32)) = W7 at F ⊢
 generalize w6.heap.size = Q7 at F ⊢
 have V7 := hI F.out.1
 have K7 := hI F.out.2.1
 have O7 := hI F.out.2.2.1
 have G7 := hI F.out.2.2.2
 clear F
 have z0 : W7.cell? ⟨Q7, 0, none⟩ = _ := cRn (K7.out.cell 0) rfl
 have z1 : W7.cell? ⟨Q7, 1, none⟩ = _ := cRn (K7.out.cell 1) rfl
 have z9 : W7.cell? ⟨r, 9, none⟩ = _ := cRn (V7.out.cell 9) rfl
 have z10 : W7.cell? ⟨r, 10, none⟩ = _ := cRn (V7.out.cell 10) rfl
 have zf (j) : W7.frozen? ⟨r, j, none⟩ = false := V7.out.var.froz j
 have V8 := hI (V7.out.putS (m := N.sm) O7.out hv5.out hB5.out)
 have G8 := hI (qbF (qbF G7.out 9 (.int .i64 N.sm)) 10 (.slice p6 M.length c6))
 clear V7 K7 O7 G7 hv5 hB5
 go_upto_region 3 with fail
 generalize ((W7.setCell ⟨r, 9, none⟩ (.int .i64 N.sm)).setCell ⟨r, 10, none⟩ (.slice p6 M.length c6)) = W8 at V8 G8 ⊢
 clear z0 z1 z9 z10 zf
 by_cases hx : x = ⟨#[]⟩
 ·have HZ := hI (show L = T2 by rw [<- HTT.out, if_pos hx])
  have q : x.toList.isEmpty = true := by rw [hx]; simp
  clear hx
  go_wp2
  refine bodyPost_end (results_none Tryz.results130 _ _ _) rfl ?_
  first | exact ⟨rfl, _, by rw [<- HZ.out]; exact V8.out, G8.out⟩ | exact ⟨rfl, ⟨_, by rw [<- HZ.out]; exact V8.out⟩, G8.out⟩
 ·have HZ := hI (show x :: L = T2 by rw [<- HTT.out, if_neg hx])
  have q : x.toList.isEmpty = false := by
   obtain ⟨q, _⟩ := qdX hx
   rcases e : x.toList with _ | _
   ·rw [e] at q; simp at q
   ·rfl
  have C8 := hI (qcA p4 L c4 N.tm x W8 hLl V8.out.own.ft.cap.1 V8.out.own.ft.cap.2 V8.out.own.rd.ft (HXX.out hx))
  have e7 : W8.cell? ⟨r, 7, none⟩ = _ := cRn (V8.out.cell 7) rfl
  have e8 : W8.cell? ⟨r, 8, none⟩ = _ := cRn (V8.out.cell 8) rfl
  clear hx
  go_upto_region 4 with fail
  clear q
  go_wp2_with fail
  refine C8.out.mono ?_
  rintro e w9 ⟨p9, c9, rfl, ho, hb9⟩
  have V9 := hI (V8.out.later hb9)
  have G9 := hI (qaK G8.out (qbO hb9))
  have u7 : w9.cell? ⟨r, 7, none⟩ = _ := cRn (V9.out.cell 7) rfl
  have u8 : w9.cell? ⟨r, 8, none⟩ = _ := cRn (V9.out.cell 8) rfl
  have uf (j) : w9.frozen? ⟨r, j, none⟩ = false := V9.out.var.froz j
  have VV := hI (V9.out.putT (m := N.tm) ho (V8.out.own.below_of (Nat.le_refl _)) V8.out.le)
  clear ho hb9 C8 e7 e8 V8 G8 V9
  go_wp2
  refine bodyPost_end (results_none Tryz.results130 _ _ _) rfl ?_
  first | exact ⟨rfl, _, by rw [<- HZ.out]; exact VV.out, qbF (qbF G9.out 7 _) 8 _⟩ | exact ⟨rfl, ⟨_, by rw [<- HZ.out]; exact VV.out⟩, qbF (qbF G9.out 7 _) 8 _⟩
theorem zdE {w : World} {r B : Nat} {A : NA} {N : Nr} (h : VaH w r B A N) (hN : InN N) (hl : SmN N) (k : ByteArray) (hnw : ¬ k ∈ N.w) (hns : ¬ k ∈ N.s) (hin : k ∈ N.t) (hz : ¬ N.sm = 0) :
  Calls Tryz.prog 69 #[.pointer (some ⟨r, 5, none⟩), .string k] w fun e w' => e = .returned (.tuple #[]) /\ ∃ A', VaH w' r B A' (qdR N k) /\ w.grownBy w' (some r) := by
 have qw : qeG N.w k = false := (by rcases e : qeG N.w k with _ | _ <;> first | rfl | exact absurd ((qaF _ _).1 e) hnw)
 have qs : qeG N.s k = false := (by rcases e : qeG N.s k with _ | _ <;> first | rfl | exact absurd ((qaF _ _).1 e) hns)
 have CW := hI (fun w' (hA : RdQ w' A.w N.w) => qbK A.w N.w A.wc N.wm k w' hl.fw hA)
 rw [qw] at CW
 have CS := hI (fun w' (hA : RdQ w' A.s N.s) => qbK A.s N.s A.sc N.sm k w' hl.fs hA)
 rw [qs] at CS
 obtain ⟨hP, hX⟩ := hN.pushT hin hns hz
 have RP := qcC hP
 obtain ⟨x, hx⟩ : ∃ x, (k :: N.s).getD N.sm.toNat ⟨#[]⟩ = x := ⟨_, rfl⟩
 obtain ⟨M, hM⟩ : ∃ M, (k :: N.s).take N.sm.toNat = M := ⟨_, rfl⟩
 obtain ⟨L, hL⟩ : ∃ L, qaX N.t k = L := ⟨_, rfl⟩
 have RD := qiE hN.qt hin
 obtain ⟨T2, hT2⟩ : ∃ T2, (if x = ⟨#[]⟩ then L else x :: L) = T2 := ⟨_, rfl⟩
 have HT := hI (show qdR N k = { N with s := M, t := T2 } by unfold qdR; rw [if_neg (by rw [qw]; simp), if_neg (by rw [qs]; simp), if_neg hz, hx, hM, hL, hT2])
 have HX := hX x hx
 have hLl : L.length <= 1048576 := by have h1 := qbT N.t k; have h2 := hl.ft; rw [hL] at h1; omega
 rw [hx, hM] at RP
 rw [hL] at RD HX
 have CR := hI (fun w' (h' : VaH w' r B A N) => riseI h' hl k RP RD hLl HX hT2)
 rw [<- HT.out] at CR
 have hzz : (N.sm == 0) = false := by simpa using hz
 have HZZ := hI hzz
 have H := hI h
 have G0 := hI (show w.grownBy w (some r) from qbO (Below.refl _ _))
 clear h hN hl hin hnw hns qw qs hz hP hX RP RD hx hM hL hzz HX HT hT2
 go_enter Tryz.func69, Tryz.ntmps69
 have y0 : w.cell? ⟨r, 5, none⟩ = _ := cRn (H.out.cell 5) rfl
 have y1 : w.cell? ⟨r, 6, none⟩ = _ := cRn (H.out.cell 6) rfl
 go_wp2_with fail
 refine (CW.out w H.out.own.rd.fw).mono ?_
 rintro e w1 ⟨rfl, hb⟩
 have V1 := hI (H.out.later hb)
 have G1 := hI (qaK G0.out (qbO hb))
 clear hb y0 y1
 have y0 : w1.cell? ⟨r, 9, none⟩ = _ := cRn (V1.out.cell 9) rfl
 have y1 : w1.cell? ⟨r, 10, none⟩ = _ := cRn (V1.out.cell 10) rfl
 go_wp2_with fail
 refine (CS.out w1 V1.out.own.rd.fs).mono ?_
 rintro e w2 ⟨rfl, hb⟩
 have V2 := hI (V1.out.later hb)
 have G2 := hI (qaK G1.out (qbO hb))
 clear hb y0 y1
 have z9 : w2.cell? ⟨r, 9, none⟩ = _ := cRn (V2.out.cell 9) rfl
 have qz := HZZ.out
 go_wp2_with fail
 clear z9 qz
 refine (CR.out w2 V2.out).mono ?_
 rintro e w3 ⟨rfl, A3, V3, G3⟩
 have VV := hI V3
 have GG := hI (qaK G2.out G3)
 clear V3 G3
 go_wp2
 refine bodyPost_end (results_none Tryz.results69 _ _ _) rfl ?_
 exact ⟨rfl, A3, VV.out, GG.out⟩
theorem zaU {w : World} {r B : Nat} {A : NA} {N : Nr} (h : VaH w r B A N) (hN : InN N) (hl : SmN N) (k : ByteArray) (hk : k ∈ qaD N) :
  Calls Tryz.prog 69 #[.pointer (some ⟨r, 5, none⟩), .string k] w fun e w' => e = .returned (.tuple #[]) /\ ∃ A', VaH w' r B A' (qdR N k) /\ w.grownBy w' (some r) := by
 by_cases h1 : k ∈ N.w
 ·exact zdD h hN hl k h1
 by_cases h2 : k ∈ N.s
 ·exact zdF h hN hl k h1 h2
 have h3 : k ∈ N.t := by
  rcases InN.mem.1 hk with a | a | a
  ·exact absurd a h1
  ·exact a
  ·exact absurd a h2
 by_cases h4 : N.sm = 0
 ·exact zdC h hN hl k h1 h2 h3 h4
 ·exact zdE h hN hl k h1 h2 h3 h4
end Go.Proofs.YtigpjmmfelndkaaGreatDoor
