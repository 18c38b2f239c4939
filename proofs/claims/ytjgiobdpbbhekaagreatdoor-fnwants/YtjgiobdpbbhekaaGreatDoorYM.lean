/- A key is counted in a hall; its weight, by the program. -/
import Derived.Test.YtjgiobdpbbhekaaGreatDoorYK
import Derived.Test.YtjgiobdpbbhekaaGreatDoorXT
import Derived.Test.YtjgiobdpbbhekaaGreatDoorXSK
import Derived.Test.YtjgiobdpbbhekaaGreatDoorXVY
import Derived.Test.YtjgiobdpbbhekaaGreatDoorXVT
namespace Go.Proofs.YtjgiobdpbbhekaaGreatDoor
open Go.RowKit
set_option linter.unusedVariables false

set_option maxRecDepth 100000 in
set_option maxHeartbeats 4000000 in
theorem countI {w : World} {r B : Nat} {A : NA} {N : Nr} (h : VaH w r B A N) (hl : SmN N) (k : ByteArray) (hk : k.size ≤ 1048576) (hD : TabD w) :
    Calls Tryz.prog 35 #[.pointer (some ⟨r, 11, none⟩), .string k] w fun e w' => e = .returned (.tuple #[]) ∧ ∃ A', VaH w' r B A' (cnN N k) ∧ w.grownBy w' (some r) := by
  have CS := hide1 (fun w' (hb : Below w.heap.size w w') => implSeen_any N.dr k hk w' (hD.later hb))
  have CK := hide1 (fun w' (hb : Below w.heap.size w w') => implMark_any N.dr k hk w' (hD.later hb))
  have CC := hide1 (fun w' (hb : Below w.heap.size w w') => implCount_any A.k N.sk A.kc N.ad k w' hk hl.fk ((h.own.later hb).fk.rd))
  unfold MadeK skV at CC
  have H := hide1 h
  have hrl := h.var.lt
  clear h hl hD
  have x13 : w.cell? ⟨r, 13, none⟩ = some (.int .i64 N.dr) := H.out.cell 13
  go_enter Tryz.func35, Tryz.ntmps35
  go_wp2_with fail
  refine (CS.out w (Below.refl _ _)).mono ?_
  rintro e w1 ⟨rfl, hb1⟩
  have H1 := hide1 (H.out.later hb1)
  have B1 := hide1 hb1
  clear hb1 CS x13
  rcases hq : seenD N.dr k with _ | _
  · have HN := hide1 (show cnN N k = { N with dr := markD N.dr k } by unfold cnN; rw [hq]; rfl)
    have x13 : w1.cell? ⟨r, 13, none⟩ = some (.int .i64 N.dr) := H1.out.cell 13
    clear hq CC
    go_wp2_with fail
    refine (CK.out w1 B1.out).mono ?_
    rintro e w2 ⟨rfl, hb2⟩
    have H2 := hide1 (H1.out.later hb2)
    have B2 := hide1 (B1.out.trans (hb2.mono B1.out.size))
    clear hb2 CK x13
    have y13 : w2.cell? ⟨r, 13, none⟩ = some (.int .i64 N.dr) := H2.out.cell 13
    have yf : ∀ j, w2.frozen? ⟨r, j, none⟩ = false := fun j => H2.out.var.froz j
    generalize markD N.dr k = d at *
    go_wp2
    refine bodyPost_ret (results_none Tryz.results35 _ _ _) rfl ?_
    refine ⟨rfl, A, ?_, gset (gnew B2.out) 13 _⟩
    rw [HN.out]
    exact ⟨Blk.set H2.out.var 13 (.int .i64 d), H2.out.own.off _ _ H2.out.ne |> fun o => ⟨o.fa, o.fc, o.fo, o.fw, o.ft, o.fs, o.fk, o.ap⟩, H2.out.ne, by simpa using H2.out.le⟩
  · obtain ⟨R, hR⟩ : ∃ R, cntR N.sk N.ad k = R := ⟨_, rfl⟩
    obtain ⟨l, ad⟩ := R
    have HN := hide1 (show cnN N k = { N with sk := l, ad := ad, dr := if ad = 0 then 0 else N.dr } by unfold cnN; rw [hq, hR]; rfl)
    rw [hR] at CC
    have x11 : w1.cell? ⟨r, 11, none⟩ = some (.slice A.k N.sk.length A.kc) := H1.out.cell 11
    have x12 : w1.cell? ⟨r, 12, none⟩ = some (.int .i64 N.ad) := H1.out.cell 12
    clear hq CK hR
    go_wp2_with fail
    refine (CC.out w1 B1.out).mono ?_
    rintro e w2 ⟨b, c, rfl, ho, hb2⟩
    have H2 := hide1 (H1.out.later hb2)
    have B2 := hide1 (B1.out.trans (hb2.mono B1.out.size))
    have hS := hide1 (show ∀ v ∈ vlN A N, ∀ g, v.ownBlock = some g → g < w1.heap.size from H1.out.own.below_of (Nat.le_refl _))
    have hBS := H1.out.le.1
    have hrl1 : r < w1.heap.size := H1.out.var.lt
    have O2 : Hid (OwnK w2 w1.heap.size b c l) := ho
    clear hb2 ho CC x11 x12
    have y11 : w2.cell? ⟨r, 11, none⟩ = some (.slice A.k N.sk.length A.kc) := H2.out.cell 11
    have y12 : w2.cell? ⟨r, 12, none⟩ = some (.int .i64 N.ad) := H2.out.cell 12
    have y13 : w2.cell? ⟨r, 13, none⟩ = some (.int .i64 N.dr) := H2.out.cell 13
    have yf : ∀ j, w2.frozen? ⟨r, j, none⟩ = false := fun j => H2.out.var.froz j
    have OK : Hid (∀ v u, OwnK ((w2.setCell ⟨r, 11, none⟩ v).setCell ⟨r, 12, none⟩ u) w1.heap.size b c l) := fun v u => own_far (own_far O2.out _ _ (fun g hg => by have := (O2.out.lt g hg).1; dsimp only; omega)) _ _ (fun g hg => by have := (O2.out.lt g hg).1; dsimp only; omega)
    by_cases h0 : ad = 0
    · have q0 : (ad == 0) = true := by simp [h0]
      have HZ := hide1 h0
      clear h0
      dsimp only
      go_wp2
      refine bodyPost_end (results_none Tryz.results35 _ _ _) rfl ?_
      refine ⟨rfl, { A with k := b, kc := c }, ?_, gset (gset (gset (gnew B2.out) 11 _) 12 _) 13 _⟩
      rw [HN.out, if_pos HZ.out]
      have hne2 : ∀ v ∈ vlN { A with k := b, kc := c } { N with sk := l, ad := ad, dr := 0 }, ∀ g, v.ownBlock = some g → g ≠ r := ne_set (i := 6) H2.out.ne (fun g hg => by have := (O2.out.lt g hg).1; omega)
      refine ⟨Blk.set (Blk.set (Blk.set H2.out.var 11 _) 12 _) 13 _, ?_, hne2, by simpa using H2.out.le⟩
      have o1 := ((H2.out.own.off ⟨r, 11, none⟩ (.slice b l.length c) H2.out.ne).off ⟨r, 12, none⟩ (.int .i64 ad) H2.out.ne)
      exact (o1.setK (OK.out _ _) hS.out hBS ad 0).off ⟨r, 13, none⟩ (.int .i64 0) hne2
    · have q0 : (ad == 0) = false := by simpa using h0
      have HZ := hide1 h0
      clear h0
      dsimp only
      go_wp2
      refine bodyPost_end (results_none Tryz.results35 _ _ _) rfl ?_
      refine ⟨rfl, { A with k := b, kc := c }, ?_, gset (gset (gnew B2.out) 11 _) 12 _⟩
      rw [HN.out, if_neg HZ.out]
      refine ⟨Blk.set (Blk.set H2.out.var 11 _) 12 _, ?_, ne_set (i := 6) H2.out.ne (fun g hg => by have := (O2.out.lt g hg).1; omega), by simpa using H2.out.le⟩
      have o1 := ((H2.out.own.off ⟨r, 11, none⟩ (.slice b l.length c) H2.out.ne).off ⟨r, 12, none⟩ (.int .i64 ad) H2.out.ne)
      exact o1.setK (OK.out _ _) hS.out hBS ad N.dr
end Go.Proofs.YtjgiobdpbbhekaaGreatDoor
namespace Go.Proofs.YtjgiobdpbbhekaaGreatDoor
open Go.RowKit
set_option linter.unusedVariables false

set_option maxRecDepth 100000 in
set_option maxHeartbeats 4000000 in
theorem tchI_w {w : World} {r B : Nat} {A : NA} {N : Nr} (h : VaH w r B A N) (hN : InN N) (hl : SmN N) (k : ByteArray) (hin : k ∈ N.w) :
    Calls Tryz.prog 59 #[.pointer (some ⟨r, 5, none⟩), .string k] w fun e w' => e = .returned (.tuple #[]) ∧ ∃ A', VaH w' r B A' (tchN N k) ∧ w.grownBy w' (some r) := by
  have qw : hasQ N.w k = true := (hasQ_iff _ _).2 hin
  have HT := hide1 (show tchN N k = { N with w := k :: wthQ N.w k } by unfold tchN; rw [if_pos qw])
  have CW := hide1 (fun w' (hA : RdQ w' A.w N.w) => implHas_any A.w N.w A.wc N.wm k w' hl.fw hA)
  rw [qw] at CW
  have RT := touR_yes hN.qw hin
  have CT := hide1 (fun w' (hA : RdQ w' A.w N.w) => implTouch_own A.w N.w A.wc N.wm k w' hl.fw h.own.fw.cap.1 h.own.fw.cap.2 hA RT)
  clear RT
  generalize k :: wthQ N.w k = L at *
  have H := hide1 h
  have G0 := hide1 (show w.grownBy w (some r) from gnew (Below.refl _ _))
  clear h hN hl hin qw
  go_enter Tryz.func59, Tryz.ntmps59
  have y0 : w.cell? ⟨r, 5, none⟩ = some (.int .i64 N.wm) := H.out.cell 5
  have y1 : w.cell? ⟨r, 6, none⟩ = some (.slice A.w N.w.length A.wc) := H.out.cell 6
  go_wp2_with fail
  refine (CW.out w H.out.own.rd.fw).mono ?_
  rintro e w1 ⟨rfl, hb⟩
  have V1 := hide1 (H.out.later hb)
  have G1 := hide1 (gtrans G0.out (gnew hb))
  clear hb y0 y1
  have y0 : w1.cell? ⟨r, 5, none⟩ = some (.int .i64 N.wm) := V1.out.cell 5
  have y1 : w1.cell? ⟨r, 6, none⟩ = some (.slice A.w N.w.length A.wc) := V1.out.cell 6
  go_wp2_with fail
  refine (CT.out w1 V1.out.own.rd.fw).mono ?_
  rintro e wd ⟨po, cp, rfl, ho, hb⟩
  have hS1 := hide1 (V1.out.own.below_of (Nat.le_refl _))
  have hB1 := hide1 V1.out.le
  have Vd := hide1 (V1.out.later hb)
  have Gd := hide1 (gtrans G1.out (gnew hb))
  have Od := hide1 ho
  clear hb ho y0 y1
  have y0 : wd.cell? ⟨r, 5, none⟩ = some (.int .i64 N.wm) := Vd.out.cell 5
  have y1 : wd.cell? ⟨r, 6, none⟩ = some (.slice A.w N.w.length A.wc) := Vd.out.cell 6
  have yf : ∀ j, wd.frozen? ⟨r, j, none⟩ = false := fun j => Vd.out.var.froz j
  have VV := hide1 (Vd.out.putW (m := N.wm) Od.out hS1.out hB1.out)
  clear Vd Od hS1 hB1
  go_wp2
  refine bodyPost_end (results_none Tryz.results59 _ _ _) rfl ?_
  exact ⟨rfl, _, by rw [HT.out]; exact VV.out, gset (gset Gd.out 5 _) 6 _⟩

set_option maxRecDepth 100000 in
set_option maxHeartbeats 4000000 in
theorem tchI_s {w : World} {r B : Nat} {A : NA} {N : Nr} (h : VaH w r B A N) (hN : InN N) (hl : SmN N) (k : ByteArray) (hnw : ¬ k ∈ N.w) (hin : k ∈ N.s) :
    Calls Tryz.prog 59 #[.pointer (some ⟨r, 5, none⟩), .string k] w fun e w' => e = .returned (.tuple #[]) ∧ ∃ A', VaH w' r B A' (tchN N k) ∧ w.grownBy w' (some r) := by
  have qw : hasQ N.w k = false := (by rcases e : hasQ N.w k with _ | _ <;> first | rfl | exact absurd ((hasQ_iff _ _).1 e) hnw)
  have qs : hasQ N.s k = true := (hasQ_iff _ _).2 hin
  have HT := hide1 (show tchN N k = { N with s := k :: wthQ N.s k } by unfold tchN; rw [if_neg (by rw [qw]; simp), if_pos qs])
  have CW := hide1 (fun w' (hA : RdQ w' A.w N.w) => implHas_any A.w N.w A.wc N.wm k w' hl.fw hA)
  rw [qw] at CW
  have CS := hide1 (fun w' (hA : RdQ w' A.s N.s) => implHas_any A.s N.s A.sc N.sm k w' hl.fs hA)
  rw [qs] at CS
  have RT := touR_yes hN.qs hin
  have CT := hide1 (fun w' (hA : RdQ w' A.s N.s) => implTouch_own A.s N.s A.sc N.sm k w' hl.fs h.own.fs.cap.1 h.own.fs.cap.2 hA RT)
  clear RT
  generalize k :: wthQ N.s k = L at *
  have H := hide1 h
  have G0 := hide1 (show w.grownBy w (some r) from gnew (Below.refl _ _))
  clear h hN hl hin hnw qw qs
  go_enter Tryz.func59, Tryz.ntmps59
  have y0 : w.cell? ⟨r, 5, none⟩ = some (.int .i64 N.wm) := H.out.cell 5
  have y1 : w.cell? ⟨r, 6, none⟩ = some (.slice A.w N.w.length A.wc) := H.out.cell 6
  go_wp2_with fail
  refine (CW.out w H.out.own.rd.fw).mono ?_
  rintro e w1 ⟨rfl, hb⟩
  have V1 := hide1 (H.out.later hb)
  have G1 := hide1 (gtrans G0.out (gnew hb))
  clear hb y0 y1
  have y0 : w1.cell? ⟨r, 9, none⟩ = some (.int .i64 N.sm) := V1.out.cell 9
  have y1 : w1.cell? ⟨r, 10, none⟩ = some (.slice A.s N.s.length A.sc) := V1.out.cell 10
  go_wp2_with fail
  refine (CS.out w1 V1.out.own.rd.fs).mono ?_
  rintro e w2 ⟨rfl, hb⟩
  have V2 := hide1 (V1.out.later hb)
  have G2 := hide1 (gtrans G1.out (gnew hb))
  clear hb y0 y1
  have y0 : w2.cell? ⟨r, 9, none⟩ = some (.int .i64 N.sm) := V2.out.cell 9
  have y1 : w2.cell? ⟨r, 10, none⟩ = some (.slice A.s N.s.length A.sc) := V2.out.cell 10
  go_wp2_with fail
  refine (CT.out w2 V2.out.own.rd.fs).mono ?_
  rintro e wd ⟨po, cp, rfl, ho, hb⟩
  have hS1 := hide1 (V2.out.own.below_of (Nat.le_refl _))
  have hB1 := hide1 V2.out.le
  have Vd := hide1 (V2.out.later hb)
  have Gd := hide1 (gtrans G2.out (gnew hb))
  have Od := hide1 ho
  clear hb ho y0 y1
  have y0 : wd.cell? ⟨r, 9, none⟩ = some (.int .i64 N.sm) := Vd.out.cell 9
  have y1 : wd.cell? ⟨r, 10, none⟩ = some (.slice A.s N.s.length A.sc) := Vd.out.cell 10
  have yf : ∀ j, wd.frozen? ⟨r, j, none⟩ = false := fun j => Vd.out.var.froz j
  have VV := hide1 (Vd.out.putS (m := N.sm) Od.out hS1.out hB1.out)
  clear Vd Od hS1 hB1
  go_wp2
  refine bodyPost_end (results_none Tryz.results59 _ _ _) rfl ?_
  exact ⟨rfl, _, by rw [HT.out]; exact VV.out, gset (gset Gd.out 9 _) 10 _⟩

set_option maxRecDepth 100000 in
set_option maxHeartbeats 4000000 in
theorem tchI_z {w : World} {r B : Nat} {A : NA} {N : Nr} (h : VaH w r B A N) (hN : InN N) (hl : SmN N) (k : ByteArray) (hnw : ¬ k ∈ N.w) (hns : ¬ k ∈ N.s) (hin : k ∈ N.t) (hz : N.sm = 0) :
    Calls Tryz.prog 59 #[.pointer (some ⟨r, 5, none⟩), .string k] w fun e w' => e = .returned (.tuple #[]) ∧ ∃ A', VaH w' r B A' (tchN N k) ∧ w.grownBy w' (some r) := by
  have qw : hasQ N.w k = false := (by rcases e : hasQ N.w k with _ | _ <;> first | rfl | exact absurd ((hasQ_iff _ _).1 e) hnw)
  have qs : hasQ N.s k = false := (by rcases e : hasQ N.s k with _ | _ <;> first | rfl | exact absurd ((hasQ_iff _ _).1 e) hns)
  have HT := hide1 (show tchN N k = { N with t := k :: wthQ N.t k } by unfold tchN; rw [if_neg (by rw [qw]; simp), if_neg (by rw [qs]; simp), if_pos hz])
  have CW := hide1 (fun w' (hA : RdQ w' A.w N.w) => implHas_any A.w N.w A.wc N.wm k w' hl.fw hA)
  rw [qw] at CW
  have CS := hide1 (fun w' (hA : RdQ w' A.s N.s) => implHas_any A.s N.s A.sc N.sm k w' hl.fs hA)
  rw [qs] at CS
  have RT := touR_yes hN.qt hin
  have CT := hide1 (fun w' (hA : RdQ w' A.t N.t) => implTouch_own A.t N.t A.tc N.tm k w' hl.ft h.own.ft.cap.1 h.own.ft.cap.2 hA RT)
  clear RT
  generalize k :: wthQ N.t k = L at *
  have H := hide1 h
  have G0 := hide1 (show w.grownBy w (some r) from gnew (Below.refl _ _))
  have HZ := hide1 hz
  clear h hN hl hin hnw hns qw qs hz
  go_enter Tryz.func59, Tryz.ntmps59
  have y0 : w.cell? ⟨r, 5, none⟩ = some (.int .i64 N.wm) := H.out.cell 5
  have y1 : w.cell? ⟨r, 6, none⟩ = some (.slice A.w N.w.length A.wc) := H.out.cell 6
  go_wp2_with fail
  refine (CW.out w H.out.own.rd.fw).mono ?_
  rintro e w1 ⟨rfl, hb⟩
  have V1 := hide1 (H.out.later hb)
  have G1 := hide1 (gtrans G0.out (gnew hb))
  clear hb y0 y1
  have y0 : w1.cell? ⟨r, 9, none⟩ = some (.int .i64 N.sm) := V1.out.cell 9
  have y1 : w1.cell? ⟨r, 10, none⟩ = some (.slice A.s N.s.length A.sc) := V1.out.cell 10
  go_wp2_with fail
  refine (CS.out w1 V1.out.own.rd.fs).mono ?_
  rintro e w2 ⟨rfl, hb⟩
  have V2 := hide1 (V1.out.later hb)
  have G2 := hide1 (gtrans G1.out (gnew hb))
  clear hb y0 y1
  have z9 : w2.cell? ⟨r, 9, none⟩ = some (.int .i64 N.sm) := V2.out.cell 9
  have qz : (N.sm == 0) = true := by rw [HZ.out]; rfl
  have y0 : w2.cell? ⟨r, 7, none⟩ = some (.int .i64 N.tm) := V2.out.cell 7
  have y1 : w2.cell? ⟨r, 8, none⟩ = some (.slice A.t N.t.length A.tc) := V2.out.cell 8
  go_wp2_with fail
  clear z9 qz
  refine (CT.out w2 V2.out.own.rd.ft).mono ?_
  rintro e wd ⟨po, cp, rfl, ho, hb⟩
  have hS1 := hide1 (V2.out.own.below_of (Nat.le_refl _))
  have hB1 := hide1 V2.out.le
  have Vd := hide1 (V2.out.later hb)
  have Gd := hide1 (gtrans G2.out (gnew hb))
  have Od := hide1 ho
  clear hb ho y0 y1
  have y0 : wd.cell? ⟨r, 7, none⟩ = some (.int .i64 N.tm) := Vd.out.cell 7
  have y1 : wd.cell? ⟨r, 8, none⟩ = some (.slice A.t N.t.length A.tc) := Vd.out.cell 8
  have yf : ∀ j, wd.frozen? ⟨r, j, none⟩ = false := fun j => Vd.out.var.froz j
  have VV := hide1 (Vd.out.putT (m := N.tm) Od.out hS1.out hB1.out)
  clear Vd Od hS1 hB1
  go_wp2
  refine bodyPost_end (results_none Tryz.results59 _ _ _) rfl ?_
  exact ⟨rfl, _, by rw [HT.out]; exact VV.out, gset (gset Gd.out 7 _) 8 _⟩

set_option maxRecDepth 100000 in
set_option maxHeartbeats 8000000 in
theorem riseI {w : World} {r B : Nat} {A : NA} {N : Nr} (h : VaH w r B A N) (hl : SmN N) (k : ByteArray) {M L : List ByteArray} {x : ByteArray} (HP : pshR N.s N.sm k = ((M, N.sm), x, true)) (HD : drpR N.t N.tm k = ((L, N.tm), true)) (hLl : L.length ≤ 1048576) (HX : ¬ x = ⟨#[]⟩ → pshR L N.tm x = ((x :: L, N.tm), (x :: L).getD N.tm.toNat ⟨#[]⟩, true)) {T2 : List ByteArray} (hT : (if x = ⟨#[]⟩ then L else x :: L) = T2) :
    Calls Tryz.prog 123 #[.pointer (some ⟨r, 5, none⟩), .string k] w fun e w' => e = .returned (.tuple #[]) ∧ ∃ A', VaH w' r B A' { N with s := M, t := T2 } ∧ w.grownBy w' (some r) := by
  have HTT := hide1 hT
  clear hT
  have C3 := hide1 (implDrop_own A.t N.t A.tc N.tm k w hl.ft h.own.ft.cap.1 h.own.ft.cap.2 h.own.rd.ft HD)
  have C5 := hide1 (fun w' (hA : RdQ w' A.s N.s) => implPush_own A.s N.s A.sc N.sm k w' hl.fs h.own.fs.cap.1 h.own.fs.cap.2 hA HP)
  have HXX := hide1 HX
  have H := hide1 h
  clear h hl HP HD HX
  have y7 : w.cell? ⟨r, 7, none⟩ = some (.int .i64 N.tm) := H.out.cell 7
  have y8 : w.cell? ⟨r, 8, none⟩ = some (.slice A.t N.t.length A.tc) := H.out.cell 8
  go_enter Tryz.func123, Tryz.ntmps123
  go_wp2_with fail
  refine C3.out.mono ?_
  rintro e w4 ⟨p4, c4, rfl, ho, hb4⟩
  have V4 := hide1 (H.out.later hb4)
  have u7 : w4.cell? ⟨r, 7, none⟩ = some (.int .i64 N.tm) := V4.out.cell 7
  have u8 : w4.cell? ⟨r, 8, none⟩ = some (.slice A.t N.t.length A.tc) := V4.out.cell 8
  have uf : ∀ j, w4.frozen? ⟨r, j, none⟩ = false := fun j => V4.out.var.froz j
  have V5 := hide1 (V4.out.putT (m := N.tm) ho (H.out.own.below_of (Nat.le_refl _)) H.out.le)
  have G5 := hide1 (gset (gset (gnew (r := some r) hb4) 7 (.int .i64 N.tm)) 8 (.slice p4 L.length c4))
  clear y7 y8 ho hb4 C3 V4 H
  go_upto_region 1 with fail
  generalize ((w4.setCell ⟨r, 7, none⟩ (.int .i64 N.tm)).setCell ⟨r, 8, none⟩ (.slice p4 L.length c4)) = W5 at V5 G5 ⊢
  clear u7 u8 uf
  have t9 : W5.cell? ⟨r, 9, none⟩ = some (.int .i64 N.sm) := V5.out.cell 9
  have t10 : W5.cell? ⟨r, 10, none⟩ = some (.slice A.s N.s.length A.sc) := V5.out.cell 10
  go_wp2_with fail
  refine (C5.out W5 V5.out.own.rd.fs).mono ?_
  rintro e w6 ⟨p6, c6, rfl, ho, hb6⟩
  have F := hide1 (show VaH (w6.alloc (.cells #[.int .i64 N.sm, .slice p6 M.length c6] 32)) r B { A with t := p4, tc := c4 } { N with t := L, tm := N.tm } ∧ Blk (w6.alloc (.cells #[.int .i64 N.sm, .slice p6 M.length c6] 32)) w6.heap.size 32 [.int .i64 N.sm, .slice p6 M.length c6] ∧ OwnQ (w6.alloc (.cells #[.int .i64 N.sm, .slice p6 M.length c6] 32)) W5.heap.size p6 c6 M ∧ w.grownBy (w6.alloc (.cells #[.int .i64 N.sm, .slice p6 M.length c6] 32)) (some r) from
    ⟨(V5.out.later hb6).later ((Below.refl _ _).alloc (Nat.le_refl _) _), Blk.new w6 _ _, ho.later ((Below.refl _ _).alloc (Nat.le_refl _) _), gtrans G5.out (gnew (hb6.alloc hb6.size _))⟩)
  have hv5 := hide1 (V5.out.own.below_of (Nat.le_refl _))
  have hB5 := hide1 V5.out.le
  clear ho hb6 C5 t9 t10 V5 G5
  go_upto_region 2 with fail
  generalize (w6.alloc (.cells #[.int .i64 N.sm, .slice p6 M.length c6] 32)) = W7 at F ⊢
  generalize w6.heap.size = Q7 at F ⊢
  have V7 := hide1 F.out.1
  have K7 := hide1 F.out.2.1
  have O7 := hide1 F.out.2.2.1
  have G7 := hide1 F.out.2.2.2
  clear F
  have z0 : W7.cell? ⟨Q7, 0, none⟩ = some (.int .i64 N.sm) := K7.out.cell 0
  have z1 : W7.cell? ⟨Q7, 1, none⟩ = some (.slice p6 M.length c6) := K7.out.cell 1
  have z9 : W7.cell? ⟨r, 9, none⟩ = some (.int .i64 N.sm) := V7.out.cell 9
  have z10 : W7.cell? ⟨r, 10, none⟩ = some (.slice A.s N.s.length A.sc) := V7.out.cell 10
  have zf : ∀ j, W7.frozen? ⟨r, j, none⟩ = false := fun j => V7.out.var.froz j
  have V8 := hide1 (V7.out.putS (m := N.sm) O7.out hv5.out hB5.out)
  have G8 := hide1 (gset (gset G7.out 9 (.int .i64 N.sm)) 10 (.slice p6 M.length c6))
  clear V7 K7 O7 G7 hv5 hB5
  go_upto_region 3 with fail
  generalize ((W7.setCell ⟨r, 9, none⟩ (.int .i64 N.sm)).setCell ⟨r, 10, none⟩ (.slice p6 M.length c6)) = W8 at V8 G8 ⊢
  clear z0 z1 z9 z10 zf
  by_cases hx : x = ⟨#[]⟩
  · have HZ := hide1 (show L = T2 by rw [← HTT.out, if_pos hx])
    have q : x.toList.isEmpty = true := by rw [hx]; simp
    clear hx
    go_wp2
    refine bodyPost_end (results_none Tryz.results123 _ _ _) rfl ?_
    first | exact ⟨rfl, _, by rw [← HZ.out]; exact V8.out, G8.out⟩ | exact ⟨rfl, ⟨_, by rw [← HZ.out]; exact V8.out⟩, G8.out⟩
  · have HZ := hide1 (show x :: L = T2 by rw [← HTT.out, if_neg hx])
    have q : x.toList.isEmpty = false := by
      obtain ⟨q, _⟩ := text_ne hx
      rcases e : x.toList with _ | _
      · rw [e] at q; simp at q
      · rfl
    have C8 := hide1 (implPush_own p4 L c4 N.tm x W8 hLl V8.out.own.ft.cap.1 V8.out.own.ft.cap.2 V8.out.own.rd.ft (HXX.out hx))
    have e7 : W8.cell? ⟨r, 7, none⟩ = some (.int .i64 N.tm) := V8.out.cell 7
    have e8 : W8.cell? ⟨r, 8, none⟩ = some (.slice p4 L.length c4) := V8.out.cell 8
    clear hx
    go_upto_region 4 with fail
    clear q
    go_wp2_with fail
    refine C8.out.mono ?_
    rintro e w9 ⟨p9, c9, rfl, ho, hb9⟩
    have V9 := hide1 (V8.out.later hb9)
    have G9 := hide1 (gtrans G8.out (gnew hb9))
    have u7 : w9.cell? ⟨r, 7, none⟩ = some (.int .i64 N.tm) := V9.out.cell 7
    have u8 : w9.cell? ⟨r, 8, none⟩ = some (.slice p4 L.length c4) := V9.out.cell 8
    have uf : ∀ j, w9.frozen? ⟨r, j, none⟩ = false := fun j => V9.out.var.froz j
    have VV := hide1 (V9.out.putT (m := N.tm) ho (V8.out.own.below_of (Nat.le_refl _)) V8.out.le)
    clear ho hb9 C8 e7 e8 V8 G8 V9
    go_wp2
    refine bodyPost_end (results_none Tryz.results123 _ _ _) rfl ?_
    first | exact ⟨rfl, _, by rw [← HZ.out]; exact VV.out, gset (gset G9.out 7 _) 8 _⟩ | exact ⟨rfl, ⟨_, by rw [← HZ.out]; exact VV.out⟩, gset (gset G9.out 7 _) 8 _⟩

set_option maxRecDepth 100000 in
set_option maxHeartbeats 4000000 in
theorem tchI_t {w : World} {r B : Nat} {A : NA} {N : Nr} (h : VaH w r B A N) (hN : InN N) (hl : SmN N) (k : ByteArray) (hnw : ¬ k ∈ N.w) (hns : ¬ k ∈ N.s) (hin : k ∈ N.t) (hz : ¬ N.sm = 0) :
    Calls Tryz.prog 59 #[.pointer (some ⟨r, 5, none⟩), .string k] w fun e w' => e = .returned (.tuple #[]) ∧ ∃ A', VaH w' r B A' (tchN N k) ∧ w.grownBy w' (some r) := by
  have qw : hasQ N.w k = false := (by rcases e : hasQ N.w k with _ | _ <;> first | rfl | exact absurd ((hasQ_iff _ _).1 e) hnw)
  have qs : hasQ N.s k = false := (by rcases e : hasQ N.s k with _ | _ <;> first | rfl | exact absurd ((hasQ_iff _ _).1 e) hns)
  have CW := hide1 (fun w' (hA : RdQ w' A.w N.w) => implHas_any A.w N.w A.wc N.wm k w' hl.fw hA)
  rw [qw] at CW
  have CS := hide1 (fun w' (hA : RdQ w' A.s N.s) => implHas_any A.s N.s A.sc N.sm k w' hl.fs hA)
  rw [qs] at CS
  obtain ⟨hP, hX⟩ := hN.pushT hin hns hz
  have RP := pshR_yes hP
  obtain ⟨x, hx⟩ : ∃ x, (k :: N.s).getD N.sm.toNat ⟨#[]⟩ = x := ⟨_, rfl⟩
  obtain ⟨M, hM⟩ : ∃ M, (k :: N.s).take N.sm.toNat = M := ⟨_, rfl⟩
  obtain ⟨L, hL⟩ : ∃ L, wthQ N.t k = L := ⟨_, rfl⟩
  have RD := drpR_yes hN.qt hin
  obtain ⟨T2, hT2⟩ : ∃ T2, (if x = ⟨#[]⟩ then L else x :: L) = T2 := ⟨_, rfl⟩
  have HT := hide1 (show tchN N k = { N with s := M, t := T2 } by unfold tchN; rw [if_neg (by rw [qw]; simp), if_neg (by rw [qs]; simp), if_neg hz, hx, hM, hL, hT2])
  have HX := hX x hx
  have hLl : L.length ≤ 1048576 := by have h1 := wthQ_length N.t k; have h2 := hl.ft; rw [hL] at h1; omega
  rw [hx, hM] at RP
  rw [hL] at RD HX
  have CR := hide1 (fun w' (h' : VaH w' r B A N) => riseI h' hl k RP RD hLl HX hT2)
  rw [← HT.out] at CR
  have hzz : (N.sm == 0) = false := by simpa using hz
  have HZZ := hide1 hzz
  have H := hide1 h
  have G0 := hide1 (show w.grownBy w (some r) from gnew (Below.refl _ _))
  clear h hN hl hin hnw hns qw qs hz hP hX RP RD hx hM hL hzz HX HT hT2
  go_enter Tryz.func59, Tryz.ntmps59
  have y0 : w.cell? ⟨r, 5, none⟩ = some (.int .i64 N.wm) := H.out.cell 5
  have y1 : w.cell? ⟨r, 6, none⟩ = some (.slice A.w N.w.length A.wc) := H.out.cell 6
  go_wp2_with fail
  refine (CW.out w H.out.own.rd.fw).mono ?_
  rintro e w1 ⟨rfl, hb⟩
  have V1 := hide1 (H.out.later hb)
  have G1 := hide1 (gtrans G0.out (gnew hb))
  clear hb y0 y1
  have y0 : w1.cell? ⟨r, 9, none⟩ = some (.int .i64 N.sm) := V1.out.cell 9
  have y1 : w1.cell? ⟨r, 10, none⟩ = some (.slice A.s N.s.length A.sc) := V1.out.cell 10
  go_wp2_with fail
  refine (CS.out w1 V1.out.own.rd.fs).mono ?_
  rintro e w2 ⟨rfl, hb⟩
  have V2 := hide1 (V1.out.later hb)
  have G2 := hide1 (gtrans G1.out (gnew hb))
  clear hb y0 y1
  have z9 : w2.cell? ⟨r, 9, none⟩ = some (.int .i64 N.sm) := V2.out.cell 9
  have qz := HZZ.out
  go_wp2_with fail
  clear z9 qz
  refine (CR.out w2 V2.out).mono ?_
  rintro e w3 ⟨rfl, A3, V3, G3⟩
  have VV := hide1 V3
  have GG := hide1 (gtrans G2.out G3)
  clear V3 G3
  go_wp2
  refine bodyPost_end (results_none Tryz.results59 _ _ _) rfl ?_
  exact ⟨rfl, A3, VV.out, GG.out⟩
theorem touchI {w : World} {r B : Nat} {A : NA} {N : Nr} (h : VaH w r B A N) (hN : InN N) (hl : SmN N) (k : ByteArray) (hk : k ∈ keysN N) :
    Calls Tryz.prog 59 #[.pointer (some ⟨r, 5, none⟩), .string k] w fun e w' => e = .returned (.tuple #[]) ∧ ∃ A', VaH w' r B A' (tchN N k) ∧ w.grownBy w' (some r) := by
  by_cases h1 : k ∈ N.w
  · exact tchI_w h hN hl k h1
  by_cases h2 : k ∈ N.s
  · exact tchI_s h hN hl k h1 h2
  have h3 : k ∈ N.t := by
    rcases InN.mem.1 hk with a | a | a
    · exact absurd a h1
    · exact a
    · exact absurd a h2
  by_cases h4 : N.sm = 0
  · exact tchI_z h hN hl k h1 h2 h3 h4
  · exact tchI_t h hN hl k h1 h2 h3 h4
end Go.Proofs.YtjgiobdpbbhekaaGreatDoor
