/- MovedKeys answers as its model at every argument; its answer owns its memory, behind another call too; no condition. -/
import Derived.Test.YtdgpencendphbaaRows
import Derived.ProofKit
import Derived.OpenShut
import Derived.ShutString
import Derived.ChangeOld
import Derived.Test.YtdgpencendphbaaTxV
import Derived.Test.YtdgpencendphbaaRiB
import Derived.Test.YtdgpencendphbaaRiK
namespace Go.Proofs.Ytdgpencendphbaa
open Go.ChangeShapes Go.WideShapes Go.ChangeAt Go.RowKit
open Go.ChangeMaps (open_string shut_string)
set_option linter.unusedVariables false

/-- Two rings that came in, in their boxes. -/
structure InR2 (w0 w : World) (ao : Option Addr) (n ca : Nat) (bo : Option Addr) (m cb : Nat) : Prop where
  bel : Below w0.heap.size w0 w
  va : VarR w 24 w0.heap.size ao n ca
  vb : VarR w 24 (w0.heap.size + 1) bo m cb
theorem InR2.step {w0 w w' : World} {ao bo : Option Addr} {n ca m cb B : Nat} (h : InR2 w0 w ao n ca bo m cb) (hb : Below B w w') (hB : w0.heap.size + 2 ≤ B) : InR2 w0 w' ao n ca bo m cb :=
  ⟨h.bel.trans (hb.mono (by omega)), h.va.below hb (by omega), h.vb.below hb (by omega)⟩
theorem InR2.later {w0 w w' : World} {ao bo : Option Addr} {n ca m cb : Nat} (h : InR2 w0 w ao n ca bo m cb) (hb : Below w.heap.size w w') : InR2 w0 w' ao n ca bo m cb := h.step hb h.vb.cells.1

set_option maxRecDepth 100000 in
set_option maxHeartbeats 8000000 in
theorem walk_FnExactMovedKeys (ao : Option Addr) (la : List Sp) (ca : Nat) (bo : Option Addr) (lb : List Sp) (cb : Nat) (ko : Option Addr) (ks : List ByteArray) (ck : Nat) (w : World) (hRA : RdO w ao la) (hla : la.length ≤ maxLen) (hRB : RdO w bo lb) (hlb : lb.length ≤ maxLen) (hRK : RdQ w ko ks) (hks : ks.length ≤ maxLen ∧ ∀ i (h : i < ks.length), ks[i].size ≤ maxLen) :
    Calls Try.prog 5 #[riV ao la.length ca, riV bo lb.length cb, .slice ko ks.length ck] w fun e w' => e = .returned (.bool true) ∧ Below w.heap.size w w' := by
  have CZA := hide1 (fun w' => szRing_any ao la.length ca 1048576 w' hla (Nat.le_refl _))
  have CZB := hide1 (fun w' (r : Nat) (hr : r ≤ 1048576) => szRing_any bo lb.length cb r w' hlb hr)
  have CZK := hide1 (fun w' (r : Nat) (hr : r ≤ 1048576) (hK : RdQ w' ko ks) => szTextS_any ko ks ck r w' hks.1 hks.2 hr hK)
  have HRA := hide1 hRA
  have HRB := hide1 hRB
  have HRK := hide1 hRK
  clear hRA hRB hRK hla hlb hks
  unfold riV
  have F0 := hide1 (blkN2 w #[.slice ao la.length ca] #[.slice bo lb.length cb] 24 24)
  go_enter Try.func5, Try.ntmps5
  go_wp2_with fail
  generalize ((w.alloc (.cells #[.slice ao la.length ca] 24)).alloc (.cells #[.slice bo lb.length cb] 24)) = w0 at F0 ⊢
  have I0 : Hid (InR2 w w0 ao la.length ca bo lb.length cb) := ⟨F0.out.2.2, F0.out.1, F0.out.2.1⟩
  have s0 : w.heap.size + 2 ≤ w0.heap.size := F0.out.2.1.lt
  clear F0
  refine (CZA.out w0).mono ?_
  rintro e w1 ⟨hr, hb1⟩
  have I1 := hide1 (I0.out.later hb1)
  have s1 : w0.heap.size ≤ w1.heap.size := hb1.size
  clear I0
  clear hb1 CZA
  rcases hr with rfl | ⟨r1, rfl, hr1⟩
  · go_wp2
    go_ret
    exact ⟨rfl, I1.out.bel⟩
  have hna : la.length ≤ 1048576 := by omega
  have hr1' : r1 ≤ 1048576 := by omega
  clear hr1
  have qa : decide ((r1 : Int) < 0) = false := by simp
  have vb1 := (I1.out.vb.cells).2
  go_wp2_with fail
  refine (CZB.out w1 r1 hr1').mono ?_
  rintro e w2 ⟨hr, hb2⟩
  have I2 := hide1 (I1.out.later hb2)
  have s2 : w1.heap.size ≤ w2.heap.size := hb2.size
  clear I1
  clear hb2 CZB vb1
  rcases hr with rfl | ⟨r2, rfl, hr2⟩
  · go_wp2
    go_ret
    exact ⟨rfl, I2.out.bel⟩
  have hnb : lb.length ≤ 1048576 := by omega
  have hr2' : r2 ≤ 1048576 := by omega
  clear hr2
  have qb : decide ((r2 : Int) < 0) = false := by simp
  go_wp2_with fail
  refine (CZK.out w2 r2 hr2' (HRK.out.later I2.out.bel)).mono ?_
  rintro e w3 ⟨hr, hw3⟩
  obtain rfl : w2 = w3 := hw3.symm
  clear CZK
  rcases hr with rfl | ⟨r3, rfl, hr3, hk1, hk2⟩
  · go_wp2
    go_ret
    exact ⟨rfl, I2.out.bel⟩
  have hnk : ks.length ≤ 1048576 := by omega
  have HNS : Hid (∀ i (h : i < ks.length), ks[i].size ≤ 1048576) := fun i h => Nat.le_trans (hk2 i h) hr2'
  have qc : decide ((r3 : Int) < 0) = false := by simp
  clear hr3 hk1 hk2
  have hLm : (movedS la lb ks).length ≤ 1048576 := Nat.le_trans (List.length_filter_le _ _) hnk
  have CS := hide1 (fun (b c d : Option Addr) (x y z : Nat) w' (hA : RdP w' b la) (hB : RdP w' c lb) (hK : RdQ w' d ks) => specMoved_any b c d la lb ks x y z w' hna hnb hnk HNS.out hA hB hK)
  have CI := hide1 (fun (b c d : Option Addr) (x y z : Nat) w' (hA : RdP w' b la) (hB : RdP w' c lb) (hK : RdQ w' d ks) => implMoved_any b c d la lb ks x y z w' hna hnb hnk HNS.out hA hB hK)
  unfold riV at CS CI
  obtain ⟨L, hLe⟩ : ∃ L, movedS la lb ks = L := ⟨_, rfl⟩
  rw [hLe] at CS CI hLm
  clear hLe
  have CTA := hide1 (fun w' (hb : Below w.heap.size w w') => toRing_own ao la ca w' hna (HRA.out.later hb))
  have CTB := hide1 (fun w' (hb : Below w.heap.size w w') => toRing_own bo lb cb w' hnb (HRB.out.later hb))
  have CTK := hide1 (fun w' (hb : Below w.heap.size w w') => toTextS_own ko ks ck w' hnk (HRK.out.later hb))
  clear HRA HRB HRK
  have xa := (I2.out.va.cells).2
  have xb := (I2.out.vb.cells).2
  have la0 := (I2.out.va.cells).1
  have lb0 := (I2.out.vb.cells).1
  have XX := hide1 (And.intro xa xb)
  have BB := hide1 I2.out.bel
  have hsB : w.heap.size ≤ w2.heap.size := BB.out.size
  go_wp2
  go_region_held3 (fun w' => w'.cell? ⟨w.heap.size, 0, none⟩ = some (.slice ao la.length ca) ∧ w'.cell? ⟨w.heap.size + 1, 0, none⟩ = some (.slice bo lb.length cb)) (first | go_keep | exact ⟨(Dm.out.cell la0).trans XX.out.1, (Dm.out.cell lb0).trans XX.out.2⟩ | exact ⟨(Dk.out.cell la0).trans XX.out.1, (Dk.out.cell lb0).trans XX.out.2⟩ | exact ⟨(Db.out.cell la0).trans XX.out.1, (Db.out.cell lb0).trans XX.out.2⟩ | exact ⟨(Da.out.cell la0).trans XX.out.1, (Da.out.cell lb0).trans XX.out.2⟩) ((first
    | (go_at_call 18; refine (CM.out _ (show Below wk.heap.size wk _ by go_grown)).mono ?_; rintro e wm ⟨pp, cp, rfl, hom, hbm⟩; have Dm : Hid (Below w2.heap.size w2 wm) := (Dk.out.trans (show Below w2.heap.size wk _ by have := Dk.out.size; go_grown)).trans (hbm.mono (by have := Dk.out.size; go_size)); have Om : Hid (OwnQ wm w2.heap.size pp cp L) := own_base hom (by have := Dk.out.size; go_size); clear hom hbm)
    | (go_at_call 19; refine (CTK.out _ (BB.out.trans ((Db.out.trans (show Below w2.heap.size wb _ by have := Db.out.size; go_grown)).mono hsB))).mono ?_; rintro e wk ⟨tk, uk, rfl, hok, hbk⟩; have Dbk : Hid (Below wb.heap.size wb wk) := (show Below wb.heap.size wb _ by go_grown).trans (hbk.mono (by go_size)); have Dk : Hid (Below w2.heap.size w2 wk) := Db.out.trans (Dbk.out.mono Db.out.size); have CM := hide1 (fun w' (hb : Below wk.heap.size wk w') => CS.out ta tb tk ua ub uk w' ((RA.out.later Dbk.out).later hb) ((RB.out.later Dbk.out).later hb) (hok.rd.later hb)); clear hok hbk)
    | (have := Da.out; go_at_call 8; refine (CTB.out _ (BB.out.trans ((Da.out.trans (show Below w2.heap.size wa _ by have := Da.out.size; go_grown)).mono hsB))).mono ?_; rintro e wb ⟨tb, ub, rfl, hob, hbb⟩; have Dab : Hid (Below wa.heap.size wa wb) := (show Below wa.heap.size wa _ by go_grown).trans (hbb.mono (by go_size)); have Db : Hid (Below w2.heap.size w2 wb) := Da.out.trans (Dab.out.mono Da.out.size); have RA := hide1 (HOa.out.rd.later Dab.out); have RB := hide1 hob.rd; clear hob hbb)
    | (go_at_call 8; refine (CTA.out _ (BB.out.trans ((show Below w2.heap.size w2 _ by go_grown).mono hsB))).mono ?_; rintro e wa ⟨ta, ua, rfl, hoa, hba⟩; have Da : Hid (Below w2.heap.size w2 wa) := (show Below w2.heap.size w2 _ by go_grown).trans (hba.mono (by go_size)); have HOa := hide1 hoa; clear hoa hba)))
  clear xa xb XX BB CM Dk Db Da Dab Dbk RA RB HOa la0 lb0 hsB
  have w4h : ∃ w4, w4 = wm := ⟨_, rfl⟩
  obtain ⟨w4, e4⟩ := w4h
  subst e4
  clear CS
  have I4 := hide1 (I2.out.later Dm.out)
  have s4 : w2.heap.size ≤ w4.heap.size := Dm.out.size
  clear I2
  have P4 := hide1 Om.out
  have EP := hide1 (fun g (hg : (Value.slice pp L.length cp).ownBlock = some g) => Om.out.lt g hg)
  clear Dm Om
  have x := (I4.out.va.cells).2
  go_wp2_with fail
  refine (CTA.out w4 I4.out.bel).mono ?_
  rintro e w5 ⟨b5, c5, rfl, ho5, hb5⟩
  have A5 := hide1 ho5
  have EA := hide1 (fun g (hg : (Value.slice b5 la.length c5).ownBlock = some g) => ho5.lt g hg)
  have I5 := hide1 (I4.out.later hb5)
  have P5 := hide1 (P4.out.later hb5)
  have s5 : w4.heap.size ≤ w5.heap.size := hb5.size
  clear I4 P4
  clear ho5 hb5 x
  have G6 := hide1 (And.intro (Blk.new w5 29 #[.slice b5 la.length c5]) ((Below.refl w5.heap.size w5).alloc (Nat.le_refl _) (.cells #[.slice b5 la.length c5] 29)))
  have x := (I5.out.vb.cells).2
  have hw5 := (I5.out.vb.cells).1
  go_wp2_with fail
  generalize (w5.alloc (.cells #[.slice b5 la.length c5] 29)) = w6 at G6 ⊢
  have X6 : Hid (VarR w6 29 w5.heap.size b5 la.length c5) := G6.out.1
  have xs6 : w5.heap.size + 1 ≤ w6.heap.size := G6.out.1.lt
  have I6 := hide1 (I5.out.later G6.out.2)
  have P6 := hide1 (P5.out.later G6.out.2)
  have A6 := hide1 (A5.out.later G6.out.2)
  have s6 : w5.heap.size ≤ w6.heap.size := G6.out.2.size
  clear I5 P5 A5
  clear G6
  try (have x := (I6.out.vb.cells).2)
  try go_wp2_with fail
  refine (CTB.out w6 I6.out.bel).mono ?_
  rintro e w7 ⟨b7, c7, rfl, ho7, hb7⟩
  have B7 := hide1 ho7
  have EB := hide1 (fun g (hg : (Value.slice b7 lb.length c7).ownBlock = some g) => ho7.lt g hg)
  have I7 := hide1 (I6.out.later hb7)
  have P7 := hide1 (P6.out.later hb7)
  have A7 := hide1 (A6.out.later hb7)
  have X7 := hide1 (X6.out.later hb7)
  have s7 : w6.heap.size ≤ w7.heap.size := hb7.size
  clear I6 P6 A6 X6
  clear ho7 hb7
  try clear x
  try clear hw5
  have G8 := hide1 (And.intro (Blk.new w7 29 #[.slice b7 lb.length c7]) ((Below.refl w7.heap.size w7).alloc (Nat.le_refl _) (.cells #[.slice b7 lb.length c7] 29)))
  go_wp2_with fail
  generalize (w7.alloc (.cells #[.slice b7 lb.length c7] 29)) = w8 at G8 ⊢
  have Y8 : Hid (VarR w8 29 w7.heap.size b7 lb.length c7) := G8.out.1
  have xs8 : w7.heap.size + 1 ≤ w8.heap.size := G8.out.1.lt
  have I8 := hide1 (I7.out.later G8.out.2)
  have P8 := hide1 (P7.out.later G8.out.2)
  have A8 := hide1 (A7.out.later G8.out.2)
  have X8 := hide1 (X7.out.later G8.out.2)
  have B8 := hide1 (B7.out.later G8.out.2)
  have s8 : w7.heap.size ≤ w8.heap.size := G8.out.2.size
  clear I7 P7 A7 X7 B7
  clear G8
  refine (CTK.out w8 I8.out.bel).mono ?_
  rintro e w9 ⟨b9, c9, rfl, ho9, hb9⟩
  have K9 := hide1 ho9
  have EK := hide1 (fun g (hg : (Value.slice b9 ks.length c9).ownBlock = some g) => ho9.lt g hg)
  have I9 := hide1 (I8.out.later hb9)
  have P9 := hide1 (P8.out.later hb9)
  have A9 := hide1 (A8.out.later hb9)
  have X9 := hide1 (X8.out.later hb9)
  have B9 := hide1 (B8.out.later hb9)
  have Y9 := hide1 (Y8.out.later hb9)
  have s9 : w8.heap.size ≤ w9.heap.size := hb9.size
  clear I8 P8 A8 X8 B8 Y8
  clear ho9 hb9
  have xa := (X9.out.cells).2
  have xb := (Y9.out.cells).2
  go_wp2_with fail
  refine (CI.out b5 b7 b9 c5 c7 c9 w9 A9.out.rd B9.out.rd K9.out.rd).mono ?_
  rintro e w10 ⟨qo, cq, rfl, ho10, hb10⟩
  have G10 : Hid (OwnQ w10 w9.heap.size qo cq L) := ho10
  have EG := hide1 (fun g (hg : (Value.slice qo L.length cq).ownBlock = some g) => World.ownsRow.lt ho10 g hg)
  have I10 := hide1 (I9.out.later hb10)
  have P10 := hide1 (P9.out.later hb10)
  have A10 := hide1 (A9.out.later hb10)
  have X10 := hide1 (X9.out.later hb10)
  have B10 := hide1 (B9.out.later hb10)
  have Y10 := hide1 (Y9.out.later hb10)
  have K10 := hide1 (K9.out.later hb10)
  have s10 : w9.heap.size ≤ w10.heap.size := hb10.size
  clear I9 P9 A9 X9 B9 Y9 K9
  clear ho10 hb10 xa xb
  go_wp2_with fail
  refine (eqTextS_own qo pp L cq cp w10 hLm G10.out.rd P10.out.rd).mono ?_
  rintro e w11 ⟨rfl, hb11⟩
  have I11 := hide1 (I10.out.later hb11)
  have P11 := hide1 (P10.out.later hb11)
  have A11 := hide1 (A10.out.later hb11)
  have X11 := hide1 (X10.out.later hb11)
  have B11 := hide1 (B10.out.later hb11)
  have Y11 := hide1 (Y10.out.later hb11)
  have K11 := hide1 (K10.out.later hb11)
  have G11 := hide1 (G10.out.later hb11)
  have s11 : w10.heap.size ≤ w11.heap.size := hb11.size
  clear I10 P10 A10 X10 B10 Y10 K10 G10
  clear hb11
  have mX := (X11.out.cells).1
  have z0 := (X11.out.cells).2
  have mS := (I11.out.va.cells).1
  have x0 := (I11.out.va.cells).2
  have ZX := hide1 (And.intro z0 x0)
  have RX := hide1 A11.out.rd
  have BB := hide1 I11.out.bel
  have hsB : w.heap.size ≤ w11.heap.size := BB.out.size
  go_wp2
  go_region_held3 (fun w' => w'.cell? ⟨w5.heap.size, 0, none⟩ = some (.slice b5 la.length c5) ∧ w'.cell? ⟨w.heap.size, 0, none⟩ = some (.slice ao la.length ca)) (first | go_keep | exact ⟨(D8.out.cell mX).trans ZX.out.1, (D8.out.cell mS).trans ZX.out.2⟩ | exact ⟨(D7.out.cell mX).trans ZX.out.1, (D7.out.cell mS).trans ZX.out.2⟩) ((first | (go_at_call 10; refine (CE.out _ (show Below wx.heap.size wx _ by go_grown)).mono ?_; rintro e wy ⟨rfl, hb8⟩; have D8 : Hid (Below w11.heap.size w11 wy) := (D7.out.trans (show Below w11.heap.size wx _ by have := D7.out.size; go_grown)).trans (hb8.mono (by have := D7.out.size; go_size)); clear hb8) | (go_at_call 8; refine (CTA.out _ (BB.out.trans ((show Below w11.heap.size w11 _ by go_grown).mono hsB))).mono ?_; rintro e wx ⟨tb, tc, rfl, ho7, hb7⟩; have D7 : Hid (Below w11.heap.size w11 wx) := (show Below w11.heap.size w11 _ by go_grown).trans (hb7.mono (by go_size)); have CE := hide1 (fun w' (hb : Below wx.heap.size wx w') => eqRing_own b5 tb la c5 tc w' hna (RX.out.later (D7.out.trans (hb.mono D7.out.size))) (ho7.rd.later hb)); clear ho7 hb7)))
  clear z0 x0 ZX CE D7 mX mS RX BB hsB
  obtain ⟨w12, e12⟩ : ∃ w12, w12 = wy := ⟨_, rfl⟩
  subst e12
  have I12 := hide1 (I11.out.later D8.out)
  have P12 := hide1 (P11.out.later D8.out)
  have A12 := hide1 (A11.out.later D8.out)
  have X12 := hide1 (X11.out.later D8.out)
  have B12 := hide1 (B11.out.later D8.out)
  have Y12 := hide1 (Y11.out.later D8.out)
  have K12 := hide1 (K11.out.later D8.out)
  have G12 := hide1 (G11.out.later D8.out)
  have s12 : w11.heap.size ≤ w12.heap.size := D8.out.size
  clear I11 P11 A11 X11 B11 Y11 K11 G11
  clear D8
  have mX := (Y12.out.cells).1
  have z0 := (Y12.out.cells).2
  have mS := (I12.out.vb.cells).1
  have x0 := (I12.out.vb.cells).2
  have ZX := hide1 (And.intro z0 x0)
  have RX := hide1 B12.out.rd
  have BB := hide1 I12.out.bel
  have hsB : w.heap.size ≤ w12.heap.size := BB.out.size
  go_wp2
  go_region_held3 (fun w' => w'.cell? ⟨w7.heap.size, 0, none⟩ = some (.slice b7 lb.length c7) ∧ w'.cell? ⟨w.heap.size + 1, 0, none⟩ = some (.slice bo lb.length cb)) (first | go_keep | exact ⟨(D8.out.cell mX).trans ZX.out.1, (D8.out.cell mS).trans ZX.out.2⟩ | exact ⟨(D7.out.cell mX).trans ZX.out.1, (D7.out.cell mS).trans ZX.out.2⟩) ((first | (go_at_call 10; refine (CE.out _ (show Below wx.heap.size wx _ by go_grown)).mono ?_; rintro e wy ⟨rfl, hb8⟩; have D8 : Hid (Below w12.heap.size w12 wy) := (D7.out.trans (show Below w12.heap.size wx _ by have := D7.out.size; go_grown)).trans (hb8.mono (by have := D7.out.size; go_size)); clear hb8) | (go_at_call 8; refine (CTB.out _ (BB.out.trans ((show Below w12.heap.size w12 _ by go_grown).mono hsB))).mono ?_; rintro e wx ⟨tb, tc, rfl, ho7, hb7⟩; have D7 : Hid (Below w12.heap.size w12 wx) := (show Below w12.heap.size w12 _ by go_grown).trans (hb7.mono (by go_size)); have CE := hide1 (fun w' (hb : Below wx.heap.size wx w') => eqRing_own b7 tb lb c7 tc w' hnb (RX.out.later (D7.out.trans (hb.mono D7.out.size))) (ho7.rd.later hb)); clear ho7 hb7)))
  clear z0 x0 ZX CE D7 mX mS RX BB hsB
  obtain ⟨w13, e13⟩ : ∃ w13, w13 = wy := ⟨_, rfl⟩
  subst e13
  have I13 := hide1 (I12.out.later D8.out)
  have P13 := hide1 (P12.out.later D8.out)
  have A13 := hide1 (A12.out.later D8.out)
  have X13 := hide1 (X12.out.later D8.out)
  have B13 := hide1 (B12.out.later D8.out)
  have Y13 := hide1 (Y12.out.later D8.out)
  have K13 := hide1 (K12.out.later D8.out)
  have G13 := hide1 (G12.out.later D8.out)
  have s13 : w12.heap.size ≤ w13.heap.size := D8.out.size
  clear I12 P12 A12 X12 B12 Y12 K12 G12
  clear D8
  go_wp2_with fail
  refine (CTK.out w13 I13.out.bel).mono ?_
  rintro e w14 ⟨b14, c14, rfl, ho14, hb14⟩
  have T14 := hide1 ho14.rd
  have I14 := hide1 (I13.out.later hb14)
  have P14 := hide1 (P13.out.later hb14)
  have A14 := hide1 (A13.out.later hb14)
  have X14 := hide1 (X13.out.later hb14)
  have B14 := hide1 (B13.out.later hb14)
  have Y14 := hide1 (Y13.out.later hb14)
  have K14 := hide1 (K13.out.later hb14)
  have G14 := hide1 (G13.out.later hb14)
  have s14 : w13.heap.size ≤ w14.heap.size := hb14.size
  clear I13 P13 A13 X13 B13 Y13 K13 G13
  clear ho14 hb14
  go_wp2_with fail
  refine (eqTextS_own b9 b14 ks c9 c14 w14 hnk K14.out.rd T14.out).mono ?_
  rintro e w15 ⟨rfl, hb15⟩
  have I15 := hide1 (I14.out.later hb15)
  have P15 := hide1 (P14.out.later hb15)
  have A15 := hide1 (A14.out.later hb15)
  have X15 := hide1 (X14.out.later hb15)
  have B15 := hide1 (B14.out.later hb15)
  have Y15 := hide1 (Y14.out.later hb15)
  have K15 := hide1 (K14.out.later hb15)
  have G15 := hide1 (G14.out.later hb15)
  have s15 : w14.heap.size ≤ w15.heap.size := hb15.size
  clear I14 P14 A14 X14 B14 Y14 K14 G14
  clear hb15 T14
  have x := (X15.out.cells).2
  have M := hide1 (markRing_any b5 c5 1 w4.heap.size la w15 hna (by omega) (by omega) A15.out)
  rw [show ((1 : Nat) : Int) = 1 from rfl] at M
  go_wp2_with fail
  refine M.out.mono ?_
  rintro e w16 ⟨rfl, _, hg16⟩
  clear M x
  clear A15
  clear X15
  have I16 := hide1 (I15.out.step (gbelow (B := w.heap.size + 2) hg16 (fun g hg => by have := EA.out g hg; omega) (by omega)) (Nat.le_refl _))
  have P16 : Hid (OwnQ w16 w2.heap.size pp cp L) := gown hg16 P15.out (fun k h1 h2 => by have := EP.out k h1; have := EA.out k h2; omega)
  have B16 : Hid (OwnR w16 w6.heap.size b7 c7 lb) := gown hg16 B15.out (fun k h1 h2 => by have := EB.out k h1; have := EA.out k h2; omega)
  have Y16 : Hid (VarR w16 29 w7.heap.size b7 lb.length c7) := gblk hg16 Y15.out (fun e => by have := EA.out _ e; omega)
  have K16 : Hid (OwnQ w16 w8.heap.size b9 c9 ks) := gown hg16 K15.out (fun k h1 h2 => by have := EK.out k h1; have := EA.out k h2; omega)
  have G16 : Hid (OwnQ w16 w9.heap.size qo cq L) := gown hg16 G15.out (fun k h1 h2 => by have := EG.out k h1; have := EA.out k h2; omega)
  have s16 : w15.heap.size ≤ w16.heap.size := hg16.size
  clear hg16 I15 P15 B15 Y15 K15 G15
  have x := (Y16.out.cells).2
  have M := hide1 (markRing_any b7 c7 (1 + 2 * la.length) w6.heap.size lb w16 hnb (by omega) (by omega) B16.out)
  rw [show ((1 + 2 * la.length : Nat) : Int) = 1 + 2 * (la.length : Int) by omega] at M
  go_wp2_with fail
  refine M.out.mono ?_
  rintro e w17 ⟨rfl, _, hg17⟩
  clear M x
  clear B16 Y16
  have I17 := hide1 (I16.out.step (gbelow (B := w.heap.size + 2) hg17 (fun g hg => by have := EB.out g hg; omega) (by omega)) (Nat.le_refl _))
  have P17 : Hid (OwnQ w17 w2.heap.size pp cp L) := gown hg17 P16.out (fun k h1 h2 => by have := EP.out k h1; have := EB.out k h2; omega)
  have K17 : Hid (OwnQ w17 w8.heap.size b9 c9 ks) := gown hg17 K16.out (fun k h1 h2 => by have := EK.out k h1; have := EB.out k h2; omega)
  have G17 : Hid (OwnQ w17 w9.heap.size qo cq L) := gown hg17 G16.out (fun k h1 h2 => by have := EG.out k h1; have := EB.out k h2; omega)
  have s17 : w16.heap.size ≤ w17.heap.size := hg17.size
  clear hg17 I16 P16 K16 G16
  have M := hide1 (markTextS_any b9 c9 (1 + 2 * la.length + 2 * lb.length) w8.heap.size ks w17 hnk (by omega) (by omega) K17.out)
  rw [show ((1 + 2 * la.length + 2 * lb.length : Nat) : Int) = 1 + 2 * (la.length : Int) + 2 * (lb.length : Int) by omega] at M
  go_wp2_with fail
  refine M.out.mono ?_
  rintro e w18 ⟨rfl, _, hg18⟩
  clear M
  clear K17
  have I18 := hide1 (I17.out.step (gbelow (B := w.heap.size + 2) hg18 (fun g hg => by have := EK.out g hg; omega) (by omega)) (Nat.le_refl _))
  have P18 : Hid (OwnQ w18 w2.heap.size pp cp L) := gown hg18 P17.out (fun k h1 h2 => by have := EP.out k h1; have := EK.out k h2; omega)
  have G18 : Hid (OwnQ w18 w9.heap.size qo cq L) := gown hg18 G17.out (fun k h1 h2 => by have := EG.out k h1; have := EK.out k h2; omega)
  have s18 : w17.heap.size ≤ w18.heap.size := hg18.size
  clear hg18 I17 P17 G17
  have q8 : decide (1 + 2 * (la.length : Int) + 2 * (lb.length : Int) + (ks.length : Int) < 0) = false := decide_eq_false (by omega)
  go_wp2_with fail
  refine (eqTextS_own qo pp L cq cp w18 hLm G18.out.rd P18.out.rd).mono ?_
  rintro e w19 ⟨rfl, hb19⟩
  have I19 := hide1 (I18.out.later hb19)
  have P19 := hide1 (P18.out.later hb19)
  have G19 := hide1 (G18.out.later hb19)
  have s19 : w18.heap.size ≤ w19.heap.size := hb19.size
  clear I18 P18 G18
  clear hb19
  go_wp2_with fail
  refine (markTextS_own qo cq w9.heap.size L w19 hLm G19.out).mono ?_
  rintro e w20 ⟨rfl, hp20, hg20⟩
  have N20 := hide1 hp20
  clear hp20
  clear G19
  have I20 := hide1 (I19.out.step (gbelow (B := w.heap.size + 2) hg20 (fun g hg => by have := EG.out g hg; omega) (by omega)) (Nat.le_refl _))
  have P20 : Hid (OwnQ w20 w2.heap.size pp cp L) := gown hg20 P19.out (fun k h1 h2 => by have := EP.out k h1; have := EG.out k h2; omega)
  have s20 : w19.heap.size ≤ w20.heap.size := hg20.size
  clear hg20 I19 P19
  have q9 : decide (1 + (L.length : Int) < 0) = false := decide_eq_false (by omega)
  have e9 : ((1 + (L.length : Int)) != (1 + (L.length : Int))) = false := by simp
  go_wp2_with fail
  refine (heldTextS_own qo L.length cq w20 hLm N20.out).mono ?_
  rintro e w21 ⟨rfl, hb21⟩
  have I21 := hide1 (I20.out.later hb21)
  have P21 := hide1 (P20.out.later hb21)
  have N21 := hide1 (N20.out.later hb21)
  have s21 : w20.heap.size ≤ w21.heap.size := hb21.size
  clear I20 P20 N20
  clear hb21
  have xa := (I21.out.va.cells).2
  have xb := (I21.out.vb.cells).2
  have la0 := (I21.out.va.cells).1
  have lb0 := (I21.out.vb.cells).1
  have XX := hide1 (And.intro xa xb)
  have BB := hide1 I21.out.bel
  have hsB : w.heap.size ≤ w21.heap.size := BB.out.size
  go_wp2
  go_region_held3 (fun w' => w'.cell? ⟨w.heap.size, 0, none⟩ = some (.slice ao la.length ca) ∧ w'.cell? ⟨w.heap.size + 1, 0, none⟩ = some (.slice bo lb.length cb)) (first | go_keep | exact ⟨(Dm.out.cell la0).trans XX.out.1, (Dm.out.cell lb0).trans XX.out.2⟩ | exact ⟨(Dk.out.cell la0).trans XX.out.1, (Dk.out.cell lb0).trans XX.out.2⟩ | exact ⟨(Db.out.cell la0).trans XX.out.1, (Db.out.cell lb0).trans XX.out.2⟩ | exact ⟨(Da.out.cell la0).trans XX.out.1, (Da.out.cell lb0).trans XX.out.2⟩) ((first
    | (go_at_call 20; refine (CM.out _ (show Below wk.heap.size wk _ by go_grown)).mono ?_; rintro e wm ⟨pr, cr, rfl, hom, hbm⟩; have Dm : Hid (Below w21.heap.size w21 wm) := (Dk.out.trans (show Below w21.heap.size wk _ by have := Dk.out.size; go_grown)).trans (hbm.mono (by have := Dk.out.size; go_size)); have Om : Hid (OwnQ wm w21.heap.size pr cr L) := own_base hom (by have := Dk.out.size; go_size); clear hom hbm)
    | (go_at_call 19; refine (CTK.out _ (BB.out.trans ((Db.out.trans (show Below w21.heap.size wb _ by have := Db.out.size; go_grown)).mono hsB))).mono ?_; rintro e wk ⟨tk, uk, rfl, hok, hbk⟩; have Dbk : Hid (Below wb.heap.size wb wk) := (show Below wb.heap.size wb _ by go_grown).trans (hbk.mono (by go_size)); have Dk : Hid (Below w21.heap.size w21 wk) := Db.out.trans (Dbk.out.mono Db.out.size); have CM := hide1 (fun w' (hb : Below wk.heap.size wk w') => CI.out ta tb tk ua ub uk w' ((RA.out.later Dbk.out).later hb) ((RB.out.later Dbk.out).later hb) (hok.rd.later hb)); clear hok hbk)
    | (have := Da.out; go_at_call 8; refine (CTB.out _ (BB.out.trans ((Da.out.trans (show Below w21.heap.size wa _ by have := Da.out.size; go_grown)).mono hsB))).mono ?_; rintro e wb ⟨tb, ub, rfl, hob, hbb⟩; have Dab : Hid (Below wa.heap.size wa wb) := (show Below wa.heap.size wa _ by go_grown).trans (hbb.mono (by go_size)); have Db : Hid (Below w21.heap.size w21 wb) := Da.out.trans (Dab.out.mono Da.out.size); have RA := hide1 (HOa.out.rd.later Dab.out); have RB := hide1 hob.rd; clear hob hbb)
    | (go_at_call 8; refine (CTA.out _ (BB.out.trans ((show Below w21.heap.size w21 _ by go_grown).mono hsB))).mono ?_; rintro e wa ⟨ta, ua, rfl, hoa, hba⟩; have Da : Hid (Below w21.heap.size w21 wa) := (show Below w21.heap.size w21 _ by go_grown).trans (hba.mono (by go_size)); have HOa := hide1 hoa; clear hoa hba)))
  clear xa xb XX BB CM Dk Db Da Dab Dbk RA RB HOa la0 lb0 hsB
  obtain ⟨w22, e22⟩ : ∃ w22, w22 = wm := ⟨_, rfl⟩
  subst e22
  have I22 := hide1 (I21.out.later Dm.out)
  have P22 := hide1 (P21.out.later Dm.out)
  have N22 := hide1 (N21.out.later Dm.out)
  have s22 : w21.heap.size ≤ w22.heap.size := Dm.out.size
  clear I21 P21 N21
  have T22 := hide1 Om.out.rd
  clear Dm Om
  go_wp2_with fail
  refine (eqTextS_own pr pp L cr cp w22 hLm T22.out P22.out.rd).mono ?_
  rintro e w23 ⟨rfl, hb23⟩
  have I23 := hide1 (I22.out.later hb23)
  have P23 := hide1 (P22.out.later hb23)
  have N23 := hide1 (N22.out.later hb23)
  have s23 : w22.heap.size ≤ w23.heap.size := hb23.size
  clear I22 P22 N22
  clear hb23 T22
  go_wp2_with fail
  refine (heldTextS_own qo L.length cq w23 hLm N23.out).mono ?_
  rintro e w24 ⟨rfl, hb24⟩
  have BF := hide1 (I23.out.later hb24).bel
  go_wp2
  go_ret
  exact ⟨rfl, BF.out⟩

set_option maxRecDepth 100000 in
theorem lifted_FnExactMovedKeys (os : Os) (started : os.Started) (H : Type) (enc : TypeId × Value → H) :
    ReturnsInHanded {} Try.checked os 5 .any (Rows.fnExactMovedKeysSpec.pre6 enc Try.prog Try.f5 Rows.fnExactMovedKeysRow.domain false) (Rows.fnExactMovedKeysSpec.post enc Try.prog Try.f5 false true false false) := by
  refine returnsInHanded_of_change (C := Try.checked) (show ownKnob Try.prog.godebug = none by kernel_rfl) started (by kernel_rfl) Try.func5
    (ChangeSpec.witness6 (enc := enc) (C := Try.checked) false ⟨#[], #[.agg #[.slice none 0 0], .agg #[.slice none 0 0], .slice none 0 0], []⟩ 8 (by kernel_rfl) (by kernel_rfl) (by kernel_rfl) (by kernel_rfl)) ?_
  intro W base args ds gs before hval0 hW hcnd _
  have hval : ∀ (j : Nat) t v, Try.f5.params[j]? = some t → args[j]? = some v → Value.okWide Try.prog W .any base t v := hval0
  have hW' := hW
  obtain ⟨p, q, hA0, hV, rfl, hfz, hnd⟩ := hW
  have hA : DataW.TrodAll enc Try.prog W 0 (fun _ => true) true Try.f5.params.toList args.toList ds p := hA0
  rw [Try.params5] at hA hval
  obtain ⟨v0, vs0, d0, ds0, p0, q0, hargs, rfl, rfl, h0, r0⟩ := trodAll_cons hA
  obtain ⟨v1, vs1, d1, ds1, p1, q1, rfl, rfl, rfl, h1, r1⟩ := trodAll_cons r0
  obtain ⟨v2, vs2, d2, ds2, p2, q2, rfl, rfl, rfl, h2, r2⟩ := trodAll_cons r1
  obtain ⟨rfl, rfl, rfl⟩ := trodAll_nil r2
  obtain rfl : args = #[v0, v1, v2] := by cases args; simp_all
  obtain ⟨rfl, rfl⟩ := trodVars_none hV
  have k0 := h0
  have lt0 : ∀ x ∈ p0, x.block < W.heap.size := by obtain ⟨m, hm⟩ := k0; exact DataW.trod_lt m _ _ _ hm
  obtain ⟨ao0, l0, ca0, rfl, hR0, hl0⟩ := open_ring (hval 0 24 v0 rfl rfl) h0
  have k1 := h1
  have lt1 : ∀ x ∈ p1, x.block < W.heap.size := by obtain ⟨m, hm⟩ := k1; exact DataW.trod_lt m _ _ _ hm
  obtain ⟨ao1, l1, ca1, rfl, hR1, hl1⟩ := open_ring (hval 1 24 v1 rfl rfl) h1
  have k2 := h2
  have lt2 : ∀ x ∈ p2, x.block < W.heap.size := by obtain ⟨m, hm⟩ := k2; exact DataW.trod_lt m _ _ _ hm
  obtain ⟨ao2, l2, ca2, rfl, hR2, hl2⟩ := open_textsV (hval 2 39 v2 rfl rfl) h2
  clear hA0 hval0
  try simp only [List.append_nil] at hW'
  refine (walk_FnExactMovedKeys ao0 l0 ca0 ao1 l1 ca1 ao2 l2 ca2 W hR0 hl0 hR1 hl1 hR2 hl2).mono fun e W' ⟨he, bel⟩ => ?_
  subst he
  exact ⟨_, rfl, _, _, _, [], _, [], hW', trodAll_mk1 (shut_bool Try.underlying4 _), (trodAll_cons_mk (Below.trod (show laidOutB Try.prog = true by kernel_rfl) (by kernel_rfl) (of_decide_eq_true (by kernel_rfl)) k0 bel lt0) (trodAll_cons_mk (Below.trod (show laidOutB Try.prog = true by kernel_rfl) (by kernel_rfl) (of_decide_eq_true (by kernel_rfl)) k1 bel lt1) (trodAll_cons_mk (Below.trod (show laidOutB Try.prog = true by kernel_rfl) (by kernel_rfl) (of_decide_eq_true (by kernel_rfl)) k2 bel lt2) trodAll_mk0))), rfl, bel.frame _, fun h => by cases h⟩

theorem proved_FnExactMovedKeys : Rows.FnExactMovedKeysSaid :=
  OpenClaim.holds_of_wide 5 Try.f5 rfl rfl rfl rfl rfl rfl rfl ⟨rfl, rfl, rfl, rfl, rfl⟩ rfl rfl rfl rfl rfl (by kernel_rfl) Try.func5 (by kernel_rfl)
    (of_decide_eq_true (by kernel_rfl)) (by unfold Func.isWrapper; first | (rw [if_pos (by decide +kernel)]; kernel_rfl) | (rw [if_neg (by decide +kernel)]; exact ⟨rfl, rfl⟩))
    (fun os started H enc _ => lifted_FnExactMovedKeys os started H enc)
#print axioms proved_FnExactMovedKeys
end Go.Proofs.Ytdgpencendphbaa
