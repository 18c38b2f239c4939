/- Whatever is kept and wanted of new near entries, what is there is what was kept last, and as many as the model tells; they stay right: whatever is drawn, the program's table of bits being as its text lays it (the card ties it to the text of a pruned copy of the project). -/
import Derived.LaidMore
import Derived.ShutString
import Derived.ChangeOld
import Derived.Stop.Joined
import Derived.Stop.LaidErr
import Derived.SevenTiedAt
import Derived.OpenVars
import Derived.ChangeVars
import Derived.Deep.DeepCutAuto
import Derived.Test.YtigpjmmfelndkaaGreatDoorCards
import Derived.Test.YtigpjmmfelndkaaGreatDoorTie
import Derived.Test.YtigpjmmfelndkaaGreatDoorLYS
import Derived.Test.YtigpjmmfelndkaaGreatDoorLYD
import Derived.Test.YtigpjmmfelndkaaGreatDoorLYN
import Derived.Test.YtigpjmmfelndkaaGreatDoorLYQ
namespace Go.Proofs.YtigpjmmfelndkaaGreatDoor
open Go.ChangeShapes Go.WideShapes Go.ChangeAt Go.RowKit
open Go.ChangeMaps (open_string shut_string)
set_option linter.unusedVariables false
set_option maxRecDepth 100000
set_option maxHeartbeats 8000000
theorem of_laid_FnLives8 {W : World} (h : laidMetH Tryz.prog Rows.fnLives8Row.laid W) : TabD W := by
 rw [MakeChecks.laidMetH_plain _ _ _ (by kernel_rfl)] at h
 exact Lib.tabIs_of_head zaG (by kernel_rfl) Tryz.underlying226 Tryz.underlying3 (by kernel_rfl) (by kernel_rfl) h
theorem walk_FnLives8 (a : Option Addr) (len cap : Nat) (w : World) (hr : RowB w a len) (hx : TabD w) :
  Calls Tryz.prog 4 #[.slice a len cap] w fun e w' => e = .returned (.bool true) /\ Below w.heap.size w w' := by
 by_cases hbig : len <= 1048576
 rotate_left
 ·have CB := hI (zaQ a len cap w hbig)
  clear hr hx
  go_enter Tryz.func4, Tryz.ntmps4
  go_wp2_with fail
  refine CB.out.mono ?_
  rintro e w1 ⟨rfl, rfl⟩
  go_wp2
  go_ret
  exact ⟨rfl, Below.refl _ _⟩
 have CB := hI (zcR a len cap w hbig)
 have hc := hr.code hbig
 have CD := hI (qwF w a len cap hc)
 have HC := hI hc
 have HX := hI hx
 have hw0 := hx.pos
 clear hr hx hc
 go_enter Tryz.func4, Tryz.ntmps4
 go_wp2_with fail
 refine CB.out.mono ?_
 rintro e w1 ⟨rfl, rfl⟩
 go_wp2_with fail
 refine CD.out.mono ?_
 rintro e w1 ⟨ws, wo, wcp, rfl, hws, hwk, hwd, hb1⟩
 have WD1 := hI hwd
 have WK := hI hwk
 have B1 := hI hb1
 clear hwk hwd hb1 CB CD
 have CP := hI (qwG w1 a len cap (zbM (HC.out.below B1.out (Nat.le_refl _)) B1.out.size))
 go_wp2_with fail
 refine CP.out.mono ?_
 rintro e w2 ⟨xs, p, cp, hx12, hx, rfl, hp1, hp2, hxc, hb2⟩
 have WD2 := hI (WD1.out.later hb2)
 have B2 := tRn B1 hb2
 have X2 := hI (HX.out.below B2.out hw0)
 have y0 := hxc 0 (by omega)
 have XC := hI (And.intro hx12 hxc)
 generalize xs[0] = n0 at y0
 obtain ⟨m, hm⟩ : ∃ m : Nat, 2 + n0 % 9 = m := ⟨_, rfl⟩
 have hmi : 2 + (n0 : Int) % 9 = (m : Int) := by omega
 have CN := hI (qrI m (by omega) (by omega) w2)
 have CM := hI (fun w' => qpU m (by omega) (by omega) w')
 have HN0 := hI (InN.new (n := m) (by omega) (by omega))
 clear hm hx hxc hx12 hb2 HX HC WD1 B1 CP hp1 hbig
 generalize qsY m = N0 at *
 unfold neV at CN CM
 have Y0 := hI y0
 go_wp2_with fail
 refine CN.out.mono ?_
 rintro e w3 ⟨A0, rfl, ho3, hb3⟩
 obtain ⟨P, hP⟩ : ∃ P, w3.heap.size = P := ⟨_, rfl⟩
 have bq : Below w3.heap.size w3 (w3.alloc (.cells (nA A0 N0) 39)) := bAl _ _
 have F3 := hI (show Blk (w3.alloc (.cells (nA A0 N0) 39)) P 39 (neC A0 N0) /\ OwnN (w3.alloc (.cells (nA A0 N0) 39)) w2.heap.size A0 N0 /\ Below w2.heap.size w2 (w3.alloc (.cells (nA A0 N0) 39)) from ⟨hP ▸ Blk.new w3 39 _, ho3.later bq, hb3.trans (bq.mono hb3.size)⟩)
 have hPw : w2.heap.size <= P := hP ▸ hb3.size
 clear bq ho3 hb3 CN y0
 go_upto_region 6 with fail
 (try rw [hP])
 generalize (w3.alloc (.cells (nA A0 N0) 39)) = w4 at F3 ⊢
 clear hP
 have y0 := (F3.out.2.2.cell (p := ⟨p, 0, none⟩) hp2).trans Y0.out
 go_wp2_with fail
 refine (CM.out w4).mono ?_
 rintro e w5 ⟨M0, rfl, ho5, hb5⟩
 obtain ⟨Q, hQ⟩ : ∃ Q, w5.heap.size = Q := ⟨_, rfl⟩
 have bq : Below w5.heap.size w5 (w5.alloc (.cells (nA M0 N0) 39)) := bAl _ _
 have T0 := hI (show TwN w2 (w5.alloc (.cells (nA M0 N0) 39)) P Q A0 M0 N0 N0 from ⟨(F3.out.1.below hb5 F3.out.1.lt).below bq (Nat.lt_of_lt_of_le F3.out.1.lt hb5.size), hQ ▸ Blk.new w5 39 _, (F3.out.2.1.later hb5).later bq, (ho5.base F3.out.2.2.size).later bq, (F3.out.2.2.trans (hb5.mono F3.out.2.2.size)).trans (bq.mono (Nat.le_trans F3.out.2.2.size hb5.size))⟩)
 have hPQ : P < Q := hQ ▸ Nat.lt_of_lt_of_le F3.out.1.lt hb5.size
 clear bq ho5 hb5 CM y0 F3 Y0
 go_upto_region 7 with fail
 (try rw [hQ])
 generalize (w5.alloc (.cells (nA M0 N0) 39)) = w6 at T0 ⊢
 clear hQ
 generalize Value.agg (nA A0 N0) = gA
 generalize Value.agg (nA M0 N0) = gM
 go_wp2
 go_loopw [9] (fun iv wr => ∃ (i : Nat) (A M : NA) (N : Nr), i <= ws.length /\ iv = .int .i64 (i : Int) /\ Hid (TwN w2 wr P Q A M N N) /\ Hid (InN N)) (fun iv _ => ws.length - (intOf iv).toNat)
 case atStart => exact ⟨0, A0, M0, N0, by omega, rfl, T0, HN0⟩
 case round =>
  obtain ⟨i, A, M, N, hi, rfl, hT, HN⟩ := hrel
  clear T0 HN0 hmi
  by_cases hlt : i < ws.length
  ·have k1 : (i : Int) < (ws.length : Int) := by omega
   obtain ⟨v, hv, CV⟩ := zcP i (by omega) wr
   obtain ⟨g, rfl, hg, hgc⟩ := WD2.out i hlt
   have hz := WK.out ws[i] (List.getElem_mem _)
   generalize ws[i] = z at *
   obtain ⟨j, hj⟩ : ∃ j, i % 12 = j := ⟨_, rfl⟩
   have hji : (i : Int) % 12 = (j : Int) := by omega
   have hjl : j < xs.length := by rw [XC.out.1]; omega
   have hpc := XC.out.2 j hjl
   generalize xs[j] = x at *
   have HG := hI hgc
   have HP := hI hpc
   clear hgc hpc hjl hj
   go_wp2_with fail
   refine CV.mono ?_
   rintro e w3 ⟨rfl, hb3⟩
   have T3 := hI (hT.out.later hb3)
   clear hb3 hT CV
   have n0 := (T3.out.bel.cell (p := ⟨g, i, none⟩) hg).trans HG.out
   have px := (T3.out.bel.cell (p := ⟨p, j, none⟩) hp2).trans HP.out
   have D3 := hI (X2.out.below T3.out.bel (Nat.lt_of_le_of_lt (Nat.zero_le _) hg))
   have hPl : P < w3.heap.size := T3.out.p.lt
   have hQl : Q < w3.heap.size := T3.out.q.lt
   by_cases h3 : x % 3 = 0
   ·have q3 : ((x : Int) % 3 == 0) = true := by simp; omega
    have CW := hI (fun w' (hb : Below w3.heap.size w3 w') => wantI HN.out (T3.out.on.later hb) (Nat.le_trans T3.out.bel.size hb.size) (D3.out.later hb) z hz)
    have CX := hI (fun w' (hb : Below w3.heap.size w3 w') => wantS HN.out (T3.out.om.rd.later hb) z hz)
    have HK := hI (HN.out.want z).1
    generalize wantN N z = K at *
    unfold neV at CW CX
    have px2 := hI px
    clear h3
    have hgu : g < w3.heap.size := Nat.lt_of_lt_of_le hg T3.out.bel.size
    go_upto_region 12 with fail
    go_cut [11, 12, 13] (fun bv xv tv wx => ∃ (X1 : Nat) (A1 : NA) (v7 : ByteArray) (t7 : Bool), bv = .pointer (some ⟨X1, 0, none⟩) /\ xv = .string v7 /\ tv = .bool t7 /\ Hid (qwP w3 wx X1 A1 K) /\ Hid (ValA N z v7 t7))
    case first =>
     refine reg12 (R := fun v7 t7 => ValA N z v7 t7) rfl T3.out.p hgu n0 k1 CW.out ?_
     intro X1 A1 v7 t7 w' hB hR
     go_wp2_with fail
     go_meet
     exact ⟨X1, A1, v7, t7, rfl, rfl, rfl, hI hB, hI hR⟩
    case rest =>
     obtain ⟨P1, A1, v7, t7, rfl, rfl, rfl, HB7, HV7⟩ := hcut
     generalize wc = w9 at *
     have T9 := hI (T3.out.later HB7.out.2.2.2)
     clear n0 px2 px hgu CW
     have n0 := (T9.out.bel.cell (p := ⟨g, i, none⟩) hg).trans HG.out
     have CY := hI (fun w' (hb : Below w9.heap.size w9 w') => CX.out w' (HB7.out.2.2.2.trans (hb.mono HB7.out.2.2.2.size)))
     clear CX
     have hgu : g < w9.heap.size := Nat.lt_of_lt_of_le hg T9.out.bel.size
     go_upto_region 13 with fail
     go_cut [14, 15, 16] (fun bv xv tv wx => ∃ (X1 : Nat) (A1 : NA) (v7 : ByteArray) (t7 : Bool), bv = .pointer (some ⟨X1, 0, none⟩) /\ xv = .string v7 /\ tv = .bool t7 /\ Hid (qwP w9 wx X1 A1 K) /\ Hid ((z ∈ qaD N /\ t7 = true /\ qkI N.sl z v7) ∨ (¬ z ∈ qaD N /\ t7 = false /\ v7 = ⟨#[]⟩)))
     case first =>
      refine reg13 (R := fun v7 t7 => (z ∈ qaD N /\ t7 = true /\ qkI N.sl z v7) ∨ (¬ z ∈ qaD N /\ t7 = false /\ v7 = ⟨#[]⟩)) rfl T9.out.q hgu n0 k1 CY.out ?_
      intro X1 A1 v7 t7 w' hB hR
      go_wp2_with fail
      go_meet
      exact ⟨X1, A1, v7, t7, rfl, rfl, rfl, hI hB, hI hR⟩
     case rest =>
      obtain ⟨Q1, M1, y7, s7, rfl, rfl, rfl, HB8, HW8⟩ := hcut
      obtain ⟨rfl, rfl⟩ := ValA.spec HN.out HV7.out HW8.out
      generalize wc = w11 at *
      have F11 := hI (qyA T3.out hPQ HB7.out HB8.out)
      have hSw : w2.heap.size <= w3.heap.size := T3.out.bel.size
      clear n0 hgu CY HW8 HV7 HB7 HB8 T9 T3 D3
      generalize w3.heap.size = S at *
      have qt : (t7 != t7) = false := by simp
      have qv : (v7.toList == v7.toList) = true := by simp
      have qw : (v7.toList != v7.toList) = false := by simp
      go_upto_region 16 with fail
      obtain ⟨_, x0, x1, x2, x3, x4, x5, x6, x7, x8, x9, x10, x11, x12, x13⟩ := qcR F11.out.p1
      obtain ⟨_, c0, c1, c2, c3, c4, c5, c6, c7, c8, c9, c10, c11, c12, c13⟩ := qcR F11.out.p
      have fz (j) : w11.frozen? ⟨P, j, none⟩ = false := F11.out.p.froz j
      go_upto_region 17 with fail
      have F12 := hI (show FrN4 w2 ((((((((((((((w11.setCell ⟨P, 0, none⟩ (.slice A1.a K.sl.length A1.ac)).setCell ⟨P, 1, none⟩ (.int .i64 K.fr)).setCell ⟨P, 2, none⟩ (.slice A1.c K.ce.length A1.cc)).setCell ⟨P, 3, none⟩ (.slice A1.o K.od.length A1.oc)).setCell ⟨P, 4, none⟩ (.int .i64 K.mv)).setCell ⟨P, 5, none⟩ (.int .i64 K.wm)).setCell ⟨P, 6, none⟩ (.slice A1.w K.w.length A1.wc)).setCell ⟨P, 7, none⟩ (.int .i64 K.tm)).setCell ⟨P, 8, none⟩ (.slice A1.t K.t.length A1.tc)).setCell ⟨P, 9, none⟩ (.int .i64 K.sm)).setCell ⟨P, 10, none⟩ (.slice A1.s K.s.length A1.sc)).setCell ⟨P, 11, none⟩ (.slice A1.k K.sk.length A1.kc)).setCell ⟨P, 12, none⟩ (.int .i64 K.ad)).setCell ⟨P, 13, none⟩ (.int .i64 K.dr)) S P Q P1 Q1 A1 M1 A1 M K K N from F11.out.putP hPw)
      clear x0 x1 x2 x3 x4 x5 x6 x7 x8 x9 x10 x11 x12 x13 c0 c1 c2 c3 c4 c5 c6 c7 c8 c9 c10 c11 c12 c13 fz F11
      generalize ((((((((((((((w11.setCell ⟨P, 0, none⟩ (.slice A1.a K.sl.length A1.ac)).setCell ⟨P, 1, none⟩ (.int .i64 K.fr)).setCell ⟨P, 2, none⟩ (.slice A1.c K.ce.length A1.cc)).setCell ⟨P, 3, none⟩ (.slice A1.o K.od.length A1.oc)).setCell ⟨P, 4, none⟩ (.int .i64 K.mv)).setCell ⟨P, 5, none⟩ (.int .i64 K.wm)).setCell ⟨P, 6, none⟩ (.slice A1.w K.w.length A1.wc)).setCell ⟨P, 7, none⟩ (.int .i64 K.tm)).setCell ⟨P, 8, none⟩ (.slice A1.t K.t.length A1.tc)).setCell ⟨P, 9, none⟩ (.int .i64 K.sm)).setCell ⟨P, 10, none⟩ (.slice A1.s K.s.length A1.sc)).setCell ⟨P, 11, none⟩ (.slice A1.k K.sk.length A1.kc)).setCell ⟨P, 12, none⟩ (.int .i64 K.ad)).setCell ⟨P, 13, none⟩ (.int .i64 K.dr)) = w12 at F12 ⊢
      obtain ⟨_, x0, x1, x2, x3, x4, x5, x6, x7, x8, x9, x10, x11, x12, x13⟩ := qcR F12.out.q1
      obtain ⟨_, c0, c1, c2, c3, c4, c5, c6, c7, c8, c9, c10, c11, c12, c13⟩ := qcR F12.out.q
      have fz (j) : w12.frozen? ⟨Q, j, none⟩ = false := F12.out.q.froz j
      have T13 := hI (show TwN w2 ((((((((((((((w12.setCell ⟨Q, 0, none⟩ (.slice M1.a K.sl.length M1.ac)).setCell ⟨Q, 1, none⟩ (.int .i64 K.fr)).setCell ⟨Q, 2, none⟩ (.slice M1.c K.ce.length M1.cc)).setCell ⟨Q, 3, none⟩ (.slice M1.o K.od.length M1.oc)).setCell ⟨Q, 4, none⟩ (.int .i64 K.mv)).setCell ⟨Q, 5, none⟩ (.int .i64 K.wm)).setCell ⟨Q, 6, none⟩ (.slice M1.w K.w.length M1.wc)).setCell ⟨Q, 7, none⟩ (.int .i64 K.tm)).setCell ⟨Q, 8, none⟩ (.slice M1.t K.t.length M1.tc)).setCell ⟨Q, 9, none⟩ (.int .i64 K.sm)).setCell ⟨Q, 10, none⟩ (.slice M1.s K.s.length M1.sc)).setCell ⟨Q, 11, none⟩ (.slice M1.k K.sk.length M1.kc)).setCell ⟨Q, 12, none⟩ (.int .i64 K.ad)).setCell ⟨Q, 13, none⟩ (.int .i64 K.dr)) P Q A1 M1 K K from (F12.out.putQ (by omega)).tw hSw)
      go_wp2
      go_roundw
      case rel =>
       exact ⟨i + 1, A1, M1, K, by omega, by go_num, T13, HK⟩
      case measure => simp [intOf]; omega
   ·have q3 : ((x : Int) % 3 == 0) = false := by simp; omega
    have HKP := hI (HN.out.keep hz hv)
    have CW0 := fun w' (hb : Below w3.heap.size w3 w') => keepI HN.out (T3.out.on.later hb) (Nat.le_trans T3.out.bel.size hb.size) (D3.out.later hb) z v hz hv
    have CX0 := fun w' (hb : Below w3.heap.size w3 w') => keepS HN.out (T3.out.om.rd.later hb) z v hz hv
    generalize (keepN N z v).1 = K at *
    generalize (keepN N z v).2 = gn at *
    have CW := hI (fun w' (hb : Below w3.heap.size w3 w') => (CW0 w' hb).mono (fun e w'' h => show ∃ (A' : NA) (v7 : ByteArray) (t7 : Bool), e = .returned (.tuple #[neV A' K, .string v7, .bool t7]) /\ (v7 = gn /\ t7 = true) /\ OwnN w'' w'.heap.size A' K /\ Below w'.heap.size w' w'' from ⟨h.choose, gn, true, h.choose_spec.1, ⟨rfl, rfl⟩, h.choose_spec.2⟩))
    have CX := hI (fun w' (hb : Below w3.heap.size w3 w') => (CX0 w' hb).mono (fun e w'' h => show ∃ (A' : NA) (v7 : ByteArray) (t7 : Bool), e = .returned (.tuple #[neV A' K, .string v7, .bool t7]) /\ (v7 = gn /\ t7 = true) /\ OwnN w'' w'.heap.size A' K /\ Below w'.heap.size w' w'' from ⟨h.choose, gn, true, h.choose_spec.1, ⟨rfl, rfl⟩, h.choose_spec.2⟩))
    unfold neV at CW CX
    clear h3 CW0 CX0
    have hgu : g < w3.heap.size := Nat.lt_of_lt_of_le hg T3.out.bel.size
    go_upto_region 18 with fail
    go_cut [17, 18, 19] (fun bv xv tv wx => ∃ (X1 : Nat) (A1 : NA) (v7 : ByteArray) (t7 : Bool), bv = .pointer (some ⟨X1, 0, none⟩) /\ xv = .string v7 /\ tv = .bool t7 /\ Hid (qwP w3 wx X1 A1 K) /\ Hid (v7 = gn /\ t7 = true))
    case first =>
     refine reg18 (R := fun v7 t7 => v7 = gn /\ t7 = true) rfl T3.out.p hgu n0 k1 CW.out ?_
     intro X1 A1 v7 t7 w' hB hR
     go_wp2_with fail
     go_meet
     exact ⟨X1, A1, v7, t7, rfl, rfl, rfl, hI hB, hI hR⟩
    case rest =>
     obtain ⟨P1, A1, v7, t7, rfl, rfl, rfl, HB7, HV7⟩ := hcut
     generalize wc = w9 at *
     have T9 := hI (T3.out.later HB7.out.2.2.2)
     clear n0 px hgu CW
     have n0 := (T9.out.bel.cell (p := ⟨g, i, none⟩) hg).trans HG.out
     have CY := hI (fun w' (hb : Below w9.heap.size w9 w') => CX.out w' (HB7.out.2.2.2.trans (hb.mono HB7.out.2.2.2.size)))
     clear CX
     have hgu : g < w9.heap.size := Nat.lt_of_lt_of_le hg T9.out.bel.size
     go_upto_region 19 with fail
     go_cut [20, 21, 22] (fun bv xv tv wx => ∃ (X1 : Nat) (A1 : NA) (v7 : ByteArray) (t7 : Bool), bv = .pointer (some ⟨X1, 0, none⟩) /\ xv = .string v7 /\ tv = .bool t7 /\ Hid (qwP w9 wx X1 A1 K) /\ Hid (v7 = gn /\ t7 = true))
     case first =>
      refine reg19 (R := fun v7 t7 => v7 = gn /\ t7 = true) rfl T9.out.q hgu n0 k1 CY.out ?_
      intro X1 A1 v7 t7 w' hB hR
      go_wp2_with fail
      go_meet
      exact ⟨X1, A1, v7, t7, rfl, rfl, rfl, hI hB, hI hR⟩
     case rest =>
      obtain ⟨Q1, M1, y7, s7, rfl, rfl, rfl, HB8, HW8⟩ := hcut
      obtain ⟨rfl, rfl⟩ := HV7.out
      obtain ⟨rfl, rfl⟩ := HW8.out
      generalize wc = w11 at *
      have F11 := hI (qyA T3.out hPQ HB7.out HB8.out)
      have hSw : w2.heap.size <= w3.heap.size := T3.out.bel.size
      clear n0 hgu CY HW8 HV7 HB7 HB8 T9 T3 D3
      generalize w3.heap.size = S at *
      have qv : (y7.toList == y7.toList) = true := by simp
      have qw : (y7.toList != y7.toList) = false := by simp
      go_upto_region 22 with fail
      obtain ⟨_, x0, x1, x2, x3, x4, x5, x6, x7, x8, x9, x10, x11, x12, x13⟩ := qcR F11.out.p1
      obtain ⟨_, c0, c1, c2, c3, c4, c5, c6, c7, c8, c9, c10, c11, c12, c13⟩ := qcR F11.out.p
      have fz (j) : w11.frozen? ⟨P, j, none⟩ = false := F11.out.p.froz j
      go_upto_region 23 with fail
      have F12 := hI (show FrN4 w2 ((((((((((((((w11.setCell ⟨P, 0, none⟩ (.slice A1.a K.sl.length A1.ac)).setCell ⟨P, 1, none⟩ (.int .i64 K.fr)).setCell ⟨P, 2, none⟩ (.slice A1.c K.ce.length A1.cc)).setCell ⟨P, 3, none⟩ (.slice A1.o K.od.length A1.oc)).setCell ⟨P, 4, none⟩ (.int .i64 K.mv)).setCell ⟨P, 5, none⟩ (.int .i64 K.wm)).setCell ⟨P, 6, none⟩ (.slice A1.w K.w.length A1.wc)).setCell ⟨P, 7, none⟩ (.int .i64 K.tm)).setCell ⟨P, 8, none⟩ (.slice A1.t K.t.length A1.tc)).setCell ⟨P, 9, none⟩ (.int .i64 K.sm)).setCell ⟨P, 10, none⟩ (.slice A1.s K.s.length A1.sc)).setCell ⟨P, 11, none⟩ (.slice A1.k K.sk.length A1.kc)).setCell ⟨P, 12, none⟩ (.int .i64 K.ad)).setCell ⟨P, 13, none⟩ (.int .i64 K.dr)) S P Q P1 Q1 A1 M1 A1 M K K N from F11.out.putP hPw)
      clear x0 x1 x2 x3 x4 x5 x6 x7 x8 x9 x10 x11 x12 x13 c0 c1 c2 c3 c4 c5 c6 c7 c8 c9 c10 c11 c12 c13 fz F11
      generalize ((((((((((((((w11.setCell ⟨P, 0, none⟩ (.slice A1.a K.sl.length A1.ac)).setCell ⟨P, 1, none⟩ (.int .i64 K.fr)).setCell ⟨P, 2, none⟩ (.slice A1.c K.ce.length A1.cc)).setCell ⟨P, 3, none⟩ (.slice A1.o K.od.length A1.oc)).setCell ⟨P, 4, none⟩ (.int .i64 K.mv)).setCell ⟨P, 5, none⟩ (.int .i64 K.wm)).setCell ⟨P, 6, none⟩ (.slice A1.w K.w.length A1.wc)).setCell ⟨P, 7, none⟩ (.int .i64 K.tm)).setCell ⟨P, 8, none⟩ (.slice A1.t K.t.length A1.tc)).setCell ⟨P, 9, none⟩ (.int .i64 K.sm)).setCell ⟨P, 10, none⟩ (.slice A1.s K.s.length A1.sc)).setCell ⟨P, 11, none⟩ (.slice A1.k K.sk.length A1.kc)).setCell ⟨P, 12, none⟩ (.int .i64 K.ad)).setCell ⟨P, 13, none⟩ (.int .i64 K.dr)) = w12 at F12 ⊢
      obtain ⟨_, x0, x1, x2, x3, x4, x5, x6, x7, x8, x9, x10, x11, x12, x13⟩ := qcR F12.out.q1
      obtain ⟨_, c0, c1, c2, c3, c4, c5, c6, c7, c8, c9, c10, c11, c12, c13⟩ := qcR F12.out.q
      have fz (j) : w12.frozen? ⟨Q, j, none⟩ = false := F12.out.q.froz j
      have T13 := hI (show TwN w2 ((((((((((((((w12.setCell ⟨Q, 0, none⟩ (.slice M1.a K.sl.length M1.ac)).setCell ⟨Q, 1, none⟩ (.int .i64 K.fr)).setCell ⟨Q, 2, none⟩ (.slice M1.c K.ce.length M1.cc)).setCell ⟨Q, 3, none⟩ (.slice M1.o K.od.length M1.oc)).setCell ⟨Q, 4, none⟩ (.int .i64 K.mv)).setCell ⟨Q, 5, none⟩ (.int .i64 K.wm)).setCell ⟨Q, 6, none⟩ (.slice M1.w K.w.length M1.wc)).setCell ⟨Q, 7, none⟩ (.int .i64 K.tm)).setCell ⟨Q, 8, none⟩ (.slice M1.t K.t.length M1.tc)).setCell ⟨Q, 9, none⟩ (.int .i64 K.sm)).setCell ⟨Q, 10, none⟩ (.slice M1.s K.s.length M1.sc)).setCell ⟨Q, 11, none⟩ (.slice M1.k K.sk.length M1.kc)).setCell ⟨Q, 12, none⟩ (.int .i64 K.ad)).setCell ⟨Q, 13, none⟩ (.int .i64 K.dr)) P Q A1 M1 K K from (F12.out.putQ (by omega)).tw hSw)
      go_upto_region 24 with fail
      clear x0 x1 x2 x3 x4 x5 x6 x7 x8 x9 x10 x11 x12 x13 c0 c1 c2 c3 c4 c5 c6 c7 c8 c9 c10 c11 c12 c13 fz F12
      generalize ((((((((((((((w12.setCell ⟨Q, 0, none⟩ (.slice M1.a K.sl.length M1.ac)).setCell ⟨Q, 1, none⟩ (.int .i64 K.fr)).setCell ⟨Q, 2, none⟩ (.slice M1.c K.ce.length M1.cc)).setCell ⟨Q, 3, none⟩ (.slice M1.o K.od.length M1.oc)).setCell ⟨Q, 4, none⟩ (.int .i64 K.mv)).setCell ⟨Q, 5, none⟩ (.int .i64 K.wm)).setCell ⟨Q, 6, none⟩ (.slice M1.w K.w.length M1.wc)).setCell ⟨Q, 7, none⟩ (.int .i64 K.tm)).setCell ⟨Q, 8, none⟩ (.slice M1.t K.t.length M1.tc)).setCell ⟨Q, 9, none⟩ (.int .i64 K.sm)).setCell ⟨Q, 10, none⟩ (.slice M1.s K.s.length M1.sc)).setCell ⟨Q, 11, none⟩ (.slice M1.k K.sk.length M1.kc)).setCell ⟨Q, 12, none⟩ (.int .i64 K.ad)).setCell ⟨Q, 13, none⟩ (.int .i64 K.dr)) = w13 at T13 ⊢
      have CV := hI (fun w' (hb : Below w13.heap.size w13 w') => zcC (T13.out.on.rd.later hb) HKP.out.ok.small z)
      unfold neV at CV
      have n0 := (T13.out.bel.cell (p := ⟨g, i, none⟩) hg).trans HG.out
      obtain ⟨_, a0, a1, a2, a3, a4, a5, a6, a7, a8, a9, a10, a11, a12, a13⟩ := qcR T13.out.p
      go_region_held3 (fun w' => w'.cell? ⟨P, 0, none⟩ = some (.slice A1.a K.sl.length A1.ac) /\ w'.cell? ⟨P, 1, none⟩ = some (.int .i64 K.fr) /\ w'.cell? ⟨P, 2, none⟩ = some (.slice A1.c K.ce.length A1.cc) /\ w'.cell? ⟨P, 3, none⟩ = some (.slice A1.o K.od.length A1.oc) /\ w'.cell? ⟨P, 4, none⟩ = some (.int .i64 K.mv) /\ w'.cell? ⟨P, 5, none⟩ = some (.int .i64 K.wm) /\ w'.cell? ⟨P, 6, none⟩ = some (.slice A1.w K.w.length A1.wc) /\ w'.cell? ⟨P, 7, none⟩ = some (.int .i64 K.tm) /\ w'.cell? ⟨P, 8, none⟩ = some (.slice A1.t K.t.length A1.tc) /\ w'.cell? ⟨P, 9, none⟩ = some (.int .i64 K.sm) /\ w'.cell? ⟨P, 10, none⟩ = some (.slice A1.s K.s.length A1.sc) /\ w'.cell? ⟨P, 11, none⟩ = some (.slice A1.k K.sk.length A1.kc) /\ w'.cell? ⟨P, 12, none⟩ = some (.int .i64 K.ad) /\ w'.cell? ⟨P, 13, none⟩ = some (.int .i64 K.dr) /\ w'.cell? ⟨g, i, none⟩ = some (.string z)) (first | simp only [World.cell?_drew, a0, a1, a2, a3, a4, a5, a6, a7, a8, a9, a10, a11, a12, a13, n0, and_self] | simp only [a0, a1, a2, a3, a4, a5, a6, a7, a8, a9, a10, a11, a12, a13, n0, and_self]) ((first | (go_at_call 12; refine (CV.out _ (show Below w13.heap.size w13 _ by go_grown)).mono ?_; rintro e w14 ⟨v14, t14, rfl, h14, hb14⟩; have b14 : Hid (Below w13.heap.size w13 w14) := (show Below w13.heap.size w13 _ by go_grown).trans (hb14.mono (by go_size)); have H14 := hI h14; clear hb14 h14 n0 a0 a1 a2 a3 a4 a5 a6 a7 a8 a9 a10 a11 a12 a13; have T14 := hI (T13.out.later b14.out); have n0 := (T14.out.bel.cell (p := ⟨g, i, none⟩) hg).trans HG.out; obtain ⟨_, a0, a1, a2, a3, a4, a5, a6, a7, a8, a9, a10, a11, a12, a13⟩ := qcR T14.out.p)))
      clear n0 a0 a1 a2 a3 a4 a5 a6 a7 a8 a9 a10 a11 a12 a13
      obtain rfl : t14 = true := (H14.out.there HKP.out.ok).2 (HKP.out.ok.hasV.1 ⟨_, HKP.out.val⟩)
      obtain rfl : v14 = v := by
       rcases H14.out with ⟨_, h⟩ | ⟨h, _⟩
       ·exact HKP.out.ok.one h HKP.out.val
       ·cases h
      have qx : (v14.toList == v14.toList) = true := by simp
      have qy : (v14.toList != v14.toList) = false := by simp
      have HK := hI HKP.out.ok
      go_wp2
      go_roundw
      case rel =>
       exact ⟨i + 1, A1, M1, K, by omega, by go_num, T14, HK⟩
      case measure => simp [intOf]; omega
  ·have k1 : ¬ (i : Int) < (ws.length : Int) := by omega
   have C7 := hI (fun w' (hb : Below wr.heap.size wr w') => qsZ HN.out (hT.out.later hb).on.rd hT.out.on.caps)
   have C8 := hI (fun w' (hb : Below wr.heap.size wr w') => sizeI HN.out (hT.out.later hb).on.rd hT.out.on.caps)
   have C9 := hI (fun w' (hb : Below wr.heap.size wr w') => sizeS HN.out (hT.out.later hb).om.rd)
   generalize (qaD N).length = sn at C8 C9
   unfold neV at C7 C8 C9
   have qs : ((sn : Int) == (sn : Int)) = true := by simp
   clear WD2 WK XC X2
   go_upto_region 27 with fail
   obtain ⟨_, a0, a1, a2, a3, a4, a5, a6, a7, a8, a9, a10, a11, a12, a13⟩ := qcR hT.out.p
   obtain ⟨_, mm0, mm1, mm2, mm3, mm4, mm5, mm6, mm7, mm8, mm9, mm10, mm11, mm12, mm13⟩ := qcR hT.out.q
   go_region_held3 (fun w' => w'.cell? ⟨Q, 0, none⟩ = some (.slice M.a N.sl.length M.ac) /\ w'.cell? ⟨Q, 1, none⟩ = some (.int .i64 N.fr) /\ w'.cell? ⟨Q, 2, none⟩ = some (.slice M.c N.ce.length M.cc) /\ w'.cell? ⟨Q, 3, none⟩ = some (.slice M.o N.od.length M.oc) /\ w'.cell? ⟨Q, 4, none⟩ = some (.int .i64 N.mv) /\ w'.cell? ⟨Q, 5, none⟩ = some (.int .i64 N.wm) /\ w'.cell? ⟨Q, 6, none⟩ = some (.slice M.w N.w.length M.wc) /\ w'.cell? ⟨Q, 7, none⟩ = some (.int .i64 N.tm) /\ w'.cell? ⟨Q, 8, none⟩ = some (.slice M.t N.t.length M.tc) /\ w'.cell? ⟨Q, 9, none⟩ = some (.int .i64 N.sm) /\ w'.cell? ⟨Q, 10, none⟩ = some (.slice M.s N.s.length M.sc) /\ w'.cell? ⟨Q, 11, none⟩ = some (.slice M.k N.sk.length M.kc) /\ w'.cell? ⟨Q, 12, none⟩ = some (.int .i64 N.ad) /\ w'.cell? ⟨Q, 13, none⟩ = some (.int .i64 N.dr) /\ w'.cell? ⟨P, 0, none⟩ = some (.slice A.a N.sl.length A.ac) /\ w'.cell? ⟨P, 1, none⟩ = some (.int .i64 N.fr) /\ w'.cell? ⟨P, 2, none⟩ = some (.slice A.c N.ce.length A.cc) /\ w'.cell? ⟨P, 3, none⟩ = some (.slice A.o N.od.length A.oc) /\ w'.cell? ⟨P, 4, none⟩ = some (.int .i64 N.mv) /\ w'.cell? ⟨P, 5, none⟩ = some (.int .i64 N.wm) /\ w'.cell? ⟨P, 6, none⟩ = some (.slice A.w N.w.length A.wc) /\ w'.cell? ⟨P, 7, none⟩ = some (.int .i64 N.tm) /\ w'.cell? ⟨P, 8, none⟩ = some (.slice A.t N.t.length A.tc) /\ w'.cell? ⟨P, 9, none⟩ = some (.int .i64 N.sm) /\ w'.cell? ⟨P, 10, none⟩ = some (.slice A.s N.s.length A.sc) /\ w'.cell? ⟨P, 11, none⟩ = some (.slice A.k N.sk.length A.kc) /\ w'.cell? ⟨P, 12, none⟩ = some (.int .i64 N.ad) /\ w'.cell? ⟨P, 13, none⟩ = some (.int .i64 N.dr)) (first | simp only [World.cell?_drew, mm0, mm1, mm2, mm3, mm4, mm5, mm6, mm7, mm8, mm9, mm10, mm11, mm12, mm13, a0, a1, a2, a3, a4, a5, a6, a7, a8, a9, a10, a11, a12, a13, and_self] | simp only [mm0, mm1, mm2, mm3, mm4, mm5, mm6, mm7, mm8, mm9, mm10, mm11, mm12, mm13, a0, a1, a2, a3, a4, a5, a6, a7, a8, a9, a10, a11, a12, a13, and_self]) ((first | (go_at_call 9; (with_reducible refine (C7.out _ (show Below wr.heap.size wr _ by go_grown)).mono ?_); rintro e wa ⟨rfl, hbz⟩; have bwa : Hid (Below wr.heap.size wr wa) := (show Below wr.heap.size wr _ by go_grown).trans (hbz.mono (by go_size)); have hswa : wr.heap.size <= wa.heap.size := bwa.out.size; clear hbz a0 a1 a2 a3 a4 a5 a6 a7 a8 a9 a10 a11 a12 a13 mm0 mm1 mm2 mm3 mm4 mm5 mm6 mm7 mm8 mm9 mm10 mm11 mm12 mm13; have Twa := hI (hT.out.later bwa.out); obtain ⟨_, a0, a1, a2, a3, a4, a5, a6, a7, a8, a9, a10, a11, a12, a13⟩ := qcR Twa.out.p; obtain ⟨_, mm0, mm1, mm2, mm3, mm4, mm5, mm6, mm7, mm8, mm9, mm10, mm11, mm12, mm13⟩ := qcR Twa.out.q) | (go_at_call 11; (with_reducible refine (C8.out _ (bwa.out.trans (show Below wr.heap.size wa _ by go_grown))).mono ?_); rintro e wb ⟨rfl, hbz⟩; have bwb : Hid (Below wr.heap.size wr wb) := (bwa.out.trans (show Below wr.heap.size wa _ by go_grown)).trans (hbz.mono (by go_size)); have hswb : wr.heap.size <= wb.heap.size := bwb.out.size; clear hbz a0 a1 a2 a3 a4 a5 a6 a7 a8 a9 a10 a11 a12 a13 mm0 mm1 mm2 mm3 mm4 mm5 mm6 mm7 mm8 mm9 mm10 mm11 mm12 mm13; have Twb := hI (hT.out.later bwb.out); obtain ⟨_, a0, a1, a2, a3, a4, a5, a6, a7, a8, a9, a10, a11, a12, a13⟩ := qcR Twb.out.p; obtain ⟨_, mm0, mm1, mm2, mm3, mm4, mm5, mm6, mm7, mm8, mm9, mm10, mm11, mm12, mm13⟩ := qcR Twb.out.q) | (go_at_call 21; (with_reducible refine (C9.out _ (bwb.out.trans (show Below wr.heap.size wb _ by go_grown))).mono ?_); rintro e wc ⟨rfl, hbz⟩; have bwc : Hid (Below wr.heap.size wr wc) := (bwb.out.trans (show Below wr.heap.size wb _ by go_grown)).trans (hbz.mono (by go_size)); have hswc : wr.heap.size <= wc.heap.size := bwc.out.size; clear hbz a0 a1 a2 a3 a4 a5 a6 a7 a8 a9 a10 a11 a12 a13 mm0 mm1 mm2 mm3 mm4 mm5 mm6 mm7 mm8 mm9 mm10 mm11 mm12 mm13; have Twc := hI (hT.out.later bwc.out); obtain ⟨_, a0, a1, a2, a3, a4, a5, a6, a7, a8, a9, a10, a11, a12, a13⟩ := qcR Twc.out.p; obtain ⟨_, mm0, mm1, mm2, mm3, mm4, mm5, mm6, mm7, mm8, mm9, mm10, mm11, mm12, mm13⟩ := qcR Twc.out.q)))
   clear a0 a1 a2 a3 a4 a5 a6 a7 a8 a9 a10 a11 a12 a13 mm0 mm1 mm2 mm3 mm4 mm5 mm6 mm7 mm8 mm9 mm10 mm11 mm12 mm13
   have B9 := hI (B2.out.trans (Twc.out.bel.mono B2.out.size))
   go_wp2
   go_ret
   exact ⟨rfl, B9.out⟩
theorem qjA (os : Os) (args : Array Value) : laidMetH Tryz.prog Rows.fnLives8Row.laid ((World.doorLaid Tryz.prog 14 os).forCall (fun _ _ => 0) ⟨#[], args, []⟩).memory :=
 laidMetH_of_parts3 (fuel := 8) (laidMet_of_run' 8 (by kernel_rfl) (by kernel_rfl)) (by kernel_rfl) (by kernel_rfl)
theorem lifted_FnLives8 (os : Os) (started : os.Started) (H : Type) (enc : TypeId × Value -> H) :
  ReturnsInHanded {} Tryz.checked os 4 .any (fun w args => (Rows.fnLives8Spec.pre enc Tryz.prog Tryz.f4 [] false w args /\ laidMetH Tryz.prog Rows.fnLives8Row.laid w) /\ sizedMet enc Tryz.prog Tryz.f4 (OpenSpec.ofChange Rows.fnLives8Spec) false w args)
   (Rows.fnLives8Spec.post enc Tryz.prog Tryz.f4 false true false false) := by
 refine returnsInHanded_of_change_and (C := Tryz.checked) (X := fun w _ => laidMetH Tryz.prog Rows.fnLives8Row.laid w) (fun _ _ _ hh h => h.of_heap hh) (show ownKnob Tryz.prog.godebug = none by kernel_rfl) started (by kernel_rfl) Tryz.func4
  (ChangeSpec.witness_shaped (enc := enc) (C := Tryz.checked) (os := os) (X := fun w _ => laidMetH Tryz.prog Rows.fnLives8Row.laid w) false (World.doorLaid Tryz.prog 14 os) #[.slice none 0 0] 8 rfl (World.shaped_of_RefB (by kernel_rfl) (by kernel_rfl)) (by kernel_rfl) (by kernel_rfl) (by kernel_rfl) (qjA os _)) ?_
 intro W base args ds gs before hval0 hW _ _ hL _
 have hval : ∀ (j : Nat) t v, Tryz.f4.params[j]? = some t -> args[j]? = some v -> Value.okWide Tryz.prog W .any base t v := hval0
 have hW' := hW
 obtain ⟨p, q, hA0, hV, rfl, hfz, hnd⟩ := hW
 have hA : DataW.TrodAll enc Tryz.prog W 0 (fun _ => true) true Tryz.f4.params.toList args.toList ds p := hA0
 rw [Tryz.params4] at hA hval
 obtain ⟨v0, d0, rfl, rfl, h0⟩ := trodAll_one hA
 obtain ⟨_, _, _, _, gd, _, rfl, _⟩ := trodVars_one hV
 obtain ⟨a0, len0, cap0, rfl⟩ := okWide_slice Tryz.underlying22 (hval 0 22 v0 rfl rfl)
 have k0 := h0
 have lt0 : ∀ x ∈ p, x.block < W.heap.size := by obtain ⟨m, hm⟩ := k0; exact DataW.trod_lt m _ _ _ hm
 have r0 : RowB W a0 len0 := by
  obtain ⟨fuel, hf⟩ := h0
  rcases Go.ChangeShapes.open_ints Tryz.underlying22 Tryz.underlying5 (by kernel_rfl) hf with ⟨hcs, _⟩ | ⟨x, l, c, zs, hcs, _, hl, hm, hz, _, hcell, hwz⟩
  ·simp [Value.cells] at hcs
   obtain ⟨rfl, rfl, rfl⟩ := hcs
   exact fun j hj => absurd hj (Nat.not_lt_zero _)
  ·simp [Value.cells] at hcs
   obtain ⟨rfl, rfl, rfl⟩ := hcs
   exact zbQ hl (by simpa using hz) hcell (fun n hn => bounds_u8 (hwz n hn))
 have hX := of_laid_FnLives8 hL
 clear hA0 hval0
 refine (walk_FnLives8 a0 len0 cap0 W r0 hX).mono fun e W' ⟨he, bel⟩ => ?_
 subst he
 exact ⟨_, rfl, _, _, _, [], _, q, hW', trodAll_mk1 (shut_bool Tryz.underlying4 _), trodAll_mk1 (Below.trod (show laidOutB Tryz.prog = true by kernel_rfl) (by kernel_rfl) (of_decide_eq_true (by kernel_rfl)) k0 bel lt0), bel.trodVars (show laidOutB Tryz.prog = true by kernel_rfl) (by kernel_rfl) hV, bel.frame _, fun h => by cases h⟩
theorem row_FnLives8 : Rows.FnLives8Said :=
 OpenClaim.holds_of_wide 4 Tryz.f4 rfl rfl rfl rfl rfl rfl rfl ⟨rfl, rfl, rfl, rfl, rfl⟩ rfl rfl rfl rfl rfl (by kernel_rfl) Tryz.func4 (by kernel_rfl)
  (of_decide_eq_true (by kernel_rfl)) (by unfold Func.isWrapper; first | (rw [if_pos (by decide +kernel)]; kernel_rfl) | (rw [if_neg (by decide +kernel)]; exact ⟨rfl, rfl⟩))
  (fun os started H enc _ => lifted_FnLives8 os started H enc)
theorem proved_FnLives8 : Rows.FnLives8CardSaid :=
 Claim7.holds_tied_plain_at .later [] Rows.fnLives8Card.laidKinds true Rows.fnLives8Card.stood.harness false
  row_FnLives8 (fun _ h => by cases h) (by kernel_rfl) (fun _ h => by cases h) fnLives8_row_tie rfl ⟨rfl, rfl⟩ (by kernel_rfl) rfl
  (fun f fn hf hfn => by
   obtain rfl : f = 4 := Option.some.inj ((show Tryz.prog.funcNamed Tryz.f4.name = some 4 by kernel_rfl).symm.trans hf) |>.symm
   obtain rfl : fn = Tryz.f4 := (Option.some.inj (Tryz.func4.symm.trans hfn)).symm
   exact ⟨by kernel_rfl, fun j t ht => by
    rw [Tryz.params4] at ht
    have hm : t ∈ ([22] : List TypeId) := by simpa using Array.mem_of_getElem? ht
    have hall : (([22] : List TypeId).all fun u => !Tryz.prog.wantsStandIn u) = true := by kernel_rfl
    exact (show Tryz.prog.wantsStandIn t = false by simpa using List.all_eq_true.1 hall t hm)⟩)
  (by kernel_rfl)
#print axioms proved_FnLives8
end Go.Proofs.YtigpjmmfelndkaaGreatDoor
