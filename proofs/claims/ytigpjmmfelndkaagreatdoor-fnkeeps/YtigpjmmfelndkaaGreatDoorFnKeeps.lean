/- What is kept in drawn near entries is there, with this value; at most one other key was let go; all others stay; they stay right: whatever is drawn, the program's table of bits being as its text lays it (the card ties it to the text of a pruned copy of the project). -/
import Derived.LaidMore
import Derived.ShutString
import Derived.ChangeOld
import Derived.Stop.Joined
import Derived.Stop.LaidErr
import Derived.SevenTiedAt
import Derived.OpenVars
import Derived.ChangeVars
import Derived.Test.YtigpjmmfelndkaaGreatDoorCards
import Derived.Test.YtigpjmmfelndkaaGreatDoorTie
import Derived.Test.YtigpjmmfelndkaaGreatDoorKYJ
import Derived.Test.YtigpjmmfelndkaaGreatDoorKYQ
namespace Go.Proofs.YtigpjmmfelndkaaGreatDoor
open Go.ChangeShapes Go.WideShapes Go.ChangeAt Go.RowKit
open Go.ChangeMaps (open_string shut_string)
set_option linter.unusedVariables false
set_option maxRecDepth 100000
set_option maxHeartbeats 8000000
theorem of_laid_FnKeeps {W : World} (h : laidMetH Tryz.prog Rows.fnKeepsRow.laid W) : TabD W := by
 rw [MakeChecks.laidMetH_plain _ _ _ (by kernel_rfl)] at h
 exact Lib.tabIs_of_head gTabD (by kernel_rfl) Tryz.underlying226 Tryz.underlying3 (by kernel_rfl) (by kernel_rfl) h
theorem walk_FnKeeps (a : Option Addr) (len cap : Nat) (w : World) (hr : RowB w a len) (hx : TabD w) :
  Calls Tryz.prog 3 #[.slice a len cap] w fun e w' => e = .returned (.bool true) /\ Below w.heap.size w w' := by
 by_cases hbig : len <= 1048576
 rotate_left
 ·have CB := hI (big4_yes a len cap w hbig)
  clear hr hx
  go_enter Tryz.func3, Tryz.ntmps3
  go_wp2_with fail
  refine CB.out.mono ?_
  rintro e w1 ⟨rfl, rfl⟩
  go_wp2
  go_ret
  exact ⟨rfl, Below.refl _ _⟩
 have CB := hI (big4_no a len cap w hbig)
 have CD := hI (drawRN_any w a len cap (hr.code hbig) hbig)
 have HX := hI hx
 have hw0 := hx.pos
 clear hr hx
 go_enter Tryz.func3, Tryz.ntmps3
 go_wp2_with fail
 refine CB.out.mono ?_
 rintro e w1 ⟨rfl, rfl⟩
 go_wp2_with fail
 refine CD.out.mono ?_
 rintro e w1 ⟨A, N, k, vv, rfl, hN, hk, hvv, ho, hb⟩
 have HN := hI hN
 have HSM := hI hN.small
 have HKP := hI (hN.keep hk hvv)
 have F1 := hI (show Blk (w1.alloc (.cells (nA A N) 39)) w1.heap.size 39 (neC A N) /\ OwnN (w1.alloc (.cells (nA A N) 39)) w.heap.size A N /\ Below w.heap.size w (w1.alloc (.cells (nA A N) 39)) from ⟨Blk.new w1 39 _, ho.later ((Below.refl _ _).alloc (Nat.le_refl _) _), hb.alloc hb.size _⟩)
 have CF := hI (keepI HN.out F1.out.2.1 F1.out.2.2.size (HX.out.below F1.out.2.2 hw0) k vv hk hvv)
 have CS := hI (fun w' (hA : RdN w' A N) => keepS HN.out hA k vv hk hvv)
 clear hN hk hvv ho hb CB CD hbig
 unfold neV
 generalize (keepN N k vv).1 = K at *
 generalize (keepN N k vv).2 = gn at *
 unfold neV at CF CS
 go_wp2_with fail
 refine CF.out.mono ?_
 rintro e w2 ⟨M, rfl, ho2, hb2⟩
 generalize (w1.alloc (.cells (nA A N) 39)) = w1' at F1 ho2 hb2 CF
 obtain ⟨Q, hQ⟩ : ∃ Q, w2.heap.size = Q := ⟨_, rfl⟩
 have bq : Below w2.heap.size w2 (w2.alloc (.cells (nA M K) 39)) := (Below.refl _ _).alloc (Nat.le_refl _) _
 have T2 := hI (show TwN w (w2.alloc (.cells (nA M K) 39)) w1.heap.size Q A M N K from ⟨(F1.out.1.below hb2 F1.out.1.lt).below bq (Nat.lt_of_lt_of_le F1.out.1.lt hb2.size), hQ ▸ Blk.new w2 39 _, (F1.out.2.1.later hb2).later bq, (ho2.base F1.out.2.2.size).later bq, (F1.out.2.2.trans (hb2.mono F1.out.2.2.size)).trans (bq.mono (Nat.le_trans F1.out.2.2.size hb2.size))⟩)
 clear bq ho2 hb2 CF
 go_upto_region 5 with fail
 (try rw [hQ])
 generalize (w2.alloc (.cells (nA M K) 39)) = w3 at T2 ⊢
 generalize w1.heap.size = P at T2 ⊢
 clear hQ F1
 obtain ⟨_, a0, a1, a2, a3, a4, a5, a6, a7, a8, a9, a10, a11, a12, a13⟩ := qcG T2.out.p
 obtain ⟨_, mm0, mm1, mm2, mm3, mm4, mm5, mm6, mm7, mm8, mm9, mm10, mm11, mm12, mm13⟩ := qcG T2.out.q
 have C5 := hI (fun w' (hA : RdN w' A N) z => lawVal8 hA HSM.out z)
 have C6 := hI (fun w' (hA : RdN w' M K) z => lawVal8 hA HKP.out.ok.small z)
 unfold neV at C5 C6
 go_wp2_with fail
 refine (CS.out w3 T2.out.on.rd).mono ?_
 rintro e w5 ⟨M2, rfl, _, hb5⟩
 have bq : Below w5.heap.size w5 (w5.alloc (.cells (nA M2 K) 39)) := (Below.refl _ _).alloc (Nat.le_refl _) _
 have T5 := hI ((T2.out.later hb5).later bq)
 clear bq hb5 T2 a0 a1 a2 a3 a4 a5 a6 a7 a8 a9 a10 a11 a12 a13 mm0 mm1 mm2 mm3 mm4 mm5 mm6 mm7 mm8 mm9 mm10 mm11 mm12 mm13 CS
 go_upto_region 6 with fail
 generalize (w5.alloc (.cells (nA M2 K) 39)) = w10 at T5 ⊢
 have T10 := T5
 clear T5
 obtain ⟨_, a0, a1, a2, a3, a4, a5, a6, a7, a8, a9, a10, a11, a12, a13⟩ := qcG T10.out.p
 obtain ⟨_, mm0, mm1, mm2, mm3, mm4, mm5, mm6, mm7, mm8, mm9, mm10, mm11, mm12, mm13⟩ := qcG T10.out.q
 have C7 := hI (fun w' (hb : Below w10.heap.size w10 w') => nearOkI HN.out (T10.out.later hb).on.rd T10.out.on.caps)
 have C8 := hI (fun w' (hb : Below w10.heap.size w10 w') => nearOkI HKP.out.ok (T10.out.later hb).om.rd T10.out.om.caps)
 have C9 := hI (fun w' (hb : Below w10.heap.size w10 w') => nearOkS HKP.out.ok (T10.out.later hb).om.rd)
 have C10 := hI (fun w' (hb : Below w10.heap.size w10 w') => sizeI HKP.out.ok (T10.out.later hb).om.rd T10.out.om.caps)
 unfold neV at C7 C8 C9 C10
 have hsz : ¬ (N.sl.length : Int) < ((qaD K).length : Int) := by have := HKP.out.ok.full; have := HKP.out.len; omega
 generalize (qaD K).length = sn at C10 hsz
 have hszn : ¬ N.sl.length < sn := by omega
 have qz : decide ((N.sl.length : Int) < (sn : Int)) = false := decide_eq_false hsz
 have qv : (gn.toList == gn.toList) = true := by simp
 go_region_held3 (fun w' => w'.cell? ⟨Q, 0, none⟩ = some (.slice M.a K.sl.length M.ac) /\ w'.cell? ⟨Q, 1, none⟩ = some (.int .i64 K.fr) /\ w'.cell? ⟨Q, 2, none⟩ = some (.slice M.c K.ce.length M.cc) /\ w'.cell? ⟨Q, 3, none⟩ = some (.slice M.o K.od.length M.oc) /\ w'.cell? ⟨Q, 4, none⟩ = some (.int .i64 K.mv) /\ w'.cell? ⟨Q, 5, none⟩ = some (.int .i64 K.wm) /\ w'.cell? ⟨Q, 6, none⟩ = some (.slice M.w K.w.length M.wc) /\ w'.cell? ⟨Q, 7, none⟩ = some (.int .i64 K.tm) /\ w'.cell? ⟨Q, 8, none⟩ = some (.slice M.t K.t.length M.tc) /\ w'.cell? ⟨Q, 9, none⟩ = some (.int .i64 K.sm) /\ w'.cell? ⟨Q, 10, none⟩ = some (.slice M.s K.s.length M.sc) /\ w'.cell? ⟨Q, 11, none⟩ = some (.slice M.k K.sk.length M.kc) /\ w'.cell? ⟨Q, 12, none⟩ = some (.int .i64 K.ad) /\ w'.cell? ⟨Q, 13, none⟩ = some (.int .i64 K.dr) /\ w'.cell? ⟨P, 0, none⟩ = some (.slice A.a N.sl.length A.ac) /\ w'.cell? ⟨P, 1, none⟩ = some (.int .i64 N.fr) /\ w'.cell? ⟨P, 2, none⟩ = some (.slice A.c N.ce.length A.cc) /\ w'.cell? ⟨P, 3, none⟩ = some (.slice A.o N.od.length A.oc) /\ w'.cell? ⟨P, 4, none⟩ = some (.int .i64 N.mv) /\ w'.cell? ⟨P, 5, none⟩ = some (.int .i64 N.wm) /\ w'.cell? ⟨P, 6, none⟩ = some (.slice A.w N.w.length A.wc) /\ w'.cell? ⟨P, 7, none⟩ = some (.int .i64 N.tm) /\ w'.cell? ⟨P, 8, none⟩ = some (.slice A.t N.t.length A.tc) /\ w'.cell? ⟨P, 9, none⟩ = some (.int .i64 N.sm) /\ w'.cell? ⟨P, 10, none⟩ = some (.slice A.s N.s.length A.sc) /\ w'.cell? ⟨P, 11, none⟩ = some (.slice A.k N.sk.length A.kc) /\ w'.cell? ⟨P, 12, none⟩ = some (.int .i64 N.ad) /\ w'.cell? ⟨P, 13, none⟩ = some (.int .i64 N.dr)) (first | simp only [World.cell?_drew, mm0, mm1, mm2, mm3, mm4, mm5, mm6, mm7, mm8, mm9, mm10, mm11, mm12, mm13, a0, a1, a2, a3, a4, a5, a6, a7, a8, a9, a10, a11, a12, a13, and_self] | simp only [mm0, mm1, mm2, mm3, mm4, mm5, mm6, mm7, mm8, mm9, mm10, mm11, mm12, mm13, a0, a1, a2, a3, a4, a5, a6, a7, a8, a9, a10, a11, a12, a13, and_self]) ((first | (go_at_call 9; first | ((with_reducible refine (C8.out _ (bwa.out.trans (show Below w10.heap.size wa _ by go_grown))).mono ?_); rintro e wb ⟨rfl, hbz⟩; have bwb : Hid (Below w10.heap.size w10 wb) := (bwa.out.trans (show Below w10.heap.size wa _ by go_grown)).trans (hbz.mono (by go_size)); have hswb : w10.heap.size <= wb.heap.size := bwb.out.size; clear hbz a0 a1 a2 a3 a4 a5 a6 a7 a8 a9 a10 a11 a12 a13 mm0 mm1 mm2 mm3 mm4 mm5 mm6 mm7 mm8 mm9 mm10 mm11 mm12 mm13; have Twb := hI (T10.out.later bwb.out); obtain ⟨_, a0, a1, a2, a3, a4, a5, a6, a7, a8, a9, a10, a11, a12, a13⟩ := qcG Twb.out.p; obtain ⟨_, mm0, mm1, mm2, mm3, mm4, mm5, mm6, mm7, mm8, mm9, mm10, mm11, mm12, mm13⟩ := qcG Twb.out.q) | ((with_reducible refine (C7.out _ (show Below w10.heap.size w10 _ by go_grown)).mono ?_); rintro e wa ⟨rfl, hbz⟩; have bwa : Hid (Below w10.heap.size w10 wa) := (show Below w10.heap.size w10 _ by go_grown).trans (hbz.mono (by go_size)); have hswa : w10.heap.size <= wa.heap.size := bwa.out.size; clear hbz a0 a1 a2 a3 a4 a5 a6 a7 a8 a9 a10 a11 a12 a13 mm0 mm1 mm2 mm3 mm4 mm5 mm6 mm7 mm8 mm9 mm10 mm11 mm12 mm13; have Twa := hI (T10.out.later bwa.out); obtain ⟨_, a0, a1, a2, a3, a4, a5, a6, a7, a8, a9, a10, a11, a12, a13⟩ := qcG Twa.out.p; obtain ⟨_, mm0, mm1, mm2, mm3, mm4, mm5, mm6, mm7, mm8, mm9, mm10, mm11, mm12, mm13⟩ := qcG Twa.out.q)) | (go_at_call 10; (with_reducible refine (C9.out _ (bwb.out.trans (show Below w10.heap.size wb _ by go_grown))).mono ?_); rintro e wc ⟨rfl, hbz⟩; have bwc : Hid (Below w10.heap.size w10 wc) := (bwb.out.trans (show Below w10.heap.size wb _ by go_grown)).trans (hbz.mono (by go_size)); have hswc : w10.heap.size <= wc.heap.size := bwc.out.size; clear hbz a0 a1 a2 a3 a4 a5 a6 a7 a8 a9 a10 a11 a12 a13 mm0 mm1 mm2 mm3 mm4 mm5 mm6 mm7 mm8 mm9 mm10 mm11 mm12 mm13; have Twc := hI (T10.out.later bwc.out); obtain ⟨_, a0, a1, a2, a3, a4, a5, a6, a7, a8, a9, a10, a11, a12, a13⟩ := qcG Twc.out.p; obtain ⟨_, mm0, mm1, mm2, mm3, mm4, mm5, mm6, mm7, mm8, mm9, mm10, mm11, mm12, mm13⟩ := qcG Twc.out.q) | (go_at_call 11; (with_reducible refine (C10.out _ (bwc.out.trans (show Below w10.heap.size wc _ by go_grown))).mono ?_); rintro e wd ⟨rfl, hbz⟩; have bwd : Hid (Below w10.heap.size w10 wd) := (bwc.out.trans (show Below w10.heap.size wc _ by go_grown)).trans (hbz.mono (by go_size)); have hswd : w10.heap.size <= wd.heap.size := bwd.out.size; clear hbz a0 a1 a2 a3 a4 a5 a6 a7 a8 a9 a10 a11 a12 a13 mm0 mm1 mm2 mm3 mm4 mm5 mm6 mm7 mm8 mm9 mm10 mm11 mm12 mm13; have Twd := hI (T10.out.later bwd.out); obtain ⟨_, a0, a1, a2, a3, a4, a5, a6, a7, a8, a9, a10, a11, a12, a13⟩ := qcG Twd.out.p; obtain ⟨_, mm0, mm1, mm2, mm3, mm4, mm5, mm6, mm7, mm8, mm9, mm10, mm11, mm12, mm13⟩ := qcG Twd.out.q)))
 clear a0 a1 a2 a3 a4 a5 a6 a7 a8 a9 a10 a11 a12 a13 mm0 mm1 mm2 mm3 mm4 mm5 mm6 mm7 mm8 mm9 mm10 mm11 mm12 mm13
 have T13 := Twd
 clear Twa Twb Twc bwa bwb bwc bwd T10 Twd hswa hswb hswc hswd
 obtain ⟨_, a0, a1, a2, a3, a4, a5, a6, a7, a8, a9, a10, a11, a12, a13⟩ := qcG T13.out.p
 obtain ⟨_, mm0, mm1, mm2, mm3, mm4, mm5, mm6, mm7, mm8, mm9, mm10, mm11, mm12, mm13⟩ := qcG T13.out.q
 go_wp2_with fail
 clear qz hsz hszn
 refine (C6.out wd T13.out.om.rd k).mono ?_
 rintro e w14 ⟨v14, t14, rfl, h14, hb14⟩
 obtain rfl : t14 = true := (h14.there HKP.out.ok).2 (HKP.out.ok.hasV.1 ⟨_, HKP.out.val⟩)
 obtain rfl : v14 = vv := by
  rcases h14 with ⟨_, h⟩ | ⟨h, _⟩
  ·exact HKP.out.ok.one h HKP.out.val
  ·cases h
 have T14 := hI (T13.out.later hb14)
 clear h14 hb14 T13 a0 a1 a2 a3 a4 a5 a6 a7 a8 a9 a10 a11 a12 a13 mm0 mm1 mm2 mm3 mm4 mm5 mm6 mm7 mm8 mm9 mm10 mm11 mm12 mm13
 have qvv : (v14.toList == v14.toList) = true := by simp
 have qgk : (gn.toList == k.toList) = false := by rw [beq_eq_false_iff_ne]; exact fun e => HKP.out.ne (textEq e)
 go_wp2_with fail
 refine (names8_any w14).mono ?_
 rintro e w15 ⟨rfl, hn15, hb15⟩
 have T15 := hI (T14.out.later hb15)
 have N15 := hI hn15
 clear hn15 hb15 T14 qvv
 generalize w14.heap.size = NB at *
 go_wp2
 go_loopw [15] (fun iv wr => ∃ i : Nat, i <= 12 /\ iv = .int .i64 (i : Int) /\ Hid (TwN w wr P Q A M N K) /\ Hid (Nm8 wr NB)) (fun iv _ => 12 - (intOf iv).toNat)
 case atStart => exact ⟨0, by omega, rfl, T15, N15⟩
 case round =>
  obtain ⟨i, hi, rfl, hT, hNm⟩ := hrel
  by_cases hlt : i < 12
  ·have k1 : (i : Int) < 12 := by omega
   have n0 := hNm.out.2 i hlt
   obtain ⟨z, hzi⟩ : ∃ z, nm8 i = z := ⟨_, rfl⟩
   rw [hzi] at n0
   have hlt0 := hlt
   have HZI := hI hzi
   clear hzi
   obtain ⟨_, a0, a1, a2, a3, a4, a5, a6, a7, a8, a9, a10, a11, a12, a13⟩ := qcG hT.out.p
   obtain ⟨_, mm0, mm1, mm2, mm3, mm4, mm5, mm6, mm7, mm8, mm9, mm10, mm11, mm12, mm13⟩ := qcG hT.out.q
   have C5r := hI (fun w' (hb : Below wr.heap.size wr w') => C5.out w' ((hT.out.later hb).on.rd) z)
   go_wp2_with fail
   go_region_held3 (fun w' => w'.cell? ⟨P, 0, none⟩ = some (.slice A.a N.sl.length A.ac) /\ w'.cell? ⟨P, 1, none⟩ = some (.int .i64 N.fr) /\ w'.cell? ⟨P, 2, none⟩ = some (.slice A.c N.ce.length A.cc) /\ w'.cell? ⟨P, 3, none⟩ = some (.slice A.o N.od.length A.oc) /\ w'.cell? ⟨P, 4, none⟩ = some (.int .i64 N.mv) /\ w'.cell? ⟨P, 5, none⟩ = some (.int .i64 N.wm) /\ w'.cell? ⟨P, 6, none⟩ = some (.slice A.w N.w.length A.wc) /\ w'.cell? ⟨P, 7, none⟩ = some (.int .i64 N.tm) /\ w'.cell? ⟨P, 8, none⟩ = some (.slice A.t N.t.length A.tc) /\ w'.cell? ⟨P, 9, none⟩ = some (.int .i64 N.sm) /\ w'.cell? ⟨P, 10, none⟩ = some (.slice A.s N.s.length A.sc) /\ w'.cell? ⟨P, 11, none⟩ = some (.slice A.k N.sk.length A.kc) /\ w'.cell? ⟨P, 12, none⟩ = some (.int .i64 N.ad) /\ w'.cell? ⟨P, 13, none⟩ = some (.int .i64 N.dr) /\ w'.cell? ⟨NB, i, none⟩ = some (.string z)) (first | simp only [World.cell?_drew, a0, a1, a2, a3, a4, a5, a6, a7, a8, a9, a10, a11, a12, a13, n0, and_self] | simp only [a0, a1, a2, a3, a4, a5, a6, a7, a8, a9, a10, a11, a12, a13, n0, and_self]) ((first | (go_at_call 12; refine (C5r.out _ (show Below wr.heap.size wr _ by go_grown)).mono ?_; rintro e w7 ⟨v7, t7, rfl, h7, hb7⟩; have b7 : Hid (Below wr.heap.size wr w7) := (show Below wr.heap.size wr _ by go_grown).trans (hb7.mono (by go_size)); have H7 := hI h7; clear hb7 h7 n0 a0 a1 a2 a3 a4 a5 a6 a7 a8 a9 a10 a11 a12 a13 mm0 mm1 mm2 mm3 mm4 mm5 mm6 mm7 mm8 mm9 mm10 mm11 mm12 mm13; have T7 := hI (hT.out.later b7.out); have M7 := hI (hNm.out.later b7.out); have n0 := M7.out.2 i hlt0; rw [HZI.out] at n0; obtain ⟨_, a0, a1, a2, a3, a4, a5, a6, a7, a8, a9, a10, a11, a12, a13⟩ := qcG T7.out.p; obtain ⟨_, mm0, mm1, mm2, mm3, mm4, mm5, mm6, mm7, mm8, mm9, mm10, mm11, mm12, mm13⟩ := qcG T7.out.q)))
   have C6r := hI (fun w' (hb : Below w7.heap.size w7 w') => C6.out w' ((T7.out.later hb).om.rd) z)
   go_wp2_with fail
   go_region_held3 (fun w' => w'.cell? ⟨Q, 0, none⟩ = some (.slice M.a K.sl.length M.ac) /\ w'.cell? ⟨Q, 1, none⟩ = some (.int .i64 K.fr) /\ w'.cell? ⟨Q, 2, none⟩ = some (.slice M.c K.ce.length M.cc) /\ w'.cell? ⟨Q, 3, none⟩ = some (.slice M.o K.od.length M.oc) /\ w'.cell? ⟨Q, 4, none⟩ = some (.int .i64 K.mv) /\ w'.cell? ⟨Q, 5, none⟩ = some (.int .i64 K.wm) /\ w'.cell? ⟨Q, 6, none⟩ = some (.slice M.w K.w.length M.wc) /\ w'.cell? ⟨Q, 7, none⟩ = some (.int .i64 K.tm) /\ w'.cell? ⟨Q, 8, none⟩ = some (.slice M.t K.t.length M.tc) /\ w'.cell? ⟨Q, 9, none⟩ = some (.int .i64 K.sm) /\ w'.cell? ⟨Q, 10, none⟩ = some (.slice M.s K.s.length M.sc) /\ w'.cell? ⟨Q, 11, none⟩ = some (.slice M.k K.sk.length M.kc) /\ w'.cell? ⟨Q, 12, none⟩ = some (.int .i64 K.ad) /\ w'.cell? ⟨Q, 13, none⟩ = some (.int .i64 K.dr) /\ w'.cell? ⟨NB, i, none⟩ = some (.string z)) (first | simp only [World.cell?_drew, mm0, mm1, mm2, mm3, mm4, mm5, mm6, mm7, mm8, mm9, mm10, mm11, mm12, mm13, n0, and_self] | simp only [mm0, mm1, mm2, mm3, mm4, mm5, mm6, mm7, mm8, mm9, mm10, mm11, mm12, mm13, n0, and_self]) ((first | (go_at_call 12; refine (C6r.out _ (show Below w7.heap.size w7 _ by go_grown)).mono ?_; rintro e w8 ⟨v8, t8, rfl, h8, hb8⟩; have b8 : Hid (Below w7.heap.size w7 w8) := (show Below w7.heap.size w7 _ by go_grown).trans (hb8.mono (by go_size)); have H8 := hI h8; clear hb8 h8 n0 a0 a1 a2 a3 a4 a5 a6 a7 a8 a9 a10 a11 a12 a13 mm0 mm1 mm2 mm3 mm4 mm5 mm6 mm7 mm8 mm9 mm10 mm11 mm12 mm13; have T8 := hI (T7.out.later b8.out); have M8 := hI (M7.out.later b8.out); have n0 := M8.out.2 i hlt0; rw [HZI.out] at n0; obtain ⟨_, a0, a1, a2, a3, a4, a5, a6, a7, a8, a9, a10, a11, a12, a13⟩ := qcG T8.out.p; obtain ⟨_, mm0, mm1, mm2, mm3, mm4, mm5, mm6, mm7, mm8, mm9, mm10, mm11, mm12, mm13⟩ := qcG T8.out.q)))
   clear a0 a1 a2 a3 a4 a5 a6 a7 a8 a9 a10 a11 a12 a13 mm0 mm1 mm2 mm3 mm4 mm5 mm6 mm7 mm8 mm9 mm10 mm11 mm12 mm13
   by_cases hz : z = k
   ·have qz : (z.toList == k.toList) = true := by rw [hz]; simp
    clear hz
    go_wp2
    go_roundw
    case rel => exact ⟨i + 1, by omega, by go_num, T8, M8⟩
    case measure => simp [intOf]; omega
   ·have qz : (z.toList == k.toList) = false := by rw [beq_eq_false_iff_ne]; exact fun e => hz (textEq e)
    have HO := hI (fun y => HKP.out.oth z y hz)
    clear hz
    by_cases hg : z = gn
    ·have qg : (z.toList == gn.toList) = true := by rw [hg]; simp
     obtain rfl : t8 = false := by
      rcases H8.out with ⟨_, h⟩ | ⟨h, _⟩
      ·exact absurd hg (((HO.out _).1 h).2)
      ·exact h
     clear hg
     cases t7 with
     | false =>
      go_wp2
      go_roundw
      case rel => exact ⟨i + 1, by omega, by go_num, T8, M8⟩
      case measure => simp [intOf]; omega
     | true =>
      go_wp2
      go_roundw
      case rel => exact ⟨i + 1, by omega, by go_num, T8, M8⟩
      case measure => simp [intOf]; omega
    ·have qg : (z.toList == gn.toList) = false := by rw [beq_eq_false_iff_ne]; exact fun e => hg (textEq e)
     obtain ⟨rfl, rfl⟩ := ValA.same HKP.out.ok (fun y => ⟨fun h => (HO.out y).2 ⟨h, hg⟩, fun h => ((HO.out y).1 h).1⟩) H7.out H8.out
     have qv7 : (v7.toList == v7.toList) = true := by simp
     clear hg
     cases t7 with
     | false =>
      go_wp2
      go_roundw
      case rel => exact ⟨i + 1, by omega, by go_num, T8, M8⟩
      case measure => simp [intOf]; omega
     | true =>
      go_wp2
      go_roundw
      case rel => exact ⟨i + 1, by omega, by go_num, T8, M8⟩
      case measure => simp [intOf]; omega
  ·obtain rfl : i = 12 := by omega
   have B9 := hI hT.out.bel
   clear hT hNm
   go_wp2
   go_ret
   exact ⟨rfl, B9.out⟩
theorem door_met_FnKeeps (os : Os) (args : Array Value) : laidMetH Tryz.prog Rows.fnKeepsRow.laid ((World.doorLaid Tryz.prog 14 os).forCall (fun _ _ => 0) ⟨#[], args, []⟩).memory :=
 laidMetH_of_parts3 (fuel := 8) (laidMet_of_run' 8 (by kernel_rfl) (by kernel_rfl)) (by kernel_rfl) (by kernel_rfl)
theorem lifted_FnKeeps (os : Os) (started : os.Started) (H : Type) (enc : TypeId × Value -> H) :
  ReturnsInHanded {} Tryz.checked os 3 .any (fun w args => (Rows.fnKeepsSpec.pre enc Tryz.prog Tryz.f3 [] false w args /\ laidMetH Tryz.prog Rows.fnKeepsRow.laid w) /\ sizedMet enc Tryz.prog Tryz.f3 (OpenSpec.ofChange Rows.fnKeepsSpec) false w args)
   (Rows.fnKeepsSpec.post enc Tryz.prog Tryz.f3 false true false false) := by
 refine returnsInHanded_of_change_and (C := Tryz.checked) (X := fun w _ => laidMetH Tryz.prog Rows.fnKeepsRow.laid w) (fun _ _ _ hh h => h.of_heap hh) (show ownKnob Tryz.prog.godebug = none by kernel_rfl) started (by kernel_rfl) Tryz.func3
  (ChangeSpec.witness_shaped (enc := enc) (C := Tryz.checked) (os := os) (X := fun w _ => laidMetH Tryz.prog Rows.fnKeepsRow.laid w) false (World.doorLaid Tryz.prog 14 os) #[.slice none 0 0] 8 rfl (World.shaped_of_RefB (by kernel_rfl) (by kernel_rfl)) (by kernel_rfl) (by kernel_rfl) (by kernel_rfl) (door_met_FnKeeps os _)) ?_
 intro W base args ds gs before hval0 hW _ _ hL _
 have hval : ∀ (j : Nat) t v, Tryz.f3.params[j]? = some t -> args[j]? = some v -> Value.okWide Tryz.prog W .any base t v := hval0
 have hW' := hW
 obtain ⟨p, q, hA0, hV, rfl, hfz, hnd⟩ := hW
 have hA : DataW.TrodAll enc Tryz.prog W 0 (fun _ => true) true Tryz.f3.params.toList args.toList ds p := hA0
 rw [Tryz.params3] at hA hval
 obtain ⟨v0, d0, rfl, rfl, h0⟩ := trodAll_one hA
 obtain ⟨_, _, _, _, gd, _, rfl, _⟩ := trodVars_one hV
 obtain ⟨a0, len0, cap0, rfl⟩ := okWide_slice Tryz.underlying22 (hval 0 22 v0 rfl rfl)
 have k0 := h0
 have lt0 : ∀ x ∈ p, x.block < W.heap.size := by obtain ⟨m, hm⟩ := k0; exact DataW.trod_lt m _ _ _ hm
 have r0 : RowB W a0 len0 := by
  obtain ⟨fuel, hf⟩ := h0
  rcases Go.ChangeShapes.open_ints Tryz.underlying22 Tryz.underlying5 (by kernel_rfl) hf with ⟨hcs, _⟩ | ⟨x, l, c, zs, hcs, _, hl, hm, hz, _, hcell, hwz⟩
  ·simp [Value.cells] at hcs
   obtain ⟨rfl, rfl, rfl⟩ := hcs
   exact fun j hj => absurd hj (Nat.not_lt_zero _)
  ·simp [Value.cells] at hcs
   obtain ⟨rfl, rfl, rfl⟩ := hcs
   exact rowB_of hl (by simpa using hz) hcell (fun n hn => bounds_u8 (hwz n hn))
 have hX := of_laid_FnKeeps hL
 clear hA0 hval0
 refine (walk_FnKeeps a0 len0 cap0 W r0 hX).mono fun e W' ⟨he, bel⟩ => ?_
 subst he
 exact ⟨_, rfl, _, _, _, [], _, q, hW', trodAll_mk1 (shut_bool Tryz.underlying4 _), trodAll_mk1 (Below.trod (show laidOutB Tryz.prog = true by kernel_rfl) (by kernel_rfl) (of_decide_eq_true (by kernel_rfl)) k0 bel lt0), bel.trodVars (show laidOutB Tryz.prog = true by kernel_rfl) (by kernel_rfl) hV, bel.frame _, fun h => by cases h⟩
theorem row_FnKeeps : Rows.FnKeepsSaid :=
 OpenClaim.holds_of_wide 3 Tryz.f3 rfl rfl rfl rfl rfl rfl rfl ⟨rfl, rfl, rfl, rfl, rfl⟩ rfl rfl rfl rfl rfl (by kernel_rfl) Tryz.func3 (by kernel_rfl)
  (of_decide_eq_true (by kernel_rfl)) (by unfold Func.isWrapper; first | (rw [if_pos (by decide +kernel)]; kernel_rfl) | (rw [if_neg (by decide +kernel)]; exact ⟨rfl, rfl⟩))
  (fun os started H enc _ => lifted_FnKeeps os started H enc)
theorem proved_FnKeeps : Rows.FnKeepsCardSaid :=
 Claim7.holds_tied_plain_at .later [] Rows.fnKeepsCard.laidKinds true Rows.fnKeepsCard.stood.harness false
  row_FnKeeps (fun _ h => by cases h) (by kernel_rfl) (fun _ h => by cases h) fnKeeps_row_tie rfl ⟨rfl, rfl⟩ (by kernel_rfl) rfl
  (fun f fn hf hfn => by
   obtain rfl : f = 3 := Option.some.inj ((show Tryz.prog.funcNamed Tryz.f3.name = some 3 by kernel_rfl).symm.trans hf) |>.symm
   obtain rfl : fn = Tryz.f3 := (Option.some.inj (Tryz.func3.symm.trans hfn)).symm
   exact ⟨by kernel_rfl, fun j t ht => by
    rw [Tryz.params3] at ht
    have hm : t ∈ ([22] : List TypeId) := by simpa using Array.mem_of_getElem? ht
    have hall : (([22] : List TypeId).all fun u => !Tryz.prog.wantsStandIn u) = true := by kernel_rfl
    exact (show Tryz.prog.wantsStandIn t = false by simpa using List.all_eq_true.1 hall t hm)⟩)
  (by kernel_rfl)
#print axioms proved_FnKeeps
end Go.Proofs.YtigpjmmfelndkaaGreatDoor
