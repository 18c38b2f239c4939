/- What is wanted of drawn near entries is what was kept last; nothing is let go by it, and what is wanted next is the same: whatever is drawn, the program's table of bits being as its text lays it (the card ties it to the text of a pruned copy of the project). -/
import Derived.Test.YtjgiobdpbbhekaaGreatDoorCards
import Derived.Test.YtjgiobdpbbhekaaGreatDoorTie
import Derived.ProofKit
import Derived.LaidMore
import Derived.OpenShut
import Derived.ShutString
import Derived.ChangeOld
import Derived.Stop.Joined
import Derived.Stop.LaidErr
import Derived.SevenTiedAt
import Derived.OpenVars
import Derived.ChangeVars
import Derived.Test.YtjgiobdpbbhekaaGreatDoorYJ
import Derived.Test.YtjgiobdpbbhekaaGreatDoorYN
namespace Go.Proofs.YtjgiobdpbbhekaaGreatDoor
open Go.ChangeShapes Go.WideShapes Go.ChangeAt Go.RowKit
open Go.ChangeMaps (open_string shut_string)
set_option linter.unusedVariables false

theorem of_laid_FnWants {W : World} (h : laidMetH Tryz.prog Rows.fnWantsRow.laid W) : TabD W := by
  rw [MakeChecks.laidMetH_plain _ _ _ (by kernel_rfl)] at h
  exact Lib.tabIs_of_head gTabD (by kernel_rfl) Tryz.underlying226 Tryz.underlying3 (by kernel_rfl) (by kernel_rfl) h

set_option maxRecDepth 100000 in
set_option maxHeartbeats 8000000 in
theorem walk_FnWants (a : Option Addr) (len cap : Nat) (w : World) (hr : RowB w a len) (hx : TabD w) :
    Calls Tryz.prog 4 #[.slice a len cap] w fun e w' => e = .returned (.bool true) ∧ Below w.heap.size w w' := by
  by_cases hbig : len ≤ 1048576
  rotate_left
  · have CB := hide1 (big4_yes a len cap w hbig)
    clear hr hx
    go_enter Tryz.func4, Tryz.ntmps4
    go_wp2_with fail
    refine CB.out.mono ?_
    rintro e w1 ⟨rfl, rfl⟩
    go_wp2
    go_ret
    exact ⟨rfl, Below.refl _ _⟩
  have CB := hide1 (big4_no a len cap w hbig)
  have CD := hide1 (drawRN_any w a len cap (hr.code hbig) hbig)
  have HX := hide1 hx
  have hw0 := hx.pos
  clear hr hx
  go_enter Tryz.func4, Tryz.ntmps4
  go_wp2_with fail
  refine CB.out.mono ?_
  rintro e w1 ⟨rfl, rfl⟩
  go_wp2_with fail
  refine CD.out.mono ?_
  rintro e w1 ⟨A, N, k, vv, rfl, hN, hk, hvv, ho, hb⟩
  have HN := hide1 hN
  have HKQ := hide1 hk
  have HW := hide1 (hN.want k)
  have HSM := hide1 hN.small
  have F1 := hide1 (show Blk (w1.alloc (.cells #[.slice A.a N.sl.length A.ac, .int .i64 N.fr, .slice A.c N.ce.length A.cc, .slice A.o N.od.length A.oc, .int .i64 N.mv, .int .i64 N.wm, .slice A.w N.w.length A.wc, .int .i64 N.tm, .slice A.t N.t.length A.tc, .int .i64 N.sm, .slice A.s N.s.length A.sc, .slice A.k N.sk.length A.kc, .int .i64 N.ad, .int .i64 N.dr] 39)) w1.heap.size 39 (neC A N) ∧ OwnN (w1.alloc (.cells #[.slice A.a N.sl.length A.ac, .int .i64 N.fr, .slice A.c N.ce.length A.cc, .slice A.o N.od.length A.oc, .int .i64 N.mv, .int .i64 N.wm, .slice A.w N.w.length A.wc, .int .i64 N.tm, .slice A.t N.t.length A.tc, .int .i64 N.sm, .slice A.s N.s.length A.sc, .slice A.k N.sk.length A.kc, .int .i64 N.ad, .int .i64 N.dr] 39)) w.heap.size A N ∧ Below w.heap.size w (w1.alloc (.cells #[.slice A.a N.sl.length A.ac, .int .i64 N.fr, .slice A.c N.ce.length A.cc, .slice A.o N.od.length A.oc, .int .i64 N.mv, .int .i64 N.wm, .slice A.w N.w.length A.wc, .int .i64 N.tm, .slice A.t N.t.length A.tc, .int .i64 N.sm, .slice A.s N.s.length A.sc, .slice A.k N.sk.length A.kc, .int .i64 N.ad, .int .i64 N.dr] 39)) from ⟨Blk.new w1 39 _, ho.later ((Below.refl _ _).alloc (Nat.le_refl _) _), hb.alloc hb.size _⟩)
  clear hN hk hvv ho hb CB CD hbig
  unfold neV
  have CF := hide1 (wantI HN.out F1.out.2.1 F1.out.2.2.size (HX.out.below F1.out.2.2 hw0) k HKQ.out)
  generalize wantN N k = K at *
  unfold neV at CF
  go_wp2_with fail
  refine CF.out.mono ?_
  rintro e w2 ⟨M, v2, t2, rfl, h2, ho2, hb2⟩
  generalize (w1.alloc (.cells #[.slice A.a N.sl.length A.ac, .int .i64 N.fr, .slice A.c N.ce.length A.cc, .slice A.o N.od.length A.oc, .int .i64 N.mv, .int .i64 N.wm, .slice A.w N.w.length A.wc, .int .i64 N.tm, .slice A.t N.t.length A.tc, .int .i64 N.sm, .slice A.s N.s.length A.sc, .slice A.k N.sk.length A.kc, .int .i64 N.ad, .int .i64 N.dr] 39)) = w1' at F1 ho2 hb2 CF
  obtain ⟨Q, hQ⟩ : ∃ Q, w2.heap.size = Q := ⟨_, rfl⟩
  have bq : Below w2.heap.size w2 (w2.alloc (.cells #[.slice M.a K.sl.length M.ac, .int .i64 K.fr, .slice M.c K.ce.length M.cc, .slice M.o K.od.length M.oc, .int .i64 K.mv, .int .i64 K.wm, .slice M.w K.w.length M.wc, .int .i64 K.tm, .slice M.t K.t.length M.tc, .int .i64 K.sm, .slice M.s K.s.length M.sc, .slice M.k K.sk.length M.kc, .int .i64 K.ad, .int .i64 K.dr] 39)) := (Below.refl _ _).alloc (Nat.le_refl _) _
  have T2 := hide1 (show TwN w (w2.alloc (.cells #[.slice M.a K.sl.length M.ac, .int .i64 K.fr, .slice M.c K.ce.length M.cc, .slice M.o K.od.length M.oc, .int .i64 K.mv, .int .i64 K.wm, .slice M.w K.w.length M.wc, .int .i64 K.tm, .slice M.t K.t.length M.tc, .int .i64 K.sm, .slice M.s K.s.length M.sc, .slice M.k K.sk.length M.kc, .int .i64 K.ad, .int .i64 K.dr] 39)) w1.heap.size Q A M N K from ⟨(F1.out.1.below hb2 F1.out.1.lt).below bq (Nat.lt_of_lt_of_le F1.out.1.lt hb2.size), hQ ▸ Blk.new w2 39 _, (F1.out.2.1.later hb2).later bq, (ho2.base F1.out.2.2.size).later bq, (F1.out.2.2.trans (hb2.mono F1.out.2.2.size)).trans (bq.mono (Nat.le_trans F1.out.2.2.size hb2.size))⟩)
  have HV2 := hide1 h2
  clear bq ho2 hb2 CF h2
  go_upto_region 5 with fail
  (try rw [hQ])
  generalize (w2.alloc (.cells #[.slice M.a K.sl.length M.ac, .int .i64 K.fr, .slice M.c K.ce.length M.cc, .slice M.o K.od.length M.oc, .int .i64 K.mv, .int .i64 K.wm, .slice M.w K.w.length M.wc, .int .i64 K.tm, .slice M.t K.t.length M.tc, .int .i64 K.sm, .slice M.s K.s.length M.sc, .slice M.k K.sk.length M.kc, .int .i64 K.ad, .int .i64 K.dr] 39)) = w3 at T2 ⊢
  generalize w1.heap.size = P at T2 ⊢
  clear hQ F1
  obtain ⟨_, a0, a1, a2, a3, a4, a5, a6, a7, a8, a9, a10, a11, a12, a13⟩ := nbox T2.out.p
  obtain ⟨_, mm0, mm1, mm2, mm3, mm4, mm5, mm6, mm7, mm8, mm9, mm10, mm11, mm12, mm13⟩ := nbox T2.out.q
  have C5 := hide1 (fun w' (hA : RdN w' A N) z => lawVal8 hA HSM.out z)
  have C6 := hide1 (fun w' (hA : RdN w' M K) z => lawVal8 hA HW.out.1.small z)
  have CW := hide1 (fun w' (T : TwN w w' P Q A M N K) => wantI HW.out.1 T.om T.bel.size (HX.out.below T.bel hw0) k HKQ.out)
  have HSL := hide1 HW.out.2.2
  have HLN := hide1 (show (keysN K).length = (keysN N).length from HW.out.2.1.length_eq)
  generalize wantN K k = K2 at CW
  unfold neV at C5 C6 CW
  go_wp2_with fail
  refine (C5.out w3 T2.out.on.rd k).mono ?_
  rintro e w4 ⟨v4, t4, rfl, h4, hb4⟩
  obtain ⟨rfl, rfl⟩ := ValA.same HN.out (fun _ => Iff.rfl) h4 HV2.out
  have T4 := hide1 (T2.out.later hb4)
  clear h4 hb4 T2 a0 a1 a2 a3 a4 a5 a6 a7 a8 a9 a10 a11 a12 a13 mm0 mm1 mm2 mm3 mm4 mm5 mm6 mm7 mm8 mm9 mm10 mm11 mm12 mm13
  obtain ⟨_, a0, a1, a2, a3, a4, a5, a6, a7, a8, a9, a10, a11, a12, a13⟩ := nbox T4.out.p
  obtain ⟨_, mm0, mm1, mm2, mm3, mm4, mm5, mm6, mm7, mm8, mm9, mm10, mm11, mm12, mm13⟩ := nbox T4.out.q
  go_wp2_with fail
  refine (CW.out w4 T4.out).mono ?_
  rintro e w5 ⟨M2, v5, t5, rfl, h5, _, hb5⟩
  obtain ⟨rfl, rfl⟩ := ValA.same (N := K) HN.out (fun v => by rw [HSL.out]) h5 HV2.out
  have bq : Below w5.heap.size w5 (w5.alloc (.cells #[.slice M2.a K2.sl.length M2.ac, .int .i64 K2.fr, .slice M2.c K2.ce.length M2.cc, .slice M2.o K2.od.length M2.oc, .int .i64 K2.mv, .int .i64 K2.wm, .slice M2.w K2.w.length M2.wc, .int .i64 K2.tm, .slice M2.t K2.t.length M2.tc, .int .i64 K2.sm, .slice M2.s K2.s.length M2.sc, .slice M2.k K2.sk.length M2.kc, .int .i64 K2.ad, .int .i64 K2.dr] 39)) := (Below.refl _ _).alloc (Nat.le_refl _) _
  have T5 := hide1 ((T4.out.later hb5).later bq)
  clear bq h5 hb5 T4 a0 a1 a2 a3 a4 a5 a6 a7 a8 a9 a10 a11 a12 a13 mm0 mm1 mm2 mm3 mm4 mm5 mm6 mm7 mm8 mm9 mm10 mm11 mm12 mm13 CW
  go_upto_region 7 with fail
  generalize (w5.alloc (.cells #[.slice M2.a K2.sl.length M2.ac, .int .i64 K2.fr, .slice M2.c K2.ce.length M2.cc, .slice M2.o K2.od.length M2.oc, .int .i64 K2.mv, .int .i64 K2.wm, .slice M2.w K2.w.length M2.wc, .int .i64 K2.tm, .slice M2.t K2.t.length M2.tc, .int .i64 K2.sm, .slice M2.s K2.s.length M2.sc, .slice M2.k K2.sk.length M2.kc, .int .i64 K2.ad, .int .i64 K2.dr] 39)) = w10 at T5 ⊢
  have T10 := T5
  clear T5
  obtain ⟨_, a0, a1, a2, a3, a4, a5, a6, a7, a8, a9, a10, a11, a12, a13⟩ := nbox T10.out.p
  obtain ⟨_, mm0, mm1, mm2, mm3, mm4, mm5, mm6, mm7, mm8, mm9, mm10, mm11, mm12, mm13⟩ := nbox T10.out.q
  have C7 := hide1 (fun w' (hb : Below w10.heap.size w10 w') => nearOkI HW.out.1 (T10.out.later hb).om.rd T10.out.om.caps)
  have C8 := hide1 (fun w' (hb : Below w10.heap.size w10 w') => sizeI HW.out.1 (T10.out.later hb).om.rd T10.out.om.caps)
  have C9 := hide1 (fun w' (hb : Below w10.heap.size w10 w') => sizeI HN.out (T10.out.later hb).on.rd T10.out.on.caps)
  unfold neV at C7 C8 C9
  rw [HLN.out] at C8
  generalize (keysN N).length = sn at C8 C9
  have qn : ((sn : Int) != (sn : Int)) = false := by simp
  have qe : ((sn : Int) == (sn : Int)) = true := by simp
  have qt : (t5 != t5) = false := by simp
  have qs : (t5 == t5) = true := by simp
  have qv : (v5.toList == v5.toList) = true := by simp
  go_region_held3 (fun w' => w'.cell? ⟨Q, 0, none⟩ = some (.slice M.a K.sl.length M.ac) ∧ w'.cell? ⟨Q, 1, none⟩ = some (.int .i64 K.fr) ∧ w'.cell? ⟨Q, 2, none⟩ = some (.slice M.c K.ce.length M.cc) ∧ w'.cell? ⟨Q, 3, none⟩ = some (.slice M.o K.od.length M.oc) ∧ w'.cell? ⟨Q, 4, none⟩ = some (.int .i64 K.mv) ∧ w'.cell? ⟨Q, 5, none⟩ = some (.int .i64 K.wm) ∧ w'.cell? ⟨Q, 6, none⟩ = some (.slice M.w K.w.length M.wc) ∧ w'.cell? ⟨Q, 7, none⟩ = some (.int .i64 K.tm) ∧ w'.cell? ⟨Q, 8, none⟩ = some (.slice M.t K.t.length M.tc) ∧ w'.cell? ⟨Q, 9, none⟩ = some (.int .i64 K.sm) ∧ w'.cell? ⟨Q, 10, none⟩ = some (.slice M.s K.s.length M.sc) ∧ w'.cell? ⟨Q, 11, none⟩ = some (.slice M.k K.sk.length M.kc) ∧ w'.cell? ⟨Q, 12, none⟩ = some (.int .i64 K.ad) ∧ w'.cell? ⟨Q, 13, none⟩ = some (.int .i64 K.dr) ∧ w'.cell? ⟨P, 0, none⟩ = some (.slice A.a N.sl.length A.ac) ∧ w'.cell? ⟨P, 1, none⟩ = some (.int .i64 N.fr) ∧ w'.cell? ⟨P, 2, none⟩ = some (.slice A.c N.ce.length A.cc) ∧ w'.cell? ⟨P, 3, none⟩ = some (.slice A.o N.od.length A.oc) ∧ w'.cell? ⟨P, 4, none⟩ = some (.int .i64 N.mv) ∧ w'.cell? ⟨P, 5, none⟩ = some (.int .i64 N.wm) ∧ w'.cell? ⟨P, 6, none⟩ = some (.slice A.w N.w.length A.wc) ∧ w'.cell? ⟨P, 7, none⟩ = some (.int .i64 N.tm) ∧ w'.cell? ⟨P, 8, none⟩ = some (.slice A.t N.t.length A.tc) ∧ w'.cell? ⟨P, 9, none⟩ = some (.int .i64 N.sm) ∧ w'.cell? ⟨P, 10, none⟩ = some (.slice A.s N.s.length A.sc) ∧ w'.cell? ⟨P, 11, none⟩ = some (.slice A.k N.sk.length A.kc) ∧ w'.cell? ⟨P, 12, none⟩ = some (.int .i64 N.ad) ∧ w'.cell? ⟨P, 13, none⟩ = some (.int .i64 N.dr)) (first | simp only [World.cell?_drew, mm0, mm1, mm2, mm3, mm4, mm5, mm6, mm7, mm8, mm9, mm10, mm11, mm12, mm13, a0, a1, a2, a3, a4, a5, a6, a7, a8, a9, a10, a11, a12, a13, and_self] | simp only [mm0, mm1, mm2, mm3, mm4, mm5, mm6, mm7, mm8, mm9, mm10, mm11, mm12, mm13, a0, a1, a2, a3, a4, a5, a6, a7, a8, a9, a10, a11, a12, a13, and_self]) ((first | (go_at_call 10; refine (C7.out _ (show Below w10.heap.size w10 _ by go_grown)).mono ?_; rintro e w11 ⟨rfl, hb11⟩; have b11 : Hid (Below w10.heap.size w10 w11) := (show Below w10.heap.size w10 _ by go_grown).trans (hb11.mono (by go_size)); clear hb11 a0 a1 a2 a3 a4 a5 a6 a7 a8 a9 a10 a11 a12 a13 mm0 mm1 mm2 mm3 mm4 mm5 mm6 mm7 mm8 mm9 mm10 mm11 mm12 mm13; have T11 := hide1 (T10.out.later b11.out); obtain ⟨_, a0, a1, a2, a3, a4, a5, a6, a7, a8, a9, a10, a11, a12, a13⟩ := nbox T11.out.p; obtain ⟨_, mm0, mm1, mm2, mm3, mm4, mm5, mm6, mm7, mm8, mm9, mm10, mm11, mm12, mm13⟩ := nbox T11.out.q) | (go_at_call 12; first | ((with_reducible refine (C9.out _ (b12t.out.trans (show Below w10.heap.size w12 _ by go_grown))).mono ?_); rintro e w13 ⟨rfl, hb13⟩; have b13 : Hid (Below w12.heap.size w12 w13) := (show Below w12.heap.size w12 _ by go_grown).trans (hb13.mono (by go_size)); clear hb13 a0 a1 a2 a3 a4 a5 a6 a7 a8 a9 a10 a11 a12 a13 mm0 mm1 mm2 mm3 mm4 mm5 mm6 mm7 mm8 mm9 mm10 mm11 mm12 mm13; have T13 := hide1 (T12.out.later b13.out); obtain ⟨_, a0, a1, a2, a3, a4, a5, a6, a7, a8, a9, a10, a11, a12, a13⟩ := nbox T13.out.p; obtain ⟨_, mm0, mm1, mm2, mm3, mm4, mm5, mm6, mm7, mm8, mm9, mm10, mm11, mm12, mm13⟩ := nbox T13.out.q) | ((with_reducible refine (C8.out _ (b11.out.trans (show Below w10.heap.size w11 _ by go_grown))).mono ?_); rintro e w12 ⟨rfl, hb12⟩; have b12 : Hid (Below w11.heap.size w11 w12) := (show Below w11.heap.size w11 _ by go_grown).trans (hb12.mono (by go_size)); clear hb12 a0 a1 a2 a3 a4 a5 a6 a7 a8 a9 a10 a11 a12 a13 mm0 mm1 mm2 mm3 mm4 mm5 mm6 mm7 mm8 mm9 mm10 mm11 mm12 mm13; have T12 := hide1 (T11.out.later b12.out); have b12t : Hid (Below w10.heap.size w10 w12) := b11.out.trans (b12.out.mono b11.out.size); obtain ⟨_, a0, a1, a2, a3, a4, a5, a6, a7, a8, a9, a10, a11, a12, a13⟩ := nbox T12.out.p; obtain ⟨_, mm0, mm1, mm2, mm3, mm4, mm5, mm6, mm7, mm8, mm9, mm10, mm11, mm12, mm13⟩ := nbox T12.out.q))))
  clear a0 a1 a2 a3 a4 a5 a6 a7 a8 a9 a10 a11 a12 a13 mm0 mm1 mm2 mm3 mm4 mm5 mm6 mm7 mm8 mm9 mm10 mm11 mm12 mm13
  go_wp2_with fail
  refine (names8_any w13).mono ?_
  rintro e w14 ⟨rfl, hn14, hb14⟩
  have T14 := hide1 (T13.out.later hb14)
  have N14 := hide1 hn14
  clear hn14 hb14 T13 T12 T11 T10 b11 b12 b12t b13
  generalize w13.heap.size = NB at *
  go_wp2
  go_loopw [15] (fun iv wr => ∃ i : Nat, i ≤ 12 ∧ iv = .int .i64 (i : Int) ∧ Hid (TwN w wr P Q A M N K) ∧ Hid (Nm8 wr NB)) (fun iv _ => 12 - (intOf iv).toNat)
  case atStart => exact ⟨0, by omega, rfl, T14, N14⟩
  case round =>
    obtain ⟨i, hi, rfl, hT, hNm⟩ := hrel
    by_cases hlt : i < 12
    · have k1 : (i : Int) < 12 := by omega
      have n0 := hNm.out.2 i hlt
      obtain ⟨z, hzi⟩ : ∃ z, nm8 i = z := ⟨_, rfl⟩
      rw [hzi] at n0
      have hlt0 := hlt
      have HZI := hide1 hzi
      clear hzi
      obtain ⟨_, a0, a1, a2, a3, a4, a5, a6, a7, a8, a9, a10, a11, a12, a13⟩ := nbox hT.out.p
      obtain ⟨_, mm0, mm1, mm2, mm3, mm4, mm5, mm6, mm7, mm8, mm9, mm10, mm11, mm12, mm13⟩ := nbox hT.out.q
      have C5r := hide1 (fun w' (hb : Below wr.heap.size wr w') => C5.out w' ((hT.out.later hb).on.rd) z)
      go_wp2_with fail
      go_region_held3 (fun w' => w'.cell? ⟨P, 0, none⟩ = some (.slice A.a N.sl.length A.ac) ∧ w'.cell? ⟨P, 1, none⟩ = some (.int .i64 N.fr) ∧ w'.cell? ⟨P, 2, none⟩ = some (.slice A.c N.ce.length A.cc) ∧ w'.cell? ⟨P, 3, none⟩ = some (.slice A.o N.od.length A.oc) ∧ w'.cell? ⟨P, 4, none⟩ = some (.int .i64 N.mv) ∧ w'.cell? ⟨P, 5, none⟩ = some (.int .i64 N.wm) ∧ w'.cell? ⟨P, 6, none⟩ = some (.slice A.w N.w.length A.wc) ∧ w'.cell? ⟨P, 7, none⟩ = some (.int .i64 N.tm) ∧ w'.cell? ⟨P, 8, none⟩ = some (.slice A.t N.t.length A.tc) ∧ w'.cell? ⟨P, 9, none⟩ = some (.int .i64 N.sm) ∧ w'.cell? ⟨P, 10, none⟩ = some (.slice A.s N.s.length A.sc) ∧ w'.cell? ⟨P, 11, none⟩ = some (.slice A.k N.sk.length A.kc) ∧ w'.cell? ⟨P, 12, none⟩ = some (.int .i64 N.ad) ∧ w'.cell? ⟨P, 13, none⟩ = some (.int .i64 N.dr) ∧ w'.cell? ⟨NB, i, none⟩ = some (.string z)) (first | simp only [World.cell?_drew, a0, a1, a2, a3, a4, a5, a6, a7, a8, a9, a10, a11, a12, a13, n0, and_self] | simp only [a0, a1, a2, a3, a4, a5, a6, a7, a8, a9, a10, a11, a12, a13, n0, and_self]) ((first | (go_at_call 13; refine (C5r.out _ (show Below wr.heap.size wr _ by go_grown)).mono ?_; rintro e w7 ⟨v7, t7, rfl, h7, hb7⟩; have b7 : Hid (Below wr.heap.size wr w7) := (show Below wr.heap.size wr _ by go_grown).trans (hb7.mono (by go_size)); have H7 := hide1 h7; clear hb7 h7 n0 a0 a1 a2 a3 a4 a5 a6 a7 a8 a9 a10 a11 a12 a13 mm0 mm1 mm2 mm3 mm4 mm5 mm6 mm7 mm8 mm9 mm10 mm11 mm12 mm13; have T7 := hide1 (hT.out.later b7.out); have M7 := hide1 (hNm.out.later b7.out); have n0 := M7.out.2 i hlt0; rw [HZI.out] at n0; obtain ⟨_, a0, a1, a2, a3, a4, a5, a6, a7, a8, a9, a10, a11, a12, a13⟩ := nbox T7.out.p; obtain ⟨_, mm0, mm1, mm2, mm3, mm4, mm5, mm6, mm7, mm8, mm9, mm10, mm11, mm12, mm13⟩ := nbox T7.out.q)))
      have C6r := hide1 (fun w' (hb : Below w7.heap.size w7 w') => C6.out w' ((T7.out.later hb).om.rd) z)
      go_wp2_with fail
      go_region_held3 (fun w' => w'.cell? ⟨Q, 0, none⟩ = some (.slice M.a K.sl.length M.ac) ∧ w'.cell? ⟨Q, 1, none⟩ = some (.int .i64 K.fr) ∧ w'.cell? ⟨Q, 2, none⟩ = some (.slice M.c K.ce.length M.cc) ∧ w'.cell? ⟨Q, 3, none⟩ = some (.slice M.o K.od.length M.oc) ∧ w'.cell? ⟨Q, 4, none⟩ = some (.int .i64 K.mv) ∧ w'.cell? ⟨Q, 5, none⟩ = some (.int .i64 K.wm) ∧ w'.cell? ⟨Q, 6, none⟩ = some (.slice M.w K.w.length M.wc) ∧ w'.cell? ⟨Q, 7, none⟩ = some (.int .i64 K.tm) ∧ w'.cell? ⟨Q, 8, none⟩ = some (.slice M.t K.t.length M.tc) ∧ w'.cell? ⟨Q, 9, none⟩ = some (.int .i64 K.sm) ∧ w'.cell? ⟨Q, 10, none⟩ = some (.slice M.s K.s.length M.sc) ∧ w'.cell? ⟨Q, 11, none⟩ = some (.slice M.k K.sk.length M.kc) ∧ w'.cell? ⟨Q, 12, none⟩ = some (.int .i64 K.ad) ∧ w'.cell? ⟨Q, 13, none⟩ = some (.int .i64 K.dr) ∧ w'.cell? ⟨NB, i, none⟩ = some (.string z)) (first | simp only [World.cell?_drew, mm0, mm1, mm2, mm3, mm4, mm5, mm6, mm7, mm8, mm9, mm10, mm11, mm12, mm13, n0, and_self] | simp only [mm0, mm1, mm2, mm3, mm4, mm5, mm6, mm7, mm8, mm9, mm10, mm11, mm12, mm13, n0, and_self]) ((first | (go_at_call 13; refine (C6r.out _ (show Below w7.heap.size w7 _ by go_grown)).mono ?_; rintro e w8 ⟨v8, t8, rfl, h8, hb8⟩; have b8 : Hid (Below w7.heap.size w7 w8) := (show Below w7.heap.size w7 _ by go_grown).trans (hb8.mono (by go_size)); have H8 := hide1 h8; clear hb8 h8 n0 a0 a1 a2 a3 a4 a5 a6 a7 a8 a9 a10 a11 a12 a13 mm0 mm1 mm2 mm3 mm4 mm5 mm6 mm7 mm8 mm9 mm10 mm11 mm12 mm13; have T8 := hide1 (T7.out.later b8.out); have M8 := hide1 (M7.out.later b8.out); have n0 := M8.out.2 i hlt0; rw [HZI.out] at n0; obtain ⟨_, a0, a1, a2, a3, a4, a5, a6, a7, a8, a9, a10, a11, a12, a13⟩ := nbox T8.out.p; obtain ⟨_, mm0, mm1, mm2, mm3, mm4, mm5, mm6, mm7, mm8, mm9, mm10, mm11, mm12, mm13⟩ := nbox T8.out.q)))
      clear a0 a1 a2 a3 a4 a5 a6 a7 a8 a9 a10 a11 a12 a13 mm0 mm1 mm2 mm3 mm4 mm5 mm6 mm7 mm8 mm9 mm10 mm11 mm12 mm13
      obtain ⟨rfl, rfl⟩ := ValA.same HW.out.1 (fun v => by rw [HSL.out]) H7.out H8.out
      have qv : (v7.toList == v7.toList) = true := by simp
      cases t7 with
      | false =>
        go_wp2
        go_roundw
        case rel => exact ⟨i + 1, by omega, by go_num, T8, M8⟩
        case measure => simp [intOf]; omega
      | true =>
        go_wp2
        go_roundw
        case rel => exact ⟨i + 1, by omega, by go_num, T8, M8⟩
        case measure => simp [intOf]; omega
    · obtain rfl : i = 12 := by omega
      have B9 := hide1 hT.out.bel
      clear hT hNm
      go_wp2
      go_ret
      exact ⟨rfl, B9.out⟩

theorem door_met_FnWants (os : Os) (args : Array Value) : laidMetH Tryz.prog Rows.fnWantsRow.laid ((World.doorLaid Tryz.prog 14 os).forCall (fun _ _ => 0) ⟨#[], args, []⟩).memory :=
  laidMetH_of_parts3 (fuel := 8) (laidMet_of_run' 8 (by kernel_rfl) (by kernel_rfl)) (by kernel_rfl) (by kernel_rfl)

set_option maxRecDepth 100000 in
theorem lifted_FnWants (os : Os) (started : os.Started) (H : Type) (enc : TypeId × Value → H) :
    ReturnsInHanded {} Tryz.checked os 4 .any (fun w args => (Rows.fnWantsSpec.pre enc Tryz.prog Tryz.f4 [] false w args ∧ laidMetH Tryz.prog Rows.fnWantsRow.laid w) ∧ sizedMet enc Tryz.prog Tryz.f4 (OpenSpec.ofChange Rows.fnWantsSpec) false w args)
      (Rows.fnWantsSpec.post enc Tryz.prog Tryz.f4 false true false false) := by
  refine returnsInHanded_of_change_and (C := Tryz.checked) (X := fun w _ => laidMetH Tryz.prog Rows.fnWantsRow.laid w) (fun _ _ _ hh h => h.of_heap hh) (show ownKnob Tryz.prog.godebug = none by kernel_rfl) started (by kernel_rfl) Tryz.func4
    (ChangeSpec.witness_shaped (enc := enc) (C := Tryz.checked) (os := os) (X := fun w _ => laidMetH Tryz.prog Rows.fnWantsRow.laid w) false (World.doorLaid Tryz.prog 14 os) #[.slice none 0 0] 8 rfl (World.shaped_of_RefB (by kernel_rfl) (by kernel_rfl)) (by kernel_rfl) (by kernel_rfl) (by kernel_rfl) (door_met_FnWants os _)) ?_
  intro W base args ds gs before hval0 hW _ _ hL _
  have hval : ∀ (j : Nat) t v, Tryz.f4.params[j]? = some t → args[j]? = some v → Value.okWide Tryz.prog W .any base t v := hval0
  have hW' := hW
  obtain ⟨p, q, hA0, hV, rfl, hfz, hnd⟩ := hW
  have hA : DataW.TrodAll enc Tryz.prog W 0 (fun _ => true) true Tryz.f4.params.toList args.toList ds p := hA0
  rw [Tryz.params4] at hA hval
  obtain ⟨v0, d0, rfl, rfl, h0⟩ := trodAll_one hA
  obtain ⟨_, _, _, _, gd, _, rfl, _⟩ := trodVars_one hV
  obtain ⟨a0, len0, cap0, rfl⟩ := okWide_slice Tryz.underlying22 (hval 0 22 v0 rfl rfl)
  have k0 := h0
  have lt0 : ∀ x ∈ p, x.block < W.heap.size := by obtain ⟨m, hm⟩ := k0; exact DataW.trod_lt m _ _ _ hm
  have r0 : RowB W a0 len0 := by
    obtain ⟨fuel, hf⟩ := h0
    rcases Go.ChangeShapes.open_ints Tryz.underlying22 Tryz.underlying5 (by kernel_rfl) hf with ⟨hcs, _⟩ | ⟨x, l, c, zs, hcs, _, hl, hm, hz, _, hcell, hwz⟩
    · simp [Value.cells] at hcs
      obtain ⟨rfl, rfl, rfl⟩ := hcs
      exact fun j hj => absurd hj (Nat.not_lt_zero _)
    · simp [Value.cells] at hcs
      obtain ⟨rfl, rfl, rfl⟩ := hcs
      exact rowB_of hl (by simpa using hz) hcell (fun n hn => bounds_u8 (hwz n hn))
  have hX := of_laid_FnWants hL
  clear hA0 hval0
  refine (walk_FnWants a0 len0 cap0 W r0 hX).mono fun e W' ⟨he, bel⟩ => ?_
  subst he
  exact ⟨_, rfl, _, _, _, [], _, q, hW', trodAll_mk1 (shut_bool Tryz.underlying4 _), trodAll_mk1 (Below.trod (show laidOutB Tryz.prog = true by kernel_rfl) (by kernel_rfl) (of_decide_eq_true (by kernel_rfl)) k0 bel lt0), bel.trodVars (show laidOutB Tryz.prog = true by kernel_rfl) (by kernel_rfl) hV, bel.frame _, fun h => by cases h⟩

theorem row_FnWants : Rows.FnWantsSaid :=
  OpenClaim.holds_of_wide 4 Tryz.f4 rfl rfl rfl rfl rfl rfl rfl ⟨rfl, rfl, rfl, rfl, rfl⟩ rfl rfl rfl rfl rfl (by kernel_rfl) Tryz.func4 (by kernel_rfl)
    (of_decide_eq_true (by kernel_rfl)) (by unfold Func.isWrapper; first | (rw [if_pos (by decide +kernel)]; kernel_rfl) | (rw [if_neg (by decide +kernel)]; exact ⟨rfl, rfl⟩))
    (fun os started H enc _ => lifted_FnWants os started H enc)

theorem proved_FnWants : Rows.FnWantsCardSaid :=
  Claim7.holds_tied_plain_at .later [] Rows.fnWantsCard.laidKinds true Rows.fnWantsCard.stood.harness false
    row_FnWants (fun _ h => by cases h) (by kernel_rfl) (fun _ h => by cases h) fnWants_row_tie rfl ⟨rfl, rfl⟩ (by kernel_rfl) rfl
    (fun f fn hf hfn => by
      obtain rfl : f = 4 := Option.some.inj ((show Tryz.prog.funcNamed Tryz.f4.name = some 4 by kernel_rfl).symm.trans hf) |>.symm
      obtain rfl : fn = Tryz.f4 := (Option.some.inj (Tryz.func4.symm.trans hfn)).symm
      exact ⟨by kernel_rfl, fun j t ht => by
        rw [Tryz.params4] at ht
        have hm : t ∈ ([22] : List TypeId) := by simpa using Array.mem_of_getElem? ht
        have hall : (([22] : List TypeId).all fun u => !Tryz.prog.wantsStandIn u) = true := by kernel_rfl
        exact (show Tryz.prog.wantsStandIn t = false by simpa using List.all_eq_true.1 hall t hm)⟩)
    (by kernel_rfl)
#print axioms proved_FnWants
end Go.Proofs.YtjgiobdpbbhekaaGreatDoor
