/- What is forgotten of drawn near entries is gone, all else stays: whatever is drawn. -/
import Derived.Test.YtjgiobdpbbhekaaGreatRows
import Derived.ProofKit
import Derived.OpenShut
import Derived.ShutString
import Derived.ChangeOld
import Derived.Test.YtjgiobdpbbhekaaGreatYJ
import Derived.Test.YtjgiobdpbbhekaaGreatYL
import Derived.Test.YtjgiobdpbbhekaaGreatYB
namespace Go.Proofs.YtjgiobdpbbhekaaGreat
open Go.ChangeShapes Go.WideShapes Go.ChangeAt Go.RowKit
open Go.ChangeMaps (open_string shut_string)
set_option linter.unusedVariables false

set_option maxRecDepth 100000 in
set_option maxHeartbeats 8000000 in
theorem walk_FnForgets (a : Option Addr) (len cap : Nat) (w : World) (hr : RowB w a len) :
    Calls Tryz.prog 3 #[.slice a len cap] w fun e w' => e = .returned (.bool true) ∧ Below w.heap.size w w' := by
  by_cases hbig : len ≤ 1048576
  rotate_left
  · have CB := hide1 (big4_yes a len cap w hbig)
    clear hr
    go_enter Tryz.func3, Tryz.ntmps3
    go_wp2_with fail
    refine CB.out.mono ?_
    rintro e w1 ⟨rfl, rfl⟩
    go_wp2
    go_ret
    exact ⟨rfl, Below.refl _ _⟩
  have CB := hide1 (big4_no a len cap w hbig)
  have CD := hide1 (drawRN_any w a len cap (hr.code hbig) hbig)
  clear hr
  go_enter Tryz.func3, Tryz.ntmps3
  go_wp2_with fail
  refine CB.out.mono ?_
  rintro e w1 ⟨rfl, rfl⟩
  go_wp2_with fail
  refine CD.out.mono ?_
  rintro e w1 ⟨A, N, k, vv, rfl, hN, hk, hvv, ho, hb⟩
  have HN := hide1 hN
  have HSM := hide1 hN.small
  have hks : k.size ≤ 12 := hk.2
  have F1 := hide1 (show Blk (w1.alloc (.cells #[.slice A.a N.sl.length A.ac, .int .i64 N.fr, .slice A.c N.ce.length A.cc, .slice A.o N.od.length A.oc, .int .i64 N.mv, .int .i64 N.wm, .slice A.w N.w.length A.wc, .int .i64 N.tm, .slice A.t N.t.length A.tc, .int .i64 N.sm, .slice A.s N.s.length A.sc, .slice A.k N.sk.length A.kc, .int .i64 N.ad, .int .i64 N.dr] 39)) w1.heap.size 39 (neC A N) ∧ OwnN (w1.alloc (.cells #[.slice A.a N.sl.length A.ac, .int .i64 N.fr, .slice A.c N.ce.length A.cc, .slice A.o N.od.length A.oc, .int .i64 N.mv, .int .i64 N.wm, .slice A.w N.w.length A.wc, .int .i64 N.tm, .slice A.t N.t.length A.tc, .int .i64 N.sm, .slice A.s N.s.length A.sc, .slice A.k N.sk.length A.kc, .int .i64 N.ad, .int .i64 N.dr] 39)) w.heap.size A N ∧ Below w.heap.size w (w1.alloc (.cells #[.slice A.a N.sl.length A.ac, .int .i64 N.fr, .slice A.c N.ce.length A.cc, .slice A.o N.od.length A.oc, .int .i64 N.mv, .int .i64 N.wm, .slice A.w N.w.length A.wc, .int .i64 N.tm, .slice A.t N.t.length A.tc, .int .i64 N.sm, .slice A.s N.s.length A.sc, .slice A.k N.sk.length A.kc, .int .i64 N.ad, .int .i64 N.dr] 39)) from ⟨Blk.new w1 39 _, ho.later ((Below.refl _ _).alloc (Nat.le_refl _) _), hb.alloc hb.size _⟩)
  clear hN hk hvv ho hb CB CD hbig
  unfold neV
  by_cases hin : k ∈ keysN N
  · have HIN := hide1 hin
    have HFR := hide1 (HN.out.frg hin)
    have CF := hide1 (forgetI HN.out F1.out.2.1 F1.out.2.2.size k hin)
    generalize frgN N k = K at *
    unfold neV at CF
    clear hin
    go_wp2_with fail
    refine CF.out.mono ?_
    rintro e w2 ⟨M, rfl, ho2, hb2⟩
    generalize (w1.alloc (.cells #[.slice A.a N.sl.length A.ac, .int .i64 N.fr, .slice A.c N.ce.length A.cc, .slice A.o N.od.length A.oc, .int .i64 N.mv, .int .i64 N.wm, .slice A.w N.w.length A.wc, .int .i64 N.tm, .slice A.t N.t.length A.tc, .int .i64 N.sm, .slice A.s N.s.length A.sc, .slice A.k N.sk.length A.kc, .int .i64 N.ad, .int .i64 N.dr] 39)) = w1' at F1 ho2 hb2 CF
    obtain ⟨Q, hQ⟩ : ∃ Q, w2.heap.size = Q := ⟨_, rfl⟩
    have bq : Below w2.heap.size w2 (w2.alloc (.cells #[.slice M.a K.sl.length M.ac, .int .i64 K.fr, .slice M.c K.ce.length M.cc, .slice M.o K.od.length M.oc, .int .i64 K.mv, .int .i64 K.wm, .slice M.w K.w.length M.wc, .int .i64 K.tm, .slice M.t K.t.length M.tc, .int .i64 K.sm, .slice M.s K.s.length M.sc, .slice M.k K.sk.length M.kc, .int .i64 K.ad, .int .i64 K.dr] 39)) := (Below.refl _ _).alloc (Nat.le_refl _) _
    have T2 := hide1 (show TwN w (w2.alloc (.cells #[.slice M.a K.sl.length M.ac, .int .i64 K.fr, .slice M.c K.ce.length M.cc, .slice M.o K.od.length M.oc, .int .i64 K.mv, .int .i64 K.wm, .slice M.w K.w.length M.wc, .int .i64 K.tm, .slice M.t K.t.length M.tc, .int .i64 K.sm, .slice M.s K.s.length M.sc, .slice M.k K.sk.length M.kc, .int .i64 K.ad, .int .i64 K.dr] 39)) w1.heap.size Q A M N K from ⟨(F1.out.1.below hb2 F1.out.1.lt).below bq (Nat.lt_of_lt_of_le F1.out.1.lt hb2.size), hQ ▸ Blk.new w2 39 _, (F1.out.2.1.later hb2).later bq, (ho2.base F1.out.2.2.size).later bq, (F1.out.2.2.trans (hb2.mono F1.out.2.2.size)).trans (bq.mono (Nat.le_trans F1.out.2.2.size hb2.size))⟩)
    clear bq ho2 hb2 CF
    go_upto_region 5 with fail
    (try rw [hQ])
    generalize (w2.alloc (.cells #[.slice M.a K.sl.length M.ac, .int .i64 K.fr, .slice M.c K.ce.length M.cc, .slice M.o K.od.length M.oc, .int .i64 K.mv, .int .i64 K.wm, .slice M.w K.w.length M.wc, .int .i64 K.tm, .slice M.t K.t.length M.tc, .int .i64 K.sm, .slice M.s K.s.length M.sc, .slice M.k K.sk.length M.kc, .int .i64 K.ad, .int .i64 K.dr] 39)) = w3 at T2 ⊢
    generalize w1.heap.size = P at T2 ⊢
    clear hQ F1
    obtain ⟨_, a0, a1, a2, a3, a4, a5, a6, a7, a8, a9, a10, a11, a12, a13⟩ := nbox T2.out.p
    obtain ⟨_, mm0, mm1, mm2, mm3, mm4, mm5, mm6, mm7, mm8, mm9, mm10, mm11, mm12, mm13⟩ := nbox T2.out.q
    have C5 := hide1 (fun w' (hA : RdN w' A N) z => lawVal8 hA HSM.out z)
    have C6 := hide1 (fun w' (hA : RdN w' M K) z => lawVal8 hA HFR.out.1.small z)
    unfold neV at C5 C6
    go_wp2_with fail
    refine (C5.out w3 T2.out.on.rd k).mono ?_
    rintro e w4 ⟨v4, t4, rfl, h4, hb4⟩
    obtain rfl : t4 = true := (h4.there HN.out).2 HIN.out
    have T4 := hide1 (T2.out.later hb4)
    clear h4 hb4 T2 a0 a1 a2 a3 a4 a5 a6 a7 a8 a9 a10 a11 a12 a13 mm0 mm1 mm2 mm3 mm4 mm5 mm6 mm7 mm8 mm9 mm10 mm11 mm12 mm13
    go_wp2_with fail
    refine (names8_any w4).mono ?_
    rintro e w5 ⟨rfl, hn5, hb5⟩
    have T5 := hide1 (T4.out.later hb5)
    have N5 := hide1 hn5
    clear hn5 hb5 T4
    generalize w4.heap.size = NB at *
    go_wp2
    go_loopw [11] (fun iv wr => ∃ i : Nat, i ≤ 12 ∧ iv = .int .i64 (i : Int) ∧ Hid (TwN w wr P Q A M N K) ∧ Hid (Nm8 wr NB)) (fun iv _ => 12 - (intOf iv).toNat)
    case atStart => exact ⟨0, by omega, rfl, T5, N5⟩
    case round =>
      obtain ⟨i, hi, rfl, hT, hNm⟩ := hrel
      by_cases hlt : i < 12
      · have k1 : (i : Int) < 12 := by omega
        have n0 := hNm.out.2 i hlt
        have HZ := hide1 (show nm8 i ≠ k → ∀ v, HasV N.sl (nm8 i) v ↔ HasV K.sl (nm8 i) v from fun hz v => ⟨fun h => (HFR.out.2.2.2 _ _).2 ⟨h, hz⟩, fun h => ((HFR.out.2.2.2 _ _).1 h).1⟩)
        obtain ⟨z, hzi⟩ : ∃ z, nm8 i = z := ⟨_, rfl⟩
        rw [hzi] at n0 HZ
        have hlt0 := hlt
        have HZI := hide1 hzi
        clear hzi
        obtain ⟨_, a0, a1, a2, a3, a4, a5, a6, a7, a8, a9, a10, a11, a12, a13⟩ := nbox hT.out.p
        obtain ⟨_, mm0, mm1, mm2, mm3, mm4, mm5, mm6, mm7, mm8, mm9, mm10, mm11, mm12, mm13⟩ := nbox hT.out.q
        have C5r := hide1 (fun w' (hb : Below wr.heap.size wr w') => C5.out w' ((hT.out.later hb).on.rd) z)
        go_wp2_with fail
        go_region_held3 (fun w' => w'.cell? ⟨P, 0, none⟩ = some (.slice A.a N.sl.length A.ac) ∧ w'.cell? ⟨P, 1, none⟩ = some (.int .i64 N.fr) ∧ w'.cell? ⟨P, 2, none⟩ = some (.slice A.c N.ce.length A.cc) ∧ w'.cell? ⟨P, 3, none⟩ = some (.slice A.o N.od.length A.oc) ∧ w'.cell? ⟨P, 4, none⟩ = some (.int .i64 N.mv) ∧ w'.cell? ⟨P, 5, none⟩ = some (.int .i64 N.wm) ∧ w'.cell? ⟨P, 6, none⟩ = some (.slice A.w N.w.length A.wc) ∧ w'.cell? ⟨P, 7, none⟩ = some (.int .i64 N.tm) ∧ w'.cell? ⟨P, 8, none⟩ = some (.slice A.t N.t.length A.tc) ∧ w'.cell? ⟨P, 9, none⟩ = some (.int .i64 N.sm) ∧ w'.cell? ⟨P, 10, none⟩ = some (.slice A.s N.s.length A.sc) ∧ w'.cell? ⟨P, 11, none⟩ = some (.slice A.k N.sk.length A.kc) ∧ w'.cell? ⟨P, 12, none⟩ = some (.int .i64 N.ad) ∧ w'.cell? ⟨P, 13, none⟩ = some (.int .i64 N.dr) ∧ w'.cell? ⟨NB, i, none⟩ = some (.string z)) (first | simp only [World.cell?_drew, a0, a1, a2, a3, a4, a5, a6, a7, a8, a9, a10, a11, a12, a13, n0, and_self] | simp only [a0, a1, a2, a3, a4, a5, a6, a7, a8, a9, a10, a11, a12, a13, n0, and_self]) ((first | (go_at_call 7; refine (C5r.out _ (show Below wr.heap.size wr _ by go_grown)).mono ?_; rintro e w7 ⟨v7, t7, rfl, h7, hb7⟩; have b7 : Hid (Below wr.heap.size wr w7) := (show Below wr.heap.size wr _ by go_grown).trans (hb7.mono (by go_size)); have H7 := hide1 h7; clear hb7 h7 n0 a0 a1 a2 a3 a4 a5 a6 a7 a8 a9 a10 a11 a12 a13 mm0 mm1 mm2 mm3 mm4 mm5 mm6 mm7 mm8 mm9 mm10 mm11 mm12 mm13; have T7 := hide1 (hT.out.later b7.out); have M7 := hide1 (hNm.out.later b7.out); have n0 := M7.out.2 i hlt0; rw [HZI.out] at n0; obtain ⟨_, a0, a1, a2, a3, a4, a5, a6, a7, a8, a9, a10, a11, a12, a13⟩ := nbox T7.out.p; obtain ⟨_, mm0, mm1, mm2, mm3, mm4, mm5, mm6, mm7, mm8, mm9, mm10, mm11, mm12, mm13⟩ := nbox T7.out.q)))
        have C6r := hide1 (fun w' (hb : Below w7.heap.size w7 w') => C6.out w' ((T7.out.later hb).om.rd) z)
        go_wp2_with fail
        go_region_held3 (fun w' => w'.cell? ⟨Q, 0, none⟩ = some (.slice M.a K.sl.length M.ac) ∧ w'.cell? ⟨Q, 1, none⟩ = some (.int .i64 K.fr) ∧ w'.cell? ⟨Q, 2, none⟩ = some (.slice M.c K.ce.length M.cc) ∧ w'.cell? ⟨Q, 3, none⟩ = some (.slice M.o K.od.length M.oc) ∧ w'.cell? ⟨Q, 4, none⟩ = some (.int .i64 K.mv) ∧ w'.cell? ⟨Q, 5, none⟩ = some (.int .i64 K.wm) ∧ w'.cell? ⟨Q, 6, none⟩ = some (.slice M.w K.w.length M.wc) ∧ w'.cell? ⟨Q, 7, none⟩ = some (.int .i64 K.tm) ∧ w'.cell? ⟨Q, 8, none⟩ = some (.slice M.t K.t.length M.tc) ∧ w'.cell? ⟨Q, 9, none⟩ = some (.int .i64 K.sm) ∧ w'.cell? ⟨Q, 10, none⟩ = some (.slice M.s K.s.length M.sc) ∧ w'.cell? ⟨Q, 11, none⟩ = some (.slice M.k K.sk.length M.kc) ∧ w'.cell? ⟨Q, 12, none⟩ = some (.int .i64 K.ad) ∧ w'.cell? ⟨Q, 13, none⟩ = some (.int .i64 K.dr) ∧ w'.cell? ⟨NB, i, none⟩ = some (.string z)) (first | simp only [World.cell?_drew, mm0, mm1, mm2, mm3, mm4, mm5, mm6, mm7, mm8, mm9, mm10, mm11, mm12, mm13, n0, and_self] | simp only [mm0, mm1, mm2, mm3, mm4, mm5, mm6, mm7, mm8, mm9, mm10, mm11, mm12, mm13, n0, and_self]) ((first | (go_at_call 7; refine (C6r.out _ (show Below w7.heap.size w7 _ by go_grown)).mono ?_; rintro e w8 ⟨v8, t8, rfl, h8, hb8⟩; have b8 : Hid (Below w7.heap.size w7 w8) := (show Below w7.heap.size w7 _ by go_grown).trans (hb8.mono (by go_size)); have H8 := hide1 h8; clear hb8 h8 n0 a0 a1 a2 a3 a4 a5 a6 a7 a8 a9 a10 a11 a12 a13 mm0 mm1 mm2 mm3 mm4 mm5 mm6 mm7 mm8 mm9 mm10 mm11 mm12 mm13; have T8 := hide1 (T7.out.later b8.out); have M8 := hide1 (M7.out.later b8.out); have n0 := M8.out.2 i hlt0; rw [HZI.out] at n0; obtain ⟨_, a0, a1, a2, a3, a4, a5, a6, a7, a8, a9, a10, a11, a12, a13⟩ := nbox T8.out.p; obtain ⟨_, mm0, mm1, mm2, mm3, mm4, mm5, mm6, mm7, mm8, mm9, mm10, mm11, mm12, mm13⟩ := nbox T8.out.q)))
        clear a0 a1 a2 a3 a4 a5 a6 a7 a8 a9 a10 a11 a12 a13 mm0 mm1 mm2 mm3 mm4 mm5 mm6 mm7 mm8 mm9 mm10 mm11 mm12 mm13
        by_cases hz : z = k
        · have qz : (z.toList == k.toList) = true := by rw [hz]; simp
          clear hz
          go_wp2
          go_roundw
          case rel => exact ⟨i + 1, by omega, by go_num, T8, M8⟩
          case measure => simp [intOf]; omega
        · have qz : (z.toList == k.toList) = false := by rw [beq_eq_false_iff_ne]; exact fun e => hz (textEq e)
          obtain ⟨rfl, rfl⟩ := ValA.same HFR.out.1 (HZ.out hz) H7.out H8.out
          have qv : (v7.toList == v7.toList) = true := by simp
          clear hz
          cases t7 with
          | false =>
            go_wp2
            go_roundw
            case rel => exact ⟨i + 1, by omega, by go_num, T8, M8⟩
            case measure => simp [intOf]; omega
          | true =>
            go_wp2
            go_roundw
            case rel => exact ⟨i + 1, by omega, by go_num, T8, M8⟩
            case measure => simp [intOf]; omega
      · obtain rfl : i = 12 := by omega
        have T9 := hide1 hT.out
        clear hT hNm
        obtain ⟨_, a0, a1, a2, a3, a4, a5, a6, a7, a8, a9, a10, a11, a12, a13⟩ := nbox T9.out.p
        obtain ⟨_, mm0, mm1, mm2, mm3, mm4, mm5, mm6, mm7, mm8, mm9, mm10, mm11, mm12, mm13⟩ := nbox T9.out.q
        have HSZ := hide1 HFR.out.2.1
        go_wp2_with fail
        refine (C6.out wr T9.out.om.rd k).mono ?_
        rintro e w10 ⟨v10, t10, rfl, h10, hb10⟩
        obtain rfl : t10 = false := by
          cases t10 with
          | false => rfl
          | true => exact absurd rfl (((HFR.out.2.2.1 k).1 ((h10.there HFR.out.1).1 rfl)).2)
        have T10 := hide1 (T9.out.later hb10)
        clear h10 hb10 T9 a0 a1 a2 a3 a4 a5 a6 a7 a8 a9 a10 a11 a12 a13 mm0 mm1 mm2 mm3 mm4 mm5 mm6 mm7 mm8 mm9 mm10 mm11 mm12 mm13
        obtain ⟨_, a0, a1, a2, a3, a4, a5, a6, a7, a8, a9, a10, a11, a12, a13⟩ := nbox T10.out.p
        obtain ⟨_, mm0, mm1, mm2, mm3, mm4, mm5, mm6, mm7, mm8, mm9, mm10, mm11, mm12, mm13⟩ := nbox T10.out.q
        have C7 := hide1 (fun w' (hb : Below w10.heap.size w10 w') => nearOkI HFR.out.1 (T10.out.later hb).om.rd T10.out.om.caps)
        have C8 := hide1 (fun w' (hb : Below w10.heap.size w10 w') => sizeI HFR.out.1 (T10.out.later hb).om.rd T10.out.om.caps)
        have C9 := hide1 (fun w' (hb : Below w10.heap.size w10 w') => sizeI HN.out (T10.out.later hb).on.rd T10.out.on.caps)
        unfold neV at C7 C8 C9
        obtain ⟨sn, hsn⟩ : ∃ sn, (keysN K).length = sn := ⟨_, rfl⟩
        have hsl : (keysN N).length = sn + 1 := by rw [← hsn]; exact HSZ.out.symm
        rw [hsn] at C8
        rw [hsl] at C9
        have hs24 : sn + 1 ≤ 72 := by have := HN.out.qw.small; have := HN.out.qt.small; have := HN.out.qs.small; rw [← hsl]; simp only [keysN, List.length_append]; omega
        clear hsn hsl HSZ
        have wq : IntKind.i64.wrap (((sn + 1 : Nat) : Int) - 1) = (sn : Int) := by rw [IntWalk.i64_in _ ⟨by omega, by omega⟩]; omega
        have wsn : IntKind.i64.wrap (sn : Int) = (sn : Int) := IntWalk.i64_in _ ⟨by omega, by omega⟩
        have qq : ((sn : Int) == (sn : Int)) = true := by simp
        go_wp2_with fail
        go_region_held3 (fun w' => w'.cell? ⟨Q, 0, none⟩ = some (.slice M.a K.sl.length M.ac) ∧ w'.cell? ⟨Q, 1, none⟩ = some (.int .i64 K.fr) ∧ w'.cell? ⟨Q, 2, none⟩ = some (.slice M.c K.ce.length M.cc) ∧ w'.cell? ⟨Q, 3, none⟩ = some (.slice M.o K.od.length M.oc) ∧ w'.cell? ⟨Q, 4, none⟩ = some (.int .i64 K.mv) ∧ w'.cell? ⟨Q, 5, none⟩ = some (.int .i64 K.wm) ∧ w'.cell? ⟨Q, 6, none⟩ = some (.slice M.w K.w.length M.wc) ∧ w'.cell? ⟨Q, 7, none⟩ = some (.int .i64 K.tm) ∧ w'.cell? ⟨Q, 8, none⟩ = some (.slice M.t K.t.length M.tc) ∧ w'.cell? ⟨Q, 9, none⟩ = some (.int .i64 K.sm) ∧ w'.cell? ⟨Q, 10, none⟩ = some (.slice M.s K.s.length M.sc) ∧ w'.cell? ⟨Q, 11, none⟩ = some (.slice M.k K.sk.length M.kc) ∧ w'.cell? ⟨Q, 12, none⟩ = some (.int .i64 K.ad) ∧ w'.cell? ⟨Q, 13, none⟩ = some (.int .i64 K.dr) ∧ w'.cell? ⟨P, 0, none⟩ = some (.slice A.a N.sl.length A.ac) ∧ w'.cell? ⟨P, 1, none⟩ = some (.int .i64 N.fr) ∧ w'.cell? ⟨P, 2, none⟩ = some (.slice A.c N.ce.length A.cc) ∧ w'.cell? ⟨P, 3, none⟩ = some (.slice A.o N.od.length A.oc) ∧ w'.cell? ⟨P, 4, none⟩ = some (.int .i64 N.mv) ∧ w'.cell? ⟨P, 5, none⟩ = some (.int .i64 N.wm) ∧ w'.cell? ⟨P, 6, none⟩ = some (.slice A.w N.w.length A.wc) ∧ w'.cell? ⟨P, 7, none⟩ = some (.int .i64 N.tm) ∧ w'.cell? ⟨P, 8, none⟩ = some (.slice A.t N.t.length A.tc) ∧ w'.cell? ⟨P, 9, none⟩ = some (.int .i64 N.sm) ∧ w'.cell? ⟨P, 10, none⟩ = some (.slice A.s N.s.length A.sc) ∧ w'.cell? ⟨P, 11, none⟩ = some (.slice A.k N.sk.length A.kc) ∧ w'.cell? ⟨P, 12, none⟩ = some (.int .i64 N.ad) ∧ w'.cell? ⟨P, 13, none⟩ = some (.int .i64 N.dr)) (first | simp only [World.cell?_drew, mm0, mm1, mm2, mm3, mm4, mm5, mm6, mm7, mm8, mm9, mm10, mm11, mm12, mm13, a0, a1, a2, a3, a4, a5, a6, a7, a8, a9, a10, a11, a12, a13, and_self] | simp only [mm0, mm1, mm2, mm3, mm4, mm5, mm6, mm7, mm8, mm9, mm10, mm11, mm12, mm13, a0, a1, a2, a3, a4, a5, a6, a7, a8, a9, a10, a11, a12, a13, and_self]) ((first | (go_at_call 9; refine (C7.out _ (show Below w10.heap.size w10 _ by go_grown)).mono ?_; rintro e w11 ⟨rfl, hb11⟩; have b11 : Hid (Below w10.heap.size w10 w11) := (show Below w10.heap.size w10 _ by go_grown).trans (hb11.mono (by go_size)); clear hb11 a0 a1 a2 a3 a4 a5 a6 a7 a8 a9 a10 a11 a12 a13 mm0 mm1 mm2 mm3 mm4 mm5 mm6 mm7 mm8 mm9 mm10 mm11 mm12 mm13; have T11 := hide1 (T10.out.later b11.out); obtain ⟨_, a0, a1, a2, a3, a4, a5, a6, a7, a8, a9, a10, a11, a12, a13⟩ := nbox T11.out.p; obtain ⟨_, mm0, mm1, mm2, mm3, mm4, mm5, mm6, mm7, mm8, mm9, mm10, mm11, mm12, mm13⟩ := nbox T11.out.q) | (go_at_call 10; first | ((with_reducible refine (C9.out _ (b12t.out.trans (show Below w10.heap.size w12 _ by go_grown))).mono ?_); rintro e w13 ⟨rfl, hb13⟩; have b13 : Hid (Below w12.heap.size w12 w13) := (show Below w12.heap.size w12 _ by go_grown).trans (hb13.mono (by go_size)); clear hb13 a0 a1 a2 a3 a4 a5 a6 a7 a8 a9 a10 a11 a12 a13 mm0 mm1 mm2 mm3 mm4 mm5 mm6 mm7 mm8 mm9 mm10 mm11 mm12 mm13; have T13 := hide1 (T12.out.later b13.out); obtain ⟨_, a0, a1, a2, a3, a4, a5, a6, a7, a8, a9, a10, a11, a12, a13⟩ := nbox T13.out.p; obtain ⟨_, mm0, mm1, mm2, mm3, mm4, mm5, mm6, mm7, mm8, mm9, mm10, mm11, mm12, mm13⟩ := nbox T13.out.q) | ((with_reducible refine (C8.out _ (b11.out.trans (show Below w10.heap.size w11 _ by go_grown))).mono ?_); rintro e w12 ⟨rfl, hb12⟩; have b12 : Hid (Below w11.heap.size w11 w12) := (show Below w11.heap.size w11 _ by go_grown).trans (hb12.mono (by go_size)); clear hb12 a0 a1 a2 a3 a4 a5 a6 a7 a8 a9 a10 a11 a12 a13 mm0 mm1 mm2 mm3 mm4 mm5 mm6 mm7 mm8 mm9 mm10 mm11 mm12 mm13; have T12 := hide1 (T11.out.later b12.out); have b12t : Hid (Below w10.heap.size w10 w12) := b11.out.trans (b12.out.mono b11.out.size); obtain ⟨_, a0, a1, a2, a3, a4, a5, a6, a7, a8, a9, a10, a11, a12, a13⟩ := nbox T12.out.p; obtain ⟨_, mm0, mm1, mm2, mm3, mm4, mm5, mm6, mm7, mm8, mm9, mm10, mm11, mm12, mm13⟩ := nbox T12.out.q))))
        all_goals
          go_wp2
          go_ret
          exact ⟨rfl, T13.out.bel⟩
  · have CF := hide1 (forgetNoI HN.out F1.out.2.1 F1.out.2.2.size k (by omega) hin)
    have HNI := hide1 hin
    unfold neV at CF
    clear hin
    go_wp2_with fail
    refine CF.out.mono ?_
    rintro e w2 ⟨rfl, hb2⟩
    generalize (w1.alloc (.cells #[.slice A.a N.sl.length A.ac, .int .i64 N.fr, .slice A.c N.ce.length A.cc, .slice A.o N.od.length A.oc, .int .i64 N.mv, .int .i64 N.wm, .slice A.w N.w.length A.wc, .int .i64 N.tm, .slice A.t N.t.length A.tc, .int .i64 N.sm, .slice A.s N.s.length A.sc, .slice A.k N.sk.length A.kc, .int .i64 N.ad, .int .i64 N.dr] 39)) = w1' at F1 hb2 CF
    have bq : Below w2.heap.size w2 (w2.alloc (.cells #[.slice none 0 0, .int .i64 0, .slice none 0 0, .slice none 0 0, .int .i64 0, .int .i64 0, .slice none 0 0, .int .i64 0, .slice none 0 0, .int .i64 0, .slice none 0 0, .slice none 0 0, .int .i64 0, .int .i64 0] 39)) := (Below.refl _ _).alloc (Nat.le_refl _) _
    have T2 := hide1 (show Blk (w2.alloc (.cells #[.slice none 0 0, .int .i64 0, .slice none 0 0, .slice none 0 0, .int .i64 0, .int .i64 0, .slice none 0 0, .int .i64 0, .slice none 0 0, .int .i64 0, .slice none 0 0, .slice none 0 0, .int .i64 0, .int .i64 0] 39)) w1.heap.size 39 (neC A N) ∧ Blk (w2.alloc (.cells #[.slice none 0 0, .int .i64 0, .slice none 0 0, .slice none 0 0, .int .i64 0, .int .i64 0, .slice none 0 0, .int .i64 0, .slice none 0 0, .int .i64 0, .slice none 0 0, .slice none 0 0, .int .i64 0, .int .i64 0] 39)) w2.heap.size 39 [.slice none 0 0, .int .i64 0, .slice none 0 0, .slice none 0 0, .int .i64 0, .int .i64 0, .slice none 0 0, .int .i64 0, .slice none 0 0, .int .i64 0, .slice none 0 0, .slice none 0 0, .int .i64 0, .int .i64 0] ∧ OwnN (w2.alloc (.cells #[.slice none 0 0, .int .i64 0, .slice none 0 0, .slice none 0 0, .int .i64 0, .int .i64 0, .slice none 0 0, .int .i64 0, .slice none 0 0, .int .i64 0, .slice none 0 0, .slice none 0 0, .int .i64 0, .int .i64 0] 39)) w.heap.size A N ∧ Below w.heap.size w (w2.alloc (.cells #[.slice none 0 0, .int .i64 0, .slice none 0 0, .slice none 0 0, .int .i64 0, .int .i64 0, .slice none 0 0, .int .i64 0, .slice none 0 0, .int .i64 0, .slice none 0 0, .slice none 0 0, .int .i64 0, .int .i64 0] 39)) from ⟨(F1.out.1.below hb2 F1.out.1.lt).below bq (Nat.lt_of_lt_of_le F1.out.1.lt hb2.size), Blk.new w2 39 _, (F1.out.2.1.later hb2).later bq, (F1.out.2.2.trans (hb2.mono F1.out.2.2.size)).trans (bq.mono (Nat.le_trans F1.out.2.2.size hb2.size))⟩)
    clear bq hb2 CF
    go_upto_region 5 with fail
    generalize (w2.alloc (.cells #[.slice none 0 0, .int .i64 0, .slice none 0 0, .slice none 0 0, .int .i64 0, .int .i64 0, .slice none 0 0, .int .i64 0, .slice none 0 0, .int .i64 0, .slice none 0 0, .slice none 0 0, .int .i64 0, .int .i64 0] 39)) = w3 at T2 ⊢
    generalize w1.heap.size = P at T2 ⊢
    generalize w2.heap.size = Q at T2 ⊢
    clear F1
    obtain ⟨_, a0, a1, a2, a3, a4, a5, a6, a7, a8, a9, a10, a11, a12, a13⟩ := nbox T2.out.1
    have C5 := hide1 (fun w' (hA : RdN w' A N) z => lawVal8 hA HSM.out z)
    unfold neV at C5
    go_wp2_with fail
    refine (C5.out w3 T2.out.2.2.1.rd k).mono ?_
    rintro e w4 ⟨v4, t4, rfl, h4, hb4⟩
    obtain rfl : t4 = false := by
      cases t4 with
      | false => rfl
      | true => exact absurd ((h4.there HN.out).1 rfl) HNI.out
    have q4 : w4.cell? ⟨Q, 0, none⟩ = some (.slice none 0 0) := (T2.out.2.1.below hb4 T2.out.2.1.lt).cell 0
    have B4 := hide1 (T2.out.2.2.2.trans (hb4.mono T2.out.2.2.2.size))
    clear h4 hb4 T2 a0 a1 a2 a3 a4 a5 a6 a7 a8 a9 a10 a11 a12 a13
    go_wp2
    go_ret
    exact ⟨rfl, B4.out⟩

set_option maxRecDepth 100000 in
theorem lifted_FnForgets (os : Os) (started : os.Started) (H : Type) (enc : TypeId × Value → H) :
    ReturnsInHanded {} Tryz.checked os 3 .any (Rows.fnForgetsSpec.pre6 enc Tryz.prog Tryz.f3 Rows.fnForgetsRow.domain false) (Rows.fnForgetsSpec.post enc Tryz.prog Tryz.f3 false true false false) := by
  refine returnsInHanded_of_change (C := Tryz.checked) (show ownKnob Tryz.prog.godebug = none by kernel_rfl) started (by kernel_rfl) Tryz.func3
    (ChangeSpec.witness6 (enc := enc) (C := Tryz.checked) false ⟨#[], #[.slice none 0 0], []⟩ 8 (by kernel_rfl) (by kernel_rfl) (by kernel_rfl) (by kernel_rfl)) ?_
  intro W base args ds gs before hval0 hW hcnd _
  have hval : ∀ (j : Nat) t v, Tryz.f3.params[j]? = some t → args[j]? = some v → Value.okWide Tryz.prog W .any base t v := hval0
  have hW' := hW
  obtain ⟨p, q, hA0, hV, rfl, hfz, hnd⟩ := hW
  have hA : DataW.TrodAll enc Tryz.prog W 0 (fun _ => true) true Tryz.f3.params.toList args.toList ds p := hA0
  rw [Tryz.params3] at hA hval
  obtain ⟨v0, d0, rfl, rfl, h0⟩ := trodAll_one hA
  obtain ⟨rfl, rfl⟩ := trodVars_none hV
  obtain ⟨a0, len0, cap0, rfl⟩ := okWide_slice Tryz.underlying22 (hval 0 22 v0 rfl rfl)
  have k0 := h0
  have lt0 : ∀ x ∈ p, x.block < W.heap.size := by obtain ⟨m, hm⟩ := k0; exact DataW.trod_lt m _ _ _ hm
  have r0 : RowB W a0 len0 := by
    obtain ⟨fuel, hf⟩ := h0
    rcases Go.ChangeShapes.open_ints Tryz.underlying22 Tryz.underlying5 (by kernel_rfl) hf with ⟨hcs, _⟩ | ⟨x, l, c, zs, hcs, _, hl, hm, hz, _, hcell, hwz⟩
    · simp [Value.cells] at hcs
      obtain ⟨rfl, rfl, rfl⟩ := hcs
      exact fun j hj => absurd hj (Nat.not_lt_zero _)
    · simp [Value.cells] at hcs
      obtain ⟨rfl, rfl, rfl⟩ := hcs
      exact rowB_of hl (by simpa using hz) hcell (fun n hn => bounds_u8 (hwz n hn))
  clear hA0 hval0
  refine (walk_FnForgets a0 len0 cap0 W r0).mono fun e W' ⟨he, bel⟩ => ?_
  subst he
  exact ⟨_, rfl, _, _, _, [], _, [], hW', trodAll_mk1 (shut_bool Tryz.underlying4 _), trodAll_mk1 (Below.trod (show laidOutB Tryz.prog = true by kernel_rfl) (by kernel_rfl) (of_decide_eq_true (by kernel_rfl)) k0 bel lt0), rfl, bel.frame _, fun h => by cases h⟩

theorem proved_FnForgets : Rows.FnForgetsSaid :=
  OpenClaim.holds_of_wide 3 Tryz.f3 rfl rfl rfl rfl rfl rfl rfl ⟨rfl, rfl, rfl, rfl, rfl⟩ rfl rfl rfl rfl rfl (by kernel_rfl) Tryz.func3 (by kernel_rfl)
    (of_decide_eq_true (by kernel_rfl)) (by unfold Func.isWrapper; first | (rw [if_pos (by decide +kernel)]; kernel_rfl) | (rw [if_neg (by decide +kernel)]; exact ⟨rfl, rfl⟩))
    (fun os started H enc _ => lifted_FnForgets os started H enc)
#print axioms proved_FnForgets
end Go.Proofs.YtjgiobdpbbhekaaGreat
