/- What is put into a drawn table is found there; all else is as it was; taken, it is gone: whatever is drawn. -/
import Derived.Test.YthpnakpcbfdfeaaRows
import Derived.ProofKit
import Derived.OpenShut
import Derived.ShutString
import Derived.ChangeOld
import Derived.Test.YthpnakpcbfdfeaaLawP
namespace Go.Proofs.Ythpnakpcbfdfeaa
open Go.ChangeShapes Go.WideShapes Go.ChangeAt Go.RowKit
open Go.ChangeMaps (open_string shut_string)
set_option linter.unusedVariables false

/-- What is known behind a put and a take. -/
theorem puts_plain {l o L O V U : List Ce} {m M K : Int} {ky : ByteArray} (h : OkN l o m) (hk : InK ky) (e : putR l o m ky 77 = some (L, O, M)) (e2 : takeR L O M ky = some (V, U, K)) :
    OkN L O M ∧ OkN V U K ∧ seekT L O ky = some 77 ∧ seekT V U ky = none ∧ ∀ z, z.toList ≠ [] → z ≠ ky → seekT L O z = seekT l o z ∧ seekT V U z = seekT l o z := by
  have hn := key_ne hk.size.1
  have h1 := h.put hn hk.size.2 (by omega) e
  have h2 := h1.take hn e2
  obtain ⟨p1, p2⟩ := ent_put h hn hk.size.2 (by omega) e
  obtain ⟨t1, t2⟩ := ent_take h1 hn e2
  refine ⟨h1, h2, (seekT_iff h1 hn 77).2 p1, seekT_none h2 hn t1, fun z hz hne => ?_⟩
  have s1 := seekT_same h h1 hz (p2 z hz hne)
  exact ⟨s1, (seekT_same h1 h2 hz (t2 z hz hne)).trans s1⟩

set_option maxRecDepth 100000 in
set_option maxHeartbeats 8000000 in
theorem walk_FnPuts (a : Option Addr) (len cap : Nat) (w : World) (hr : RowB w a len) :
    Calls Try.prog 4 #[.slice a len cap] w fun e w' => e = .returned (.bool true) ∧ Below w.heap.size w w' := by
  by_cases hbig : len ≤ 1048576
  · have CB := hide1 (big4_no a len cap w hbig)
    have CD := hide1 (drawRT_any w a len cap (hr.code hbig))
    unfold tbV at CD
    clear hr
    go_enter Try.func4, Try.ntmps4
    go_wp2_with fail
    refine CB.out.mono ?_
    rintro e w1 ⟨rfl, rfl⟩
    go_wp2_with fail
    refine CD.out.mono ?_
    rintro e w1 ⟨l, o, m0, ao, ca, a', ca', ky, rfl, hok, hkin, hky, ho1, ho2, hb1⟩
    obtain ⟨m, hm⟩ : ∃ m : Int, (m0 : Int) = m := ⟨_, rfl⟩
    rw [hm] at hok ⊢
    clear hm
    have F1 : Hid (OneT2 (w1.alloc (.cells #[.slice ao l.length ca, .slice a' o.length ca', .int .i64 m] 29)) w1.heap.size ao l ca a' o ca' m ∧ Below w.heap.size w (w1.alloc (.cells #[.slice ao l.length ca, .slice a' o.length ca', .int .i64 m] 29))) := ⟨OneT2.box hok ho1 ho2, hb1.alloc hb1.size _⟩
    have HOK := hide1 hok
    have HKY := hide1 hky
    have hksz := hky.size.2
    clear hok hkin ho1 ho2 hb1 CB CD hky
    go_upto_region 4 with fail
    generalize (w1.alloc (.cells #[.slice ao l.length ca, .slice a' o.length ca', .int .i64 m] 29)) = w2 at F1 ⊢
    generalize w1.heap.size = A at F1 ⊢
    have K2 := hide1 F1.out.1
    have B2 := hide1 F1.out.2
    clear F1
    obtain ⟨hA2, v0, v1, v2⟩ := K2.out.cells
    have hsm := K2.out.small
    have hl6 := hsm.1
    have ho6 := hsm.2
    have CP := hide1 (implPut_any ao a' l o ca ca' m ky 77 w2 (by omega) (by omega) (by omega) K2.out.rd.toJ K2.out.rd'.toJ)
    unfold tbV at CP
    clear hsm
    go_wp2_with fail
    refine CP.out.mono ?_
    rintro e w3 ⟨po, L, cp, po', O, cp', M, t, rfl, hN, hu1, hu2, _, hb3⟩
    have HN := hide1 hN
    have F4 : Hid (OneT2 (w3.alloc (.cells #[.slice po L.length cp, .slice po' O.length cp', .int .i64 M] 29)) A ao l ca a' o ca' m ∧ Blk (w3.alloc (.cells #[.slice po L.length cp, .slice po' O.length cp', .int .i64 M] 29)) w3.heap.size 29 [.slice po L.length cp, .slice po' O.length cp', .int .i64 M] ∧ RdC (w3.alloc (.cells #[.slice po L.length cp, .slice po' O.length cp', .int .i64 M] 29)) po L ∧ RdC (w3.alloc (.cells #[.slice po L.length cp, .slice po' O.length cp', .int .i64 M] 29)) po' O ∧ Below w.heap.size w (w3.alloc (.cells #[.slice po L.length cp, .slice po' O.length cp', .int .i64 M] 29))) :=
      ⟨(K2.out.later hb3).later ((Below.refl _ _).alloc (Nat.le_refl _) _), Blk.new w3 _ _, rdC_of_own (hu1.alloc _), rdC_of_own (hu2.alloc _), (B2.out.trans (hb3.mono B2.out.size)).alloc (Nat.le_trans B2.out.size hb3.size) _⟩
    clear hN hu1 hu2 hb3 CP v0 v1 v2 hA2 K2 B2
    unfold tbV
    go_upto_region 5 with fail
    generalize (w3.alloc (.cells #[.slice po L.length cp, .slice po' O.length cp', .int .i64 M] 29)) = w4 at F4 ⊢
    generalize w3.heap.size = U at F4 ⊢
    have K4 := hide1 F4.out.1
    have B4 := hide1 F4.out.2.2.2.2
    have X4 := hide1 (And.intro F4.out.2.1 (And.intro F4.out.2.2.1 F4.out.2.2.2.1))
    clear F4
    obtain ⟨hA4, v0, v1, v2⟩ := K4.out.cells
    have CP := hide1 (specPutKey_any ao a' l o ca ca' m ky 77 w4 (by omega) (by omega) (by omega) K4.out.rd K4.out.rd')
    unfold tbV at CP
    go_wp2_with fail
    refine CP.out.mono ?_
    rintro e w5 ⟨qo, L2, cq, qo', O2, cq', M2, t2, rfl, hN2, _, _, _, hb5⟩
    obtain ⟨rfl, rfl, rfl, rfl⟩ := hN2.det HN.out
    have F6 : Hid (OneT2 (w5.alloc (.cells #[.slice qo L2.length cq, .slice qo' O2.length cq', .int .i64 M2] 29)) A ao l ca a' o ca' m ∧ Blk (w5.alloc (.cells #[.slice qo L2.length cq, .slice qo' O2.length cq', .int .i64 M2] 29)) U 29 [.slice po L2.length cp, .slice po' O2.length cp', .int .i64 M2] ∧ RdC (w5.alloc (.cells #[.slice qo L2.length cq, .slice qo' O2.length cq', .int .i64 M2] 29)) po L2 ∧ RdC (w5.alloc (.cells #[.slice qo L2.length cq, .slice qo' O2.length cq', .int .i64 M2] 29)) po' O2 ∧ Below w.heap.size w (w5.alloc (.cells #[.slice qo L2.length cq, .slice qo' O2.length cq', .int .i64 M2] 29))) := by
      have bb := hb5.alloc (Nat.le_trans (Nat.le_refl _) hb5.size) (.cells #[.slice qo L2.length cq, .slice qo' O2.length cq', .int .i64 M2] 29)
      exact ⟨K4.out.later bb, X4.out.1.below bb X4.out.1.lt, X4.out.2.1.later bb, X4.out.2.2.later bb, B4.out.trans (bb.mono B4.out.size)⟩
    clear hN2 hb5 CP v0 v1 v2 hA4 K4 B4 X4
    have qt : (t2 != t2) = false := by simp
    unfold tbV
    go_upto_region 6 with fail
    generalize (w5.alloc (.cells #[.slice qo L2.length cq, .slice qo' O2.length cq', .int .i64 M2] 29)) = w6 at F6 ⊢
    have K6 := hide1 F6.out.1
    have B6 := hide1 F6.out.2.2.2.2
    have X6 := hide1 (And.intro F6.out.2.1 (And.intro F6.out.2.2.1 F6.out.2.2.2.1))
    clear F6
    obtain ⟨hA6, v0, v1, v2⟩ := K6.out.cells
    have CO := hide1 (tokI K6.out (Below.refl _ _))
    go_wp2_with fail
    refine CO.out.mono ?_
    rintro e w7 ⟨rfl, hb7⟩
    have K7 := hide1 (K6.out.later hb7)
    have B7 := hide1 (B6.out.trans (hb7.mono B6.out.size))
    have X7 := hide1 (And.intro (X6.out.1.below hb7 X6.out.1.lt) (And.intro (X6.out.2.1.later hb7) (X6.out.2.2.later hb7)))
    clear hb7 CO v0 v1 v2 hA6 K6 B6 X6
    rcases HN.out with ⟨hpo, hpr, ht⟩ | ⟨_, hL0, hO0, hM0, ht⟩
    · subst ht
      have HPR := hide1 hpr
      have hok2 := HOK.out.put (key_ne HKY.out.size.1) HKY.out.size.2 (by omega) hpr
      have KU := hide1 (OneT2.mk hok2 X7.out.1 X7.out.2.1 X7.out.2.2)
      have HS : Hid (seekT L2 O2 ky = some 77) := hide1 ((seekT_iff hok2 (key_ne HKY.out.size.1) 77).2 (ent_put HOK.out (key_ne HKY.out.size.1) HKY.out.size.2 (by omega) hpr).1)
      have hne := key_ne HKY.out.size.1
      have HNE := hide1 hne
      clear hpo hpr hok2 X7 HN hne
      obtain ⟨hU7, u0, u1, u2⟩ := KU.out.cells
      have C1 := hide1 (seekI KU.out ky HNE.out hksz (Below.refl _ _))
      rw [HS.out] at C1
      have e77 : skI (some 77) = 77 := rfl
      have eT : skB (some 77) = true := rfl
      rw [e77, eT] at C1
      clear e77 eT
      go_wp2_with fail
      refine C1.out.mono ?_
      rintro e w8 ⟨rfl, hb8⟩
      have K8 := hide1 (K7.out.later hb8)
      have U8 := hide1 (KU.out.later hb8)
      have B8 := hide1 (B7.out.trans (hb8.mono B7.out.size))
      clear hb8 C1 u0 u1 u2 hU7 KU K7 B7
      obtain ⟨hU8, u0, u1, u2⟩ := U8.out.cells
      have hL2 := U8.out.small
      have C2 := hide1 (implTake_any po po' L2 O2 cp cp' M2 ky w8 (by omega) (by omega) (by omega) U8.out.rd.toJ U8.out.rd'.toJ)
      unfold tbV at C2
      go_wp2_with fail
      refine C2.out.mono ?_
      rintro e w9 ⟨ro, V, cr, ro', Vo, cr', Vm, tv, rfl, hNv, hv1, hv2, _, hb9⟩
      obtain ⟨R, hR⟩ := take_some (mv := M2) HS.out
      rcases hNv with ⟨_, hpr2, htv⟩ | ⟨hno, _⟩
      · subst htv
        have PL := hide1 (puts_plain HOK.out HKY.out HPR.out hpr2)
        have F10 : Hid (OneT2 (w9.alloc (.cells #[.slice ro V.length cr, .slice ro' Vo.length cr', .int .i64 Vm] 29)) w9.heap.size ro V cr ro' Vo cr' Vm ∧ OneT2 (w9.alloc (.cells #[.slice ro V.length cr, .slice ro' Vo.length cr', .int .i64 Vm] 29)) U po L2 cp po' O2 cp' M2 ∧ OneT2 (w9.alloc (.cells #[.slice ro V.length cr, .slice ro' Vo.length cr', .int .i64 Vm] 29)) A ao l ca a' o ca' m ∧ Below w.heap.size w (w9.alloc (.cells #[.slice ro V.length cr, .slice ro' Vo.length cr', .int .i64 Vm] 29))) := by
          have bb := hb9.alloc (Nat.le_trans (Nat.le_refl _) hb9.size) (.cells #[.slice ro V.length cr, .slice ro' Vo.length cr', .int .i64 Vm] 29)
          exact ⟨OneT2.box PL.out.2.1 hv1 hv2, U8.out.later bb, K8.out.later bb, B8.out.trans (bb.mono B8.out.size)⟩
        clear hpr2 hv1 hv2 hb9 C2 u0 u1 u2 hU8 U8 K8 B8 hL2 hR HPR
        unfold tbV
        go_upto_region 12 with fail
        generalize (w9.alloc (.cells #[.slice ro V.length cr, .slice ro' Vo.length cr', .int .i64 Vm] 29)) = w10 at F10 ⊢
        generalize w9.heap.size = Q at F10 ⊢
        have Q10 := hide1 F10.out.1
        have U10 := hide1 F10.out.2.1
        have K10 := hide1 F10.out.2.2.1
        have B10 := hide1 F10.out.2.2.2
        clear F10
        obtain ⟨hQ, q0, q1, q2⟩ := Q10.out.cells
        have C3 := hide1 (seekI Q10.out ky HNE.out hksz (Below.refl _ _))
        rw [PL.out.2.2.2.1] at C3
        have e0 : skI none = 0 := rfl
        have eF : skB none = false := rfl
        rw [e0, eF] at C3
        clear e0 eF
        go_wp2_with fail
        refine C3.out.mono ?_
        rintro e w11 ⟨rfl, hb11⟩
        have Q11 := hide1 (Q10.out.later hb11)
        have U11 := hide1 (U10.out.later hb11)
        have K11 := hide1 (K10.out.later hb11)
        have B11 := hide1 (B10.out.trans (hb11.mono B10.out.size))
        clear hb11 C3 q0 q1 q2 hQ Q10 U10 K10 B10
        obtain ⟨hU, u0, u1, u2⟩ := U11.out.cells
        have C4 := hide1 (tokI U11.out (Below.refl _ _))
        go_wp2_with fail
        refine C4.out.mono ?_
        rintro e w12 ⟨rfl, hb12⟩
        have Q12 := hide1 (Q11.out.later hb12)
        have U12 := hide1 (U11.out.later hb12)
        have K12 := hide1 (K11.out.later hb12)
        have B12 := hide1 (B11.out.trans (hb12.mono B11.out.size))
        clear hb12 C4 u0 u1 u2 hU Q11 U11 K11 B11
        obtain ⟨hQ, q0, q1, q2⟩ := Q12.out.cells
        have C5 := hide1 (tokI Q12.out (Below.refl _ _))
        go_wp2_with fail
        refine C5.out.mono ?_
        rintro e w13 ⟨rfl, hb13⟩
        have Q13 := hide1 (Q12.out.later hb13)
        have U13 := hide1 (U12.out.later hb13)
        have K13 := hide1 (K12.out.later hb13)
        have B13 := hide1 (B12.out.trans (hb13.mono B12.out.size))
        clear hb13 C5 q0 q1 q2 hQ Q12 U12 K12 B12
        have CN := hide1 (names_any w13)
        go_wp2_with fail
        refine CN.out.mono ?_
        rintro e w14 ⟨rfl, hN14, hN14s, hb14⟩
        have Q14 := hide1 (Q13.out.later hb14)
        have U14 := hide1 (U13.out.later hb14)
        have K14 := hide1 (K13.out.later hb14)
        have B14 := hide1 (B13.out.trans (hb14.mono B13.out.size))
        have N14 : Hid (w13.heap.size < w14.heap.size ∧ ∀ j, j < 12 → w14.cell? ⟨w13.heap.size, j, none⟩ = some (.string (nmL j))) := hide1 ⟨hN14s, hN14⟩
        clear hb14 CN hN14 hN14s Q13 U13 K13 B13
        generalize w13.heap.size = N at N14 ⊢
        go_wp2
        go_loopw [16] (fun iv wr => ∃ i : Nat, i ≤ 12 ∧ iv = .int .i64 (i : Int) ∧ Hid (OneT2 wr Q ro V cr ro' Vo cr' Vm) ∧ Hid (OneT2 wr U po L2 cp po' O2 cp' M2) ∧ Hid (OneT2 wr A ao l ca a' o ca' m) ∧ Hid (N < wr.heap.size ∧ ∀ j, j < 12 → wr.cell? ⟨N, j, none⟩ = some (.string (nmL j))) ∧ Hid (Below w.heap.size w wr)) (fun iv _ => 12 - (intOf iv).toNat)
        case atStart => exact ⟨0, by omega, rfl, Q14, U14, K14, N14, B14⟩
        case round =>
          obtain ⟨i, hi, rfl, hQ, hU, hA, hNm, hB⟩ := hrel
          by_cases hlt : i < 12
          · have k1 : (i : Int) < 12 := by omega
            have n0 := hNm.out.2 i hlt
            have mN := hNm.out.1
            obtain ⟨mQ, q0, q1, q2⟩ := hQ.out.cells
            obtain ⟨mU, u0, u1, u2⟩ := hU.out.cells
            obtain ⟨mA, a0, a1, a2⟩ := hA.out.cells
            obtain ⟨hz1, hz2⟩ := nmL_ne i hlt
            have C1 := hide1 (fun w' (h : Below wr.heap.size wr w') => seekS hA.out (nmL i) hz1 hz2 h)
            have C2 := hide1 (fun w' (h : Below wr.heap.size wr w') => seekI hU.out (nmL i) hz1 hz2 h)
            have C3 := hide1 (fun w' (h : Below wr.heap.size wr w') => seekI hQ.out (nmL i) hz1 hz2 h)
            have PZ := hide1 (PL.out.2.2.2.2 (nmL i) hz1)
            generalize nmL i = z at *
            by_cases d : z.toList = ky.toList
            · have b1 : (z.toList == ky.toList) = true := by rw [d]; simp
              clear d C1 C2 C3 PZ
              go_wp2
              go_roundw
              case rel => exact ⟨i + 1, by omega, by go_num, hQ, hU, hA, hNm, hB⟩
              case measure => simp [intOf]; omega
            · have b1 : (z.toList == ky.toList) = false := by simpa using d
              have hpz := PZ.out (fun e => d (by rw [e]))
              rw [hpz.1] at C2
              rw [hpz.2] at C3
              generalize skI (seekT l o z) = hv at *
              generalize skB (seekT l o z) = hs at *
              have r1 : (hs != hs) = false := by simp
              have r2 : (hv != hv) = false := by simp
              have ZX := hide1 (And.intro a0 (And.intro a1 (And.intro a2 (And.intro u0 (And.intro u1 (And.intro u2 (And.intro q0 (And.intro q1 (And.intro q2 n0)))))))))
              clear d PZ hpz
              go_upto_region 20 with fail
              go_region_held3 (fun w' => w'.cell? ⟨A, 0, none⟩ = some (.slice ao l.length ca) ∧ w'.cell? ⟨A, 1, none⟩ = some (.slice a' o.length ca') ∧ w'.cell? ⟨A, 2, none⟩ = some (.int .i64 m) ∧ w'.cell? ⟨N, i, none⟩ = some (.string z)) (first | go_keep | exact ⟨(D6.out.cell mA).trans ZX.out.1, (D6.out.cell mA).trans ZX.out.2.1, (D6.out.cell mA).trans ZX.out.2.2.1, (D6.out.cell mN).trans ZX.out.2.2.2.2.2.2.2.2.2⟩) ((go_at_call 19; refine (C1.out _ (by go_grown)).mono ?_; rintro e w6 ⟨rfl, hb6⟩; have D6 : Hid (Below wr.heap.size wr w6) := (show Below wr.heap.size wr _ by go_grown).trans (hb6.mono (by go_size)); clear hb6))
              have s6 := D6.out.size
              have u0' := (D6.out.cell mU).trans ZX.out.2.2.2.1
              have u1' := (D6.out.cell mU).trans ZX.out.2.2.2.2.1
              have u2' := (D6.out.cell mU).trans ZX.out.2.2.2.2.2.1
              have n0' := (D6.out.cell mN).trans ZX.out.2.2.2.2.2.2.2.2.2
              go_upto_region 21 with fail
              go_region_held3 (fun w' => w'.cell? ⟨U, 0, none⟩ = some (.slice po L2.length cp) ∧ w'.cell? ⟨U, 1, none⟩ = some (.slice po' O2.length cp') ∧ w'.cell? ⟨U, 2, none⟩ = some (.int .i64 M2) ∧ w'.cell? ⟨N, i, none⟩ = some (.string z)) (first | go_keep | exact ⟨(D7.out.cell mU).trans ZX.out.2.2.2.1, (D7.out.cell mU).trans ZX.out.2.2.2.2.1, (D7.out.cell mU).trans ZX.out.2.2.2.2.2.1, (D7.out.cell mN).trans ZX.out.2.2.2.2.2.2.2.2.2⟩) ((go_at_call 16; refine (C2.out _ (D6.out.trans (show Below wr.heap.size w6 _ by go_grown))).mono ?_; rintro e w7 ⟨rfl, hb7⟩; have D7 : Hid (Below wr.heap.size wr w7) := (D6.out.trans (show Below wr.heap.size w6 _ by go_grown)).trans (hb7.mono (by go_size)); clear hb7))
              have s7 := D7.out.size
              have q0' := (D7.out.cell mQ).trans ZX.out.2.2.2.2.2.2.1
              have q1' := (D7.out.cell mQ).trans ZX.out.2.2.2.2.2.2.2.1
              have q2' := (D7.out.cell mQ).trans ZX.out.2.2.2.2.2.2.2.2.1
              have n0'' := (D7.out.cell mN).trans ZX.out.2.2.2.2.2.2.2.2.2
              go_upto_region 22 with fail
              go_region_held3 (fun w' => w'.cell? ⟨Q, 0, none⟩ = some (.slice ro V.length cr) ∧ w'.cell? ⟨Q, 1, none⟩ = some (.slice ro' Vo.length cr') ∧ w'.cell? ⟨Q, 2, none⟩ = some (.int .i64 Vm) ∧ w'.cell? ⟨N, i, none⟩ = some (.string z)) (first | go_keep | exact ⟨(D8.out.cell mQ).trans ZX.out.2.2.2.2.2.2.1, (D8.out.cell mQ).trans ZX.out.2.2.2.2.2.2.2.1, (D8.out.cell mQ).trans ZX.out.2.2.2.2.2.2.2.2.1, (D8.out.cell mN).trans ZX.out.2.2.2.2.2.2.2.2.2⟩) ((go_at_call 16; refine (C3.out _ (D7.out.trans (show Below wr.heap.size w7 _ by go_grown))).mono ?_; rintro e w8 ⟨rfl, hb8⟩; have D8 : Hid (Below wr.heap.size wr w8) := (D7.out.trans (show Below wr.heap.size w7 _ by go_grown)).trans (hb8.mono (by go_size)); clear hb8))
              go_wp2
              go_roundw
              case rel => exact ⟨i + 1, by omega, by go_num, hQ.out.later D8.out, hU.out.later D8.out, hA.out.later D8.out, ⟨Nat.lt_of_lt_of_le hNm.out.1 D8.out.size, fun j hj => (D8.out.cell (p := ⟨N, j, none⟩) hNm.out.1).trans (hNm.out.2 j hj)⟩, hB.out.trans (D8.out.mono hB.out.size)⟩
              case measure => simp [intOf]; omega
          · obtain rfl : i = 12 := by omega
            go_wp2
            go_ret
            exact ⟨rfl, hB.out⟩
      · exact absurd ⟨⟨okN_iff.2 U8.out.ok, HNE.out⟩, R, hR⟩ hno
    · subst ht hL0
      have u0 : w7.cell? ⟨U, 0, none⟩ = some (.slice po 0 cp) := X7.out.1.cell 0
      clear HN K7 X7
      go_wp2
      go_ret
      exact ⟨rfl, B7.out⟩
  · have CB := hide1 (big4_yes a len cap w hbig)
    clear hr
    go_enter Try.func4, Try.ntmps4
    go_wp2_with fail
    refine CB.out.mono ?_
    rintro e w1 ⟨rfl, rfl⟩
    go_wp2
    go_ret
    exact ⟨rfl, Below.refl _ _⟩

set_option maxRecDepth 100000 in
theorem lifted_FnPuts (os : Os) (started : os.Started) (H : Type) (enc : TypeId × Value → H) :
    ReturnsInHanded {} Try.checked os 4 .any (Rows.fnPutsSpec.pre6 enc Try.prog Try.f4 Rows.fnPutsRow.domain false) (Rows.fnPutsSpec.post enc Try.prog Try.f4 false true false false) := by
  refine returnsInHanded_of_change (C := Try.checked) (show ownKnob Try.prog.godebug = none by kernel_rfl) started (by kernel_rfl) Try.func4
    (ChangeSpec.witness6 (enc := enc) (C := Try.checked) false ⟨#[], #[.slice none 0 0], []⟩ 8 (by kernel_rfl) (by kernel_rfl) (by kernel_rfl) (by kernel_rfl)) ?_
  intro W base args ds gs before hval0 hW hcnd _
  have hval : ∀ (j : Nat) t v, Try.f4.params[j]? = some t → args[j]? = some v → Value.okWide Try.prog W .any base t v := hval0
  have hW' := hW
  obtain ⟨p, q, hA0, hV, rfl, hfz, hnd⟩ := hW
  have hA : DataW.TrodAll enc Try.prog W 0 (fun _ => true) true Try.f4.params.toList args.toList ds p := hA0
  rw [Try.params4] at hA hval
  obtain ⟨v0, d0, rfl, rfl, h0⟩ := trodAll_one hA
  obtain ⟨rfl, rfl⟩ := trodVars_none hV
  obtain ⟨a0, len0, cap0, rfl⟩ := okWide_slice Try.underlying22 (hval 0 22 v0 rfl rfl)
  have k0 := h0
  have lt0 : ∀ x ∈ p, x.block < W.heap.size := by obtain ⟨m, hm⟩ := k0; exact DataW.trod_lt m _ _ _ hm
  have r0 : RowB W a0 len0 := by
    obtain ⟨fuel, hf⟩ := h0
    rcases open_ints Try.underlying22 Try.underlying5 (by kernel_rfl) hf with ⟨hcs, _⟩ | ⟨x, l, c, zs, hcs, _, hl, hm, hz, _, hcell, hwz⟩
    · simp [Value.cells] at hcs
      obtain ⟨rfl, rfl, rfl⟩ := hcs
      exact fun j hj => absurd hj (Nat.not_lt_zero _)
    · simp [Value.cells] at hcs
      obtain ⟨rfl, rfl, rfl⟩ := hcs
      exact rowB_of hl (by simpa using hz) hcell (fun n hn => bounds_u8 (hwz n hn))
  clear hA0 hval0
  refine (walk_FnPuts a0 len0 cap0 W r0).mono fun e W' ⟨he, bel⟩ => ?_
  subst he
  exact ⟨_, rfl, _, _, _, [], _, [], hW', trodAll_mk1 (shut_bool Try.underlying4 _), trodAll_mk1 (Below.trod (show laidOutB Try.prog = true by kernel_rfl) (by kernel_rfl) (of_decide_eq_true (by kernel_rfl)) k0 bel lt0), rfl, bel.frame _, fun h => by cases h⟩

theorem proved_FnPuts : Rows.FnPutsSaid :=
  OpenClaim.holds_of_wide 4 Try.f4 rfl rfl rfl rfl rfl rfl rfl ⟨rfl, rfl, rfl, rfl, rfl⟩ rfl rfl rfl rfl rfl (by kernel_rfl) Try.func4 (by kernel_rfl)
    (of_decide_eq_true (by kernel_rfl)) (by unfold Func.isWrapper; first | (rw [if_pos (by decide +kernel)]; kernel_rfl) | (rw [if_neg (by decide +kernel)]; exact ⟨rfl, rfl⟩))
    (fun os started H enc _ => lifted_FnPuts os started H enc)
#print axioms proved_FnPuts
end Go.Proofs.Ythpnakpcbfdfeaa
