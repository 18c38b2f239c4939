/- A drawn table that grows, in whatever steps, has the same keys and handles all the while, and no old cells at last: whatever is drawn. -/
import Derived.Test.YtinjohpeanlalaaRows
import Derived.ProofKit
import Derived.OpenShut
import Derived.ShutString
import Derived.ChangeOld
import Derived.Test.YtinjohpeanlalaaLawGS
namespace Go.Proofs.Ytinjohpeanlalaa
open Go.ChangeShapes Go.WideShapes Go.ChangeAt Go.RowKit
open Go.ChangeMaps (open_string shut_string)
set_option linter.unusedVariables false

theorem code_later {w w' : World} {a : Option Addr} {len : Nat} (h : Code w.heap.size w a len) (hb : Below w.heap.size w w') : Code w'.heap.size w' a len := by
  have h1 := h.below hb (Nat.le_refl _)
  exact ⟨h1.le, fun j hj => by obtain ⟨b, o, v, e1, e2, e3, e4⟩ := h1.cells j hj; exact ⟨b, o, v, e1, Nat.lt_of_lt_of_le e2 hb.size, e3, e4⟩⟩

set_option maxRecDepth 100000 in
set_option maxHeartbeats 16000000 in
theorem walk_FnGrows (a : Option Addr) (len cap : Nat) (w : World) (hr : RowB w a len) :
    Calls Try.prog 5 #[.slice a len cap] w fun e w' => e = .returned (.bool true) ∧ Below w.heap.size w w' := by
  by_cases hbig : len ≤ 1048576
  · have CB := hide1 (big4_no a len cap w hbig)
    have HC := hide1 (hr.code hbig)
    have CD := hide1 (drawRT_any w a len cap HC.out)
    unfold tbV at CD
    clear hr
    go_enter Try.func5, Try.ntmps5
    go_wp2_with fail
    refine CB.out.mono ?_
    rintro e w1 ⟨rfl, rfl⟩
    go_wp2_with fail
    refine CD.out.mono ?_
    rintro e w1 ⟨l, o, m, ao, ca, a', ca', ky, rfl, hok, hkin, hky, ho1, ho2, hb1⟩
    have F1 : Hid (OneT2 (w1.alloc (.cells #[.slice ao l.length ca, .slice a' o.length ca', .int .i64 (m : Int)] 29)) w1.heap.size ao l ca a' o ca' (m : Int) ∧ Below w.heap.size w (w1.alloc (.cells #[.slice ao l.length ca, .slice a' o.length ca', .int .i64 (m : Int)] 29)) ∧ w.heap.size ≤ w1.heap.size) := ⟨OneT2.box hok ho1 ho2, hb1.alloc hb1.size _, hb1.size⟩
    clear hok hkin ho1 ho2 hb1 CB CD hky
    go_upto_region 4 with fail
    generalize (w1.alloc (.cells #[.slice ao l.length ca, .slice a' o.length ca', .int .i64 (m : Int)] 29)) = w2 at F1 ⊢
    generalize w1.heap.size = A at F1 ⊢
    have K2 := hide1 F1.out.1
    have B2 := hide1 F1.out.2.1
    have hwA := F1.out.2.2
    clear F1
    obtain ⟨hA2, v0, v1, v2⟩ := K2.out.cells
    have CP := hide1 (moveI_c K2.out 64 (by omega) (by omega) (Below.refl _ _))
    have HOM := hide1 (OkN.moveR K2.out.ok 64)
    obtain ⟨L1, O1, M1, hR1⟩ : ∃ L1 O1 M1, moveR l o m 64 = (L1, O1, M1) := ⟨_, _, _, rfl⟩
    rw [hR1] at CP HOM
    dsimp only at CP HOM
    clear hR1
    go_wp2_with fail
    refine CP.out.mono ?_
    rintro e w3 ⟨b, c, b', c', rfl, hu1, hu2, hb3⟩
    have K3 := hide1 (OneT2.store (K2.out.later hb3).var hA2 HOM.out hu1 hu2)
    have B3 := hide1 (put3_below (B2.out.trans (hb3.mono B2.out.size)) hwA (.slice (some ⟨b, 0, none⟩) L1.length c) (.slice (some ⟨b', 0, none⟩) O1.length c') (.int .i64 (M1 : Int)))
    have hbl : b < w3.heap.size := (hu1.lt b rfl).2
    have hsz : (put3 w3 A (.slice (some ⟨b, 0, none⟩) L1.length c) (.slice (some ⟨b', 0, none⟩) O1.length c') (.int .i64 (M1 : Int))).heap.size = w3.heap.size := by unfold put3; simp
    have y0 : w3.cell? ⟨A, 0, none⟩ = some (.slice ao l.length ca) := (K2.out.later hb3).var.cell 0
    have y1 : w3.cell? ⟨A, 1, none⟩ = some (.slice a' o.length ca') := (K2.out.later hb3).var.cell 1
    have y2 : w3.cell? ⟨A, 2, none⟩ = some (.int .i64 (m : Int)) := (K2.out.later hb3).var.cell 2
    have yf : ∀ j, w3.frozen? ⟨A, j, none⟩ = false := fun j => (K2.out.later hb3).var.froz j
    clear hu1 hu2 hb3 CP v0 v1 v2 hA2 K2 B2
    rw [← hsz] at hbl
    clear hsz
    unfold put3 at K3 B3 hbl
    go_upto_region 5 with fail
    generalize (((w3.setCell ⟨A, 0, none⟩ (.slice (some ⟨b, 0, none⟩) L1.length c)).setCell ⟨A, 1, none⟩ (.slice (some ⟨b', 0, none⟩) O1.length c')).setCell ⟨A, 2, none⟩ (.int .i64 (M1 : Int))) = w4 at K3 B3 hbl ⊢
    clear y0 y1 y2 yf
    have hwA2 := hwA
    obtain ⟨hA4, v0, v1, v2⟩ := K3.out.cells
    have CG := hide1 (growI_c K3.out (Below.refl _ _))
    unfold MadeT tbV at CG
    have hsm := K3.out.small
    have hl6 := hsm.1
    clear hsm
    by_cases hO1 : 0 < O1.length
    · have qO : decide ((0 : Int) < (O1.length : Int)) = true := decide_eq_true (by omega)
      go_wp2_with fail
      refine CG.out.mono ?_
      rintro e w5 ⟨po, L, cp, po', O, cp', M, t, rfl, hN, hu1, hu2, _, hb5⟩
      obtain rfl : t = false := by
        rcases hN with ⟨h, _, _⟩ | ⟨_, _, _, _, h⟩
        · have := h.2.1; omega
        · exact h
      have F6 : Hid (OneT2 (w5.alloc (.cells #[.slice po L.length cp, .slice po' O.length cp', .int .i64 M] 29)) A (some ⟨b, 0, none⟩) L1 c (some ⟨b', 0, none⟩) O1 c' (M1 : Int) ∧ Below w.heap.size w (w5.alloc (.cells #[.slice po L.length cp, .slice po' O.length cp', .int .i64 M] 29))) := by
        have bb := hb5.alloc hb5.size (.cells #[.slice po L.length cp, .slice po' O.length cp', .int .i64 M] 29)
        exact ⟨K3.out.later bb, B3.out.trans (bb.mono B3.out.size)⟩
      clear hN hu1 hu2 hb5 CG v0 v1 v2 hA4 hbl
      go_upto_region 7 with fail
      generalize (w5.alloc (.cells #[.slice po L.length cp, .slice po' O.length cp', .int .i64 M] 29)) = w6 at F6 ⊢
      have K6 := hide1 F6.out.1
      have B6 := hide1 F6.out.2
      clear F6
      obtain ⟨hA6, v0, v1, v2⟩ := K6.out.cells
      have CO := hide1 (tokI K6.out (Below.refl _ _))
      go_wp2_with fail
      refine CO.out.mono ?_
      rintro e w7 ⟨rfl, hb7⟩
      have B7 := hide1 (B6.out.trans (hb7.mono B6.out.size))
      clear hb7
      go_wp2
      go_ret
      exact ⟨rfl, B7.out⟩
    · have qO : decide ((0 : Int) < (O1.length : Int)) = false := decide_eq_false (by omega)
      have hO0 : O1 = [] := List.eq_nil_of_length_eq_zero (by omega)
      subst hO0
      have hM0 : M1 = 0 := by have := K3.out.ok.moved.2; simp at this; omega
      subst hM0
      have QO := hide1 qO
      clear hO1 qO
      go_wp2_with fail
      refine CG.out.mono ?_
      rintro e w5 ⟨po, L, cp, po', O, cp', M, t, rfl, hN, hu1, hu2, _, hb5⟩
      have HN := hide1 hN
      have F6 : Hid (OneT2 (w5.alloc (.cells #[.slice po L.length cp, .slice po' O.length cp', .int .i64 M] 29)) A (some ⟨b, 0, none⟩) L1 c (some ⟨b', 0, none⟩) [] c' 0 ∧ Blk (w5.alloc (.cells #[.slice po L.length cp, .slice po' O.length cp', .int .i64 M] 29)) w5.heap.size 29 [.slice po L.length cp, .slice po' O.length cp', .int .i64 M] ∧ RdC (w5.alloc (.cells #[.slice po L.length cp, .slice po' O.length cp', .int .i64 M] 29)) po L ∧ RdC (w5.alloc (.cells #[.slice po L.length cp, .slice po' O.length cp', .int .i64 M] 29)) po' O ∧ Below w.heap.size w (w5.alloc (.cells #[.slice po L.length cp, .slice po' O.length cp', .int .i64 M] 29)) ∧ b < w5.heap.size ∧ A < w5.heap.size ∧ w.heap.size ≤ w5.heap.size) := by
        have bb := hb5.alloc hb5.size (.cells #[.slice po L.length cp, .slice po' O.length cp', .int .i64 M] 29)
        exact ⟨K3.out.later bb, Blk.new w5 _ _, rdC_of_own (hu1.alloc _), rdC_of_own (hu2.alloc _), B3.out.trans (bb.mono B3.out.size), Nat.lt_of_lt_of_le hbl hb5.size, Nat.lt_of_lt_of_le hA4 hb5.size, Nat.le_trans B3.out.size hb5.size⟩
      clear hN hu1 hu2 hb5 CG v0 v1 v2 hA4 hbl K3 B3
      go_upto_region 9 with fail
      generalize (w5.alloc (.cells #[.slice po L.length cp, .slice po' O.length cp', .int .i64 M] 29)) = w6 at F6 ⊢
      generalize w5.heap.size = U at F6 ⊢
      have K6 := hide1 F6.out.1
      have X6 := hide1 (And.intro F6.out.2.1 (And.intro F6.out.2.2.1 F6.out.2.2.2.1))
      have B6 := hide1 F6.out.2.2.2.2.1
      have hfar := hide1 F6.out.2.2.2.2.2
      clear F6
      obtain ⟨hA6, v0, v1, v2⟩ := K6.out.cells
      have w2l : IntKind.i64.wrap (2 * (L1.length : Int)) = 2 * (L1.length : Int) := IntWalk.i64_in _ ⟨by omega, by omega⟩
      by_cases hgr : 2 * L1.length ≤ 64
      · have qg : decide (2 * (L1.length : Int) ≤ 64) = true := decide_eq_true (by omega)
        have hLO : L = List.replicate (2 * L1.length) nC ∧ O = L1 ∧ M = 0 ∧ t = true := by
          rcases HN.out with ⟨_, h, ht⟩ | ⟨h, _⟩
          · unfold growR at h
            injection h with h
            injection h with e1 e2
            injection e2 with e2 e3
            exact ⟨e1.symm, e2.symm, e3.symm, ht⟩
          · exact absurd ⟨⟨okN_iff.2 K6.out.ok, rfl, hgr⟩, _, rfl⟩ h
        obtain ⟨rfl, rfl, rfl, rfl⟩ := hLO
        clear HN
        have hU6 := hide1 X6.out.1.lt
        have HKW := hide1 (show OneT2 w6 U po (List.replicate (2 * O.length) nC) cp po' O cp' ((0 : Nat) : Int) from ⟨K6.out.ok.grow hgr, X6.out.1, X6.out.2.1, X6.out.2.2⟩)
        have CPL := hide1 (fun w' (h : Below w.heap.size w w') => drawPl_any w' a len cap (code_later HC.out h))
        go_wp2_with fail
        refine (CPL.out _ B6.out).mono ?_
        rintro e w7 ⟨xs, p, pc, hxl, hxs, rfl, hpU, hpl, hpc, hb7⟩
        have K7 := hide1 (K6.out.later hb7)
        have U7 := hide1 (HKW.out.later hb7)
        have B7 := hide1 (B6.out.trans (hb7.mono B6.out.size))
        have P7 := hide1 (show PlN w7 p xs from ⟨hpl, hpc⟩)
        have hpne : p ≠ U := by have := hU6.out; omega
        have HXS := hide1 (And.intro hxl hxs)
        have hUw7 : U < w7.heap.size := Nat.lt_of_lt_of_le hU6.out hb7.size
        clear hb7 hpl hpc hpU K6 X6 B6 v0 v1 v2 hA6 CPL hxl hxs HKW
        obtain ⟨hA7, v0, v1, v2⟩ := K7.out.cells
        have C1 := hide1 (keyI2 K7.out (Below.refl _ _))
        have KL := hide1 (fun (X Y : List Ce) (Mv : Int) (hX : OkN X Y Mv) he i hi => key_both K7.out.ok hX he (i := i) hi)
        have KS := hide1 (fun (X Y : List Ce) (Mv : Int) (hX : OkN X Y Mv) he => keys_same K7.out.ok hX he)
        have hks := len_small (okN_iff.2 K7.out.ok)
        generalize keysL (sortE (entT O [])) = ks at *
        go_wp2_with fail
        refine C1.out.mono ?_
        rintro e w8 ⟨ko, kc, rfl, hwd, hkU, hb8⟩
        have G8 : Hid (GrS w w8 A b O c (some ⟨b', 0, none⟩) c' U po (List.replicate (2 * O.length) nC) cp po' O cp' 0 ko ks p xs 0) := by
          refine ⟨K7.out.later hb8, U7.out.later hb8, hwd, P7.out.later hb8, B7.out.trans (hb8.mono B7.out.size), fun z hz x => ent_grow z hz x, by rw [List.length_replicate], .inr ⟨Grw.start, Nat.le_refl _, by have := K7.out.ok.size; omega⟩, hfar.out.2.2, ?_, ?_, fun g e => ?_, hpne⟩
          · have := hfar.out.2.1; omega
          · have := hfar.out.1; omega
          · have := hkU g e; omega
        clear hwd hkU hb8 C1 v0 v1 v2 hA7 K7 U7 B7 P7 hfar hU6 hUw7
        go_wp2
        generalize (List.replicate (2 * O.length) nC) = Y0 at *
        go_loopw [11] (fun iv wr => ∃ (i : Nat) (uo : Option Addr) (Y : List Ce) (uc : Nat) (uo' : Option Addr) (Z : List Ce) (uc' M : Nat), i ≤ 70 ∧ iv = .int .i64 (i : Int) ∧ Hid (GrS w wr A b O c (some ⟨b', 0, none⟩) c' U uo Y uc uo' Z uc' M ko ks p xs i)) (fun iv _ => 70 - (intOf iv).toNat)
        case atStart => exact ⟨0, _, _, _, _, _, _, _, by omega, rfl, G8⟩
        case round =>
          clear G8
          obtain ⟨W, hWW⟩ : ∃ W, W = wr := ⟨_, rfl⟩
          subst hWW
          obtain ⟨i, uo, Y, uc, uo', Z, uc', M, hi, rfl, HG⟩ := hrel
          obtain ⟨hU, u0, u1, u2⟩ := HG.out.u.cells
          by_cases hZ : Z.length = 0
          · have hZ0 : Z = [] := List.eq_nil_of_length_eq_zero hZ
            subst hZ0
            clear hZ
            obtain ⟨mA, t0, t1, t2⟩ := HG.out.t.cells
            have ql : ((Y.length : Int) == 2 * (O.length : Int)) = true := by rw [HG.out.len]; simp
            have CO := hide1 (tokI HG.out.u (Below.refl _ _))
            have hyl : Y.length ≤ 64 := HG.out.u.small.1
            rcases hq : decide ((i : Int) < 70) with _ | _
            all_goals
              go_wp2_with fail
              refine CO.out.mono ?_
              rintro e w9 ⟨rfl, hb9⟩
              have G9 := hide1 (HG.out.later hb9)
              clear hb9 CO u0 u1 u2 hU HG t0 t1 t2 mA
              obtain ⟨hU, u0, u1, u2⟩ := G9.out.u.cells
              have C1 := hide1 (keyI2 G9.out.u (Below.refl _ _))
              rw [KS.out Y [] (M : Int) G9.out.u.ok G9.out.ent] at C1
              go_wp2_with fail
              refine C1.out.mono ?_
              rintro e w10 ⟨so, scc, rfl, hws, _, hb10⟩
              have G10 := hide1 (G9.out.later hb10)
              have C4 := hide1 (sameT_any so ko ks scc kc w10 (by omega) hws G10.out.wd)
              clear hb10 hws C1 u0 u1 u2 hU G9
              go_wp2_with fail
              refine C4.out.mono ?_
              rintro e w11 ⟨rfl, hb11⟩
              have G11 := hide1 (G10.out.later hb11)
              clear hb11 C4 G10
              go_wp2
              go_ret
              exact ⟨rfl, G11.out.bw⟩
          · have hZ1 : 0 < Z.length := by omega
            have qZ : decide ((0 : Int) < (Z.length : Int)) = true := decide_eq_true (by omega)
            have hZn : Z ≠ [] := fun e => hZ (by rw [e]; rfl)
            have hi70 : i < 70 := by obtain ⟨_, h1, h2⟩ := HG.out.prog.resolve_left hZn; omega
            have qi : decide ((i : Int) < 70) = true := decide_eq_true (by omega)
            clear hZ
            have CO := hide1 (tokI HG.out.u (Below.refl _ _))
            go_wp2_with fail
            refine CO.out.mono ?_
            rintro e w9 ⟨rfl, hb9⟩
            have G9 := hide1 (HG.out.later hb9)
            clear hb9 CO u0 u1 u2 hU HG
            obtain ⟨hU, u0, u1, u2⟩ := G9.out.u.cells
            have C1 := hide1 (keyI2 G9.out.u (Below.refl _ _))
            rw [KS.out Y Z (M : Int) G9.out.u.ok G9.out.ent] at C1
            go_wp2_with fail
            refine C1.out.mono ?_
            rintro e w10 ⟨so, scc, rfl, hws, _, hb10⟩
            have G10 := hide1 (G9.out.later hb10)
            have C4 := hide1 (sameT_any so ko ks scc kc w10 (by omega) hws G10.out.wd)
            clear hb10 hws C1 u0 u1 u2 hU G9
            go_wp2_with fail
            refine C4.out.mono ?_
            rintro e w11 ⟨rfl, hb11⟩
            have G11 := hide1 (G10.out.later hb11)
            clear hb11 C4 G10
            go_wp2
            go_loopw [12] (fun iv wr => ∃ k : Nat, k ≤ ks.length ∧ iv = .int .i64 (k : Int) ∧ Hid (GrS w wr A b O c (some ⟨b', 0, none⟩) c' U uo Y uc uo' Z uc' M ko ks p xs i)) (fun iv _ => ks.length - (intOf iv).toNat)
            case atStart => exact ⟨0, by omega, rfl, G11⟩
            case round =>
              clear G11
              obtain ⟨V, hVV⟩ : ∃ V, V = wr := ⟨_, rfl⟩
              subst hVV
              obtain ⟨k, hk, rfl, HV⟩ := hrel
              by_cases hlt : k < ks.length
              · have k1 : (k : Int) < (ks.length : Int) := by omega
                obtain ⟨N, rfl, mN, n0⟩ := HV.out.wd k hlt
                obtain ⟨mU, u0, u1, u2⟩ := HV.out.u.cells
                obtain ⟨mA, a0, a1, a2⟩ := HV.out.t.cells
                obtain ⟨hz1, hz2, hz3, hz4⟩ := KL.out Y Z (M : Int) HV.out.u.ok HV.out.ent k hlt
                have C1 := hide1 (fun w' (h : Below V.heap.size V w') => seekS HV.out.t ks[k] hz1 hz2 h)
                have C2 := hide1 (fun w' (h : Below V.heap.size V w') => seekI HV.out.u ks[k] hz1 hz2 h)
                rw [hz3, hz4] at C2
                generalize ks[k] = z at *
                generalize skI (seekT O [] z) = hv at *
                generalize skB (seekT O [] z) = hs at *
                have r2 : (hv != hv) = false := by simp
                have ZX := hide1 (And.intro a0 (And.intro a1 (And.intro a2 (And.intro u0 (And.intro u1 (And.intro u2 n0))))))
                clear hz1 hz2 hz3 hz4
                go_upto_region 23 with fail
                go_region_held3 (fun w' => w'.cell? ⟨A, 0, none⟩ = some (.slice (some ⟨b, 0, none⟩) O.length c) ∧ w'.cell? ⟨A, 1, none⟩ = some (.slice (some ⟨b', 0, none⟩) 0 c') ∧ w'.cell? ⟨A, 2, none⟩ = some (.int .i64 0) ∧ w'.cell? ⟨N, k, none⟩ = some (.string z)) (first | go_keep | exact ⟨(D6.out.cell mA).trans ZX.out.1, (D6.out.cell mA).trans ZX.out.2.1, (D6.out.cell mA).trans ZX.out.2.2.1, (D6.out.cell mN).trans ZX.out.2.2.2.2.2.2⟩) ((go_at_call 19; refine (C1.out _ (by go_grown)).mono ?_; rintro e w6 ⟨rfl, hb6⟩; have D6 : Hid (Below V.heap.size V w6) := (show Below V.heap.size V _ by go_grown).trans (hb6.mono (by go_size)); clear hb6))
                have s6 := D6.out.size
                have u0' := (D6.out.cell mU).trans ZX.out.2.2.2.1
                have u1' := (D6.out.cell mU).trans ZX.out.2.2.2.2.1
                have u2' := (D6.out.cell mU).trans ZX.out.2.2.2.2.2.1
                have n0' := (D6.out.cell mN).trans ZX.out.2.2.2.2.2.2
                go_upto_region 24 with fail
                go_region_held3 (fun w' => w'.cell? ⟨U, 0, none⟩ = some (.slice uo Y.length uc) ∧ w'.cell? ⟨U, 1, none⟩ = some (.slice uo' Z.length uc') ∧ w'.cell? ⟨U, 2, none⟩ = some (.int .i64 (M : Int)) ∧ w'.cell? ⟨N, k, none⟩ = some (.string z)) (first | go_keep | exact ⟨(D7.out.cell mU).trans ZX.out.2.2.2.1, (D7.out.cell mU).trans ZX.out.2.2.2.2.1, (D7.out.cell mU).trans ZX.out.2.2.2.2.2.1, (D7.out.cell mN).trans ZX.out.2.2.2.2.2.2⟩) ((go_at_call 16; refine (C2.out _ (D6.out.trans (show Below V.heap.size w6 _ by go_grown))).mono ?_; rintro e w7 ⟨rfl, hb7⟩; have D7 : Hid (Below V.heap.size V w7) := (D6.out.trans (show Below V.heap.size w6 _ by go_grown)).trans (hb7.mono (by have := D6.out.size; go_size)); clear hb7))
                go_wp2
                go_roundw
                case rel => exact ⟨k + 1, by omega, by go_num, HV.out.later D7.out⟩
                case measure => simp [intOf]; omega
              · obtain rfl : k = ks.length := by omega
                obtain ⟨mU, u0, u1, u2⟩ := HV.out.u.cells
                have hj : i % 12 < xs.length := by rw [HXS.out.1]; omega
                have x0 := HV.out.ps.2 (i % 12) hj
                have mP := HV.out.ps.1
                have hxb := HXS.out.2 xs[i % 12] (List.getElem_mem hj)
                have ej : (i : Int) % 12 = ((i % 12 : Nat) : Int) := by omega
                have ej2 : ((i % 12 : Nat) : Int) < 12 := by omega
                have ej3 : (0 : Int) ≤ ((i % 12 : Nat) : Int) := by omega
                generalize xs[i % 12] = x at *
                have ejt : (i : Int).tmod 12 = ((i % 12 : Nat) : Int) := by rw [Int.tmod_eq_emod_of_nonneg (by omega)]; omega
                generalize i % 12 = j at *
                obtain ⟨r, hrx⟩ : ∃ r, x % 3 = r := ⟨_, rfl⟩
                have er : (x : Int) % 3 = (r : Int) := by omega
                have ert : (x : Int).tmod 3 = (r : Int) := by rw [Int.tmod_eq_emod_of_nonneg (by omega)]; omega
                obtain ⟨s, hsx⟩ : ∃ s, 1 + r = s := ⟨_, rfl⟩
                have hs1 : 1 ≤ s := by omega
                have hs2 : s ≤ 1000 := by omega
                have es : (1 : Int) + (r : Int) = (s : Int) := by omega
                have ws : IntKind.i64.wrap (s : Int) = (s : Int) := IntWalk.i64_in _ ⟨by omega, by omega⟩
                clear hrx
                have CM := hide1 (fun w' (h : Below V.heap.size V w') => moveI_c HV.out.u s hs1 hs2 h)
                have PUT := hide1 (fun (w5 : World) (hb : Below V.heap.size V w5) (b1 c1 b2 c2 base : Nat) (hbs : V.heap.size ≤ base) => HV.out.put (w5 := w5) (b := b1) (c := c1) (b' := b2) (c' := c2) (base := base) hZn hs1 hb hbs)
                obtain ⟨Y1, Z1, M2, hR1⟩ : ∃ Y1 Z1 M2, moveR Y Z M s = (Y1, Z1, M2) := ⟨_, _, _, rfl⟩
                rw [hR1] at CM PUT
                dsimp only at CM PUT
                clear hR1 hsx
                have HVF := hide1 HV.out.u.var
                have uf : ∀ j, V.frozen? ⟨U, j, none⟩ = false := fun j => HV.out.u.var.froz j
                go_upto_region 27 with fail
                go_region_with ((go_at_call 20; refine (CM.out _ (by go_grown)).mono ?_; rintro e w8 ⟨b1, c1, b2, c2, rfl, ho1, ho2, hb8⟩; have D8 : Hid (Below V.heap.size V w8) := (show Below V.heap.size V _ by go_grown).trans (hb8.mono (by go_size)); have O8 := hide1 (own_base ho1 (show V.heap.size ≤ _ by go_size)); have P8 := hide1 (own_base ho2 (show V.heap.size ≤ _ by go_size)); clear ho1 ho2 hb8; have vv := HVF.out.below D8.out mU; have y0 : w8.cell? ⟨U, 0, none⟩ = some (.slice uo Y.length uc) := vv.cell 0; have y1 : w8.cell? ⟨U, 1, none⟩ = some (.slice uo' Z.length uc') := vv.cell 1; have y2 : w8.cell? ⟨U, 2, none⟩ = some (.int .i64 (M : Int)) := vv.cell 2; have yf : ∀ j, w8.frozen? ⟨U, j, none⟩ = false := fun j => vv.froz j; clear vv))
                all_goals
                  have S9 := hide1 (PUT.out w8 D8.out b1 c1 b2 c2 V.heap.size (Nat.le_refl _) O8.out P8.out)
                  unfold put3 at S9
                  clear y0 y1 y2 yf O8 P8
                  go_wp2
                  go_roundw
                  case rel => exact ⟨i + 1, _, Y1, c1, _, Z1, c2, M2, by omega, by go_num, S9⟩
                  case measure => simp [intOf]; omega
      · have qg : decide (2 * (L1.length : Int) ≤ 64) = false := decide_eq_false (by omega)
        have hLO : L = [] ∧ t = false := by
          rcases HN.out with ⟨h, _, _⟩ | ⟨_, h, _, _, ht⟩
          · exact absurd h.2.2 hgr
          · exact ⟨h, ht⟩
        obtain ⟨rfl, rfl⟩ := hLO
        have x0 : w6.cell? ⟨U, 0, none⟩ = some (.slice po 0 cp) := X6.out.1.cell 0
        clear HN K6 X6
        go_wp2
        go_ret
        exact ⟨rfl, B6.out⟩
  · have CB := hide1 (big4_yes a len cap w hbig)
    clear hr
    go_enter Try.func5, Try.ntmps5
    go_wp2_with fail
    refine CB.out.mono ?_
    rintro e w1 ⟨rfl, rfl⟩
    go_wp2
    go_ret
    exact ⟨rfl, Below.refl _ _⟩

set_option maxRecDepth 100000 in
theorem lifted_FnGrows (os : Os) (started : os.Started) (H : Type) (enc : TypeId × Value → H) :
    ReturnsInHanded {} Try.checked os 5 .any (Rows.fnGrowsSpec.pre6 enc Try.prog Try.f5 Rows.fnGrowsRow.domain false) (Rows.fnGrowsSpec.post enc Try.prog Try.f5 false true false false) := by
  refine returnsInHanded_of_change (C := Try.checked) (show ownKnob Try.prog.godebug = none by kernel_rfl) started (by kernel_rfl) Try.func5
    (ChangeSpec.witness6 (enc := enc) (C := Try.checked) false ⟨#[], #[.slice none 0 0], []⟩ 8 (by kernel_rfl) (by kernel_rfl) (by kernel_rfl) (by kernel_rfl)) ?_
  intro W base args ds gs before hval0 hW hcnd _
  have hval : ∀ (j : Nat) t v, Try.f5.params[j]? = some t → args[j]? = some v → Value.okWide Try.prog W .any base t v := hval0
  have hW' := hW
  obtain ⟨p, q, hA0, hV, rfl, hfz, hnd⟩ := hW
  have hA : DataW.TrodAll enc Try.prog W 0 (fun _ => true) true Try.f5.params.toList args.toList ds p := hA0
  rw [Try.params5] at hA hval
  obtain ⟨v0, d0, rfl, rfl, h0⟩ := trodAll_one hA
  obtain ⟨rfl, rfl⟩ := trodVars_none hV
  obtain ⟨a0, len0, cap0, rfl⟩ := okWide_slice Try.underlying22 (hval 0 22 v0 rfl rfl)
  have k0 := h0
  have lt0 : ∀ x ∈ p, x.block < W.heap.size := by obtain ⟨m, hm⟩ := k0; exact DataW.trod_lt m _ _ _ hm
  have r0 : RowB W a0 len0 := by
    obtain ⟨fuel, hf⟩ := h0
    rcases open_ints Try.underlying22 Try.underlying5 (by kernel_rfl) hf with ⟨hcs, _⟩ | ⟨x, l, c, zs, hcs, _, hl, hm, hz, _, hcell, hwz⟩
    · simp [Value.cells] at hcs
      obtain ⟨rfl, rfl, rfl⟩ := hcs
      exact fun j hj => absurd hj (Nat.not_lt_zero _)
    · simp [Value.cells] at hcs
      obtain ⟨rfl, rfl, rfl⟩ := hcs
      exact rowB_of hl (by simpa using hz) hcell (fun n hn => bounds_u8 (hwz n hn))
  clear hA0 hval0
  refine (walk_FnGrows a0 len0 cap0 W r0).mono fun e W' ⟨he, bel⟩ => ?_
  subst he
  exact ⟨_, rfl, _, _, _, [], _, [], hW', trodAll_mk1 (shut_bool Try.underlying4 _), trodAll_mk1 (Below.trod (show laidOutB Try.prog = true by kernel_rfl) (by kernel_rfl) (of_decide_eq_true (by kernel_rfl)) k0 bel lt0), rfl, bel.frame _, fun h => by cases h⟩

theorem proved_FnGrows : Rows.FnGrowsSaid :=
  OpenClaim.holds_of_wide 5 Try.f5 rfl rfl rfl rfl rfl rfl rfl ⟨rfl, rfl, rfl, rfl, rfl⟩ rfl rfl rfl rfl rfl (by kernel_rfl) Try.func5 (by kernel_rfl)
    (of_decide_eq_true (by kernel_rfl)) (by unfold Func.isWrapper; first | (rw [if_pos (by decide +kernel)]; kernel_rfl) | (rw [if_neg (by decide +kernel)]; exact ⟨rfl, rfl⟩))
    (fun os started H enc _ => lifted_FnGrows os started H enc)
#print axioms proved_FnGrows
end Go.Proofs.Ytinjohpeanlalaa
