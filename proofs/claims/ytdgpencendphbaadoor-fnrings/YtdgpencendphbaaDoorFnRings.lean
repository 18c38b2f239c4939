/- A ring of drawn nodes has these, and as many spots for each; each key has its home there; the first of its homes is its home: whatever is drawn, the library's three tables being as the program's text lays them (the card ties them to the text of a pruned copy of the project). -/
import Derived.Test.YtdgpencendphbaaDoorCards
import Derived.Test.YtdgpencendphbaaDoorTie
import Derived.ProofKit
import Derived.LaidMore
import Derived.OpenShut
import Derived.ShutString
import Derived.ChangeOld
import Derived.Stop.Joined
import Derived.Stop.LaidErr
import Derived.SevenTiedAt
import Derived.Test.YtdgpencendphbaaDoorLawG
namespace Go.Proofs.YtdgpencendphbaaDoor
open Go.ChangeShapes Go.WideShapes Go.ChangeAt Go.RowKit
open Go.ChangeMaps (open_string shut_string)
set_option linter.unusedVariables false

theorem of_laid_FnRings {W : World} (h : laidMetH Tryd.prog Rows.fnRingsRow.laid W) : Tens W := by
  rw [MakeChecks.laidMetH_plain _ _ _ (by kernel_rfl)] at h
  exact Lib.tabIs_of_head gTens (by kernel_rfl) Tryd.underlying134 Tryd.underlying106 (by kernel_rfl) (by kernel_rfl) (laidMet.tail (laidMet.tail h))

set_option maxRecDepth 100000 in
set_option maxHeartbeats 8000000 in
theorem walk_FnRings (a : Option Addr) (len cap : Nat) (w : World) (hr : RowB w a len) (ht : Tens w) :
    Calls Tryd.prog 3 #[.slice a len cap] w fun e w' => e = .returned (.bool true) ∧ Below w.heap.size w w' := by
  by_cases hbig : len ≤ 1048576
  · have CB := hide1 (big10_no a len cap w hbig)
    have HC := hide1 (hr.code hbig)
    have CD := hide1 (drawNodes_any w a len cap HC.out)
    have CWd := hide1 (fun w' (hb : Below w.heap.size w w') => drawWords_any w' a len cap ((HC.out.below hb (Nat.le_refl _)).mono hb.size))
    have hp := ht.pos
    have HT := hide1 (fun w' (hb : Below w.heap.size w w') => ht.below hb hp)
    clear hr ht
    go_enter Tryd.func3, Tryd.ntmps3
    go_wp2_with fail
    refine CB.out.mono ?_
    rintro e w0 ⟨rfl, hw0⟩
    obtain rfl : w = w0 := hw0
    go_wp2_with fail
    refine CD.out.mono ?_
    rintro e w1 ⟨L, bn, cn, rfl, hok, hL2, ho1, hb1⟩
    have HOK := hide1 hok
    have hL6 := hok.1.2
    have N1 := hide1 (rdZ_of_own ho1)
    have B1 := hide1 hb1
    have CR := hide1 (implRing_any bn L cn w1 (by omega) N1.out (HT.out w1 B1.out))
    clear hok ho1 hb1 CB CD
    go_wp2_with fail
    refine CR.out.mono ?_
    rintro e w2 ⟨bo, co, R, t, rfl, hA2, ho2, hb2⟩
    obtain ⟨rfl, rfl⟩ : R = ringL spotF L ∧ t = true := by
      rcases hA2 with ⟨_, h2, h3⟩ | ⟨h1, _⟩
      · exact ⟨h2, h3⟩
      · exact absurd HOK.out h1
    have hRl : (ringL spotF L).length = 4 * L.length := ringL_len _ _
    have HRW := hide1 (ring_wf HOK.out)
    have HRO := hide1 (show okRing (ringL spotF L) from ⟨L, HOK.out, rfl⟩)
    have HRZ := hide1 (nodesZ_ring HOK.out)
    have HH := hide1 (fun (k : ByteArray) => homes3 HOK.out (hashN k 0 : Int))
    obtain ⟨R, hR⟩ : ∃ R, ringL spotF L = R := ⟨_, rfl⟩
    rw [hR] at ho2 hRl HRW HRO HRZ HH ⊢
    clear hR hA2
    have hR24 : R.length ≤ 24 := by omega
    have HRL := hide1 hRl
    clear hRl
    have G3 := hide1 (And.intro (Blk.new w2 28 #[.slice bo R.length co]) ((Below.refl w2.heap.size w2).alloc (Nat.le_refl _) (.cells #[.slice bo R.length co] 28)))
    have S2 := hide1 (show RdZ w2 bn L ∧ RdP w2 bo R ∧ Below w.heap.size w w2 from ⟨N1.out.later hb2, rdP_of_own ho2, B1.out.trans (hb2.mono B1.out.size)⟩)
    clear ho2 hb2 CR N1 B1
    go_wp2_with fail
    have S3' : Hid (StG w (w2.alloc (.cells #[.slice bo R.length co] 28)) w2.heap.size bn L bo R co) := ⟨S2.out.1.later G3.out.2, S2.out.2.1.later G3.out.2, G3.out.1, S2.out.2.2.trans (G3.out.2.mono S2.out.2.2.size)⟩
    generalize (w2.alloc (.cells #[.slice bo R.length co] 28)) = w3 at S3' ⊢
    clear S2 G3
    have CK := hide1 (implRingOk_any bo R co w3 (by omega) S3'.out.rr HRW.out (HT.out w3 S3'.out.bel))
    unfold riV at CK
    refine CK.out.mono ?_
    rintro e w4 ⟨x4, rfl, hx4, hb4⟩
    obtain rfl : x4 = true := hx4.2 HRO.out
    have S4 := hide1 (S3'.out.later hb4)
    clear hx4 hb4 CK S3'
    have CN := hide1 (implNodes_any bo R co w4 (by omega) S4.out.rr HRW.out)
    unfold riV at CN
    have x := S4.out.vr.cells.2
    go_wp2_with fail
    refine CN.out.mono ?_
    rintro e w5 ⟨b5, c5, rfl, ho5, hb5⟩
    have Z5 := hide1 (rdZ_of_own ho5)
    have S5 := hide1 (S4.out.later hb5)
    have hzl : (nodesZ R).length ≤ 24 := by rw [HRZ.out]; omega
    have CE := hide1 (sameIntsZ_any b5 bn (nodesZ R) L c5 cn w5 (by omega) Z5.out S5.out.rn HRZ.out)
    clear ho5 hb5 CN S4 x Z5
    generalize nodesZ R = nz at *
    go_wp2_with fail
    refine CE.out.mono ?_
    rintro e w6 ⟨rfl, hb6⟩
    have S6 := hide1 (S5.out.later hb6)
    have x := S6.out.vr.cells.2
    have q4 : ((R.length : Int) != 4 * (L.length : Int)) = false := by
      have : (R.length : Int) = 4 * (L.length : Int) := by have := HRL.out; omega
      rw [this]; simp
    clear hb6 CE S5
    have CW := hide1 (CWd.out w6 S6.out.bel)
    go_wp2_with fail
    refine CW.out.mono ?_
    rintro e w7 ⟨ws, wo, wc, rfl, hw29, hw12, hwd, hb7⟩
    have W7 := hide1 hwd
    have HZ := hide1 hw12
    have S7 := hide1 (S6.out.later hb7)
    clear hwd hw12 hb7 CW CWd S6 x
    go_wp2
    go_loopw [7] (fun iv wr => ∃ i : Nat, i ≤ ws.length ∧ iv = .int .i64 (i : Int) ∧ Hid (StG w wr w2.heap.size bn L bo R co) ∧ Hid (Wds wr wo ws)) (fun iv _ => ws.length - (intOf iv).toNat)
    case atStart => exact ⟨0, by omega, rfl, S7, W7⟩
    case round =>
      clear S7 W7
      obtain ⟨i, hi, rfl, S, WD⟩ := hrel
      by_cases c1 : i < ws.length
      · have k1 : (i : Int) < (ws.length : Int) := by omega
        obtain ⟨g, rfl, hg, n0⟩ := WD.out i c1
        have hz : (ws[i]).size ≤ 12 := HZ.out _ (List.getElem_mem c1)
        have HHi := hide1 (HH.out ws[i])
        generalize ws[i] = z at *
        have x0 := S.out.vr.cells.2
        have lx := S.out.vr.cells.1
        have CH := hide1 (fun w' (hb : Below wr.heap.size wr w') => implHome_any bo R co z w' (by omega) (by omega) (S.out.rr.later hb))
        have CM := hide1 (fun w' (hb : Below wr.heap.size wr w') => implHomes_any bo R co z 3 w' (by omega) (by omega) (S.out.rr.later hb) HRW.out)
        unfold riV at CH CM
        rw [show (3 : Int).toNat = 3 from rfl] at CM
        have ZX := hide1 (And.intro x0 n0)
        obtain ⟨M, hM⟩ : ∃ M, homesS R (hashN z 0 : Int) 3 = M := ⟨_, rfl⟩
        obtain ⟨y, hy⟩ : ∃ y, homeS R (hashN z 0 : Int) = y := ⟨_, rfl⟩
        rw [hM, hy] at HHi
        rw [hM] at CM
        rw [hy] at CH
        clear hM hy
        go_wp2
        go_region_held3 (fun w' => w'.cell? ⟨w2.heap.size, 0, none⟩ = some (.slice bo R.length co) ∧ w'.cell? ⟨g, i, none⟩ = some (.string z)) (first | go_keep | exact ⟨(D1.out.cell (p := ⟨w2.heap.size, 0, none⟩) lx).trans ZX.out.1, (D1.out.cell (p := ⟨g, i, none⟩) hg).trans ZX.out.2⟩) ((go_at_call 15; refine (CH.out _ (show Below wr.heap.size wr _ by go_grown)).mono ?_; rintro e wh ⟨rfl, hbh⟩; have D1 : Hid (Below wr.heap.size wr wh) := (show Below wr.heap.size wr _ by go_grown).trans (hbh.mono (by go_size)); clear hbh))
        have y0 := (D1.out.cell (p := ⟨w2.heap.size, 0, none⟩) lx).trans ZX.out.1
        have y1 := (D1.out.cell (p := ⟨g, i, none⟩) hg).trans ZX.out.2
        have hgh : g < wh.heap.size := Nat.lt_of_lt_of_le hg D1.out.size
        have lxh : w2.heap.size < wh.heap.size := Nat.lt_of_lt_of_le lx D1.out.size
        clear x0 n0 CH
        go_wp2
        go_region_held3 (fun w' => w'.cell? ⟨w2.heap.size, 0, none⟩ = some (.slice bo R.length co) ∧ w'.cell? ⟨g, i, none⟩ = some (.string z)) (first | go_keep | exact ⟨(D2.out.cell (p := ⟨w2.heap.size, 0, none⟩) lx).trans ZX.out.1, (D2.out.cell (p := ⟨g, i, none⟩) hg).trans ZX.out.2⟩) ((go_at_call 16; refine (CM.out _ (D1.out.trans ((show Below wh.heap.size wh _ by go_grown).mono D1.out.size))).mono ?_; rintro e wm ⟨lo, lc, rfl, hom, hbm⟩; have D2 : Hid (Below wr.heap.size wr wm) := (D1.out.trans ((show Below wh.heap.size wh _ by go_grown).mono D1.out.size)).trans (hbm.mono (by have := D1.out.size; go_size)); have OM := hide1 (rdZ_of_own hom); have hcm := own_cap1 hom; clear hom hbm))
        have SM := hide1 (S.out.later D2.out)
        have WM := hide1 (WD.out.later D2.out)
        have CI := hide1 (fun n x => lawInZ_any bn L cn x (wm.drewN n) (by omega) (SM.out.rn.later (below_drewN (Below.refl _ _) n)))
        have CI0 := hide1 (fun x => lawInZ_any bn L cn x wm (by omega) SM.out.rn)
        clear y0 y1 ZX CM D1 D2 hgh lxh S WD hg
        obtain ⟨hm1, hm2, hm3, hm4, hm5⟩ := HHi.out
        clear HHi HH
        have hMl := hm1
        have H3 := hide1 hm3
        have H4 := hide1 hm4
        have HLn := hide1 hm1
        have hM2 : 2 ≤ M.length ∧ M.length ≤ 3 := by rw [hm1]; omega
        have yin := hide1 (decide_eq_true hm5)
        have CY := hide1 (CI0.out y)
        rw [yin.out] at CY
        obtain ⟨b0, o0, e0, hb0, v0⟩ := OM.out 0 (by omega)
        have v1 : wm.cell? ⟨b0, o0, none⟩ = some (.int .i64 y) := by rw [← hm2 (by omega)]; simpa using v0
        have q5 : (y != y) = false := by simp
        subst e0
        clear hm1 hm3 hm4 hm5 v0 hMl hm2
        have q6 : (0 : Int) < (M.length : Int) := by omega
        by_cases c3 : L.length < 3
        · have q3 : (L.length : Int) < 3 := by omega
          have q7 : ((M.length : Int) != (L.length : Int)) = false := by
            have : (M.length : Int) = (L.length : Int) := by have := HLn.out; omega
            rw [this]; simp
          go_wp2_with fail
          refine CY.out.mono ?_
          rintro e wx ⟨rfl, hwx⟩
          obtain rfl : wm = wx := hwx.symm
          go_wp2
          go_loopw [11] (fun kv wv => ∃ k : Nat, 1 ≤ k ∧ k ≤ M.length ∧ kv = .int .i64 (k : Int) ∧ Hid (Below wm.heap.size wm wv)) (fun kv _ => M.length - (intOf kv).toNat)
          case atStart => exact ⟨1, by omega, by omega, rfl, hide1 (Below.refl _ _)⟩
          case round =>
            obtain ⟨k, hk1, hk2, rfl, hbel⟩ := hrel
            by_cases c4 : k < M.length
            · have k4 : (k : Int) < (M.length : Int) := by omega
              obtain ⟨b9, o9, e9, hb9, v9⟩ := OM.out k c4
              simp only [Option.some.injEq, Addr.mk.injEq, and_true] at e9
              obtain ⟨rfl, rfl⟩ := e9
              have n9 := (hbel.out.cell (p := ⟨b0, o0 + k, none⟩) hb9).trans v9
              have F1 := hide1 (decide_eq_false (nodup_take H3.out c4))
              have F2 := hide1 (decide_eq_true (H4.out _ (List.getElem_mem c4)))
              have C1 := hide1 (fun w' (hb : Below wr.heap.size wr w') => lawInZ_any (some ⟨b0, o0, none⟩) (M.take k) lc M[k] w' (by rw [List.length_take]; omega) (((OM.out.takeG k).later hbel.out).later hb))
              have C2 := hide1 (fun w' (hb : Below wr.heap.size wr w') => lawInZ_any bn L cn M[k] w' (by omega) ((SM.out.rn.later hbel.out).later hb))
              rw [F1.out, List.length_take, Nat.min_eq_left (Nat.le_of_lt c4)] at C1
              rw [F2.out] at C2
              generalize M[k] = z9 at *
              have k5 : (k : Int) ≤ (lc : Int) := by have := hcm.1; omega
              have k6 : (0 : Int) ≤ (k : Int) := by omega
              have k7 : k ≤ lc := by have := hcm.1; omega
              clear v9 F1 F2 hb9
              go_wp2
              go_region_held3 (fun w' => w'.cell? ⟨b0, o0 + k, none⟩ = some (.int .i64 z9)) (first | go_keep | exact n9) ((first | (have := M1.out; go_at_call 17; refine (C2.out _ (show Below wr.heap.size wr _ by go_grown)).mono ?_; rintro e wq2 ⟨rfl, rfl⟩) | (go_at_call 17; refine (C1.out _ (show Below wr.heap.size wr _ by go_grown)).mono ?_; rintro e wq1 ⟨rfl, rfl⟩; have M1 := hide1 trivial)))
              go_wp2
              go_roundw
              case rel => exact ⟨k + 1, by omega, by omega, by go_num, hide1 (hbel.out.trans ((show Below wr.heap.size wr _ by go_grown).mono hbel.out.size))⟩
              case measure => simp [intOf]; omega
            · have k4 : ¬ (k : Int) < (M.length : Int) := by omega
              have SF := hide1 (SM.out.later hbel.out)
              have WF := hide1 (WM.out.later hbel.out)
              go_wp2
              go_roundw
              case rel => exact ⟨i + 1, by omega, by go_num, SF, WF⟩
              case measure => simp [intOf]; omega
        · have q3 : ¬ (L.length : Int) < 3 := by omega
          have q7 : ((M.length : Int) != 3) = false := by
            have : (M.length : Int) = 3 := by have := HLn.out; omega
            rw [this]; rfl
          go_wp2_with fail
          refine CY.out.mono ?_
          rintro e wx ⟨rfl, hwx⟩
          obtain rfl : wm = wx := hwx.symm
          go_wp2
          go_loopw [11] (fun kv wv => ∃ k : Nat, 1 ≤ k ∧ k ≤ M.length ∧ kv = .int .i64 (k : Int) ∧ Hid (Below wm.heap.size wm wv)) (fun kv _ => M.length - (intOf kv).toNat)
          case atStart => exact ⟨1, by omega, by omega, rfl, hide1 (Below.refl _ _)⟩
          case round =>
            obtain ⟨k, hk1, hk2, rfl, hbel⟩ := hrel
            by_cases c4 : k < M.length
            · have k4 : (k : Int) < (M.length : Int) := by omega
              obtain ⟨b9, o9, e9, hb9, v9⟩ := OM.out k c4
              simp only [Option.some.injEq, Addr.mk.injEq, and_true] at e9
              obtain ⟨rfl, rfl⟩ := e9
              have n9 := (hbel.out.cell (p := ⟨b0, o0 + k, none⟩) hb9).trans v9
              have F1 := hide1 (decide_eq_false (nodup_take H3.out c4))
              have F2 := hide1 (decide_eq_true (H4.out _ (List.getElem_mem c4)))
              have C1 := hide1 (fun w' (hb : Below wr.heap.size wr w') => lawInZ_any (some ⟨b0, o0, none⟩) (M.take k) lc M[k] w' (by rw [List.length_take]; omega) (((OM.out.takeG k).later hbel.out).later hb))
              have C2 := hide1 (fun w' (hb : Below wr.heap.size wr w') => lawInZ_any bn L cn M[k] w' (by omega) ((SM.out.rn.later hbel.out).later hb))
              rw [F1.out, List.length_take, Nat.min_eq_left (Nat.le_of_lt c4)] at C1
              rw [F2.out] at C2
              generalize M[k] = z9 at *
              have k5 : (k : Int) ≤ (lc : Int) := by have := hcm.1; omega
              have k6 : (0 : Int) ≤ (k : Int) := by omega
              have k7 : k ≤ lc := by have := hcm.1; omega
              clear v9 F1 F2 hb9
              go_wp2
              go_region_held3 (fun w' => w'.cell? ⟨b0, o0 + k, none⟩ = some (.int .i64 z9)) (first | go_keep | exact n9) ((first | (have := M1.out; go_at_call 17; refine (C2.out _ (show Below wr.heap.size wr _ by go_grown)).mono ?_; rintro e wq2 ⟨rfl, rfl⟩) | (go_at_call 17; refine (C1.out _ (show Below wr.heap.size wr _ by go_grown)).mono ?_; rintro e wq1 ⟨rfl, rfl⟩; have M1 := hide1 trivial)))
              go_wp2
              go_roundw
              case rel => exact ⟨k + 1, by omega, by omega, by go_num, hide1 (hbel.out.trans ((show Below wr.heap.size wr _ by go_grown).mono hbel.out.size))⟩
              case measure => simp [intOf]; omega
            · have k4 : ¬ (k : Int) < (M.length : Int) := by omega
              have SF := hide1 (SM.out.later hbel.out)
              have WF := hide1 (WM.out.later hbel.out)
              go_wp2
              go_roundw
              case rel => exact ⟨i + 1, by omega, by go_num, SF, WF⟩
              case measure => simp [intOf]; omega
      · have CL := hide1 (implHome_any none [] 0 ⟨#[97]⟩ wr (by simp) (by show 1 ≤ 1048576; omega) (.inl rfl))
        have e0 : homeS [] (hashN ⟨#[97]⟩ 0 : Int) = 0 := rfl
        rw [e0] at CL
        unfold riV at CL
        have k1 : ¬ (i : Int) < (ws.length : Int) := by omega
        have BS := hide1 S.out.bel
        clear e0
        go_wp2_with fail
        refine CL.out.mono ?_
        rintro e wl ⟨rfl, hbl⟩
        have BL := hide1 (BS.out.trans (hbl.mono BS.out.size))
        clear hbl
        go_wp2
        go_ret
        exact ⟨rfl, BL.out⟩
  · have CB := hide1 (big10_yes a len cap w hbig)
    clear hr ht
    go_enter Tryd.func3, Tryd.ntmps3
    go_wp2_with fail
    refine CB.out.mono ?_
    rintro e w0 ⟨rfl, rfl⟩
    go_wp2
    go_ret
    exact ⟨rfl, Below.refl _ _⟩

theorem door_met_FnRings (os : Os) (args : Array Value) : laidMetH Tryd.prog Rows.fnRingsRow.laid ((World.doorLaid Tryd.prog 24 os).forCall (fun _ _ => 0) ⟨#[], args, []⟩).memory :=
  laidMetH_of_parts3 (fuel := 8) (laidMet_of_run' 8 (by kernel_rfl) (by kernel_rfl)) (by kernel_rfl) (by kernel_rfl)

set_option maxRecDepth 100000 in
theorem lifted_FnRings (os : Os) (started : os.Started) (H : Type) (enc : TypeId × Value → H) :
    ReturnsInHanded {} Tryd.checked os 3 .any (fun w args => (Rows.fnRingsSpec.pre enc Tryd.prog Tryd.f3 [] false w args ∧ laidMetH Tryd.prog Rows.fnRingsRow.laid w) ∧ sizedMet enc Tryd.prog Tryd.f3 (OpenSpec.ofChange Rows.fnRingsSpec) false w args)
      (Rows.fnRingsSpec.post enc Tryd.prog Tryd.f3 false true false false) := by
  refine returnsInHanded_of_change_and (C := Tryd.checked) (X := fun w _ => laidMetH Tryd.prog Rows.fnRingsRow.laid w) (fun _ _ _ hh h => h.of_heap hh) (show ownKnob Tryd.prog.godebug = none by kernel_rfl) started (by kernel_rfl) Tryd.func3
    (ChangeSpec.witness_shaped (enc := enc) (C := Tryd.checked) (os := os) (X := fun w _ => laidMetH Tryd.prog Rows.fnRingsRow.laid w) false (World.doorLaid Tryd.prog 24 os) #[.slice none 0 0] 8 rfl (World.shaped_of_RefB (by kernel_rfl) (by kernel_rfl)) (by kernel_rfl) (by kernel_rfl) (by kernel_rfl) (door_met_FnRings os _)) ?_
  intro W base args ds gs before hval0 hW _ _ hL _
  have hval : ∀ (j : Nat) t v, Tryd.f3.params[j]? = some t → args[j]? = some v → Value.okWide Tryd.prog W .any base t v := hval0
  have hW' := hW
  obtain ⟨p, q, hA0, hV, rfl, hfz, hnd⟩ := hW
  have hA : DataW.TrodAll enc Tryd.prog W 0 (fun _ => true) true Tryd.f3.params.toList args.toList ds p := hA0
  rw [Tryd.params3] at hA hval
  obtain ⟨v0, d0, rfl, rfl, h0⟩ := trodAll_one hA
  obtain ⟨rfl, rfl⟩ := trodVars_none hV
  obtain ⟨a0, len0, cap0, rfl⟩ := okWide_slice Tryd.underlying22 (hval 0 22 v0 rfl rfl)
  have k0 := h0
  have lt0 : ∀ x ∈ p, x.block < W.heap.size := by obtain ⟨m, hm⟩ := k0; exact DataW.trod_lt m _ _ _ hm
  have r0 : RowB W a0 len0 := by
    obtain ⟨fuel, hf⟩ := h0
    rcases Go.ChangeShapes.open_ints Tryd.underlying22 Tryd.underlying5 (by kernel_rfl) hf with ⟨hcs, _⟩ | ⟨x, l, c, zs, hcs, _, hl, hm, hz, _, hcell, hwz⟩
    · simp [Value.cells] at hcs
      obtain ⟨rfl, rfl, rfl⟩ := hcs
      exact fun j hj => absurd hj (Nat.not_lt_zero _)
    · simp [Value.cells] at hcs
      obtain ⟨rfl, rfl, rfl⟩ := hcs
      exact rowB_of hl (by simpa using hz) hcell (fun n hn => bounds_u8 (hwz n hn))
  have hX := of_laid_FnRings hL
  clear hA0 hval0
  refine (walk_FnRings a0 len0 cap0 W r0 hX).mono fun e W' ⟨he, bel⟩ => ?_
  subst he
  exact ⟨_, rfl, _, _, _, [], _, [], hW', trodAll_mk1 (shut_bool Tryd.underlying4 _), trodAll_mk1 (Below.trod (show laidOutB Tryd.prog = true by kernel_rfl) (by kernel_rfl) (of_decide_eq_true (by kernel_rfl)) k0 bel lt0), rfl, bel.frame _, fun h => by cases h⟩

theorem row_FnRings : Rows.FnRingsSaid :=
  OpenClaim.holds_of_wide 3 Tryd.f3 rfl rfl rfl rfl rfl rfl rfl ⟨rfl, rfl, rfl, rfl, rfl⟩ rfl rfl rfl rfl rfl (by kernel_rfl) Tryd.func3 (by kernel_rfl)
    (of_decide_eq_true (by kernel_rfl)) (by unfold Func.isWrapper; first | (rw [if_pos (by decide +kernel)]; kernel_rfl) | (rw [if_neg (by decide +kernel)]; exact ⟨rfl, rfl⟩))
    (fun os started H enc _ => lifted_FnRings os started H enc)

theorem proved_FnRings : Rows.FnRingsCardSaid :=
  Claim7.holds_tied_plain_at .later [] Rows.fnRingsCard.laidKinds true Rows.fnRingsCard.stood.harness false
    row_FnRings (fun _ h => by cases h) (by kernel_rfl) (fun _ h => by cases h) fnRings_row_tie rfl ⟨rfl, rfl⟩ (by kernel_rfl) rfl
    (fun f fn hf hfn => by
      obtain rfl : f = 3 := Option.some.inj ((show Tryd.prog.funcNamed Tryd.f3.name = some 3 by kernel_rfl).symm.trans hf) |>.symm
      obtain rfl : fn = Tryd.f3 := (Option.some.inj (Tryd.func3.symm.trans hfn)).symm
      exact ⟨by kernel_rfl, fun j t ht => by
        rw [Tryd.params3] at ht
        have hm : t ∈ ([22] : List TypeId) := by simpa using Array.mem_of_getElem? ht
        have hall : (([22] : List TypeId).all fun u => !Tryd.prog.wantsStandIn u) = true := by kernel_rfl
        exact (show Tryd.prog.wantsStandIn t = false by simpa using List.all_eq_true.1 hall t hm)⟩)
    (by kernel_rfl)
#print axioms proved_FnRings
end Go.Proofs.YtdgpencendphbaaDoor
