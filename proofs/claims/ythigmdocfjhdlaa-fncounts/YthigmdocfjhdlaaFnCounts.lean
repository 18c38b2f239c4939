/- A key that is counted in a drawn sketch is guessed one more, or as it was at 15, but when all are halved by it; no other guess is less: whatever is drawn. -/
import Derived.Test.YthigmdocfjhdlaaRows
import Derived.ProofKit
import Derived.OpenShut
import Derived.ShutString
import Derived.ChangeOld
import Derived.Test.YthigmdocfjhdlaaLawS
namespace Go.Proofs.Ythigmdocfjhdlaa
open Go.ChangeShapes Go.WideShapes Go.ChangeAt Go.RowKit
open Go.ChangeMaps (open_string shut_string)
set_option linter.unusedVariables false

set_option maxRecDepth 100000 in
set_option maxHeartbeats 8000000 in
theorem walk_FnCounts (a : Option Addr) (len cap : Nat) (w : World) (hr : RowB w a len) :
    Calls Try.prog 4 #[.slice a len cap] w fun e w' => e = .returned (.bool true) ∧ Below w.heap.size w w' := by
  by_cases hbig : len ≤ 1048576
  · have CB := hide1 (big5_no a len cap w hbig)
    have CD := hide1 (drawRS_any w a len cap (hr.code hbig))
    clear hr
    go_enter Try.func4, Try.ntmps4
    go_wp2_with fail
    refine CB.out.mono ?_
    rintro e w1 ⟨rfl, rfl⟩
    go_wp2_with fail
    refine CD.out.mono ?_
    rintro e w1 ⟨l, ad, ao, ca, ky, rfl, hok, hky, ho, hb1⟩
    have F1 : Hid (OneK (w1.alloc (.cells #[.slice ao l.length ca, .int .i64 ad] 28)) w1.heap.size ao l ca ad ∧ Below w.heap.size w (w1.alloc (.cells #[.slice ao l.length ca, .int .i64 ad] 28))) := ⟨OneK.box hok ho, hb1.alloc hb1.size _⟩
    have HOK := hide1 hok
    clear hok ho hb1 CB CD
    go_upto_region 4 with fail
    generalize (w1.alloc (.cells #[.slice ao l.length ca, .int .i64 ad] 28)) = w2 at F1 ⊢
    generalize w1.heap.size = A at F1 ⊢
    have K2 := hide1 F1.out.1
    have B2 := hide1 F1.out.2
    clear F1
    obtain ⟨hA2, v0, v1⟩ := K2.out.cells
    have CH := hide1 (cntI K2.out ky hky (Below.refl _ _))
    have OKT := hide1 (HOK.out.cnt ky)
    have HC : Hid (cntK l ad ky = if ad + 1 = 100 then (halfK (addK l ky 3), 0) else (addK l ky 3, ad + 1)) := hide1 rfl
    obtain ⟨L, hL⟩ : ∃ L, (cntK l ad ky).1 = L := ⟨_, rfl⟩
    obtain ⟨M, hM⟩ : ∃ M, (cntK l ad ky).2 = M := ⟨_, rfl⟩
    rw [hL, hM] at CH OKT
    have HLM := hide1 (And.intro hL hM)
    clear hL hM
    go_wp2_with fail
    refine CH.out.mono ?_
    rintro e w3 ⟨po, c, rfl, ho3, hb3⟩
    have F4 : Hid (OneK (w3.alloc (.cells #[.slice po L.length c, .int .i64 M] 28)) w3.heap.size po L c M ∧ OneK (w3.alloc (.cells #[.slice po L.length c, .int .i64 M] 28)) A ao l ca ad ∧ Below w.heap.size w (w3.alloc (.cells #[.slice po L.length c, .int .i64 M] 28))) := ⟨OneK.box OKT.out ho3, (K2.out.later hb3).later ((Below.refl _ _).alloc (Nat.le_refl _) _), (B2.out.trans (hb3.mono B2.out.size)).alloc (Nat.le_trans B2.out.size hb3.size) _⟩
    clear ho3 hb3 CH v0 v1 hA2 K2 B2
    go_upto_region 5 with fail
    generalize (w3.alloc (.cells #[.slice po L.length c, .int .i64 M] 28)) = w4 at F4 ⊢
    generalize w3.heap.size = T at F4 ⊢
    have KT := hide1 F4.out.1
    have KA := hide1 F4.out.2.1
    have B4 := hide1 F4.out.2.2
    clear F4
    obtain ⟨hA4, a0, a1⟩ := KA.out.cells
    have G1 := hide1 (gueI KA.out ky hky (Below.refl _ _))
    obtain ⟨gA, hgA⟩ : ∃ x, leastK l ky 3 = x := ⟨_, rfl⟩
    obtain ⟨gB, hgB⟩ : ∃ x, leastK L ky 3 = x := ⟨_, rfl⟩
    rw [hgA] at G1
    have HGA := hide1 hgA
    have HGB := hide1 hgB
    clear hgA hgB
    go_wp2_with fail
    refine G1.out.mono ?_
    rintro e w5 ⟨rfl, hb5⟩
    have KT5 := hide1 (KT.out.later hb5)
    have KA5 := hide1 (KA.out.later hb5)
    have B5 := hide1 (B4.out.trans (hb5.mono B4.out.size))
    clear KT KA B4 hb5 G1 a0 a1 hA4
    obtain ⟨hT5, t0, t1⟩ := KT5.out.cells
    have G2 := hide1 (gueI KT5.out ky hky (Below.refl _ _))
    rw [HGB.out] at G2
    go_wp2_with fail
    refine G2.out.mono ?_
    rintro e w6 ⟨rfl, hb6⟩
    have KT6 := hide1 (KT5.out.later hb6)
    have KA6 := hide1 (KA5.out.later hb6)
    have B6 := hide1 (B5.out.trans (hb6.mono B5.out.size))
    clear KT5 KA5 B5 hb6 G2 t0 t1 hT5
    obtain ⟨hT6, t0, t1⟩ := KT6.out.cells
    have G3 := hide1 (okI KT6.out (Below.refl _ _))
    go_wp2_with fail
    refine G3.out.mono ?_
    rintro e w7 ⟨rfl, hb7⟩
    have KT7 := hide1 (KT6.out.later hb7)
    have KA7 := hide1 (KA6.out.later hb7)
    have B7 := hide1 (B6.out.trans (hb7.mono B6.out.size))
    clear KT6 KA6 B6 hb7 G3 t0 t1 hT6
    obtain ⟨hT7, t0, t1⟩ := KT7.out.cells
    obtain ⟨hA7, a0, a1⟩ := KA7.out.cells
    have l48 := hide1 HOK.out.1
    by_cases c99 : ad = 99
    · have hLM : L = halfK (addK l ky 3) ∧ M = 0 := by
        have h1 := HLM.out
        rw [HC.out, if_pos (by omega)] at h1
        exact ⟨h1.1.symm, h1.2.symm⟩
      have hg7 : gB ≤ 7 := by
        have := least_half (HOK.out.in15.add ky 3) ky
        have hin := leastK_in (HOK.out.in15.add ky 3) ky 3
        rw [← HGB.out, hLM.1, this]
        omega
      have q9 : (ad == 99) = true := by simp [c99]
      have qM : (M == 0) = true := by simp [hLM.2]
      have q7 : decide (gB ≤ 7) = true := by simp [hg7]
      clear hLM
      go_wp2
      go_ret
      exact ⟨by first | rfl | (rw [q7]; rfl) | simp [hg7], B7.out⟩
    · have hLM : L = addK l ky 3 ∧ M = ad + 1 := by
        have h1 := HLM.out
        rw [HC.out, if_neg (by omega)] at h1
        exact ⟨h1.1.symm, h1.2.symm⟩
      have hown : gB = min 15 (gA + 1) := by
        rw [← HGB.out, ← HGA.out, hLM.1]
        exact least_own HOK.out.in15 l48.out ky
      have hinA : 0 ≤ gA ∧ gA ≤ 15 := by rw [← HGA.out]; exact leastK_in HOK.out.in15 ky 3
      have HOWN := hide1 hown
      have HEQ := hide1 hLM
      have adb := HOK.out.2.1
      have adb2 := HOK.out.2.2.1
      have q9 : (ad == 99) = false := by simp [c99]
      clear hLM hown
      have CN := hide1 (names5_any w7)
      go_wp2_with fail
      refine CN.out.mono ?_
      rintro e w9 ⟨rfl, hN, hb9⟩
      have KT9 := hide1 (KT7.out.later hb9)
      have KA9 := hide1 (KA7.out.later hb9)
      have B9 := hide1 (B7.out.trans (hb9.mono B7.out.size))
      have HN := hide1 hN
      clear KT7 KA7 B7 CN hN hb9 t0 t1 a0 a1 hT7 hA7
      generalize w7.heap.size = N at HN ⊢
      go_wp2
      go_loopw [9] (fun iv wr => ∃ i : Nat, i ≤ 12 ∧ iv = .int .i64 (i : Int) ∧ Hid (OneK wr T po L c M) ∧ Hid (OneK wr A ao l ca ad) ∧ Hid (Nms wr N) ∧ Hid (Below w.heap.size w wr)) (fun iv _ => 12 - (intOf iv).toNat)
      case atStart => exact ⟨0, by omega, rfl, KT9, KA9, HN, B9⟩
      case round =>
        obtain ⟨i, hi, rfl, hT, hA, hNm, hB⟩ := hrel
        by_cases hlt : i < 12
        · have k1 : (i : Int) < 12 := by omega
          have n0 := hNm.out.2 i hlt
          have mN := hNm.out.1
          have hsz := nm5_size i hlt
          obtain ⟨mT, t0, t1⟩ := hT.out.cells
          obtain ⟨mA, a0, a1⟩ := hA.out.cells
          have lg : leastK l (nm5 i) 3 ≤ leastK L (nm5 i) 3 := by rw [HEQ.out.1]; exact least_ge HOK.out.in15 l48.out ky (nm5 i) 3
          have CI := hide1 (fun w' (h : Below wr.heap.size wr w') => gueI hT.out (nm5 i) hsz h)
          have CS := hide1 (fun w' (h : Below wr.heap.size wr w') => gueS hA.out (nm5 i) hsz h)
          generalize leastK l (nm5 i) 3 = v at *
          generalize leastK L (nm5 i) 3 = u at *
          generalize nm5 i = z at *
          have qn : decide (u < v) = false := by simp; omega
          have ZX := hide1 (And.intro t0 (And.intro t1 (And.intro a0 (And.intro a1 n0))))
          clear lg
          go_wp2
          go_region_held3 (fun w' => w'.cell? ⟨T, 0, none⟩ = some (.slice po L.length c) ∧ w'.cell? ⟨T, 1, none⟩ = some (.int .i64 M) ∧ w'.cell? ⟨A, 0, none⟩ = some (.slice ao l.length ca) ∧ w'.cell? ⟨A, 1, none⟩ = some (.int .i64 ad) ∧ w'.cell? ⟨N, i, none⟩ = some (.string z)) (first | go_keep | exact ⟨(D8.out.cell mT).trans ZX.out.1, (D8.out.cell mT).trans ZX.out.2.1, (D8.out.cell mA).trans ZX.out.2.2.1, (D8.out.cell mA).trans ZX.out.2.2.2.1, (D8.out.cell mN).trans ZX.out.2.2.2.2⟩ | exact ⟨(D7.out.cell mT).trans ZX.out.1, (D7.out.cell mT).trans ZX.out.2.1, (D7.out.cell mA).trans ZX.out.2.2.1, (D7.out.cell mA).trans ZX.out.2.2.2.1, (D7.out.cell mN).trans ZX.out.2.2.2.2⟩) ((first | (go_at_call 13; refine (CS.out _ (D7.out.trans (show Below wr.heap.size w7 _ by go_grown))).mono ?_; rintro e w8 ⟨rfl, hb8⟩; have D8 : Hid (Below wr.heap.size wr w8) := (D7.out.trans (show Below wr.heap.size w7 _ by go_grown)).trans (hb8.mono (by have := D7.out.size; go_size)); clear hb8) | (go_at_call 12; refine (CI.out _ (by go_grown)).mono ?_; rintro e w7 ⟨rfl, hb7⟩; have D7 : Hid (Below wr.heap.size wr w7) := (show Below wr.heap.size wr _ by go_grown).trans (hb7.mono (by go_size)); clear hb7)))
          go_wp2
          go_roundw
          case rel => exact ⟨i + 1, by omega, by go_num, hT.out.later D8.out, hA.out.later D8.out, hNm.out.later D8.out, hB.out.trans (D8.out.mono hB.out.size)⟩
          case measure => simp [intOf]; omega
        · obtain rfl : i = 12 := by omega
          obtain ⟨mT, t0, t1⟩ := hT.out.cells
          obtain ⟨mA, a0, a1⟩ := hA.out.cells
          have qM : (M == ad + 1) = true := by rw [HEQ.out.2]; simp
          by_cases c15 : gA = 15
          · have e15 : gB = 15 := by have := HOWN.out; omega
            have qa : (gA == 15) = true := by simp [c15]
            have qb : (gB == 15) = true := by simp [e15]
            clear c15 e15
            go_wp2
            go_ret
            exact ⟨rfl, hB.out⟩
          · have e15 : gB = gA + 1 := by have := HOWN.out; omega
            have qa : (gA == 15) = false := by simp [c15]
            have qb : decide (gA < 15) = true := by simp; omega
            have qc : (gB == gA + 1) = true := by simp [e15]
            clear c15 e15
            go_wp2
            go_ret
            exact ⟨rfl, hB.out⟩
  · have CB := hide1 (big5_yes a len cap w hbig)
    clear hr
    go_enter Try.func4, Try.ntmps4
    go_wp2_with fail
    refine CB.out.mono ?_
    rintro e w1 ⟨rfl, rfl⟩
    go_wp2
    go_ret
    exact ⟨rfl, Below.refl _ _⟩

set_option maxRecDepth 100000 in
theorem lifted_FnCounts (os : Os) (started : os.Started) (H : Type) (enc : TypeId × Value → H) :
    ReturnsInHanded {} Try.checked os 4 .any (Rows.fnCountsSpec.pre6 enc Try.prog Try.f4 Rows.fnCountsRow.domain false) (Rows.fnCountsSpec.post enc Try.prog Try.f4 false true false false) := by
  refine returnsInHanded_of_change (C := Try.checked) (show ownKnob Try.prog.godebug = none by kernel_rfl) started (by kernel_rfl) Try.func4
    (ChangeSpec.witness6 (enc := enc) (C := Try.checked) false ⟨#[], #[.slice none 0 0], []⟩ 8 (by kernel_rfl) (by kernel_rfl) (by kernel_rfl) (by kernel_rfl)) ?_
  intro W base args ds gs before hval0 hW hcnd _
  have hval : ∀ (j : Nat) t v, Try.f4.params[j]? = some t → args[j]? = some v → Value.okWide Try.prog W .any base t v := hval0
  have hW' := hW
  obtain ⟨p, q, hA0, hV, rfl, hfz, hnd⟩ := hW
  have hA : DataW.TrodAll enc Try.prog W 0 (fun _ => true) true Try.f4.params.toList args.toList ds p := hA0
  rw [Try.params4] at hA hval
  obtain ⟨v0, d0, rfl, rfl, h0⟩ := trodAll_one hA
  obtain ⟨rfl, rfl⟩ := trodVars_none hV
  obtain ⟨a0, len0, cap0, rfl⟩ := okWide_slice Try.underlying22 (hval 0 22 v0 rfl rfl)
  have k0 := h0
  have lt0 : ∀ x ∈ p, x.block < W.heap.size := by obtain ⟨m, hm⟩ := k0; exact DataW.trod_lt m _ _ _ hm
  have r0 : RowB W a0 len0 := by
    obtain ⟨fuel, hf⟩ := h0
    rcases open_ints Try.underlying22 Try.underlying5 (by kernel_rfl) hf with ⟨hcs, _⟩ | ⟨x, l, c, zs, hcs, _, hl, hm, hz, _, hcell, hwz⟩
    · simp [Value.cells] at hcs
      obtain ⟨rfl, rfl, rfl⟩ := hcs
      exact fun j hj => absurd hj (Nat.not_lt_zero _)
    · simp [Value.cells] at hcs
      obtain ⟨rfl, rfl, rfl⟩ := hcs
      exact rowB_of hl (by simpa using hz) hcell (fun n hn => bounds_u8 (hwz n hn))
  clear hA0 hval0
  refine (walk_FnCounts a0 len0 cap0 W r0).mono fun e W' ⟨he, bel⟩ => ?_
  subst he
  exact ⟨_, rfl, _, _, _, [], _, [], hW', trodAll_mk1 (shut_bool Try.underlying4 _), trodAll_mk1 (Below.trod (show laidOutB Try.prog = true by kernel_rfl) (by kernel_rfl) (of_decide_eq_true (by kernel_rfl)) k0 bel lt0), rfl, bel.frame _, fun h => by cases h⟩

theorem proved_FnCounts : Rows.FnCountsSaid :=
  OpenClaim.holds_of_wide 4 Try.f4 rfl rfl rfl rfl rfl rfl rfl ⟨rfl, rfl, rfl, rfl, rfl⟩ rfl rfl rfl rfl rfl (by kernel_rfl) Try.func4 (by kernel_rfl)
    (of_decide_eq_true (by kernel_rfl)) (by unfold Func.isWrapper; first | (rw [if_pos (by decide +kernel)]; kernel_rfl) | (rw [if_neg (by decide +kernel)]; exact ⟨rfl, rfl⟩))
    (fun os started H enc _ => lifted_FnCounts os started H enc)
#print axioms proved_FnCounts
end Go.Proofs.Ythigmdocfjhdlaa
