/- When all of a drawn sketch are halved, each guess is half, down: whatever is drawn. -/
import Derived.Test.YthigmdocfjhdlaaRows
import Derived.ProofKit
import Derived.OpenShut
import Derived.ShutString
import Derived.ChangeOld
import Derived.Test.YthigmdocfjhdlaaLawS
namespace Go.Proofs.Ythigmdocfjhdlaa
open Go.ChangeShapes Go.WideShapes Go.ChangeAt Go.RowKit
open Go.ChangeMaps (open_string shut_string)
set_option linter.unusedVariables false

set_option maxRecDepth 100000 in
set_option maxHeartbeats 8000000 in
theorem walk_FnHalves (a : Option Addr) (len cap : Nat) (w : World) (hr : RowB w a len) :
    Calls Try.prog 5 #[.slice a len cap] w fun e w' => e = .returned (.bool true) ∧ Below w.heap.size w w' := by
  by_cases hbig : len ≤ 1048576
  · have CB := hide1 (big5_no a len cap w hbig)
    have CD := hide1 (drawRS_any w a len cap (hr.code hbig))
    clear hr
    go_enter Try.func5, Try.ntmps5
    go_wp2_with fail
    refine CB.out.mono ?_
    rintro e w1 ⟨rfl, rfl⟩
    go_wp2_with fail
    refine CD.out.mono ?_
    rintro e w1 ⟨l, ad, ao, ca, ky, rfl, hok, hky, ho, hb1⟩
    have F1 : Hid (OneK (w1.alloc (.cells #[.slice ao l.length ca, .int .i64 ad] 28)) w1.heap.size ao l ca ad ∧ Below w.heap.size w (w1.alloc (.cells #[.slice ao l.length ca, .int .i64 ad] 28))) := ⟨OneK.box hok ho, hb1.alloc hb1.size _⟩
    have HOK := hide1 hok
    clear hok ho hb1 CB CD
    go_upto_region 4 with fail
    generalize (w1.alloc (.cells #[.slice ao l.length ca, .int .i64 ad] 28)) = w2 at F1 ⊢
    generalize w1.heap.size = A at F1 ⊢
    have K2 := hide1 F1.out.1
    have B2 := hide1 F1.out.2
    clear F1
    obtain ⟨hA2, v0, v1⟩ := K2.out.cells
    have CH := hide1 (halI K2.out (Below.refl _ _))
    go_wp2_with fail
    refine CH.out.mono ?_
    rintro e w3 ⟨po, c, rfl, ho3, hb3⟩
    have F4 : Hid (OneK (w3.alloc (.cells #[.slice po (halfK l).length c, .int .i64 ad] 28)) w3.heap.size po (halfK l) c ad ∧ OneK (w3.alloc (.cells #[.slice po (halfK l).length c, .int .i64 ad] 28)) A ao l ca ad ∧ Below w.heap.size w (w3.alloc (.cells #[.slice po (halfK l).length c, .int .i64 ad] 28))) := ⟨OneK.box HOK.out.half ho3, (K2.out.later hb3).later ((Below.refl _ _).alloc (Nat.le_refl _) _), (B2.out.trans (hb3.mono B2.out.size)).alloc (Nat.le_trans B2.out.size hb3.size) _⟩
    clear ho3 hb3 CH v0 v1 hA2 K2 B2
    go_upto_region 5 with fail
    generalize (w3.alloc (.cells #[.slice po (halfK l).length c, .int .i64 ad] 28)) = w4 at F4 ⊢
    generalize w3.heap.size = T at F4 ⊢
    have CN := hide1 (names5_any w4)
    go_wp2_with fail
    refine CN.out.mono ?_
    rintro e w5 ⟨rfl, hN, hb5⟩
    have KT := hide1 (F4.out.1.later hb5)
    have KA := hide1 (F4.out.2.1.later hb5)
    have B5 := hide1 (F4.out.2.2.trans (hb5.mono F4.out.2.2.size))
    have HN := hide1 hN
    clear F4 CN hN hb5
    generalize w4.heap.size = N at HN ⊢
    go_wp2
    go_loopw [7] (fun iv wr => ∃ i : Nat, i ≤ 12 ∧ iv = .int .i64 (i : Int) ∧ Hid (OneK wr T po (halfK l) c ad) ∧ Hid (OneK wr A ao l ca ad) ∧ Hid (Nms wr N) ∧ Hid (Below w.heap.size w wr)) (fun iv _ => 12 - (intOf iv).toNat)
    case atStart => exact ⟨0, by omega, rfl, KT, KA, HN, B5⟩
    case round =>
      obtain ⟨i, hi, rfl, hT, hA, hNm, hB⟩ := hrel
      by_cases hlt : i < 12
      · have k1 : (i : Int) < 12 := by omega
        have n0 := hNm.out.2 i hlt
        have mN := hNm.out.1
        have hsz := nm5_size i hlt
        obtain ⟨mT, t0, t1⟩ := hT.out.cells
        obtain ⟨mA, a0, a1⟩ := hA.out.cells
        have lh := least_half HOK.out.in15 (nm5 i)
        have hin := leastK_in HOK.out.in15 (nm5 i) 3
        have CI := hide1 (fun w' (h : Below wr.heap.size wr w') => gueI hT.out (nm5 i) hsz h)
        have CS := hide1 (fun w' (h : Below wr.heap.size wr w') => gueS hA.out (nm5 i) hsz h)
        rw [lh] at CI
        generalize leastK l (nm5 i) 3 = v at *
        generalize nm5 i = z at *
        have q2 := quo2 hin.1
        have c1 := hin.1
        have c2 := hin.2
        have qn : (v / 2 != v / 2) = false := by simp
        have wv : IntKind.i64.wrap (v / 2) = v / 2 := IntWalk.i64_in _ ⟨by omega, by omega⟩
        have ZX := hide1 (And.intro t0 (And.intro t1 (And.intro a0 (And.intro a1 n0))))
        clear lh hin
        go_wp2
        go_region_held3 (fun w' => w'.cell? ⟨T, 0, none⟩ = some (.slice po (halfK l).length c) ∧ w'.cell? ⟨T, 1, none⟩ = some (.int .i64 ad) ∧ w'.cell? ⟨A, 0, none⟩ = some (.slice ao l.length ca) ∧ w'.cell? ⟨A, 1, none⟩ = some (.int .i64 ad) ∧ w'.cell? ⟨N, i, none⟩ = some (.string z)) (first | go_keep | exact ⟨(D8.out.cell mT).trans ZX.out.1, (D8.out.cell mT).trans ZX.out.2.1, (D8.out.cell mA).trans ZX.out.2.2.1, (D8.out.cell mA).trans ZX.out.2.2.2.1, (D8.out.cell mN).trans ZX.out.2.2.2.2⟩ | exact ⟨(D7.out.cell mT).trans ZX.out.1, (D7.out.cell mT).trans ZX.out.2.1, (D7.out.cell mA).trans ZX.out.2.2.1, (D7.out.cell mA).trans ZX.out.2.2.2.1, (D7.out.cell mN).trans ZX.out.2.2.2.2⟩) ((first | (go_at_call 13; refine (CS.out _ (D7.out.trans (show Below wr.heap.size w7 _ by go_grown))).mono ?_; rintro e w8 ⟨rfl, hb8⟩; have D8 : Hid (Below wr.heap.size wr w8) := (D7.out.trans (show Below wr.heap.size w7 _ by go_grown)).trans (hb8.mono (by have := D7.out.size; go_size)); clear hb8) | (go_at_call 12; refine (CI.out _ (by go_grown)).mono ?_; rintro e w7 ⟨rfl, hb7⟩; have D7 : Hid (Below wr.heap.size wr w7) := (show Below wr.heap.size wr _ by go_grown).trans (hb7.mono (by go_size)); clear hb7)))
        go_wp2
        go_roundw
        case rel => exact ⟨i + 1, by omega, by go_num, hT.out.later D8.out, hA.out.later D8.out, hNm.out.later D8.out, hB.out.trans (D8.out.mono hB.out.size)⟩
        case measure => simp [intOf]; omega
      · obtain rfl : i = 12 := by omega
        obtain ⟨mT, t0, t1⟩ := hT.out.cells
        have CO := hide1 (okI hT.out (Below.refl _ _))
        have HL := hide1 (halfK_length l)
        go_wp2_with fail
        refine CO.out.mono ?_
        rintro e w9 ⟨rfl, hb9⟩
        obtain ⟨mT9, s0, s1⟩ := (hT.out.later hb9).cells
        obtain ⟨mA9, r0, r1⟩ := (hA.out.later hb9).cells
        have B9 := hide1 (hB.out.trans (hb9.mono hB.out.size))
        have qa : (ad == ad) = true := by simp
        have ql : (((halfK l).length : Int) == (l.length : Int)) = true := by rw [HL.out]; simp
        clear hb9 t0 t1 CO
        go_wp2
        go_ret
        exact ⟨rfl, B9.out⟩
  · have CB := hide1 (big5_yes a len cap w hbig)
    clear hr
    go_enter Try.func5, Try.ntmps5
    go_wp2_with fail
    refine CB.out.mono ?_
    rintro e w1 ⟨rfl, rfl⟩
    go_wp2
    go_ret
    exact ⟨rfl, Below.refl _ _⟩

set_option maxRecDepth 100000 in
theorem lifted_FnHalves (os : Os) (started : os.Started) (H : Type) (enc : TypeId × Value → H) :
    ReturnsInHanded {} Try.checked os 5 .any (Rows.fnHalvesSpec.pre6 enc Try.prog Try.f5 Rows.fnHalvesRow.domain false) (Rows.fnHalvesSpec.post enc Try.prog Try.f5 false true false false) := by
  refine returnsInHanded_of_change (C := Try.checked) (show ownKnob Try.prog.godebug = none by kernel_rfl) started (by kernel_rfl) Try.func5
    (ChangeSpec.witness6 (enc := enc) (C := Try.checked) false ⟨#[], #[.slice none 0 0], []⟩ 8 (by kernel_rfl) (by kernel_rfl) (by kernel_rfl) (by kernel_rfl)) ?_
  intro W base args ds gs before hval0 hW hcnd _
  have hval : ∀ (j : Nat) t v, Try.f5.params[j]? = some t → args[j]? = some v → Value.okWide Try.prog W .any base t v := hval0
  have hW' := hW
  obtain ⟨p, q, hA0, hV, rfl, hfz, hnd⟩ := hW
  have hA : DataW.TrodAll enc Try.prog W 0 (fun _ => true) true Try.f5.params.toList args.toList ds p := hA0
  rw [Try.params5] at hA hval
  obtain ⟨v0, d0, rfl, rfl, h0⟩ := trodAll_one hA
  obtain ⟨rfl, rfl⟩ := trodVars_none hV
  obtain ⟨a0, len0, cap0, rfl⟩ := okWide_slice Try.underlying22 (hval 0 22 v0 rfl rfl)
  have k0 := h0
  have lt0 : ∀ x ∈ p, x.block < W.heap.size := by obtain ⟨m, hm⟩ := k0; exact DataW.trod_lt m _ _ _ hm
  have r0 : RowB W a0 len0 := by
    obtain ⟨fuel, hf⟩ := h0
    rcases open_ints Try.underlying22 Try.underlying5 (by kernel_rfl) hf with ⟨hcs, _⟩ | ⟨x, l, c, zs, hcs, _, hl, hm, hz, _, hcell, hwz⟩
    · simp [Value.cells] at hcs
      obtain ⟨rfl, rfl, rfl⟩ := hcs
      exact fun j hj => absurd hj (Nat.not_lt_zero _)
    · simp [Value.cells] at hcs
      obtain ⟨rfl, rfl, rfl⟩ := hcs
      exact rowB_of hl (by simpa using hz) hcell (fun n hn => bounds_u8 (hwz n hn))
  clear hA0 hval0
  refine (walk_FnHalves a0 len0 cap0 W r0).mono fun e W' ⟨he, bel⟩ => ?_
  subst he
  exact ⟨_, rfl, _, _, _, [], _, [], hW', trodAll_mk1 (shut_bool Try.underlying4 _), trodAll_mk1 (Below.trod (show laidOutB Try.prog = true by kernel_rfl) (by kernel_rfl) (of_decide_eq_true (by kernel_rfl)) k0 bel lt0), rfl, bel.frame _, fun h => by cases h⟩

theorem proved_FnHalves : Rows.FnHalvesSaid :=
  OpenClaim.holds_of_wide 5 Try.f5 rfl rfl rfl rfl rfl rfl rfl ⟨rfl, rfl, rfl, rfl, rfl⟩ rfl rfl rfl rfl rfl (by kernel_rfl) Try.func5 (by kernel_rfl)
    (of_decide_eq_true (by kernel_rfl)) (by unfold Func.isWrapper; first | (rw [if_pos (by decide +kernel)]; kernel_rfl) | (rw [if_neg (by decide +kernel)]; exact ⟨rfl, rfl⟩))
    (fun os started H enc _ => lifted_FnHalves os started H enc)
#print axioms proved_FnHalves
end Go.Proofs.Ythigmdocfjhdlaa
