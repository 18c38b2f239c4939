/- A drawn table that is cleaned has the same keys and handles, and no cells that are gone: whatever is drawn. -/
import Derived.Test.YthpnakpcbfdfeaaRows
import Derived.ProofKit
import Derived.OpenShut
import Derived.ShutString
import Derived.ChangeOld
import Derived.Test.YthpnakpcbfdfeaaLawQ
namespace Go.Proofs.Ythpnakpcbfdfeaa
open Go.ChangeShapes Go.WideShapes Go.ChangeAt Go.RowKit
open Go.ChangeMaps (open_string shut_string)
set_option linter.unusedVariables false

/-- What is known of the keys of a cleaned table. -/
theorem clean_key {l o X : List Ce} {mv : Int} (h : OkN l o mv) (hX : OkN X [] 0) (he : ∀ z, z.toList ≠ [] → ∀ x, Ent X [] z x ↔ Ent l o z x) {i : Nat} (hi : i < (keysL (sortE (entT X []))).length) :
    (keysL (sortE (entT X [])))[i].toList ≠ [] ∧ (keysL (sortE (entT X [])))[i].size ≤ 12 ∧ skB (seekT X [] (keysL (sortE (entT X [])))[i]) = true ∧ seekT X [] (keysL (sortE (entT X [])))[i] = seekT l o (keysL (sortE (entT X [])))[i] := by
  have hT := okN_iff.2 hX
  have hm := List.getElem_mem hi
  generalize (keysL (sortE (entT X [])))[i] = z at *
  obtain ⟨c, hc, e⟩ := List.mem_map.1 hm
  have hc := (sortE_asc (dis_ent hT)).2.mem_iff.1 hc
  obtain ⟨e1, e2, e3⟩ := ent_seek hT hc
  rw [e] at e1 e2 e3
  exact ⟨e2, e3, by rw [e1]; rfl, seekT_same h hX e2 (he z e2)⟩

set_option maxRecDepth 100000 in
set_option maxHeartbeats 8000000 in
theorem walk_FnCleans (a : Option Addr) (len cap : Nat) (w : World) (hr : RowB w a len) :
    Calls Try.prog 6 #[.slice a len cap] w fun e w' => e = .returned (.bool true) ∧ Below w.heap.size w w' := by
  by_cases hbig : len ≤ 1048576
  · have CB := hide1 (big4_no a len cap w hbig)
    have CD := hide1 (drawRT_any w a len cap (hr.code hbig))
    unfold tbV at CD
    clear hr
    go_enter Try.func6, Try.ntmps6
    go_wp2_with fail
    refine CB.out.mono ?_
    rintro e w1 ⟨rfl, rfl⟩
    go_wp2_with fail
    refine CD.out.mono ?_
    rintro e w1 ⟨l, o, m0, ao, ca, a', ca', ky, rfl, hok, hkin, hky, ho1, ho2, hb1⟩
    obtain ⟨m, hm⟩ : ∃ m : Int, (m0 : Int) = m := ⟨_, rfl⟩
    rw [hm] at hok ⊢
    clear hm
    have F1 : Hid (OneT2 (w1.alloc (.cells #[.slice ao l.length ca, .slice a' o.length ca', .int .i64 m] 29)) w1.heap.size ao l ca a' o ca' m ∧ Below w.heap.size w (w1.alloc (.cells #[.slice ao l.length ca, .slice a' o.length ca', .int .i64 m] 29))) := ⟨OneT2.box hok ho1 ho2, hb1.alloc hb1.size _⟩
    have HOK := hide1 hok
    have HKY := hide1 hky
    have hksz := hky.size.2
    clear hok hkin ho1 ho2 hb1 CB CD hky
    go_upto_region 4 with fail
    generalize (w1.alloc (.cells #[.slice ao l.length ca, .slice a' o.length ca', .int .i64 m] 29)) = w2 at F1 ⊢
    generalize w1.heap.size = A at F1 ⊢
    have K2 := hide1 F1.out.1
    have B2 := hide1 F1.out.2
    clear F1
    obtain ⟨hA2, v0, v1, v2⟩ := K2.out.cells
    have hsm := K2.out.small
    have hl6 := hsm.1
    have ho6 := hsm.2
    have CP := hide1 (implClean_any ao a' l o ca ca' m w2 (by omega) (by omega) K2.out.rd.toJ K2.out.rd'.toJ)
    unfold tbV at CP
    clear hsm
    go_wp2_with fail
    refine CP.out.mono ?_
    rintro e w3 ⟨po, L, cp, po', O, cp', M, t, rfl, hN, hu1, hu2, _, hb3⟩
    have HN := hide1 hN
    have F4 : Hid (OneT2 (w3.alloc (.cells #[.slice po L.length cp, .slice po' O.length cp', .int .i64 M] 29)) A ao l ca a' o ca' m ∧ Blk (w3.alloc (.cells #[.slice po L.length cp, .slice po' O.length cp', .int .i64 M] 29)) w3.heap.size 29 [.slice po L.length cp, .slice po' O.length cp', .int .i64 M] ∧ RdC (w3.alloc (.cells #[.slice po L.length cp, .slice po' O.length cp', .int .i64 M] 29)) po L ∧ RdC (w3.alloc (.cells #[.slice po L.length cp, .slice po' O.length cp', .int .i64 M] 29)) po' O ∧ Below w.heap.size w (w3.alloc (.cells #[.slice po L.length cp, .slice po' O.length cp', .int .i64 M] 29))) :=
      ⟨(K2.out.later hb3).later ((Below.refl _ _).alloc (Nat.le_refl _) _), Blk.new w3 _ _, rdC_of_own (hu1.alloc _), rdC_of_own (hu2.alloc _), (B2.out.trans (hb3.mono B2.out.size)).alloc (Nat.le_trans B2.out.size hb3.size) _⟩
    clear hN hu1 hu2 hb3 CP v0 v1 v2 hA2 K2 B2
    unfold tbV
    go_upto_region 5 with fail
    generalize (w3.alloc (.cells #[.slice po L.length cp, .slice po' O.length cp', .int .i64 M] 29)) = w4 at F4 ⊢
    generalize w3.heap.size = U at F4 ⊢
    have K4 := hide1 F4.out.1
    have B4 := hide1 F4.out.2.2.2.2
    have X4 := hide1 (And.intro F4.out.2.1 (And.intro F4.out.2.2.1 F4.out.2.2.2.1))
    clear F4
    obtain ⟨hA4, v0, v1, v2⟩ := K4.out.cells
    have CP := hide1 (specClean_any ao a' l o ca ca' m w4 (by omega) (by omega) K4.out.rd K4.out.rd')
    unfold tbV at CP
    go_wp2_with fail
    refine CP.out.mono ?_
    rintro e w5 ⟨qo, L2, cq, qo', O2, cq', M2, t2, rfl, hN2, _, _, _, hb5⟩
    obtain ⟨rfl, rfl, rfl, rfl⟩ := hN2.det HN.out
    have F6 : Hid (OneT2 (w5.alloc (.cells #[.slice qo L2.length cq, .slice qo' O2.length cq', .int .i64 M2] 29)) A ao l ca a' o ca' m ∧ Blk (w5.alloc (.cells #[.slice qo L2.length cq, .slice qo' O2.length cq', .int .i64 M2] 29)) U 29 [.slice po L2.length cp, .slice po' O2.length cp', .int .i64 M2] ∧ RdC (w5.alloc (.cells #[.slice qo L2.length cq, .slice qo' O2.length cq', .int .i64 M2] 29)) po L2 ∧ RdC (w5.alloc (.cells #[.slice qo L2.length cq, .slice qo' O2.length cq', .int .i64 M2] 29)) po' O2 ∧ Below w.heap.size w (w5.alloc (.cells #[.slice qo L2.length cq, .slice qo' O2.length cq', .int .i64 M2] 29))) := by
      have bb := hb5.alloc (Nat.le_trans (Nat.le_refl _) hb5.size) (.cells #[.slice qo L2.length cq, .slice qo' O2.length cq', .int .i64 M2] 29)
      exact ⟨K4.out.later bb, X4.out.1.below bb X4.out.1.lt, X4.out.2.1.later bb, X4.out.2.2.later bb, B4.out.trans (bb.mono B4.out.size)⟩
    clear hN2 hb5 CP v0 v1 v2 hA4 K4 B4 X4
    have qt : (t2 != t2) = false := by simp
    unfold tbV
    go_upto_region 6 with fail
    generalize (w5.alloc (.cells #[.slice qo L2.length cq, .slice qo' O2.length cq', .int .i64 M2] 29)) = w7 at F6 ⊢
    have K7 := hide1 F6.out.1
    have B7 := hide1 F6.out.2.2.2.2
    have X7 := hide1 (And.intro F6.out.2.1 (And.intro F6.out.2.2.1 F6.out.2.2.2.1))
    clear F6
    rcases HN.out with ⟨_, hpr, ht⟩ | ⟨_, hL0, hO0, hM0, ht⟩
    · subst ht
      obtain ⟨hO0, hM0, hokX, hgX, hlX, heX⟩ := clean_ok HOK.out hpr
      subst hO0 hM0
      have KU := hide1 (OneT2.mk hokX X7.out.1 X7.out.2.1 X7.out.2.2)
      have KS := hide1 (keys_same HOK.out hokX heX)
      have KL := hide1 (fun i hi => clean_key HOK.out hokX heX (i := i) hi)
      have HG := hide1 hgX
      have HLX := hide1 hlX
      have hks := len_small (okN_iff.2 hokX)
      clear hpr hokX hgX hlX heX X7 HN
      obtain ⟨hU7, u0, u1, u2⟩ := KU.out.cells
      have C1 := hide1 (keyI KU.out (Below.refl _ _))
      have hLs := KU.out.small.1
      generalize keysL (sortE (entT L2 [])) = ks at *
      go_wp2_with fail
      refine C1.out.mono ?_
      rintro e w8 ⟨ko, kc, rfl, hwd, hb8⟩
      have K8 := hide1 (K7.out.later hb8)
      have U8 := hide1 (KU.out.later hb8)
      have B8 := hide1 (B7.out.trans (hb8.mono B7.out.size))
      have W8 := hide1 hwd
      clear hb8 C1 u0 u1 u2 hU7 KU K7 B7 hwd
      go_wp2
      go_loopw [10] (fun iv wr => ∃ i : Nat, i ≤ ks.length ∧ iv = .int .i64 (i : Int) ∧ Hid (OneT2 wr U po L2 cp po' [] cp' 0) ∧ Hid (OneT2 wr A ao l ca a' o ca' m) ∧ Hid (WdT wr ko ks) ∧ Hid (Below w.heap.size w wr)) (fun iv _ => ks.length - (intOf iv).toNat)
      case atStart => exact ⟨0, by omega, rfl, U8, K8, W8, B8⟩
      case round =>
        obtain ⟨i, hi, rfl, hU, hA, hW, hB⟩ := hrel
        by_cases hlt : i < ks.length
        · have k1 : (i : Int) < (ks.length : Int) := by omega
          obtain ⟨N, rfl, mN, n0⟩ := hW.out i hlt
          obtain ⟨mU, u0, u1, u2⟩ := hU.out.cells
          obtain ⟨mA, a0, a1, a2⟩ := hA.out.cells
          obtain ⟨hz1, hz2, hz3, hz4⟩ := KL.out i hlt
          have C1 := hide1 (fun w' (h : Below wr.heap.size wr w') => seekS hA.out ks[i] hz1 hz2 h)
          have C2 := hide1 (fun w' (h : Below wr.heap.size wr w') => seekI hU.out ks[i] hz1 hz2 h)
          rw [hz3, hz4] at C2
          generalize ks[i] = z at *
          generalize skI (seekT l o z) = hv at *
          generalize skB (seekT l o z) = hs at *
          have r2 : (hv != hv) = false := by simp
          have ZX := hide1 (And.intro a0 (And.intro a1 (And.intro a2 (And.intro u0 (And.intro u1 (And.intro u2 n0))))))
          clear hz1 hz2 hz3 hz4
          go_upto_region 14 with fail
          go_region_held3 (fun w' => w'.cell? ⟨A, 0, none⟩ = some (.slice ao l.length ca) ∧ w'.cell? ⟨A, 1, none⟩ = some (.slice a' o.length ca') ∧ w'.cell? ⟨A, 2, none⟩ = some (.int .i64 m) ∧ w'.cell? ⟨N, i, none⟩ = some (.string z)) (first | go_keep | exact ⟨(D6.out.cell mA).trans ZX.out.1, (D6.out.cell mA).trans ZX.out.2.1, (D6.out.cell mA).trans ZX.out.2.2.1, (D6.out.cell mN).trans ZX.out.2.2.2.2.2.2⟩) ((go_at_call 19; refine (C1.out _ (by go_grown)).mono ?_; rintro e w6 ⟨rfl, hb6⟩; have D6 : Hid (Below wr.heap.size wr w6) := (show Below wr.heap.size wr _ by go_grown).trans (hb6.mono (by go_size)); clear hb6))
          have s6 := D6.out.size
          have u0' := (D6.out.cell mU).trans ZX.out.2.2.2.1
          have u1' := (D6.out.cell mU).trans ZX.out.2.2.2.2.1
          have u2' := (D6.out.cell mU).trans ZX.out.2.2.2.2.2.1
          have n0' := (D6.out.cell mN).trans ZX.out.2.2.2.2.2.2
          go_upto_region 15 with fail
          go_region_held3 (fun w' => w'.cell? ⟨U, 0, none⟩ = some (.slice po L2.length cp) ∧ w'.cell? ⟨U, 1, none⟩ = some (.slice po' 0 cp') ∧ w'.cell? ⟨U, 2, none⟩ = some (.int .i64 0) ∧ w'.cell? ⟨N, i, none⟩ = some (.string z)) (first | go_keep | exact ⟨(D7.out.cell mU).trans ZX.out.2.2.2.1, (D7.out.cell mU).trans ZX.out.2.2.2.2.1, (D7.out.cell mU).trans ZX.out.2.2.2.2.2.1, (D7.out.cell mN).trans ZX.out.2.2.2.2.2.2⟩) ((go_at_call 16; refine (C2.out _ (D6.out.trans (show Below wr.heap.size w6 _ by go_grown))).mono ?_; rintro e w7 ⟨rfl, hb7⟩; have D7 : Hid (Below wr.heap.size wr w7) := (D6.out.trans (show Below wr.heap.size w6 _ by go_grown)).trans (hb7.mono (by go_size)); clear hb7))
          go_wp2
          go_roundw
          case rel => exact ⟨i + 1, by omega, by go_num, hU.out.later D7.out, hA.out.later D7.out, hW.out.later D7.out, hB.out.trans (D7.out.mono hB.out.size)⟩
          case measure => simp [intOf]; omega
        · obtain rfl : i = ks.length := by omega
          obtain ⟨W9, hW9⟩ : ∃ x, x = wr := ⟨_, rfl⟩
          subst hW9
          obtain ⟨mU, u0, u1, u2⟩ := hU.out.cells
          go_wp2
          go_loop [15] (fun iv => ∃ i : Nat, i ≤ L2.length ∧ iv = .int .i64 (i : Int)) (fun iv => L2.length - (intOf iv).toNat)
          case atStart => exact ⟨0, by omega, rfl⟩
          case round =>
            obtain ⟨i, hi2, rfl⟩ := hrel
            by_cases hli : i < L2.length
            · have k2 : (i : Int) < (L2.length : Int) := by omega
              obtain ⟨gc, rfl, hgc, h1⟩ := hU.out.rd.at i hli
              obtain ⟨y0, y1⟩ := h1
              have hgg := HG.out L2[i] (List.getElem_mem hli)
              generalize L2[i] = cc at *
              have qg : (cc.h == -2) = false := by simp [hgg]
              clear hgg
              go_wp2
              go_round
              case rel => exact ⟨i + 1, by omega, by go_num⟩
              case measure => simp [intOf]; omega
            · obtain rfl : i = L2.length := by omega
              obtain ⟨mA, a0, a1, a2⟩ := hA.out.cells
              have C3 := hide1 (keyS hA.out (Below.refl _ _))
              rw [← KS.out] at C3
              go_wp2_with fail
              refine C3.out.mono ?_
              rintro e w10 ⟨so, scc, rfl, hws, hb10⟩
              have U10 := hide1 (hU.out.later hb10)
              have A10 := hide1 (hA.out.later hb10)
              have B10 := hide1 (hB.out.trans (hb10.mono hB.out.size))
              have C4 := hide1 (sameT_any ko so ks kc scc w10 (by omega) (hW.out.later hb10) hws)
              clear hb10 hws C3
              go_wp2_with fail
              refine C4.out.mono ?_
              rintro e w11 ⟨rfl, hb11⟩
              have U11 := hide1 (U10.out.later hb11)
              have A11 := hide1 (A10.out.later hb11)
              have B11 := hide1 (B10.out.trans (hb11.mono B10.out.size))
              clear hb11 C4 U10 A10 B10
              obtain ⟨mU2, p0, p1, p2⟩ := U11.out.cells
              have C5 := hide1 (tokI U11.out (Below.refl _ _))
              go_wp2_with fail
              refine C5.out.mono ?_
              rintro e w12 ⟨rfl, hb12⟩
              have B12 := hide1 (B11.out.trans (hb12.mono B11.out.size))
              obtain ⟨mU3, s0, s1, s2⟩ := (U11.out.later hb12).cells
              obtain ⟨mA3, t0, t1, t3⟩ := (A11.out.later hb12).cells
              have ql : ((L2.length : Int) == (l.length : Int)) = true := by rw [HLX.out]; simp
              clear hb12 C5 p0 p1 p2
              go_wp2
              go_ret
              exact ⟨rfl, B12.out⟩
    · subst ht hL0
      have u0 : w7.cell? ⟨U, 0, none⟩ = some (.slice po 0 cp) := X7.out.1.cell 0
      clear HN K7 X7
      go_wp2
      go_ret
      exact ⟨rfl, B7.out⟩
  · have CB := hide1 (big4_yes a len cap w hbig)
    clear hr
    go_enter Try.func6, Try.ntmps6
    go_wp2_with fail
    refine CB.out.mono ?_
    rintro e w1 ⟨rfl, rfl⟩
    go_wp2
    go_ret
    exact ⟨rfl, Below.refl _ _⟩

set_option maxRecDepth 100000 in
theorem lifted_FnCleans (os : Os) (started : os.Started) (H : Type) (enc : TypeId × Value → H) :
    ReturnsInHanded {} Try.checked os 6 .any (Rows.fnCleansSpec.pre6 enc Try.prog Try.f6 Rows.fnCleansRow.domain false) (Rows.fnCleansSpec.post enc Try.prog Try.f6 false true false false) := by
  refine returnsInHanded_of_change (C := Try.checked) (show ownKnob Try.prog.godebug = none by kernel_rfl) started (by kernel_rfl) Try.func6
    (ChangeSpec.witness6 (enc := enc) (C := Try.checked) false ⟨#[], #[.slice none 0 0], []⟩ 8 (by kernel_rfl) (by kernel_rfl) (by kernel_rfl) (by kernel_rfl)) ?_
  intro W base args ds gs before hval0 hW hcnd _
  have hval : ∀ (j : Nat) t v, Try.f6.params[j]? = some t → args[j]? = some v → Value.okWide Try.prog W .any base t v := hval0
  have hW' := hW
  obtain ⟨p, q, hA0, hV, rfl, hfz, hnd⟩ := hW
  have hA : DataW.TrodAll enc Try.prog W 0 (fun _ => true) true Try.f6.params.toList args.toList ds p := hA0
  rw [Try.params6] at hA hval
  obtain ⟨v0, d0, rfl, rfl, h0⟩ := trodAll_one hA
  obtain ⟨rfl, rfl⟩ := trodVars_none hV
  obtain ⟨a0, len0, cap0, rfl⟩ := okWide_slice Try.underlying22 (hval 0 22 v0 rfl rfl)
  have k0 := h0
  have lt0 : ∀ x ∈ p, x.block < W.heap.size := by obtain ⟨m, hm⟩ := k0; exact DataW.trod_lt m _ _ _ hm
  have r0 : RowB W a0 len0 := by
    obtain ⟨fuel, hf⟩ := h0
    rcases open_ints Try.underlying22 Try.underlying5 (by kernel_rfl) hf with ⟨hcs, _⟩ | ⟨x, l, c, zs, hcs, _, hl, hm, hz, _, hcell, hwz⟩
    · simp [Value.cells] at hcs
      obtain ⟨rfl, rfl, rfl⟩ := hcs
      exact fun j hj => absurd hj (Nat.not_lt_zero _)
    · simp [Value.cells] at hcs
      obtain ⟨rfl, rfl, rfl⟩ := hcs
      exact rowB_of hl (by simpa using hz) hcell (fun n hn => bounds_u8 (hwz n hn))
  clear hA0 hval0
  refine (walk_FnCleans a0 len0 cap0 W r0).mono fun e W' ⟨he, bel⟩ => ?_
  subst he
  exact ⟨_, rfl, _, _, _, [], _, [], hW', trodAll_mk1 (shut_bool Try.underlying4 _), trodAll_mk1 (Below.trod (show laidOutB Try.prog = true by kernel_rfl) (by kernel_rfl) (of_decide_eq_true (by kernel_rfl)) k0 bel lt0), rfl, bel.frame _, fun h => by cases h⟩

theorem proved_FnCleans : Rows.FnCleansSaid :=
  OpenClaim.holds_of_wide 6 Try.f6 rfl rfl rfl rfl rfl rfl rfl ⟨rfl, rfl, rfl, rfl, rfl⟩ rfl rfl rfl rfl rfl (by kernel_rfl) Try.func6 (by kernel_rfl)
    (of_decide_eq_true (by kernel_rfl)) (by unfold Func.isWrapper; first | (rw [if_pos (by decide +kernel)]; kernel_rfl) | (rw [if_neg (by decide +kernel)]; exact ⟨rfl, rfl⟩))
    (fun os started H enc _ => lifted_FnCleans os started H enc)
#print axioms proved_FnCleans
end Go.Proofs.Ythpnakpcbfdfeaa
