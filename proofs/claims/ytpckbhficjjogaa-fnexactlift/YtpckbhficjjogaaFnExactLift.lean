/- Lift answers as its model at every argument. -/
import Derived.Test.YtpckbhficjjogaaRows
import Derived.ProofKit
import Derived.OpenShut
import Derived.ShutString
import Derived.ChangeOld
import Derived.Test.YtpckbhficjjogaaArenaV
import Derived.Test.YtpckbhficjjogaaXRI
namespace Go.Proofs.Ytpckbhficjjogaa
open Go.ChangeShapes Go.WideShapes Go.ChangeAt Go.RowKit
open Go.ChangeMaps (open_string shut_string)
set_option linter.unusedVariables false

set_option maxRecDepth 100000 in
set_option maxHeartbeats 4000000 in
theorem walk_FnExactLift (ao : Option Addr) (l : List Sl) (ca : Nat) (f : Int) (a1 : Int) (w : World) (hR : RdI w ao l) (hl : l.length ≤ maxLen) (hw : ∀ i (h : i < l.length), wfS l[i]) (hf : -9223372036854775808 ≤ f ∧ f ≤ 9223372036854775807) (w1 : (Lit.int .i64 a1).wf = true) :
    Calls Try.prog 10 #[arV ao l.length ca f, .int .i64 a1] w fun e w' => e = .returned (.bool true) ∧ Below w.heap.size w w' := by
  have hq := bounds_i64 w1
  have B0 := fun (w : World) o => (Below.refl w.heap.size w).alloc (Nat.le_refl _) o
  have CZ := hide1 (fun o => szArena_any ao l ca f (w.alloc o) hl (hR.later (B0 w o)) (fun i h => ⟨(hw i h).2.2.1, (hw i h).2.2.2⟩))
  have HR := hide1 hR
  clear hR hw hl hf w1
  unfold arV at CZ ⊢
  go_enter Try.func10, Try.ntmps10
  go_wp2_with fail
  refine (CZ.out _).mono ?_
  rintro e w1 ⟨hr, hb1⟩
  have V0 := hide1 (VarA.box hb1)
  have B1 := hide1 (below_box hb1)
  clear hb1 CZ
  rcases hr with rfl | ⟨r, rfl, hsm⟩
  · go_wp2
    go_ret
    exact ⟨rfl, B1.out⟩
  · have q : decide ((r : Int) < 0) = false := by simp
    have hn := hsm.1
    clear hsm
    obtain ⟨hs1, x0, x1⟩ := V0.out
    have T2 := hide1 (toArena_any ao l ca f w1 hn (HR.out.later B1.out))
    unfold arV at T2
    go_wp2_with fail
    refine T2.out.mono ?_
    rintro e w2 ⟨b, c, rfl, ho2, hb2⟩
    have L3 := hide1 (fun w' (h : RdA w' b l) => (specLift_any b l c f a1 w' hn hq.1 hq.2 h).mono (fun e w'' x => lift_one x))
    have R2 := hide1 (rdA_of_own ho2)
    have B2 := hide1 (B1.out.trans (hb2.mono B1.out.size))
    have V2 := hide1 (V0.out.later hb2)
    clear ho2 hb2 T2 x0 x1
    unfold arV at L3
    go_wp2_with fail
    refine (L3.out _ R2.out).mono ?_
    rintro e w3 ⟨po, L, cp, F, t, rfl, hN, ho3, hb3⟩
    have hL := hN.small
    have HN := hide1 hN
    have B3 := hide1 (B2.out.trans (hb3.mono B2.out.size))
    have V3 := hide1 (V2.out.later hb3)
    have R3 := hide1 (rdA_of_own ho3)
    have P3 := hide1 (own_place ho3)
    have I3 := hide1 (HR.out.later B3.out)
    clear hN ho3 hb3 L3 R2
    obtain ⟨hs3, x0, x1⟩ := V3.out
    have T4 := hide1 (fun o => toArena_any ao l ca f (w3.alloc o) hn (I3.out.later (B0 w3 o)))
    unfold arV at T4 ⊢
    go_wp2_with fail
    refine (T4.out _).mono ?_
    rintro e w4 ⟨b4, c4, rfl, ho4, hb4⟩
    have s4 : w3.heap.size + 1 ≤ w4.heap.size := by have := hb4.size; rw [World.size_alloc] at this; exact this
    have O4 := hide1 (own_base ho4 (show w3.heap.size + 1 ≤ _ by rw [World.size_alloc]; omega))
    have B34 := hide1 (below_box hb4)
    have N4 : Hid (Bnd (w3.heap.size + 1) w4 w.heap.size ao l ca f w3.heap.size po L cp F) := hide1 ⟨by omega, by omega, (fun b hb => by have := (P3.out b 0 hb).2; omega), (fun b o ha hne => by
        have hl0 : 0 < l.length := List.length_pos_iff.2 hne
        obtain ⟨b', o', ha', hg', _⟩ := I3.out 0 hl0
        rw [ha] at ha'; simp at ha'; omega), V3.out.later B34.out, I3.out.later B34.out, VarA.box hb4, R3.out.later B34.out⟩
    have B4 := hide1 (B3.out.trans (B34.out.mono B3.out.size))
    clear ho4 hb4 T4 x0 x1
    have R4 := hide1 (rdA_of_own O4.out)
    have L5 := hide1 (fun o => (implLift_any b4 l c4 f a1 (w4.alloc o) hn hq.1 hq.2 (R4.out.later (B0 w4 o))).mono (fun e w'' x => lift_one x))
    unfold arV at L5
    go_wp2_with fail
    refine (L5.out _).mono ?_
    rintro e w5 ⟨qo, L', cq, F', t', rfl, hN', ho5, hb5⟩
    obtain ⟨rfl, rfl, rfl⟩ := hN'.det HN.out
    have V5 := hide1 (VarA.box hb5)
    have B45 := hide1 (below_box hb5)
    have s5 : w4.heap.size + 1 ≤ w5.heap.size := by have := hb5.size; rw [World.size_alloc] at this; exact this
    have N5 := hide1 (N4.out.later s4 B45.out)
    have X5 := hide1 (own_kept O4.out B45.out)
    have G5 := hide1 (own_base ho5 (show w4.heap.size + 1 ≤ _ by rw [World.size_alloc]; omega))
    have B5 := hide1 (B4.out.trans (B45.out.mono B4.out.size))
    clear hN' ho5 hb5 L5
    obtain ⟨_, c0, c1⟩ := N5.out.v6
    have E6 := hide1 (fun o => eqArena_same qo po L' cq cp F' (w5.alloc o) (by omega) ((rdA_of_own G5.out).later (B0 w5 o)) (N5.out.r6.later (B0 w5 o)))
    unfold arV at E6 ⊢
    have qt : (t' != t') = false := by simp
    go_wp2_with fail
    refine (E6.out _).mono ?_
    rintro e w6 ⟨rfl, hb6⟩
    have V9 := hide1 (VarA.box hb6)
    have B56 := hide1 (below_box hb6)
    have N6 := hide1 (N5.out.later (by omega) B56.out)
    have V6 := hide1 (V5.out.later B56.out)
    have X6 := hide1 (own_kept X5.out B56.out)
    have G6 := hide1 (own_kept G5.out B56.out)
    have B6 := hide1 (B5.out.trans (B56.out.mono B5.out.size))
    have s6 : w5.heap.size < w6.heap.size := V9.out.1
    clear hb6 E6 c0 c1
    obtain ⟨m6, z0, z1⟩ := V6.out
    obtain ⟨n6, x0, x1⟩ := N6.out.v0
    have Z0 := hide1 z0
    have Z1 := hide1 z1
    have X0 := hide1 x0
    have X1 := hide1 x1
    have RX6 := hide1 (rdA_of_own X6.out)
    have CT := hide1 (fun w' (hb : Below w6.heap.size w6 w') => toArena_any ao l ca f w' hn (N6.out.ri.later hb))
    unfold arV at CT
    go_wp2
    go_region_held3 (fun w' => w'.cell? ⟨w4.heap.size, 0, none⟩ = some (.slice b4 l.length c4) ∧ w'.cell? ⟨w4.heap.size, 1, none⟩ = some (.int .i64 f) ∧ w'.cell? ⟨w.heap.size, 0, none⟩ = some (.slice ao l.length ca) ∧ w'.cell? ⟨w.heap.size, 1, none⟩ = some (.int .i64 f)) (first | go_keep | exact ⟨(D7.out.cell m6).trans Z0.out, (D7.out.cell m6).trans Z1.out, (D7.out.cell n6).trans X0.out, (D7.out.cell n6).trans X1.out⟩ | exact ⟨(D8.out.cell m6).trans Z0.out, (D8.out.cell m6).trans Z1.out, (D8.out.cell n6).trans X0.out, (D8.out.cell n6).trans X1.out⟩) ((first | (go_at_call 29; refine (CT.out _ (by go_grown)).mono ?_; rintro e w7 ⟨b7, c7, rfl, ho7, hb7⟩; have D7 : Hid (Below w6.heap.size w6 w7) := (show Below w6.heap.size w6 _ by go_grown).trans hb7; have CE := hide1 (fun w' (hb : Below w7.heap.size w7 w') => eqArena_same b4 b7 l c4 c7 f w' hn (RX6.out.later (D7.out.trans (hb.mono D7.out.size))) ((rdA_of_own ho7).later hb)); unfold arV at CE; clear ho7) | (go_at_call 24; refine (CE.out _ (by go_grown)).mono ?_; rintro e w8 ⟨rfl, hb8⟩; have D8 : Hid (Below w6.heap.size w6 w8) := (D7.out.trans (show Below w6.heap.size w7 _ by go_grown)).trans (hb8.mono (by have := D7.out.size; go_size)); clear hb8)))
    have N8 := hide1 (N6.out.later (by omega) D8.out)
    have V8 := hide1 (V6.out.later D8.out)
    have W9 := hide1 (V9.out.later D8.out)
    have X8 := hide1 (own_kept X6.out D8.out)
    have G8 := hide1 (own_kept G6.out D8.out)
    have B8 := hide1 (B6.out.trans (D8.out.mono B6.out.size))
    have s8 : w6.heap.size ≤ w8.heap.size := D8.out.size
    clear z0 z1 x0 x1 Z0 Z1 X0 X1 CT CE D7 hb7 m6 n6
    obtain ⟨_, z0, z1⟩ := V8.out
    have M8 := hide1 (markArena_any b4 l.length c4 1 f (sls l) (w3.heap.size + 1) w8 hn (by omega) (by omega) X8.out)
    unfold arV at M8
    go_wp2_with fail
    refine M8.out.mono ?_
    rintro e w9 ⟨rfl, _, hg9⟩
    have e9 : ∀ g, (Value.slice b4 l.length c4).ownBlock = some g → w3.heap.size + 1 ≤ g ∧ g < w4.heap.size := fun g hg => O4.out.lt g hg
    have N9 := hide1 (N8.out.below (gbelow hg9 (fun g hg => (e9 g hg).1) (by omega)))
    have W10 := hide1 (W9.out.grown hg9 (fun g hg => by have := e9 g hg; omega))
    have G9 := hide1 (G8.out.kept hg9 (by
      cases hv : (Value.slice qo L'.length cq).ownBlock with
      | none => exact .inl rfl
      | some k => right; intro e; have h1 := G8.out.lt k hv; have h2 := e9 k e.symm; omega))
    have B9 := hide1 (B8.out.trans (gbelow hg9 (B := w.heap.size) (fun g hg => by have := e9 g hg; have := B3.out.size; omega) (by have := B8.out.size; omega)))
    have s9 : w8.heap.size ≤ w9.heap.size := hg9.size
    clear hg9 M8 z0 z1
    obtain ⟨_, d0, d1⟩ := W10.out
    obtain ⟨_, c0, c1⟩ := N9.out.v6
    have ql : decide ((1 : Int) + 5 * (l.length : Int) < 0) = false := by simp; omega
    have E9 := hide1 (eqArena_same qo po L' cq cp F' w9 (by omega) (rdA_of_own G9.out) N9.out.r6)
    unfold arV at E9
    go_wp2_with fail
    refine E9.out.mono ?_
    rintro e w10 ⟨rfl, hb10⟩
    have N10 := hide1 (N9.out.later (by omega) hb10)
    have W11 := hide1 (W10.out.later hb10)
    have G10 := hide1 (own_kept G9.out hb10)
    have B10 := hide1 (B9.out.trans (hb10.mono B9.out.size))
    have s10 : w9.heap.size ≤ w10.heap.size := hb10.size
    clear hb10 E9 d0 d1 c0 c1
    obtain ⟨_, d0, d1⟩ := W11.out
    have M10 := hide1 (markArena_any qo L'.length cq 1 F' (sls L') (w4.heap.size + 1) w10 (by omega) (by omega) (by omega) G10.out)
    unfold arV at M10
    go_wp2_with fail
    refine M10.out.mono ?_
    rintro e w11 ⟨rfl, ho11, hg11⟩
    have e11 : ∀ g, (Value.slice qo L'.length cq).ownBlock = some g → w4.heap.size + 1 ≤ g ∧ g < w5.heap.size := fun g hg => G5.out.lt g hg
    have N11 := hide1 (N10.out.below (gbelow hg11 (fun g hg => by have := e11 g hg; omega) (by omega)))
    have W12 := hide1 (W11.out.grown hg11 (fun g hg => by have := e11 g hg; omega))
    have P11 := hide1 (show RdA w11 qo (patL 1 L'.length) from rdA_of_own (l := patL 1 L'.length) (by rw [patL_length]; exact ho11))
    have B11 := hide1 (B10.out.trans (gbelow hg11 (B := w.heap.size) (fun g hg => by have := e11 g hg; have := B4.out.size; omega) (by have := B10.out.size; omega)))
    have s11 : w10.heap.size ≤ w11.heap.size := hg11.size
    clear hg11 ho11 M10 d0 d1
    obtain ⟨_, d0, d1⟩ := W12.out
    have H11 := hide1 (heldArena_any qo L'.length cq 1 F' w11 (by omega) (by omega) (by omega) P11.out)
    unfold arV at H11
    have qm : ((1 : Int) + 5 * (L'.length : Int) != (1 : Int) + 5 * (L'.length : Int)) = false := by simp
    have qn : decide ((1 : Int) + 5 * (L'.length : Int) < 0) = false := by simp; omega
    go_wp2_with fail
    refine H11.out.mono ?_
    rintro e w12 ⟨rfl, hb12⟩
    have N12 := hide1 (N11.out.later (by omega) hb12)
    have W13 := hide1 (W12.out.later hb12)
    have P12 := hide1 (P11.out.later hb12)
    have B12 := hide1 (B11.out.trans (hb12.mono B11.out.size))
    have s12 : w11.heap.size ≤ w12.heap.size := hb12.size
    clear hb12 H11 d0 d1
    obtain ⟨_, x0, x1⟩ := N12.out.v0
    have T13 := hide1 (toArena_any ao l ca f w12 hn N12.out.ri)
    unfold arV at T13
    go_wp2_with fail
    refine T13.out.mono ?_
    rintro e w13 ⟨b13, c13, rfl, ho13, hb13⟩
    have L14 := hide1 ((implLift_any b13 l c13 f a1 w13 hn hq.1 hq.2 (rdA_of_own ho13)).mono (fun e w'' x => lift_one x))
    have N13 := hide1 (N12.out.later (by omega) hb13)
    have W14 := hide1 (W13.out.later hb13)
    have P13 := hide1 (P12.out.later hb13)
    have B13 := hide1 (B12.out.trans (hb13.mono B12.out.size))
    have s13 : w12.heap.size ≤ w13.heap.size := hb13.size
    clear ho13 hb13 T13 x0 x1
    unfold arV at L14
    go_wp2_with fail
    refine L14.out.mono ?_
    rintro e w14 ⟨ro, L2, cr, F2, t2, rfl, hN2, ho14, hb14⟩
    obtain ⟨rfl, rfl, rfl⟩ := hN2.det HN.out
    have N14 := hide1 (N13.out.later (by omega) hb14)
    have W15 := hide1 (W14.out.later hb14)
    have P14 := hide1 (P13.out.later hb14)
    have B14 := hide1 (B13.out.trans (hb14.mono B13.out.size))
    have R14 := hide1 (rdA_of_own ho14)
    clear hN2 ho14 hb14 L14
    obtain ⟨_, c0, c1⟩ := N14.out.v6
    have E15 := hide1 (fun o => eqArena_same ro po L2 cr cp F2 (w14.alloc o) (by omega) (R14.out.later (B0 w14 o)) (N14.out.r6.later (B0 w14 o)))
    unfold arV at E15 ⊢
    go_wp2_with fail
    refine (E15.out _).mono ?_
    rintro e w15 ⟨rfl, hb15⟩
    have B1415 := hide1 (below_box hb15)
    have W16 := hide1 (W15.out.later B1415.out)
    have P15 := hide1 (P14.out.later B1415.out)
    have B15 := hide1 (B14.out.trans (B1415.out.mono B14.out.size))
    clear hb15 E15 c0 c1
    obtain ⟨_, d0, d1⟩ := W16.out
    have H16 := hide1 (heldArena_any qo L2.length cq 1 F2 w15 (by omega) (by omega) (by omega) P15.out)
    unfold arV at H16
    go_wp2_with fail
    refine H16.out.mono ?_
    rintro e w16 ⟨rfl, hb16⟩
    have B16 := hide1 (B15.out.trans (hb16.mono B15.out.size))
    clear hb16
    go_wp2
    go_ret
    exact ⟨rfl, B16.out⟩

set_option maxRecDepth 100000 in
theorem lifted_FnExactLift (os : Os) (started : os.Started) (H : Type) (enc : TypeId × Value → H) :
    ReturnsInHanded {} Try.checked os 10 .any (Rows.fnExactLiftSpec.pre6 enc Try.prog Try.f10 Rows.fnExactLiftRow.domain false) (Rows.fnExactLiftSpec.post enc Try.prog Try.f10 false true false false) := by
  refine returnsInHanded_of_change (C := Try.checked) (show ownKnob Try.prog.godebug = none by kernel_rfl) started (by kernel_rfl) Try.func10
    (ChangeSpec.witness6 (enc := enc) (C := Try.checked) false ⟨#[], #[.agg #[.slice none 0 0, .int .i64 0], .int .i64 0], []⟩ 8 (by kernel_rfl) (by kernel_rfl) (by kernel_rfl) (by kernel_rfl)) ?_
  intro W base args ds gs before hval0 hW hcnd _
  have hval : ∀ (j : Nat) t v, Try.f10.params[j]? = some t → args[j]? = some v → Value.okWide Try.prog W .any base t v := hval0
  have hW' := hW
  obtain ⟨p, q, hA0, hV, rfl, hfz, hnd⟩ := hW
  have hA : DataW.TrodAll enc Try.prog W 0 (fun _ => true) true Try.f10.params.toList args.toList ds p := hA0
  rw [Try.params10] at hA hval
  obtain ⟨v0, vs0, d0, ds0, p0, q0, hargs, rfl, rfl, h0, r0⟩ := trodAll_cons hA
  obtain ⟨v1, vs1, d1, ds1, p1, q1, rfl, rfl, rfl, h1, r1⟩ := trodAll_cons r0
  obtain ⟨rfl, rfl, rfl⟩ := trodAll_nil r1
  obtain rfl : args = #[v0, v1] := by cases args; simp_all
  obtain ⟨rfl, rfl⟩ := trodVars_none hV
  have k0 := h0
  have lt0 : ∀ x ∈ p0, x.block < W.heap.size := by obtain ⟨m, hm⟩ := k0; exact DataW.trod_lt m _ _ _ hm
  obtain ⟨ao0, l0, ca0, f0, rfl, hR0, hl0, hw0, hf0⟩ := open_arena (hval 0 47 v0 rfl rfl) h0
  obtain ⟨a1, rfl, rfl, rfl, w1⟩ := open_int Try.underlying3 (hval 1 3 v1 rfl rfl) h1
  clear hA0 hval0
  try simp only [List.append_nil] at hW'
  refine (walk_FnExactLift ao0 l0 ca0 f0 a1 W hR0 hl0 hw0 hf0 w1).mono fun e W' ⟨he, bel⟩ => ?_
  subst he
  exact ⟨_, rfl, _, _, _, [], _, [], hW', trodAll_mk1 (shut_bool Try.underlying4 _), (trodAll_cons_mk (Below.trod (show laidOutB Try.prog = true by kernel_rfl) (by kernel_rfl) (of_decide_eq_true (by kernel_rfl)) k0 bel lt0) (trodAll_cons_mk (shut_int Try.underlying3 w1) trodAll_mk0)), rfl, bel.frame _, fun h => by cases h⟩

theorem proved_FnExactLift : Rows.FnExactLiftSaid :=
  OpenClaim.holds_of_wide 10 Try.f10 rfl rfl rfl rfl rfl rfl rfl ⟨rfl, rfl, rfl, rfl, rfl⟩ rfl rfl rfl rfl rfl (by kernel_rfl) Try.func10 (by kernel_rfl)
    (of_decide_eq_true (by kernel_rfl)) (by unfold Func.isWrapper; first | (rw [if_pos (by decide +kernel)]; kernel_rfl) | (rw [if_neg (by decide +kernel)]; exact ⟨rfl, rfl⟩))
    (fun os started H enc _ => lifted_FnExactLift os started H enc)
#print axioms proved_FnExactLift
end Go.Proofs.Ytpckbhficjjogaa
