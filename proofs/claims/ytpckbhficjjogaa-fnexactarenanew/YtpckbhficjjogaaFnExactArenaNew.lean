/- ArenaNew answers as its model at every argument. -/
import Derived.Test.YtpckbhficjjogaaRows
import Derived.ProofKit
import Derived.OpenShut
import Derived.ShutString
import Derived.ChangeOld
import Derived.Test.YtpckbhficjjogaaArenaV
import Derived.Test.YtpckbhficjjogaaXRI
namespace Go.Proofs.Ytpckbhficjjogaa
open Go.ChangeShapes Go.WideShapes Go.ChangeAt Go.RowKit
open Go.ChangeMaps (open_string shut_string)
set_option linter.unusedVariables false

theorem implNew_one (n : Int) (w : World) : Calls Try.prog 22 #[.int .i64 n] w fun e w' => MadeA w w' e (NewA n) := by
  refine (implNewA_any n w).mono ?_
  rintro e w' ⟨⟨m, b, c, rfl, h1, h2, rfl, ho⟩ | ⟨rfl, hn⟩, hb⟩
  · refine ⟨some ⟨b, 0, none⟩, newL m m, c, 0, true, by rw [newL_length], .inl ⟨m, rfl, h1, h2, rfl, rfl, rfl⟩, by rw [newL_length]; exact ho, hb⟩
  · exact ⟨none, [], 0, 0, false, rfl, .inr ⟨hn, rfl, rfl, rfl⟩, World.ownsRow_nil _ _ _ _, hb⟩

set_option maxRecDepth 100000 in
set_option maxHeartbeats 2000000 in
theorem walk_FnExactArenaNew (a0 : Int) (w : World) (w0 : (Lit.int .i64 a0).wf = true) :
    Calls Try.prog 6 #[.int .i64 a0] w fun e w' => e = .returned (.bool true) ∧ Below w.heap.size w w' := by
  clear w0
  have B0 := fun (w : World) o => (Below.refl w.heap.size w).alloc (Nat.le_refl _) o
  go_enter Try.func6, Try.ntmps6
  go_wp2_with fail
  refine (specNew_one a0 w).mono ?_
  rintro e w1 ⟨ao, L, ca, F, t, rfl, hN, ho1, hb1⟩
  have hL := hN.small
  have RA1 := hide1 (rdA_of_own ho1)
  have PA1 := hide1 (own_place ho1)
  have HN := hide1 hN
  have HB1 := hide1 hb1
  clear hN ho1 hb1
  unfold arV
  go_wp2_with fail
  refine (implNew_one a0 _).mono ?_
  rintro e w2 ⟨bo, L2, cb, F2, t2, rfl, hN2, ho2, hb2⟩
  obtain ⟨rfl, rfl, rfl⟩ := hN2.det HN.out
  have V3 := hide1 (VarA.box hb2)
  have HB2 := hide1 (below_box hb2)
  have RA2 := hide1 (RA1.out.later HB2.out)
  have hsz2 : w1.heap.size + 1 ≤ w2.heap.size := by have := hb2.size; rw [World.size_alloc] at this; exact this
  have OB2 := hide1 (own_base ho2 (show w1.heap.size + 1 ≤ _ by rw [World.size_alloc]; omega))
  clear hN2 ho2 hb2
  obtain ⟨_, c0, c1⟩ := V3.out
  unfold arV
  have E3 := hide1 (fun o => eqArena_same bo ao L2 cb ca F2 (w2.alloc o) (by omega) ((rdA_of_own OB2.out).later (B0 w2 o)) (RA2.out.later (B0 w2 o)))
  unfold arV at E3
  have qt : (t2 != t2) = false := by simp
  go_wp2_with fail
  refine (E3.out _).mono ?_
  rintro e w4 ⟨rfl, hb4⟩
  have V5 := hide1 (VarA.box hb4)
  have HB4 := hide1 (below_box hb4)
  have V3' := hide1 (V3.out.later HB4.out)
  have RA4 := hide1 (RA2.out.later HB4.out)
  have OB4 := hide1 (own_kept OB2.out HB4.out)
  have PB4 := hide1 (own_place OB2.out)
  clear hb4 E3
  obtain ⟨_, d0, d1⟩ := V5.out
  have M4 := hide1 (markArena_any bo L2.length cb 1 F2 (sls L2) (w1.heap.size + 1) w4 (by omega) (by omega) (by omega) OB4.out)
  unfold arV at M4
  go_wp2_with fail
  refine M4.out.mono ?_
  rintro e w5 ⟨rfl, ho5, hg5⟩
  have hne5 : ∀ g, (Value.slice bo L2.length cb).ownBlock = some g → w1.heap.size + 1 ≤ g ∧ g < w2.heap.size := fun g hg => by
    have := OB2.out.lt g hg
    exact this
  have V5b := hide1 (V5.out.grown hg5 (fun g hg => by have := hne5 g hg; omega))
  have V3b := hide1 (V3'.out.grown hg5 (fun g hg => by have := hne5 g hg; omega))
  have RA5 := hide1 (RA4.out.grown hg5 (fun g b hg hb => by have h1 := hne5 g hg; have h2 := PA1.out b 0 hb; omega))
  have RB5 := hide1 (show RdA w5 bo (patL 1 L2.length) by
    have h := ho5
    rw [show L2.length = (patL 1 L2.length).length from (patL_length _ _).symm] at h
    rw [patL_length] at h
    exact rdA_of_own (l := patL 1 L2.length) (by rw [patL_length]; exact ho5))
  have HB5 := hide1 (gbelow hg5 (B := w.heap.size) (fun g hg => by have := hne5 g hg; have := HB1.out.size; omega) (by have := HB1.out.size; have := HB2.out.size; have := HB4.out.size; omega))
  clear ho5 hg5 M4 d0 d1
  obtain ⟨_, d0, d1⟩ := V5b.out
  have H5 := hide1 (heldArena_any bo L2.length cb 1 F2 w5 (by omega) (by omega) (by omega) RB5.out)
  unfold arV at H5
  have qm : ((1 : Int) + 5 * (L2.length : Int) != (1 : Int) + 5 * (L2.length : Int)) = false := by simp
  have ql : decide ((1 : Int) + 5 * (L2.length : Int) < 0) = false := by simp; omega
  go_wp2_with fail
  refine H5.out.mono ?_
  rintro e w6 ⟨rfl, hb6⟩
  have V5c := hide1 (V5b.out.later hb6)
  have V3c := hide1 (V3b.out.later hb6)
  have RA6 := hide1 (RA5.out.later hb6)
  have RB6 := hide1 (RB5.out.later hb6)
  have HB6 := hide1 hb6
  clear hb6 H5 d0 d1 c0 c1
  go_wp2_with fail
  refine (implNew_one a0 w6).mono ?_
  rintro e w7 ⟨do7, L7, c7, F7, t7, rfl, hN7, ho7, hb7⟩
  obtain ⟨rfl, rfl, rfl⟩ := hN7.det HN.out
  have V3d := hide1 (V3c.out.later hb7)
  have V5d := hide1 (V5c.out.later hb7)
  have RB7 := hide1 (RB6.out.later hb7)
  have RA7 := hide1 (RA6.out.later hb7)
  have RC7 := hide1 (rdA_of_own ho7)
  have HB7 := hide1 hb7
  clear hN7 ho7 hb7
  obtain ⟨_, c0, c1⟩ := V3d.out
  have E8 := hide1 (fun o => eqArena_same do7 ao L7 c7 ca F7 (w7.alloc o) (by omega) (RC7.out.later (B0 w7 o)) (RA7.out.later (B0 w7 o)))
  unfold arV at E8
  unfold arV
  go_wp2_with fail
  refine (E8.out _).mono ?_
  rintro e w9 ⟨rfl, hb9⟩
  have HB9 := hide1 (below_box hb9)
  have V5e := hide1 (V5d.out.later HB9.out)
  have RB9 := hide1 (RB7.out.later HB9.out)
  clear hb9 E8 c0 c1
  obtain ⟨_, d0, d1⟩ := V5e.out
  have H9 := hide1 (heldArena_any bo L7.length cb 1 F7 w9 (by omega) (by omega) (by omega) RB9.out)
  unfold arV at H9
  go_wp2_with fail
  refine H9.out.mono ?_
  rintro e wA ⟨rfl, hbA⟩
  have BA := hide1 ((((HB1.out.trans (HB2.out.mono HB1.out.size)).trans (HB4.out.mono (Nat.le_trans HB1.out.size HB2.out.size))).trans HB5.out))
  have s5 := BA.out.size
  have BB := hide1 (((BA.out.trans (HB6.out.mono s5)).trans (HB7.out.mono (Nat.le_trans s5 HB6.out.size))).trans (HB9.out.mono (Nat.le_trans (Nat.le_trans s5 HB6.out.size) HB7.out.size)))
  have BC := hide1 (BB.out.trans (hbA.mono BB.out.size))
  clear hbA
  go_wp2
  go_ret
  exact ⟨rfl, BC.out⟩

set_option maxRecDepth 100000 in
theorem lifted_FnExactArenaNew (os : Os) (started : os.Started) (H : Type) (enc : TypeId × Value → H) :
    ReturnsInHanded {} Try.checked os 6 .any (Rows.fnExactArenaNewSpec.pre6 enc Try.prog Try.f6 Rows.fnExactArenaNewRow.domain false) (Rows.fnExactArenaNewSpec.post enc Try.prog Try.f6 false true false false) := by
  refine returnsInHanded_of_change (C := Try.checked) (show ownKnob Try.prog.godebug = none by kernel_rfl) started (by kernel_rfl) Try.func6
    (ChangeSpec.witness6 (enc := enc) (C := Try.checked) false ⟨#[], #[.int .i64 0], []⟩ 8 (by kernel_rfl) (by kernel_rfl) (by kernel_rfl) (by kernel_rfl)) ?_
  intro W base args ds gs before hval0 hW hcnd _
  have hval : ∀ (j : Nat) t v, Try.f6.params[j]? = some t → args[j]? = some v → Value.okWide Try.prog W .any base t v := hval0
  have hW' := hW
  obtain ⟨p, q, hA0, hV, rfl, hfz, hnd⟩ := hW
  have hA : DataW.TrodAll enc Try.prog W 0 (fun _ => true) true Try.f6.params.toList args.toList ds p := hA0
  rw [Try.params6] at hA hval
  obtain ⟨v0, vs0, d0, ds0, p0, q0, hargs, rfl, rfl, h0, r0⟩ := trodAll_cons hA
  obtain ⟨rfl, rfl, rfl⟩ := trodAll_nil r0
  obtain rfl : args = #[v0] := by cases args; simp_all
  obtain ⟨rfl, rfl⟩ := trodVars_none hV
  obtain ⟨a0, rfl, rfl, rfl, w0⟩ := open_int Try.underlying3 (hval 0 3 v0 rfl rfl) h0
  clear hA0 hval0
  try simp only [List.append_nil] at hW'
  refine (walk_FnExactArenaNew a0 W w0).mono fun e W' ⟨he, bel⟩ => ?_
  subst he
  exact ⟨_, rfl, _, _, _, [], _, [], hW', trodAll_mk1 (shut_bool Try.underlying4 _), (trodAll_cons_mk (shut_int Try.underlying3 w0) trodAll_mk0), rfl, bel.frame _, fun h => by cases h⟩

theorem proved_FnExactArenaNew : Rows.FnExactArenaNewSaid :=
  OpenClaim.holds_of_wide 6 Try.f6 rfl rfl rfl rfl rfl rfl rfl ⟨rfl, rfl, rfl, rfl, rfl⟩ rfl rfl rfl rfl rfl (by kernel_rfl) Try.func6 (by kernel_rfl)
    (of_decide_eq_true (by kernel_rfl)) (by unfold Func.isWrapper; first | (rw [if_pos (by decide +kernel)]; kernel_rfl) | (rw [if_neg (by decide +kernel)]; exact ⟨rfl, rfl⟩))
    (fun os started H enc _ => lifted_FnExactArenaNew os started H enc)
#print axioms proved_FnExactArenaNew
end Go.Proofs.Ytpckbhficjjogaa
