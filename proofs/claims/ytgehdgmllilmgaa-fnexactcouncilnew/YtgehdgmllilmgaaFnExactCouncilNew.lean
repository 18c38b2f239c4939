/- CouncilNew answers as its model at every argument. -/
import Derived.Test.YtgehdgmllilmgaaRows
import Derived.ProofKit
import Derived.OpenShut
import Derived.ShutString
import Derived.ChangeOld
import Derived.Test.YtgehdgmllilmgaaMkD
import Derived.Test.YtgehdgmllilmgaaCnI
namespace Go.Proofs.Ytgehdgmllilmgaa
open Go.ChangeShapes Go.WideShapes Go.ChangeAt Go.RowKit
open Go.ChangeMaps (open_string shut_string)
set_option linter.unusedVariables false

set_option maxRecDepth 100000 in
set_option maxHeartbeats 4000000 in
theorem walk_FnExactCouncilNew (a0 a1 : Int) (w : World) (w0 : (Lit.int .i64 a0).wf = true) (w1 : (Lit.int .i64 a1).wf = true) :
    Calls Try.prog 7 #[.int .i64 a0, .int .i64 a1] w fun e w' => e = .returned (.bool true) ∧ Below w.heap.size w w' := by
  clear w0 w1
  have CS := hide1 (specNewC_any (lo := fun _ => True) a0 a1 w (LoLe.all _))
  have CI := hide1 (fun w' => implNewO_any a0 a1 w')
  have HSc := hide1 (new_sc a0 a1)
  generalize newC a0 a1 = c at *
  generalize decide (okNew a0 a1) = b at *
  have qb : (b != b) = false := by cases b <;> rfl
  unfold cnC at CS CI
  go_enter Try.func7, Try.ntmps7
  go_wp2_with fail
  refine CS.out.mono ?_
  rintro e w1 ⟨⟨A, rfl, hA⟩, hb1⟩
  have RA1 := hide1 (hA w1.heap.size (.inr (Nat.le_refl _)))
  have B1 := hide1 hb1
  clear hA hb1 CS
  have F1 := hide1 (And.intro (Blk.new w1 32 #[.slice A.va c.vs.length A.vc, .slice A.ta c.ts.length A.tc, .slice A.na c.ns.length A.nc, .slice A.ca c.ch.length A.cc]) ((Below.refl w1.heap.size w1).alloc (Nat.le_refl _) (.cells #[.slice A.va c.vs.length A.vc, .slice A.ta c.ts.length A.tc, .slice A.na c.ns.length A.nc, .slice A.ca c.ch.length A.cc] 32)))
  go_wp2_with fail
  generalize (w1.alloc (.cells #[.slice A.va c.vs.length A.vc, .slice A.ta c.ts.length A.tc, .slice A.na c.ns.length A.nc, .slice A.ca c.ch.length A.cc] 32)) = u1 at F1 ⊢
  obtain ⟨G1, hG1⟩ : ∃ G, G = w1.heap.size := ⟨_, rfl⟩
  have K1 := hide1 F1.out.1
  have R1 := hide1 (RA1.out.later F1.out.2)
  have BU := hide1 (B1.out.trans (F1.out.2.mono B1.out.size))
  have lG1 : G1 < u1.heap.size := by rw [hG1]; exact F1.out.1.lt
  rw [← hG1] at K1 ⊢
  clear hG1 F1 RA1 B1
  refine (CI.out u1).mono ?_
  rintro e w2 ⟨⟨M, rfl, hM⟩, hb2⟩
  have OM2 := hide1 hM
  have D2 := hide1 hb2
  clear hM hb2
  have F2 := hide1 (And.intro (Blk.new w2 32 #[.slice M.va c.vs.length M.vc, .slice M.ta c.ts.length M.tc, .slice M.na c.ns.length M.nc, .slice M.ca c.ch.length M.cc]) ((Below.refl w2.heap.size w2).alloc (Nat.le_refl _) (.cells #[.slice M.va c.vs.length M.vc, .slice M.ta c.ts.length M.tc, .slice M.na c.ns.length M.nc, .slice M.ca c.ch.length M.cc] 32)))
  have x0 := (cells4 (K1.out.below D2.out lG1)).1
  have x1 := (cells4 (K1.out.below D2.out lG1)).2.1
  have x2 := (cells4 (K1.out.below D2.out lG1)).2.2.1
  have x3 := (cells4 (K1.out.below D2.out lG1)).2.2.2
  have nG : G1 < w2.heap.size := Nat.lt_of_lt_of_le lG1 D2.out.size
  have nG' : G1 ≠ w2.heap.size := by omega
  go_wp2_with fail
  generalize (w2.alloc (.cells #[.slice M.va c.vs.length M.vc, .slice M.ta c.ts.length M.tc, .slice M.na c.ns.length M.nc, .slice M.ca c.ch.length M.cc] 32)) = u2 at F2 ⊢
  obtain ⟨G2, hG2⟩ : ∃ G, G = w2.heap.size := ⟨_, rfl⟩
  have NI := hide1 (show ¬ InA M G2 from fun e => by have := (OM2.out.inA e).2; omega)
  have E2 := hide1 (D2.out.trans (F2.out.2.mono D2.out.size))
  have OM3 := hide1 (OM2.out.kept F2.out.2)
  have K2 := hide1 F2.out.1
  rw [← hG2] at K2 ⊢
  clear hG2 OM2 D2 F2 x0 x1 x2 x3 nG nG'
  refine (eqCouncil_same (lo := fun _ => True) c M A u2.heap.size w1.heap.size (fun _ => True) u2 HSc.out.eq (OwC.rd OM3.out (.inr (Nat.le_refl _)) (LoLe.all _)) (R1.out.later E2.out)).mono ?_
  rintro e w3 ⟨rfl, hb3⟩
  have E3 := hide1 (E2.out.trans (hb3.mono E2.out.size))
  have OM4 := hide1 (OM3.out.kept hb3)
  have K3 := hide1 (K2.out.below hb3 K2.out.lt)
  have lB3 : u1.heap.size ≤ w3.heap.size := E3.out.size
  have x0 := (cells4 K3.out).1
  have x1 := (cells4 K3.out).2.1
  have x2 := (cells4 K3.out).2.2.1
  have x3 := (cells4 K3.out).2.2.2
  have SM := hide1 (HSc.out.sm OM4.out.e)
  have HL := hide1 OM4.out.len
  clear hb3 E2 OM3 K2
  go_wp2_with fail
  refine (markCouncil_own M c 1 u1.heap.size w3 SM.out (by omega) (by omega) OM4.out lB3).mono ?_
  rintro e w4 ⟨rfl, ho4, fr4⟩
  have OM5 := hide1 ho4
  have K4 := hide1 (fr4.blk K3.out NI.out)
  have E4 := hide1 (E3.out.trans (OM4.out.frB fr4 lB3))
  clear ho4 fr4 x0 x1 x2 x3 K3 E3 OM4
  have x0 := (cells4 K4.out).1
  have x1 := (cells4 K4.out).2.1
  have x2 := (cells4 K4.out).2.2.1
  have x3 := (cells4 K4.out).2.2.2
  go_wp2_with fail
  refine (heldCouncil_own M c 1 (fun _ => True) w4.heap.size w4 SM.out HL.out (by omega) (by omega) (OwC.rd OM5.out (.inr (Nat.le_refl _)) (LoLe.all _))).mono ?_
  rintro e w5 ⟨rfl, hb5⟩
  have E5 := hide1 (E4.out.trans (hb5.mono E4.out.size))
  have OM6 := hide1 (OM5.out.kept hb5)
  have K5 := hide1 (K4.out.below hb5 K4.out.lt)
  obtain ⟨me, hme⟩ : ∃ q, mkE 1 M c = q := ⟨_, rfl⟩
  rw [hme]
  have HME := hide1 hme
  have q1 : decide ((me : Int) < 0) = false := by simp
  have q2 : ((me : Int) != (me : Int)) = false := by simp
  clear hb5 x0 x1 x2 x3 K4 E4 OM5 hme
  go_wp2_with fail
  refine (CI.out w5).mono ?_
  rintro e w6 ⟨⟨N, rfl, hN⟩, hb6⟩
  have ON6 := hide1 hN
  have E6 := hide1 (E5.out.trans (hb6.mono E5.out.size))
  have OM7 := hide1 (OM6.out.kept hb6)
  have K6 := hide1 (K5.out.below hb6 K5.out.lt)
  clear hN hb6 K5 E5 OM6
  have F7 := hide1 (And.intro (Blk.new w6 32 #[.slice N.va c.vs.length N.vc, .slice N.ta c.ts.length N.tc, .slice N.na c.ns.length N.nc, .slice N.ca c.ch.length N.cc]) ((Below.refl w6.heap.size w6).alloc (Nat.le_refl _) (.cells #[.slice N.va c.vs.length N.vc, .slice N.ta c.ts.length N.tc, .slice N.na c.ns.length N.nc, .slice N.ca c.ch.length N.cc] 32)))
  have x0 := (cells4 (K1.out.below E6.out lG1)).1
  have x1 := (cells4 (K1.out.below E6.out lG1)).2.1
  have x2 := (cells4 (K1.out.below E6.out lG1)).2.2.1
  have x3 := (cells4 (K1.out.below E6.out lG1)).2.2.2
  have nG : G1 < w6.heap.size := Nat.lt_of_lt_of_le lG1 E6.out.size
  have nG' : G1 ≠ w6.heap.size := by omega
  go_wp2_with fail
  generalize (w6.alloc (.cells #[.slice N.va c.vs.length N.vc, .slice N.ta c.ts.length N.tc, .slice N.na c.ns.length N.nc, .slice N.ca c.ch.length N.cc] 32)) = u7 at F7 ⊢
  have E7 := hide1 (E6.out.trans (F7.out.2.mono E6.out.size))
  have OM8 := hide1 (OM7.out.kept F7.out.2)
  have ON7 := hide1 (ON6.out.kept F7.out.2)
  have K7 := hide1 (K6.out.below F7.out.2 K6.out.lt)
  clear x0 x1 x2 x3 nG nG' F7 K6 E6 OM7 ON6
  refine (eqCouncil_same (lo := fun _ => True) c N A u7.heap.size w1.heap.size (fun _ => True) u7 HSc.out.eq (OwC.rd ON7.out (.inr (Nat.le_refl _)) (LoLe.all _)) (R1.out.later E7.out)).mono ?_
  rintro e w8 ⟨rfl, hb8⟩
  have E8 := hide1 (E7.out.trans (hb8.mono E7.out.size))
  have OM9 := hide1 (OM8.out.kept hb8)
  have K8 := hide1 (K7.out.below hb8 K7.out.lt)
  clear hb8 K7 E7 OM8 ON7
  have x0 := (cells4 K8.out).1
  have x1 := (cells4 K8.out).2.1
  have x2 := (cells4 K8.out).2.2.1
  have x3 := (cells4 K8.out).2.2.2
  go_wp2_with fail
  refine (heldCouncil_own M c 1 (fun _ => True) w8.heap.size w8 SM.out HL.out (by omega) (by omega) (OwC.rd OM9.out (.inr (Nat.le_refl _)) (LoLe.all _))).mono ?_
  rintro e w9 ⟨rfl, hb9⟩
  have E9 := hide1 (E8.out.trans (hb9.mono E8.out.size))
  rw [HME.out]
  clear hb9 x0 x1 x2 x3 K8 E8 OM9
  go_wp2
  go_ret
  exact ⟨rfl, BU.out.trans (E9.out.mono BU.out.size)⟩

set_option maxRecDepth 100000 in
theorem lifted_FnExactCouncilNew (os : Os) (started : os.Started) (H : Type) (enc : TypeId × Value → H) :
    ReturnsInHanded {} Try.checked os 7 .any (Rows.fnExactCouncilNewSpec.pre6 enc Try.prog Try.f7 Rows.fnExactCouncilNewRow.domain false) (Rows.fnExactCouncilNewSpec.post enc Try.prog Try.f7 false true false false) := by
  refine returnsInHanded_of_change (C := Try.checked) (show ownKnob Try.prog.godebug = none by kernel_rfl) started (by kernel_rfl) Try.func7
    (ChangeSpec.witness6 (enc := enc) (C := Try.checked) false ⟨#[], #[.int .i64 0, .int .i64 0], []⟩ 8 (by kernel_rfl) (by kernel_rfl) (by kernel_rfl) (by kernel_rfl)) ?_
  intro W base args ds gs before hval0 hW hcnd _
  have hval : ∀ (j : Nat) t v, Try.f7.params[j]? = some t → args[j]? = some v → Value.okWide Try.prog W .any base t v := hval0
  have hW' := hW
  obtain ⟨p, q, hA0, hV, rfl, hfz, hnd⟩ := hW
  have hA : DataW.TrodAll enc Try.prog W 0 (fun _ => true) true Try.f7.params.toList args.toList ds p := hA0
  rw [Try.params7] at hA hval
  obtain ⟨v0, vs0, d0, ds0, p0, q0, hargs, rfl, rfl, h0, r0⟩ := trodAll_cons hA
  obtain ⟨v1, vs1, d1, ds1, p1, q1, rfl, rfl, rfl, h1, r1⟩ := trodAll_cons r0
  obtain ⟨rfl, rfl, rfl⟩ := trodAll_nil r1
  obtain rfl : args = #[v0, v1] := by cases args; simp_all
  obtain ⟨rfl, rfl⟩ := trodVars_none hV
  obtain ⟨a0, rfl, rfl, rfl, w0⟩ := open_int Try.underlying3 (hval 0 3 v0 rfl rfl) h0
  obtain ⟨a1, rfl, rfl, rfl, w1⟩ := open_int Try.underlying3 (hval 1 3 v1 rfl rfl) h1
  clear hA0 hval0
  try simp only [List.append_nil] at hW'
  refine (walk_FnExactCouncilNew a0 a1 W w0 w1).mono fun e W' ⟨he, bel⟩ => ?_
  subst he
  exact ⟨_, rfl, _, _, _, [], _, [], hW', trodAll_mk1 (shut_bool Try.underlying4 _), (trodAll_cons_mk (shut_int Try.underlying3 w0) (trodAll_cons_mk (shut_int Try.underlying3 w1) trodAll_mk0)), rfl, bel.frame _, fun h => by cases h⟩

theorem proved_FnExactCouncilNew : Rows.FnExactCouncilNewSaid :=
  OpenClaim.holds_of_wide 7 Try.f7 rfl rfl rfl rfl rfl rfl rfl ⟨rfl, rfl, rfl, rfl, rfl⟩ rfl rfl rfl rfl rfl (by kernel_rfl) Try.func7 (by kernel_rfl)
    (of_decide_eq_true (by kernel_rfl)) (by unfold Func.isWrapper; first | (rw [if_pos (by decide +kernel)]; kernel_rfl) | (rw [if_neg (by decide +kernel)]; exact ⟨rfl, rfl⟩))
    (fun os started H enc _ => lifted_FnExactCouncilNew os started H enc)
#print axioms proved_FnExactCouncilNew
end Go.Proofs.Ytgehdgmllilmgaa
