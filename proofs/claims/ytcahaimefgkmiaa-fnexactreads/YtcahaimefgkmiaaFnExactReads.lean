/- Reads answers as its model at every argument. -/
import Derived.Test.YtcahaimefgkmiaaRows
import Derived.ProofKit
import Derived.OpenShut
import Derived.ShutString
import Derived.ChangeOld
import Derived.Test.YtcahaimefgkmiaaToCl
import Derived.Test.YtcahaimefgkmiaaReD
import Derived.Test.YtcahaimefgkmiaaReS
namespace Go.Proofs.Ytcahaimefgkmiaa
open Go.ChangeShapes Go.WideShapes Go.ChangeAt Go.RowKit
open Go.ChangeMaps (open_string shut_string)
set_option linter.unusedVariables false

set_option maxRecDepth 100000 in
set_option maxHeartbeats 4000000 in
theorem walk_FnExactReads (ao : Option Addr) (l : List Cl) (ca : Nat) (w : World) (hR : RdG clC 9 w ao l) (hl : l.length ≤ maxLen) (hw : ∀ s ∈ l, wfCall s) :
    Calls Try.prog 5 #[.slice ao l.length ca] w fun e w' => e = .returned (.bool true) ∧ Below w.heap.size w w' := by
  have hl9 : l.length ≤ 9223372036854775807 := by unfold maxLen at hl; omega
  have CZ := hide1 (szCallS_any ao l ca 1048576 w (Nat.le_refl _) hl9 hR (fun i h => by have h1 := hw _ (List.getElem_mem h); unfold wfCall maxLen at h1; omega))
  have HR := hide1 hR
  clear hR hw hl hl9
  go_enter Try.func5, Try.ntmps5
  go_wp2_with fail
  refine CZ.out.mono ?_
  rintro e wz ⟨hz, hbz⟩
  clear CZ
  rcases hz with rfl | ⟨r, rfl, hr1, hr2, hr3⟩
  · go_wp2
    go_ret
    exact ⟨rfl, hbz⟩
  · have qr : ¬ ((r : Int) < 0) := by omega
    have qr2 : decide ((r : Int) < 0) = false := decide_eq_false qr
    have HZ := hide1 (show ∀ x ∈ l, x.key.size ≤ 1048576 ∧ x.val.size ≤ 1048576 ∧ x.gt.size ≤ 1048576 from fun e he => by obtain ⟨j, hj, rfl⟩ := List.getElem_of_mem he; exact hr3 j hj)
    have CT := hide1 (fun W (hb : Below w.heap.size w W) => toCallS_any ao l ca W hr2 (HR.out.later hb))
    clear hr3
    have E0 := hide1 hbz
    clear hbz
    have CS := hide1 (fun W (b : Option Addr) (cb : Nat) (h : RdG clC 9 W b l) => specReads_any b l cb W hr2 h)
    have CI := hide1 (fun W (b : Option Addr) (cb : Nat) (h : RdG clC 9 W b l) => implReads_any b l cb W hr2 h)
    generalize bo (Rds l) = g at *
    have qg : (g != g) = false := by cases g <;> rfl
    go_wp2_with fail
    refine (CT.out wz E0.out).mono ?_
    rintro e w1 ⟨tb, tc, rfl, hO, hb⟩
    have E1 := hide1 (E0.out.trans (hb.mono E0.out.size))
    have T1 := hide1 hO
    clear hO
    clear hb E0
    go_wp2_with fail
    refine (CS.out w1 tb tc (rdG_of_own encCl.len T1.out rfl)).mono ?_
    rintro e w2 ⟨rfl, hb⟩
    have E2 := hide1 (E1.out.trans (hb.mono E1.out.size))
    have T2 := hide1 (own_kept T1.out hb)
    clear hb E1 T1
    go_wp2_with fail
    refine (CT.out w2 E2.out).mono ?_
    rintro e w3 ⟨xb, xc, rfl, hO, hb⟩
    have E3 := hide1 (E2.out.trans (hb.mono E2.out.size))
    have T3 := hide1 (own_kept T2.out hb)
    have X3 := hide1 hO
    clear hO
    clear hb E2 T2
    go_wp2_with fail
    refine (CI.out w3 xb xc (rdG_of_own encCl.len X3.out rfl)).mono ?_
    rintro e w4 ⟨rfl, hb⟩
    have E4 := hide1 (E3.out.trans (hb.mono E3.out.size))
    have X4 := hide1 (own_kept X3.out hb)
    clear hb E3 X3
    go_wp2_with fail
    refine (CT.out w4 E4.out).mono ?_
    rintro e w5 ⟨yb, yc, rfl, hO, hb⟩
    have E5 := hide1 (E4.out.trans (hb.mono E4.out.size))
    have X5 := hide1 (own_kept X4.out hb)
    have Y5 := hide1 hO
    clear hO
    clear hb E4 X4
    go_wp2_with fail
    refine (eqCallS_same xb yb l xc yc w5 hr2 (rdG_of_own encCl.len X5.out rfl) (rdG_of_own encCl.len Y5.out rfl)).mono ?_
    rintro e w6 ⟨rfl, hb⟩
    have E6 := hide1 (E5.out.trans (hb.mono E5.out.size))
    clear hb E5
    go_wp2
    go_ret
    exact ⟨rfl, E6.out⟩

set_option maxRecDepth 100000 in
theorem lifted_FnExactReads (os : Os) (started : os.Started) (H : Type) (enc : TypeId × Value → H) :
    ReturnsInHanded {} Try.checked os 5 .any (Rows.fnExactReadsSpec.pre6 enc Try.prog Try.f5 Rows.fnExactReadsRow.domain false) (Rows.fnExactReadsSpec.post enc Try.prog Try.f5 false true false false) := by
  refine returnsInHanded_of_change (C := Try.checked) (show ownKnob Try.prog.godebug = none by kernel_rfl) started (by kernel_rfl) Try.func5
    (ChangeSpec.witness6 (enc := enc) (C := Try.checked) false ⟨#[], #[.slice none 0 0], []⟩ 8 (by kernel_rfl) (by kernel_rfl) (by kernel_rfl) (by kernel_rfl)) ?_
  intro W base args ds gs before hval0 hW hcnd _
  have hval : ∀ (j : Nat) t v, Try.f5.params[j]? = some t → args[j]? = some v → Value.okWide Try.prog W .any base t v := hval0
  have hW' := hW
  obtain ⟨p, q, hA0, hV, rfl, hfz, hnd⟩ := hW
  have hA : DataW.TrodAll enc Try.prog W 0 (fun _ => true) true Try.f5.params.toList args.toList ds p := hA0
  rw [Try.params5] at hA hval
  obtain ⟨v0, vs0, d0, ds0, p0, q0, hargs, rfl, rfl, h0, r0⟩ := trodAll_cons hA
  obtain ⟨rfl, rfl, rfl⟩ := trodAll_nil r0
  obtain rfl : args = #[v0] := by cases args; simp_all
  obtain ⟨rfl, rfl⟩ := trodVars_none hV
  have k0 := h0
  have lt0 : ∀ x ∈ p0, x.block < W.heap.size := by obtain ⟨m, hm⟩ := k0; exact DataW.trod_lt m _ _ _ hm
  obtain ⟨ao0, l0, ca0, rfl, hR0, hl0, hw0⟩ := open_calls (hval 0 29 v0 rfl rfl) h0
  clear hA0 hval0
  try simp only [List.append_nil] at hW'
  refine (walk_FnExactReads ao0 l0 ca0 W hR0 hl0 hw0).mono fun e W' ⟨he, bel⟩ => ?_
  subst he
  exact ⟨_, rfl, _, _, _, [], _, [], hW', trodAll_mk1 (shut_bool Try.underlying4 _), (trodAll_cons_mk (Below.trod (show laidOutB Try.prog = true by kernel_rfl) (by kernel_rfl) (of_decide_eq_true (by kernel_rfl)) k0 bel lt0) trodAll_mk0), rfl, bel.frame _, fun h => by cases h⟩

theorem proved_FnExactReads : Rows.FnExactReadsSaid :=
  OpenClaim.holds_of_wide 5 Try.f5 rfl rfl rfl rfl rfl rfl rfl ⟨rfl, rfl, rfl, rfl, rfl⟩ rfl rfl rfl rfl rfl (by kernel_rfl) Try.func5 (by kernel_rfl)
    (of_decide_eq_true (by kernel_rfl)) (by unfold Func.isWrapper; first | (rw [if_pos (by decide +kernel)]; kernel_rfl) | (rw [if_neg (by decide +kernel)]; exact ⟨rfl, rfl⟩))
    (fun os started H enc _ => lifted_FnExactReads os started H enc)
#print axioms proved_FnExactReads
end Go.Proofs.Ytcahaimefgkmiaa
