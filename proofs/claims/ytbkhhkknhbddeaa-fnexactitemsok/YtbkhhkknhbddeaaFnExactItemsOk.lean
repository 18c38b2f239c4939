/- ItemsOk answers as its model at every argument. -/
import Derived.Test.YtbkhhkknhbddeaaRows
import Derived.ProofKit
import Derived.OpenShut
import Derived.ShutString
import Derived.ChangeOld
import Derived.Test.YtbkhhkknhbddeaaToI
import Derived.Test.YtbkhhkknhbddeaaImS
import Derived.Test.YtbkhhkknhbddeaaImI
namespace Go.Proofs.Ytbkhhkknhbddeaa
open Go.ChangeShapes Go.WideShapes Go.ChangeAt Go.RowKit
open Go.ChangeMaps (open_string shut_string)
set_option linter.unusedVariables false
set_option maxRecDepth 100000 in
set_option maxHeartbeats 4000000 in
theorem walk_FnExactItemsOk (ao : Option Addr) (l : List Im) (ca : Nat) (w : World) (hR : RdG imC 3 w ao l) (hl : l.length ≤ maxLen) (hw : ∀ s ∈ l, wfItem s) :
    Calls Try.prog 5 #[.slice ao l.length ca] w fun e w' => e = .returned (.bool true) ∧ Below w.heap.size w w' := by
  have hl9 : l.length ≤ 9223372036854775807 := by unfold maxLen at hl; omega
  have CZ := hide1 (szItemS_any ao l ca 1048576 w (Nat.le_refl _) hl9 hR (fun i h => by have h1 := hw _ (List.getElem_mem h); obtain ⟨h2, h3, _⟩ := h1; unfold maxLen at h2 h3; omega))
  have HR := hide1 hR
  clear hR hw hl hl9
  go_enter Try.func5, Try.ntmps5
  go_wp2_with fail
  refine CZ.out.mono ?_
  rintro e wz ⟨hz, hbz⟩
  clear CZ
  rcases hz with rfl | ⟨r, rfl, hr1, hr2, hr3⟩
  · go_wp2
    go_ret
    exact ⟨rfl, hbz⟩
  · have qr : ¬ ((r : Int) < 0) := by omega
    have qr2 : decide ((r : Int) < 0) = false := decide_eq_false qr
    have HZ := hide1 (show ∀ x ∈ l, x.k.size ≤ 1048576 ∧ x.v.size ≤ 1048576 from fun e he => by obtain ⟨j, hj, rfl⟩ := List.getElem_of_mem he; exact hr3 j hj)
    have CT := hide1 (fun W (hb : Below w.heap.size w W) => toItemS_any ao l ca W hr2 (HR.out.later hb))
    clear hr3
    have E_0 := hide1 (hbz)
    clear hbz
    have CS := hide1 (fun W (b : Option Addr) (cb : Nat) (h : RdG imC 3 W b l) => specItemsOk_any b l cb W (by omega) h)
    have CI := hide1 (fun W (b : Option Addr) (cb : Nat) (h : RdG imC 3 W b l) => implItemsOk_any b l cb W hr2 HZ.out h)
    generalize decide (okIms l) = g at *
    have qg : (g != g) = false := by cases g <;> rfl
    go_wp2_with fail
    refine (CT.out wz E_0.out).mono ?_
    rintro e w1 ⟨tb, tc, rfl, hO, hb⟩
    have E_1 := hide1 (E_0.out.trans ((hb).mono E_0.out.size))
    clear E_0
    have T_1 := hide1 (hO)
    clear hb hO
    go_wp2_with fail
    refine (CS.out w1 tb tc (rdG_of_own encIm.len T_1.out rfl)).mono ?_
    rintro e w2 ⟨rfl, hb⟩
    have E_2 := hide1 (E_1.out.trans ((hb).mono E_1.out.size))
    have T_2 := hide1 (own_kept T_1.out (hb))
    clear E_1 T_1
    clear hb
    go_wp2_with fail
    refine (CT.out w2 E_2.out).mono ?_
    rintro e w3 ⟨xb, xc, rfl, hO, hb⟩
    have E_3 := hide1 (E_2.out.trans ((hb).mono E_2.out.size))
    have T_3 := hide1 (own_kept T_2.out (hb))
    clear E_2 T_2
    have X_3 := hide1 (hO)
    clear hb hO
    go_wp2_with fail
    refine (CI.out w3 xb xc (rdG_of_own encIm.len X_3.out rfl)).mono ?_
    rintro e w4 ⟨rfl, hb⟩
    have E_4 := hide1 (E_3.out.trans ((hb).mono E_3.out.size))
    have T_4 := hide1 (own_kept T_3.out (hb))
    have X_4 := hide1 (own_kept X_3.out (hb))
    clear E_3 T_3 X_3
    clear hb
    go_wp2_with fail
    refine (CT.out w4 E_4.out).mono ?_
    rintro e w5 ⟨yb, yc, rfl, hO, hb⟩
    have E_5 := hide1 (E_4.out.trans ((hb).mono E_4.out.size))
    have T_5 := hide1 (own_kept T_4.out (hb))
    have X_5 := hide1 (own_kept X_4.out (hb))
    clear E_4 T_4 X_4
    have Y_5 := hide1 (hO)
    clear hb hO
    go_wp2_with fail
    refine (eqItemS_same xb yb l xc yc w5 hr2 (rdG_of_own encIm.len X_5.out rfl) (rdG_of_own encIm.len Y_5.out rfl)).mono ?_
    rintro e w6 ⟨rfl, hb⟩
    have E_6 := hide1 (E_5.out.trans ((hb).mono E_5.out.size))
    have T_6 := hide1 (own_kept T_5.out (hb))
    have X_6 := hide1 (own_kept X_5.out (hb))
    have Y_6 := hide1 (own_kept Y_5.out (hb))
    clear E_5 T_5 X_5 Y_5
    clear hb
    go_wp2
    go_ret
    exact ⟨rfl, E_6.out⟩

set_option maxRecDepth 100000 in
theorem lifted_FnExactItemsOk (os : Os) (started : os.Started) (H : Type) (enc : TypeId × Value → H) :
    ReturnsInHanded {} Try.checked os 5 .any (Rows.fnExactItemsOkSpec.pre6 enc Try.prog Try.f5 Rows.fnExactItemsOkRow.domain false) (Rows.fnExactItemsOkSpec.post enc Try.prog Try.f5 false true false false) := by
  refine returnsInHanded_of_change (C := Try.checked) (show ownKnob Try.prog.godebug = none by kernel_rfl) started (by kernel_rfl) Try.func5
    (ChangeSpec.witness6 (enc := enc) (C := Try.checked) false ⟨#[], #[.slice none 0 0], []⟩ 8 (by kernel_rfl) (by kernel_rfl) (by kernel_rfl) (by kernel_rfl)) ?_
  intro W base args ds gs before hval0 hW hcnd _
  have hval : ∀ (j : Nat) t v, Try.f5.params[j]? = some t → args[j]? = some v → Value.okWide Try.prog W .any base t v := hval0
  have hW' := hW
  obtain ⟨p, q, hA0, hV, rfl, hfz, hnd⟩ := hW
  have hA : DataW.TrodAll enc Try.prog W 0 (fun _ => true) true Try.f5.params.toList args.toList ds p := hA0
  rw [Try.params5] at hA hval
  obtain ⟨v0, vs0, d0, ds0, p0, q0, hargs, rfl, rfl, h0, r0⟩ := trodAll_cons hA
  obtain ⟨rfl, rfl, rfl⟩ := trodAll_nil r0
  obtain rfl : args = #[v0] := by cases args; simp_all
  obtain ⟨rfl, rfl⟩ := trodVars_none hV
  have k0 := h0
  have lt0 : ∀ x ∈ p0, x.block < W.heap.size := by obtain ⟨m, hm⟩ := k0; exact DataW.trod_lt m _ _ _ hm
  obtain ⟨ao0, l0, ca0, rfl, hR0, hl0, hw0⟩ := open_items (hval 0 38 v0 rfl rfl) h0
  clear hA0 hval0
  try simp only [List.append_nil] at hW'
  refine (walk_FnExactItemsOk ao0 l0 ca0 W hR0 hl0 hw0).mono fun e W' ⟨he, bel⟩ => ?_
  subst he
  exact ⟨_, rfl, _, _, _, [], _, [], hW', trodAll_mk1 (shut_bool Try.underlying4 _), (trodAll_cons_mk (Below.trod (show laidOutB Try.prog = true by kernel_rfl) (by kernel_rfl) (of_decide_eq_true (by kernel_rfl)) k0 bel lt0) trodAll_mk0), rfl, bel.frame _, fun h => by cases h⟩

theorem proved_FnExactItemsOk : Rows.FnExactItemsOkSaid :=
  OpenClaim.holds_of_wide 5 Try.f5 rfl rfl rfl rfl rfl rfl rfl ⟨rfl, rfl, rfl, rfl, rfl⟩ rfl rfl rfl rfl rfl (by kernel_rfl) Try.func5 (by kernel_rfl)
    (of_decide_eq_true (by kernel_rfl)) (by unfold Func.isWrapper; first | (rw [if_pos (by decide +kernel)]; kernel_rfl) | (rw [if_neg (by decide +kernel)]; exact ⟨rfl, rfl⟩))
    (fun os started H enc _ => lifted_FnExactItemsOk os started H enc)
#print axioms proved_FnExactItemsOk
end Go.Proofs.Ytbkhhkknhbddeaa
