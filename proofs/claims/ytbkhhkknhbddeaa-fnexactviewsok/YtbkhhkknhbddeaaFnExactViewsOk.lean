/- ViewsOk answers as its model at every argument. -/
import Derived.Test.YtbkhhkknhbddeaaRows
import Derived.ProofKit
import Derived.OpenShut
import Derived.ShutString
import Derived.ChangeOld
import Derived.Test.YtbkhhkknhbddeaaToVs
import Derived.Test.YtbkhhkknhbddeaaImI
namespace Go.Proofs.Ytbkhhkknhbddeaa
open Go.ChangeShapes Go.WideShapes Go.ChangeAt Go.RowKit
open Go.ChangeMaps (open_string shut_string)
set_option linter.unusedVariables false
set_option maxRecDepth 100000 in
set_option maxHeartbeats 4000000 in
theorem walk_FnExactViewsOk (ao : Option Addr) (L : List Vw) (ca : Nat) (w : World) (hR : RdVs w ao L) (hl : L.length ≤ maxLen) (hw : ∀ s ∈ L, s.l.length ≤ maxLen) :
    Calls Try.prog 4 #[.slice ao L.length ca] w fun e w' => e = .returned (.bool true) ∧ Below w.heap.size w w' := by
  have hl9 : L.length ≤ 9223372036854775807 := by unfold maxLen at hl; omega
  have CZ := hide1 (szIntSS_any ao L ca 1048576 w (Nat.le_refl _) hl9 (fun x hx => by have h1 := hw x hx; unfold maxLen at h1; omega) hR)
  have HR := hide1 hR
  clear hR hw hl hl9
  go_enter Try.func4, Try.ntmps4
  go_wp2_with fail
  refine CZ.out.mono ?_
  rintro e wz ⟨hz, hbz⟩
  clear CZ
  rcases hz with rfl | ⟨r, rfl, hr1, hr2, hr3⟩
  · go_wp2
    go_ret
    exact ⟨rfl, hbz⟩
  · have qr : ¬ ((r : Int) < 0) := by omega
    have qr2 : decide ((r : Int) < 0) = false := decide_eq_false qr
    have HZ := hide1 hr3
    have CT := hide1 (fun W (hb : Below w.heap.size w W) => toIntSS_any ao L ca W hr2 HZ.out (HR.out.later hb))
    have HV := hide1 (show ∀ (M : List Vw), M.map (·.l) = L.map (·.l) → M.length = L.length ∧ (∀ x ∈ M, x.l.length ≤ 1048576) from fun M hm => by
      have e1 : M.length = L.length := by have := congrArg List.length hm; simpa using this
      refine ⟨e1, fun x hx => ?_⟩
      have h2 : x.l ∈ L.map (·.l) := by rw [← hm]; exact List.mem_map_of_mem hx
      obtain ⟨y, hy, e2⟩ := List.mem_map.mp h2
      rw [← e2]
      exact HZ.out y hy)
    have CS := hide1 (show ∀ (W : World) (b : Option Addr) (cb : Nat) (M : List Vw), M.map (·.l) = L.map (·.l) → RdVs W b M → Calls Try.prog 17 #[.slice b L.length cb] W fun e w' => e = .returned (.bool (decide (okViews (L.map (·.l))))) ∧ Below W.heap.size W w' from fun W b cb M hm h => by
      have h1 := specViews_any b M cb W (by rw [(HV.out M hm).1]; exact hr2) (HV.out M hm).2 h
      rw [hm, (HV.out M hm).1] at h1
      exact h1)
    have CI := hide1 (show ∀ (W : World) (b : Option Addr) (cb : Nat) (M : List Vw), M.map (·.l) = L.map (·.l) → RdVs W b M → Calls Try.prog 19 #[.slice b L.length cb] W fun e w' => e = .returned (.bool (decide (okViews (L.map (·.l))))) ∧ Below W.heap.size W w' from fun W b cb M hm h => by
      have h1 := implViews_any b M cb W (by rw [(HV.out M hm).1]; exact hr2) (HV.out M hm).2 h
      rw [hm, (HV.out M hm).1] at h1
      exact h1)
    have CE := hide1 (show ∀ (W : World) (b c : Option Addr) (cb cc : Nat) (M N : List Vw), M.map (·.l) = L.map (·.l) → N.map (·.l) = L.map (·.l) → RdVs W b M → RdVs W c N → Calls Try.prog 20 #[.slice b L.length cb, .slice c L.length cc] W fun e w' => e = .returned (.bool true) ∧ Below W.heap.size W w' from fun W b c cb cc M N hm hn h k => by
      have h1 := eqIntSS_same b c M N cb cc W (by rw [(HV.out M hm).1]; exact hr2) (HV.out M hm).2 (hm.trans hn.symm) h k
      rw [(HV.out M hm).1] at h1
      exact h1)
    clear hr3
    have E_0 := hide1 (hbz)
    clear hbz
    generalize decide (okViews (L.map (·.l))) = g at *
    have qg : (g != g) = false := by cases g <;> rfl
    go_wp2_with fail
    refine (CT.out wz E_0.out).mono ?_
    rintro e w1 ⟨⟨Tb, Tc, TM, rfl, hm, hO⟩, hb⟩
    have E_1 := hide1 (E_0.out.trans ((hb).mono E_0.out.size))
    clear E_0
    have T_1 := hide1 (hO)
    have TH := hide1 hm
    clear hb hO hm
    go_wp2_with fail
    refine (CS.out w1 Tb Tc TM TH.out T_1.out).mono ?_
    rintro e w2 ⟨rfl, hb⟩
    have E_2 := hide1 (E_1.out.trans ((hb).mono E_1.out.size))
    have T_2 := hide1 (T_1.out.later (hb))
    clear E_1 T_1
    clear hb
    go_wp2_with fail
    refine (CT.out w2 E_2.out).mono ?_
    rintro e w3 ⟨⟨Xb, Xc, XM, rfl, hm, hO⟩, hb⟩
    have E_3 := hide1 (E_2.out.trans ((hb).mono E_2.out.size))
    have T_3 := hide1 (T_2.out.later (hb))
    clear E_2 T_2
    have X_3 := hide1 (hO)
    have XH := hide1 hm
    clear hb hO hm
    go_wp2_with fail
    refine (CI.out w3 Xb Xc XM XH.out X_3.out).mono ?_
    rintro e w4 ⟨rfl, hb⟩
    have E_4 := hide1 (E_3.out.trans ((hb).mono E_3.out.size))
    have T_4 := hide1 (T_3.out.later (hb))
    have X_4 := hide1 (X_3.out.later (hb))
    clear E_3 T_3 X_3
    clear hb
    go_wp2_with fail
    refine (CT.out w4 E_4.out).mono ?_
    rintro e w5 ⟨⟨Yb, Yc, YM, rfl, hm, hO⟩, hb⟩
    have E_5 := hide1 (E_4.out.trans ((hb).mono E_4.out.size))
    have T_5 := hide1 (T_4.out.later (hb))
    have X_5 := hide1 (X_4.out.later (hb))
    clear E_4 T_4 X_4
    have Y_5 := hide1 (hO)
    have YH := hide1 hm
    clear hb hO hm
    go_wp2_with fail
    refine (CE.out w5 Xb Yb Xc Yc XM YM XH.out YH.out X_5.out Y_5.out).mono ?_
    rintro e w6 ⟨rfl, hb⟩
    have E_6 := hide1 (E_5.out.trans ((hb).mono E_5.out.size))
    have T_6 := hide1 (T_5.out.later (hb))
    have X_6 := hide1 (X_5.out.later (hb))
    have Y_6 := hide1 (Y_5.out.later (hb))
    clear E_5 T_5 X_5 Y_5
    clear hb
    go_wp2
    go_ret
    exact ⟨rfl, E_6.out⟩

set_option maxRecDepth 100000 in
theorem lifted_FnExactViewsOk (os : Os) (started : os.Started) (H : Type) (enc : TypeId × Value → H) :
    ReturnsInHanded {} Try.checked os 4 .any (Rows.fnExactViewsOkSpec.pre6 enc Try.prog Try.f4 Rows.fnExactViewsOkRow.domain false) (Rows.fnExactViewsOkSpec.post enc Try.prog Try.f4 false true false false) := by
  refine returnsInHanded_of_change (C := Try.checked) (show ownKnob Try.prog.godebug = none by kernel_rfl) started (by kernel_rfl) Try.func4
    (ChangeSpec.witness6 (enc := enc) (C := Try.checked) false ⟨#[], #[.slice none 0 0], []⟩ 8 (by kernel_rfl) (by kernel_rfl) (by kernel_rfl) (by kernel_rfl)) ?_
  intro W base args ds gs before hval0 hW hcnd _
  have hval : ∀ (j : Nat) t v, Try.f4.params[j]? = some t → args[j]? = some v → Value.okWide Try.prog W .any base t v := hval0
  have hW' := hW
  obtain ⟨p, q, hA0, hV, rfl, hfz, hnd⟩ := hW
  have hA : DataW.TrodAll enc Try.prog W 0 (fun _ => true) true Try.f4.params.toList args.toList ds p := hA0
  rw [Try.params4] at hA hval
  obtain ⟨v0, vs0, d0, ds0, p0, q0, hargs, rfl, rfl, h0, r0⟩ := trodAll_cons hA
  obtain ⟨rfl, rfl, rfl⟩ := trodAll_nil r0
  obtain rfl : args = #[v0] := by cases args; simp_all
  obtain ⟨rfl, rfl⟩ := trodVars_none hV
  have k0 := h0
  have lt0 : ∀ x ∈ p0, x.block < W.heap.size := by obtain ⟨m, hm⟩ := k0; exact DataW.trod_lt m _ _ _ hm
  obtain ⟨ao0, l0, ca0, rfl, hR0, hl0, hw0⟩ := open_views (hval 0 33 v0 rfl rfl) h0
  clear hA0 hval0
  try simp only [List.append_nil] at hW'
  refine (walk_FnExactViewsOk ao0 l0 ca0 W hR0 hl0 hw0).mono fun e W' ⟨he, bel⟩ => ?_
  subst he
  exact ⟨_, rfl, _, _, _, [], _, [], hW', trodAll_mk1 (shut_bool Try.underlying4 _), (trodAll_cons_mk (Below.trod (show laidOutB Try.prog = true by kernel_rfl) (by kernel_rfl) (of_decide_eq_true (by kernel_rfl)) k0 bel lt0) trodAll_mk0), rfl, bel.frame _, fun h => by cases h⟩

theorem proved_FnExactViewsOk : Rows.FnExactViewsOkSaid :=
  OpenClaim.holds_of_wide 4 Try.f4 rfl rfl rfl rfl rfl rfl rfl ⟨rfl, rfl, rfl, rfl, rfl⟩ rfl rfl rfl rfl rfl (by kernel_rfl) Try.func4 (by kernel_rfl)
    (of_decide_eq_true (by kernel_rfl)) (by unfold Func.isWrapper; first | (rw [if_pos (by decide +kernel)]; kernel_rfl) | (rw [if_neg (by decide +kernel)]; exact ⟨rfl, rfl⟩))
    (fun os started H enc _ => lifted_FnExactViewsOk os started H enc)
#print axioms proved_FnExactViewsOk
end Go.Proofs.Ytbkhhkknhbddeaa
