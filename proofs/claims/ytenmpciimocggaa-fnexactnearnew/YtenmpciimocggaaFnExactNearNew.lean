/- NearNew answers as its model at every argument. -/
import Derived.Test.YtenmpciimocggaaRows
import Derived.ProofKit
import Derived.OpenShut
import Derived.ShutString
import Derived.ChangeOld
import Derived.Test.YtenmpciimocggaaNeNW
import Derived.Test.YtenmpciimocggaaNeBx
namespace Go.Proofs.Ytenmpciimocggaa
open Go.ChangeShapes Go.WideShapes Go.ChangeAt Go.RowKit
open Go.ChangeMaps (open_string shut_string)
set_option linter.unusedVariables false

set_option maxRecDepth 100000 in
set_option maxHeartbeats 4000000 in
theorem walk_FnExactNearNew (a0 : Int) (w : World) (w0 : (Lit.int .i64 a0).wf = true) :
    Calls Try.prog 3 #[.int .i64 a0] w fun e w' => e = .returned (.bool true) ∧ Below w.heap.size w w' := by
  have B0 := fun (w : World) o => (Below.refl w.heap.size w).alloc (Nat.le_refl _) o
  have C1 := hide1 (specNewN_any a0 w)
  have C2 := hide1 (fun w' => implNewN_any a0 w')
  have HL := hide1 (newQ_small a0)
  generalize newQ a0 = N at *
  generalize okNew a0 = t at *
  clear w0
  unfold neV at C1 C2
  go_enter Try.func3, Try.ntmps3
  go_wp2_with fail
  refine C1.out.mono ?_
  rintro e w3 ⟨P, rfl, ho3, hb3⟩
  have O3 := hide1 ho3
  have P3 := hide1 (fun v hv g hg => (ho3.lt v hv g hg).2)
  have B3 := hide1 hb3
  clear ho3 hb3 C1
  go_wp2_with fail
  refine (C2.out _).mono ?_
  rintro e w5 ⟨Q, rfl, ho5, hb5⟩
  obtain ⟨v5, b35, s5⟩ := nbox_new hb5
  have V5 := hide1 v5
  have B35 := hide1 b35
  have G5 := hide1 (OwnN.base (B' := w3.heap.size + 1) ho5 (by rw [World.size_alloc]; omega))
  have O5 := hide1 (O3.out.later b35)
  have B5 := hide1 (B3.out.trans (b35.mono B3.out.size))
  clear v5 b35 ho5 hb5 O3
  obtain ⟨_, c0, c1, c2, c3, c4, c5, c6, c7, c8, c9, c10, c11, c12, c13⟩ := nbox V5.out
  have E6 := hide1 (fun o1 => eqNear_same Q P N (w5.alloc o1) HL.out (G5.out.rd.later (B0 w5 o1)) (O5.out.rd.later (B0 w5 o1)))
  unfold neV at E6
  have qt : (t != t) = false := by simp
  go_wp2_with fail
  refine (E6.out _).mono ?_
  rintro e w6 ⟨rfl, hb6⟩
  obtain ⟨v9, b56, s6⟩ := nbox_new hb6
  have V9 := hide1 v9
  have B56 := hide1 b56
  have V6 := hide1 (V5.out.below b56 V5.out.lt)
  have G6 := hide1 (G5.out.later b56)
  have O6 := hide1 (O5.out.later b56)
  have B6 := hide1 (B5.out.trans (b56.mono B5.out.size))
  have QL := hide1 (fun v hv g hg => (G5.out.lt v hv g hg))
  clear hb6 v9 b56 E6 c0 c1 c2 c3 c4 c5 c6 c7 c8 c9 c10 c11 c12 c13 V5 O5 G5
  obtain ⟨_, y0, y1, y2, y3, y4, y5, y6, y7, y8, y9, y10, y11, y12, y13⟩ := nbox V9.out
  have M10 := hide1 (markNear_own Q N (w3.heap.size + 1) w6 HL.out G6.out)
  unfold neV at M10
  go_wp2_with fail
  refine M10.out.mono ?_
  rintro e w11 ⟨rfl, hp11, hf11⟩
  have W12 := hide1 (hf11.blk V9.out (fun v hv e => by have := (QL.out v hv _ e).2; omega))
  have V12 := hide1 (hf11.blk V6.out (fun v hv e => by have := (QL.out v hv _ e).1; omega))
  have O12 := hide1 (O6.out.fr hf11 (fun v hv g hg u hu e => by have := P3.out v hv g hg; have := (QL.out u hu g e).1; omega))
  have P11 := hide1 hp11
  have B11 := hide1 (B6.out.trans (hf11.below (B := w.heap.size) (fun v hv g hg => by have := (QL.out v hv g hg).1; have := B3.out.size; omega) (by have := B6.out.size; omega)))
  clear hp11 hf11 M10 y0 y1 y2 y3 y4 y5 y6 y7 y8 y9 y10 y11 y12 y13 V9 V6 G6 O6
  obtain ⟨_, y0, y1, y2, y3, y4, y5, y6, y7, y8, y9, y10, y11, y12, y13⟩ := nbox W12.out
  have H11 := hide1 (fun w' (h : RdP w' Q N) => heldNear_own Q N w' HL.out h)
  unfold neV at H11
  obtain ⟨kk, hkk⟩ : ∃ kk, kg N = kk := ⟨_, rfl⟩
  rw [hkk] at H11 ⊢
  have qm : ((kk : Int) != (kk : Int)) = false := by simp
  have qn : decide ((kk : Int) < 0) = false := by simp
  clear hkk
  go_wp2_with fail
  refine (H11.out w11 P11.out).mono ?_
  rintro e w12 ⟨rfl, hb12⟩
  have W13 := hide1 (W12.out.below hb12 W12.out.lt)
  have V13 := hide1 (V12.out.below hb12 V12.out.lt)
  have O13 := hide1 (O12.out.later hb12)
  have P12 := hide1 (P11.out.later hb12)
  have B12 := hide1 (B11.out.trans (hb12.mono B11.out.size))
  clear hb12 y0 y1 y2 y3 y4 y5 y6 y7 y8 y9 y10 y11 y12 y13 W12 V12 O12 P11
  go_wp2_with fail
  refine (C2.out w12).mono ?_
  rintro e w14 ⟨R, rfl, ho14, hb14⟩
  have W15 := hide1 (W13.out.below hb14 W13.out.lt)
  have V15 := hide1 (V13.out.below hb14 V13.out.lt)
  have O15 := hide1 (O13.out.later hb14)
  have P14 := hide1 (P12.out.later hb14)
  have B14 := hide1 (B12.out.trans (hb14.mono B12.out.size))
  have R14 := hide1 ho14
  clear ho14 hb14 C2 W13 V13 O13 P12
  obtain ⟨_, c0, c1, c2, c3, c4, c5, c6, c7, c8, c9, c10, c11, c12, c13⟩ := nbox V15.out
  have E15 := hide1 (fun o1 => eqNear_same R P N (w14.alloc o1) HL.out (R14.out.rd.later (B0 w14 o1)) (O15.out.rd.later (B0 w14 o1)))
  unfold neV at E15
  go_wp2_with fail
  refine (E15.out _).mono ?_
  rintro e w15 ⟨rfl, hb15⟩
  obtain ⟨_, b1415, _⟩ := nbox_new hb15
  have W16 := hide1 (W15.out.below b1415 W15.out.lt)
  have P15 := hide1 (P14.out.later b1415)
  have B15 := hide1 (B14.out.trans (b1415.mono B14.out.size))
  clear hb15 b1415 E15 c0 c1 c2 c3 c4 c5 c6 c7 c8 c9 c10 c11 c12 c13 W15 P14
  obtain ⟨_, y0, y1, y2, y3, y4, y5, y6, y7, y8, y9, y10, y11, y12, y13⟩ := nbox W16.out
  go_wp2_with fail
  refine (H11.out w15 P15.out).mono ?_
  rintro e w16 ⟨rfl, hb16⟩
  have B16 := hide1 (B15.out.trans (hb16.mono B15.out.size))
  clear hb16
  go_wp2
  go_ret
  exact ⟨rfl, B16.out⟩

set_option maxRecDepth 100000 in
theorem lifted_FnExactNearNew (os : Os) (started : os.Started) (H : Type) (enc : TypeId × Value → H) :
    ReturnsInHanded {} Try.checked os 3 .any (Rows.fnExactNearNewSpec.pre6 enc Try.prog Try.f3 Rows.fnExactNearNewRow.domain false) (Rows.fnExactNearNewSpec.post enc Try.prog Try.f3 false true false false) := by
  refine returnsInHanded_of_change (C := Try.checked) (show ownKnob Try.prog.godebug = none by kernel_rfl) started (by kernel_rfl) Try.func3
    (ChangeSpec.witness6 (enc := enc) (C := Try.checked) false ⟨#[], #[.int .i64 0], []⟩ 8 (by kernel_rfl) (by kernel_rfl) (by kernel_rfl) (by kernel_rfl)) ?_
  intro W base args ds gs before hval0 hW hcnd _
  have hval : ∀ (j : Nat) t v, Try.f3.params[j]? = some t → args[j]? = some v → Value.okWide Try.prog W .any base t v := hval0
  have hW' := hW
  obtain ⟨p, q, hA0, hV, rfl, hfz, hnd⟩ := hW
  have hA : DataW.TrodAll enc Try.prog W 0 (fun _ => true) true Try.f3.params.toList args.toList ds p := hA0
  rw [Try.params3] at hA hval
  obtain ⟨v0, vs0, d0, ds0, p0, q0, hargs, rfl, rfl, h0, r0⟩ := trodAll_cons hA
  obtain ⟨rfl, rfl, rfl⟩ := trodAll_nil r0
  obtain rfl : args = #[v0] := by cases args; simp_all
  obtain ⟨rfl, rfl⟩ := trodVars_none hV
  obtain ⟨a0, rfl, rfl, rfl, w0⟩ := open_int Try.underlying3 (hval 0 3 v0 rfl rfl) h0
  clear hA0 hval0
  try simp only [List.append_nil] at hW'
  refine (walk_FnExactNearNew a0 W w0).mono fun e W' ⟨he, bel⟩ => ?_
  subst he
  exact ⟨_, rfl, _, _, _, [], _, [], hW', trodAll_mk1 (shut_bool Try.underlying4 _), (trodAll_cons_mk (shut_int Try.underlying3 w0) trodAll_mk0), rfl, bel.frame _, fun h => by cases h⟩

theorem proved_FnExactNearNew : Rows.FnExactNearNewSaid :=
  OpenClaim.holds_of_wide 3 Try.f3 rfl rfl rfl rfl rfl rfl rfl ⟨rfl, rfl, rfl, rfl, rfl⟩ rfl rfl rfl rfl rfl (by kernel_rfl) Try.func3 (by kernel_rfl)
    (of_decide_eq_true (by kernel_rfl)) (by unfold Func.isWrapper; first | (rw [if_pos (by decide +kernel)]; kernel_rfl) | (rw [if_neg (by decide +kernel)]; exact ⟨rfl, rfl⟩))
    (fun os started H enc _ => lifted_FnExactNearNew os started H enc)
#print axioms proved_FnExactNearNew
end Go.Proofs.Ytenmpciimocggaa
