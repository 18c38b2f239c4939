/- TableNew answers as its model at every argument. -/
import Derived.Test.YtahglnojllkjdaaRows
import Derived.ProofKit
import Derived.OpenShut
import Derived.ShutString
import Derived.ChangeOld
import Derived.Test.YtahglnojllkjdaaTabV
namespace Go.Proofs.Ytahglnojllkjdaa
open Go.ChangeShapes Go.WideShapes Go.ChangeAt Go.RowKit
open Go.ChangeMaps (open_string shut_string)
set_option linter.unusedVariables false

set_option maxRecDepth 100000 in
set_option maxHeartbeats 4000000 in
theorem walk_FnExactTableNew (a0 : Int) (w : World) (w0 : (Lit.int .i64 a0).wf = true) :
    Calls Try.prog 4 #[.int .i64 a0] w fun e w' => e = .returned (.bool true) ∧ Below w.heap.size w w' := by
  have B0 := fun (w : World) o => (Below.refl w.heap.size w).alloc (Nat.le_refl _) o
  have C1 := hide1 (specNewT_any a0 w)
  clear w0
  go_enter Try.func4, Try.ntmps4
  go_wp2_with fail
  refine C1.out.mono ?_
  rintro e w3 ⟨po, L, cp, po', O, cp', M, t, rfl, hN, ho3, hp3, ha3, hb3⟩
  have hL := new_small hN
  have hO := hL.2
  have hL := hL.1
  have HN := hide1 hN
  have B3 := hide1 hb3
  have R3 := hide1 (And.intro (rdC_of_own ho3) (rdC_of_own hp3))
  have P3 := hide1 (own_lt2 ho3)
  have P3' := hide1 (own_lt2 hp3)
  clear hN ho3 hp3 ha3 hb3 C1
  have L5 := hide1 (fun o1 => implNew_any a0 (w3.alloc o1))
  unfold tbV
  go_wp2_with fail
  refine (L5.out _).mono ?_
  rintro e w5 ⟨qo, L', cq, qo', O', cq', M', t', rfl, hN', ho5, hp5, ha5, hb5⟩
  obtain ⟨rfl, rfl, rfl, rfl⟩ := hN'.det HN.out
  have V5 := hide1 (VarT.box hb5)
  have B35 := hide1 (box_below hb5)
  have s5 : w3.heap.size + 1 ≤ w5.heap.size := box_size hb5
  have G5 : Hid (Own2 w5 (w3.heap.size + 1) qo cq L' qo' cq' O') := hide1 (Own2.base (B := (w3.alloc _).heap.size) ⟨ho5, hp5, ha5⟩ (by rw [World.size_alloc]; omega))
  have R5 := hide1 (And.intro (R3.out.1.later B35.out) (R3.out.2.later B35.out))
  have B5 := hide1 (B3.out.trans (B35.out.mono B3.out.size))
  clear hN' ho5 hp5 ha5 hb5 L5 R3
  obtain ⟨_, c0, c1, c2⟩ := V5.out.cells
  have E6 := hide1 (fun o1 => eqTable_same qo po qo' po' L' O' cq cp cq' cp' M' (w5.alloc o1) (by omega) (by omega) (G5.out.rd.1.later (B0 w5 o1)) (R5.out.1.later (B0 w5 o1)) (G5.out.rd.2.later (B0 w5 o1)) (R5.out.2.later (B0 w5 o1)))
  unfold tbV at E6 ⊢
  have qt : (t' != t') = false := by simp
  go_wp2_with fail
  refine (E6.out _).mono ?_
  rintro e w6 ⟨rfl, hb6⟩
  have V9 := hide1 (VarT.box hb6)
  have B56 := hide1 (box_below hb6)
  have s6 : w5.heap.size + 1 ≤ w6.heap.size := box_size hb6
  have V6 := hide1 (V5.out.later B56.out)
  have G6 := hide1 (G5.out.later B56.out)
  have R6 := hide1 (And.intro (R5.out.1.later B56.out) (R5.out.2.later B56.out))
  have B6 := hide1 (B5.out.trans (B56.out.mono B5.out.size))
  clear hb6 E6 c0 c1 c2 V5 R5
  obtain ⟨_, y0, y1, y2⟩ := V9.out.cells
  have M10 := hide1 (markTable_own qo qo' L' O' cq cq' 1 (w3.heap.size + 1) M' w6 (by omega) (by omega) (by omega) (by omega) G6.out)
  unfold tbV at M10
  go_wp2_with fail
  refine M10.out.mono ?_
  rintro e w11 ⟨rfl, hp11, hp11', hg11⟩
  have eG : ∀ g, ((Value.slice qo L'.length cq).ownBlock = some g ∨ (Value.slice qo' O'.length cq').ownBlock = some g) → w3.heap.size + 1 ≤ g ∧ g < w5.heap.size := fun g hg => G5.out.lt g hg
  have W12 : Hid (VarT w11 26 w5.heap.size qo L'.length cq qo' O'.length cq' M') := hg11.blk V9.out (fun e => by have := eG _ (.inl e); omega) (fun e => by have := eG _ (.inr e); omega)
  have V12 : Hid (VarT w11 26 w3.heap.size po L'.length cp po' O'.length cp' M') := hg11.blk V6.out (fun e => by have := eG _ (.inl e); omega) (fun e => by have := eG _ (.inr e); omega)
  have hB3 : Below (w3.heap.size + 1) w6 w11 := hg11.below (fun g hg => (eG g hg).1) (by omega)
  have R12 := hide1 (And.intro (R6.out.1.below hB3 (fun b hb => by have := P3.out b hb; omega)) (R6.out.2.below hB3 (fun b hb => by have := P3'.out b hb; omega)))
  have P11 := hide1 (And.intro hp11 hp11')
  have B11 := hide1 (B6.out.trans (hg11.below (B := w.heap.size) (fun g hg => by have := eG g hg; have := B3.out.size; omega) (by have := B6.out.size; omega)))
  have s11 : w6.heap.size ≤ w11.heap.size := hg11.size
  clear hg11 hp11 hp11' M10 y0 y1 y2 V9 V6 G6 R6 hB3
  obtain ⟨_, y0, y1, y2⟩ := W12.out.cells
  have H11 := hide1 (heldTable_any qo qo' L'.length O'.length cq cq' 1 M' w11 (by omega) (by omega) (by omega) (by omega) P11.out.1 P11.out.2)
  unfold tbV at H11
  have qm : ((1 : Int) + 2 * (L'.length : Int) + 2 * (O'.length : Int) != (1 : Int) + 2 * (L'.length : Int) + 2 * (O'.length : Int)) = false := by simp
  have qn : decide ((1 : Int) + 2 * (L'.length : Int) + 2 * (O'.length : Int) < 0) = false := by simp; omega
  go_wp2_with fail
  refine H11.out.mono ?_
  rintro e w12 ⟨rfl, hb12⟩
  have W13 := hide1 (W12.out.later hb12)
  have V13 := hide1 (V12.out.later hb12)
  have R13 := hide1 (And.intro (R12.out.1.later hb12) (R12.out.2.later hb12))
  have P12 := hide1 (And.intro (P11.out.1.later hb12) (P11.out.2.later hb12))
  have B12 := hide1 (B11.out.trans (hb12.mono B11.out.size))
  clear hb12 H11 y0 y1 y2 W12 V12 R12 P11
  have L14 := hide1 (implNew_any a0 w12)
  go_wp2_with fail
  refine L14.out.mono ?_
  rintro e w14 ⟨ro, L2, cr, ro', O2, cr', M2, t2, rfl, hN2, ho14, hp14, ha14, hb14⟩
  obtain ⟨rfl, rfl, rfl, rfl⟩ := hN2.det HN.out
  have W15 := hide1 (W13.out.later hb14)
  have V15 := hide1 (V13.out.later hb14)
  have R15 := hide1 (And.intro (R13.out.1.later hb14) (R13.out.2.later hb14))
  have P14 := hide1 (And.intro (P12.out.1.later hb14) (P12.out.2.later hb14))
  have B14 := hide1 (B12.out.trans (hb14.mono B12.out.size))
  have R14 := hide1 (And.intro (rdC_of_own ho14) (rdC_of_own hp14))
  clear hN2 ho14 hp14 ha14 hb14 L14 W13 V13 R13 P12
  obtain ⟨_, c0, c1, c2⟩ := V15.out.cells
  have E15 := hide1 (fun o1 => eqTable_same ro po ro' po' L2 O2 cr cp cr' cp' M2 (w14.alloc o1) (by omega) (by omega) (R14.out.1.later (B0 w14 o1)) (R15.out.1.later (B0 w14 o1)) (R14.out.2.later (B0 w14 o1)) (R15.out.2.later (B0 w14 o1)))
  unfold tbV at E15 ⊢
  go_wp2_with fail
  refine (E15.out _).mono ?_
  rintro e w15 ⟨rfl, hb15⟩
  have B1415 := hide1 (box_below hb15)
  have W16 := hide1 (W15.out.later B1415.out)
  have P15 := hide1 (And.intro (P14.out.1.later B1415.out) (P14.out.2.later B1415.out))
  have B15 := hide1 (B14.out.trans (B1415.out.mono B14.out.size))
  clear hb15 E15 c0 c1 c2 W15 P14
  obtain ⟨_, y0, y1, y2⟩ := W16.out.cells
  have H16 := hide1 (heldTable_any qo qo' L2.length O2.length cq cq' 1 M2 w15 (by omega) (by omega) (by omega) (by omega) P15.out.1 P15.out.2)
  unfold tbV at H16
  go_wp2_with fail
  refine H16.out.mono ?_
  rintro e w16 ⟨rfl, hb16⟩
  have B16 := hide1 (B15.out.trans (hb16.mono B15.out.size))
  clear hb16
  go_wp2
  go_ret
  exact ⟨rfl, B16.out⟩

set_option maxRecDepth 100000 in
theorem lifted_FnExactTableNew (os : Os) (started : os.Started) (H : Type) (enc : TypeId × Value → H) :
    ReturnsInHanded {} Try.checked os 4 .any (Rows.fnExactTableNewSpec.pre6 enc Try.prog Try.f4 Rows.fnExactTableNewRow.domain false) (Rows.fnExactTableNewSpec.post enc Try.prog Try.f4 false true false false) := by
  refine returnsInHanded_of_change (C := Try.checked) (show ownKnob Try.prog.godebug = none by kernel_rfl) started (by kernel_rfl) Try.func4
    (ChangeSpec.witness6 (enc := enc) (C := Try.checked) false ⟨#[], #[.int .i64 0], []⟩ 8 (by kernel_rfl) (by kernel_rfl) (by kernel_rfl) (by kernel_rfl)) ?_
  intro W base args ds gs before hval0 hW hcnd _
  have hval : ∀ (j : Nat) t v, Try.f4.params[j]? = some t → args[j]? = some v → Value.okWide Try.prog W .any base t v := hval0
  have hW' := hW
  obtain ⟨p, q, hA0, hV, rfl, hfz, hnd⟩ := hW
  have hA : DataW.TrodAll enc Try.prog W 0 (fun _ => true) true Try.f4.params.toList args.toList ds p := hA0
  rw [Try.params4] at hA hval
  obtain ⟨v0, vs0, d0, ds0, p0, q0, hargs, rfl, rfl, h0, r0⟩ := trodAll_cons hA
  obtain ⟨rfl, rfl, rfl⟩ := trodAll_nil r0
  obtain rfl : args = #[v0] := by cases args; simp_all
  obtain ⟨rfl, rfl⟩ := trodVars_none hV
  obtain ⟨a0, rfl, rfl, rfl, w0⟩ := open_int Try.underlying3 (hval 0 3 v0 rfl rfl) h0
  clear hA0 hval0
  try simp only [List.append_nil] at hW'
  refine (walk_FnExactTableNew a0 W w0).mono fun e W' ⟨he, bel⟩ => ?_
  subst he
  exact ⟨_, rfl, _, _, _, [], _, [], hW', trodAll_mk1 (shut_bool Try.underlying4 _), (trodAll_cons_mk (shut_int Try.underlying3 w0) trodAll_mk0), rfl, bel.frame _, fun h => by cases h⟩

theorem proved_FnExactTableNew : Rows.FnExactTableNewSaid :=
  OpenClaim.holds_of_wide 4 Try.f4 rfl rfl rfl rfl rfl rfl rfl ⟨rfl, rfl, rfl, rfl, rfl⟩ rfl rfl rfl rfl rfl (by kernel_rfl) Try.func4 (by kernel_rfl)
    (of_decide_eq_true (by kernel_rfl)) (by unfold Func.isWrapper; first | (rw [if_pos (by decide +kernel)]; kernel_rfl) | (rw [if_neg (by decide +kernel)]; exact ⟨rfl, rfl⟩))
    (fun os started H enc _ => lifted_FnExactTableNew os started H enc)
#print axioms proved_FnExactTableNew
end Go.Proofs.Ytahglnojllkjdaa
