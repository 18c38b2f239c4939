/- SketchNew answers as its model. -/
import Derived.Test.YtoodlaelnbhlgaaRows
import Derived.ProofKit
import Derived.OpenShut
import Derived.ShutString
import Derived.ChangeOld
import Derived.Test.YtoodlaelnbhlgaaSkV
namespace Go.Proofs.Ytoodlaelnbhlgaa
open Go.ChangeShapes Go.WideShapes Go.ChangeAt Go.RowKit
open Go.ChangeMaps (open_string shut_string)
set_option linter.unusedVariables false

set_option maxRecDepth 100000 in
set_option maxHeartbeats 8000000 in
theorem walk_FnExactSketchNew (w : World) :
    Calls Try.prog 3 #[] w fun e w' => e = .returned (.bool true) ∧ Below w.heap.size w w' := by
  have B0 := fun (w : World) o => (Below.refl w.heap.size w).alloc (Nat.le_refl _) o
  have S1 := hide1 (specSNew_any w)
  have hnew : newK = (List.replicate 48 0, 0) := rfl
  have NW := hide1 hnew
  clear hnew
  go_enter Try.func3, Try.ntmps3
  go_wp2_with fail
  refine S1.out.mono ?_
  rintro e w3 hm3
  obtain ⟨po, cp, L, M, hLM, rfl, ho3, hb3⟩ := hm3.open
  have hL : L.length ≤ 1048576 := by
    rw [NW.out] at hLM
    injection hLM with e1 e2
    rw [← e1, List.length_replicate]
    omega
  have HLM := hide1 hLM
  have B3 := hide1 hb3
  have R3 := hide1 ho3.rd
  clear hm3 hLM ho3 hb3 S1 NW
  have L5 := hide1 (fun o1 => implSNew_any (w3.alloc o1))
  go_wp2_with fail
  refine (L5.out _).mono ?_
  rintro e w5 hm5
  obtain ⟨qo, cq, L', M', hLM', rfl, ho5, hb5⟩ := hm5.open
  rw [HLM.out] at hLM'
  injection hLM' with e1 e2
  subst e1 e2
  have V5 := hide1 (VarK.box hb5)
  have B35 := hide1 (boxK_below hb5)
  have s5 : w3.heap.size + 1 ≤ w5.heap.size := boxK_size hb5
  have R5 := hide1 (R3.out.later B35.out)
  have P5 := hide1 (R3.out.inB (B := w3.heap.size + 1) (by omega))
  have G5 := hide1 (ho5.base (show w3.heap.size + 1 ≤ _ by rw [World.size_alloc]; omega))
  have B5 := hide1 (B3.out.trans (B35.out.mono B3.out.size))
  clear hm5 ho5 hb5 L5 R3
  obtain ⟨_, c0, c1⟩ := V5.out.cells
  have E6 := hide1 (fun o1 => eqSketch_own qo po L cq cp M (w5.alloc o1) hL (G5.out.rd.later (B0 w5 o1)) (R5.out.later (B0 w5 o1)))
  go_wp2_with fail
  refine (E6.out _).mono ?_
  rintro e w6 ⟨rfl, hb6⟩
  have W6 := hide1 (VarK.box hb6)
  have B56 := hide1 (boxK_below hb6)
  have s6 : w5.heap.size + 1 ≤ w6.heap.size := boxK_size hb6
  have V6 := hide1 (V5.out.later B56.out)
  have R6 := hide1 (R5.out.later B56.out)
  have G6 := hide1 (G5.out.later B56.out)
  have B6 := hide1 (B5.out.trans (B56.out.mono B5.out.size))
  clear hb6 E6 c0 c1 V5 R5
  obtain ⟨_, y0, y1⟩ := W6.out.cells
  have M10 := hide1 (markSketch_own qo cq (w3.heap.size + 1) L M w6 hL G6.out)
  go_wp2_with fail
  refine M10.out.mono ?_
  rintro e w11 ⟨rfl, hp11, hg11⟩
  have eG : ∀ g, (Value.slice qo L.length cq).ownBlock = some g → w3.heap.size + 1 ≤ g ∧ g < w5.heap.size := fun g hg => G5.out.lt g hg
  have V11 : Hid (VarK w11 24 w3.heap.size po L.length cp M) := gblk hg11 V6.out (fun e => by have := eG _ e; omega)
  have W11 : Hid (VarK w11 24 w5.heap.size qo L.length cq M) := gblk hg11 W6.out (fun e => by have := eG _ e; omega)
  have R11 := hide1 (R6.out.below (gbelow (B := w3.heap.size + 1) hg11 (fun g hg => (eG g hg).1) (by omega)) P5.out)
  have P11 := hide1 hp11
  have B11 := hide1 (B6.out.trans (gbelow (B := w.heap.size) hg11 (fun g hg => by have := eG g hg; have := B3.out.size; omega) (by have := B6.out.size; omega)))
  have s11 : w6.heap.size ≤ w11.heap.size := hg11.size
  clear hg11 hp11 M10 y0 y1 V6 W6 R6 G6
  obtain ⟨_, y0, y1⟩ := W11.out.cells
  have H11 := hide1 (heldSketch_own qo L.length cq M w11 hL P11.out)
  have qm : ((1 : Int) + (L.length : Int) != (1 : Int) + (L.length : Int)) = false := by simp
  have qn : decide ((1 : Int) + (L.length : Int) < 0) = false := by simp; omega
  go_wp2_with fail
  refine H11.out.mono ?_
  rintro e w12 ⟨rfl, hb12⟩
  have V12 := hide1 (V11.out.later hb12)
  have W12 := hide1 (W11.out.later hb12)
  have R12 := hide1 (R11.out.later hb12)
  have P12 := hide1 (P11.out.later hb12)
  have B12 := hide1 (B11.out.trans (hb12.mono B11.out.size))
  clear hb12 H11 y0 y1 V11 W11 R11 P11
  have L14 := hide1 (implSNew_any w12)
  go_wp2_with fail
  refine L14.out.mono ?_
  rintro e w14 hm14
  obtain ⟨ro, cr, L2, M2, hLM2, rfl, ho14, hb14⟩ := hm14.open
  rw [HLM.out] at hLM2
  injection hLM2 with e1 e2
  subst e1 e2
  have V14 := hide1 (V12.out.later hb14)
  have W14 := hide1 (W12.out.later hb14)
  have R14 := hide1 (R12.out.later hb14)
  have P14 := hide1 (P12.out.later hb14)
  have B14 := hide1 (B12.out.trans (hb14.mono B12.out.size))
  have Q14 := hide1 ho14.rd
  clear hm14 ho14 hb14 L14 V12 W12 R12 P12
  obtain ⟨_, c0, c1⟩ := V14.out.cells
  have E15 := hide1 (fun o1 => eqSketch_own ro po L cr cp M (w14.alloc o1) hL (Q14.out.later (B0 w14 o1)) (R14.out.later (B0 w14 o1)))
  go_wp2_with fail
  refine (E15.out _).mono ?_
  rintro e w15 ⟨rfl, hb15⟩
  have B1415 := hide1 (boxK_below hb15)
  have W16 := hide1 (W14.out.later B1415.out)
  have P15 := hide1 (P14.out.later B1415.out)
  have B15 := hide1 (B14.out.trans (B1415.out.mono B14.out.size))
  clear hb15 E15 c0 c1 V14 W14 P14
  obtain ⟨_, y0, y1⟩ := W16.out.cells
  have H16 := hide1 (heldSketch_own qo L.length cq M w15 hL P15.out)
  go_wp2_with fail
  refine H16.out.mono ?_
  rintro e w16 ⟨rfl, hb16⟩
  have B16 := hide1 (B15.out.trans (hb16.mono B15.out.size))
  clear hb16
  go_wp2
  go_ret
  exact ⟨rfl, B16.out⟩

set_option maxRecDepth 100000 in
theorem lifted_FnExactSketchNew (os : Os) (started : os.Started) (H : Type) (enc : TypeId × Value → H) :
    ReturnsInHanded {} Try.checked os 3 .any (Rows.fnExactSketchNewSpec.pre6 enc Try.prog Try.f3 Rows.fnExactSketchNewRow.domain false) (Rows.fnExactSketchNewSpec.post enc Try.prog Try.f3 false true false false) := by
  refine returnsInHanded_of_change (C := Try.checked) (show ownKnob Try.prog.godebug = none by kernel_rfl) started (by kernel_rfl) Try.func3
    (ChangeSpec.witness6 (enc := enc) (C := Try.checked) false ⟨#[], #[], []⟩ 8 (by kernel_rfl) (by kernel_rfl) (by kernel_rfl) (by kernel_rfl)) ?_
  intro W base args ds gs before hval0 hW hcnd _
  have hval : ∀ (j : Nat) t v, Try.f3.params[j]? = some t → args[j]? = some v → Value.okWide Try.prog W .any base t v := hval0
  have hW' := hW
  obtain ⟨p, q, hA0, hV, rfl, hfz, hnd⟩ := hW
  have hA : DataW.TrodAll enc Try.prog W 0 (fun _ => true) true Try.f3.params.toList args.toList ds p := hA0
  rw [Try.params3] at hA hval
  obtain ⟨hargs, rfl, rfl⟩ := trodAll_nil hA
  obtain rfl : args = #[] := by cases args; simp_all
  obtain ⟨rfl, rfl⟩ := trodVars_none hV
  clear hA0 hval0
  try simp only [List.append_nil] at hW'
  refine (walk_FnExactSketchNew  W ).mono fun e W' ⟨he, bel⟩ => ?_
  subst he
  exact ⟨_, rfl, _, _, _, [], _, [], hW', trodAll_mk1 (shut_bool Try.underlying4 _), trodAll_mk0, rfl, bel.frame _, fun h => by cases h⟩

theorem proved_FnExactSketchNew : Rows.FnExactSketchNewSaid :=
  OpenClaim.holds_of_wide 3 Try.f3 rfl rfl rfl rfl rfl rfl rfl ⟨rfl, rfl, rfl, rfl, rfl⟩ rfl rfl rfl rfl rfl (by kernel_rfl) Try.func3 (by kernel_rfl)
    (of_decide_eq_true (by kernel_rfl)) (by unfold Func.isWrapper; first | (rw [if_pos (by decide +kernel)]; kernel_rfl) | (rw [if_neg (by decide +kernel)]; exact ⟨rfl, rfl⟩))
    (fun os started H enc _ => lifted_FnExactSketchNew os started H enc)
#print axioms proved_FnExactSketchNew
end Go.Proofs.Ytoodlaelnbhlgaa
