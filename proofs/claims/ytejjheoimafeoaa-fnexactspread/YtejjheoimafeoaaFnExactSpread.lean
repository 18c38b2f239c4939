/- Spread answers as its model at every argument; its answer owns its memory, behind another call too; no condition. -/
import Derived.Test.YtejjheoimafeoaaRows
import Derived.ProofKit
import Derived.OpenShut
import Derived.ShutString
import Derived.ChangeOld
import Derived.Test.YtejjheoimafeoaaIntV
import Derived.Test.YtejjheoimafeoaaJuA
namespace Go.Proofs.Ytejjheoimafeoaa
open Go.ChangeShapes Go.WideShapes Go.ChangeAt Go.RowKit
open Go.ChangeMaps (open_string shut_string)
set_option linter.unusedVariables false

set_option maxRecDepth 100000 in
set_option maxHeartbeats 4000000 in
theorem walk_FnExactSpread (ao : Option Addr) (l : List Int) (ca : Nat) (a1 : Int) (w : World) (hR : RdZ w ao l) (hl : l.length ≤ maxLen) (wf1 : (Lit.int .i64 a1).wf = true) :
    Calls Try.prog 6 #[.slice ao l.length ca, .int .i64 a1] w fun e w' => e = .returned (.bool true) ∧ Below w.heap.size w w' := by
  unfold maxLen at hl
  clear wf1
  have HR := hide1 hR
  clear hR
  by_cases hn : l.length ≤ 1048576
  · have q : decide (1048576 < (l.length : Int)) = false := decide_eq_false (by omega)
    have hL := sprR_length l a1
    have CS := hide1 (fun b c w' => specSpread_any b l c a1 w' hn)
    have CI := hide1 (fun b c w' => implSpread_any b l c a1 w' hn)
    have CT := hide1 (fun w' => toIntS_own ao l ca w' hn)
    obtain ⟨L, hLe⟩ : ∃ L, sprR l a1 = L := ⟨_, rfl⟩
    rw [hLe] at CS CI hL
    clear hLe
    have hL2 : L.length ≤ 1048576 := by omega
    have e2 : ((1 + (L.length : Int)) != (1 + (L.length : Int))) = false := by simp
    go_enter Try.func6, Try.ntmps6
    go_wp2_with fail
    refine (CT.out w HR.out).mono ?_
    rintro e w1 ⟨b1, c1, rfl, ho1, hb1⟩
    have X1 := hide1 ho1.rd
    have B1 := hide1 hb1
    clear ho1 hb1
    go_wp2_with fail
    refine (CS.out b1 c1 w1 X1.out).mono ?_
    rintro e w2 ⟨po, cp, rfl, ho2, hb2⟩
    have P2 := hide1 (OwnK.rd ho2)
    have B2 := hide1 (B1.out.trans (hb2.mono B1.out.size))
    clear ho2 hb2 X1 B1
    go_wp2_with fail
    refine (CT.out w2 (HR.out.later B2.out)).mono ?_
    rintro e w3 ⟨b3, c3, rfl, ho3, hb3⟩
    have O3 := hide1 ho3
    have P3 := hide1 (P2.out.later hb3)
    have D3 := hide1 hb3
    have B3 := hide1 (B2.out.trans (hb3.mono B2.out.size))
    have s3 := hb3.size
    clear ho3 hb3
    go_wp2_with fail
    refine (CI.out b3 c3 w3 O3.out.rd).mono ?_
    rintro e w4 ⟨qo, cq, rfl, ho4, hb4⟩
    have G4 : Hid (OwnK w4 w3.heap.size qo cq L) := ho4
    have O4 := hide1 (O3.out.later hb4)
    have P4 := hide1 (P3.out.later hb4)
    have B4 := hide1 (B3.out.trans (hb4.mono B3.out.size))
    have s4 := hb4.size
    clear ho4 hb4 P3 B3
    go_wp2_with fail
    refine (eqIntS_own qo po L cq cp w4 hL2 G4.out.rd P4.out).mono ?_
    rintro e w5 ⟨rfl, hb5⟩
    have G5 := hide1 (G4.out.later hb5)
    have O5 := hide1 (O4.out.later hb5)
    have P5 := hide1 (P4.out.later hb5)
    have B5 := hide1 (B4.out.trans (hb5.mono B4.out.size))
    have s5 := hb5.size
    clear hb5 O4 P4 B4
    go_wp2_with fail
    refine (CT.out w5 (HR.out.later B5.out)).mono ?_
    rintro e w6 ⟨b6, c6, rfl, ho6, hb6⟩
    have T6 := hide1 ho6.rd
    have G6 := hide1 (G5.out.later hb6)
    have O6 := hide1 (O5.out.later hb6)
    have P6 := hide1 (P5.out.later hb6)
    have B6 := hide1 (B5.out.trans (hb6.mono B5.out.size))
    have s6 := hb6.size
    clear ho6 hb6 G5 O5 P5 B5
    go_wp2_with fail
    refine (eqIntS_own b3 b6 l c3 c6 w6 hn O6.out.rd T6.out).mono ?_
    rintro e w7 ⟨rfl, hb7⟩
    have G7 := hide1 (G6.out.later hb7)
    have O7 := hide1 (O6.out.later hb7)
    have P7 := hide1 (P6.out.later hb7)
    have B7 := hide1 (B6.out.trans (hb7.mono B6.out.size))
    have s7 := hb7.size
    clear hb7 G6 O6 P6 B6 T6
    go_wp2_with fail
    refine (markIntS_own b3 c3 w2.heap.size l w7 hn O7.out).mono ?_
    rintro e w8 ⟨rfl, _, hg8⟩
    have eX : ∀ g, (Value.slice b3 l.length c3).ownBlock = some g → w2.heap.size ≤ g ∧ g < w3.heap.size := fun g hg => O3.out.lt g hg
    have eG : ∀ g, (Value.slice qo L.length cq).ownBlock = some g → w3.heap.size ≤ g ∧ g < w4.heap.size := fun g hg => G4.out.lt g hg
    have D8 : Hid (Below w2.heap.size w7 w8) := gbelow hg8 (fun g hg => (eX g hg).1) (by omega)
    have G8 : Hid (OwnK w8 w3.heap.size qo cq L) := gown hg8 G7.out (fun k h1 h2 => by have := eG k h1; have := eX k h2; omega)
    have P8 := hide1 (P7.out.below D8.out (P2.out.inB (Nat.le_refl _)))
    have B8 := hide1 (B7.out.trans (D8.out.mono B2.out.size))
    have s8 := hg8.size
    have EG := hide1 eG
    have q8 : decide (1 + (l.length : Int) < 0) = false := decide_eq_false (by omega)
    have q9 : decide (1 + (L.length : Int) < 0) = false := decide_eq_false (by omega)
    clear hg8 G7 O7 P7 B7 eX eG O3 D8
    have CE := hide1 (fun w' (hb : Below w8.heap.size w8 w') => eqIntS_own qo po L cq cp w' hL2 (G8.out.rd.later hb) (P8.out.later hb))
    go_wp2_with fail
    refine (CE.out _ (Below.refl _ _)).mono ?_
    rintro e w9 ⟨rfl, hb9⟩
    have D9 := hide1 hb9
    clear hb9
    have G9 := hide1 (G8.out.later D9.out)
    have P9 := hide1 (P8.out.later D9.out)
    have B9 := hide1 (B8.out.trans (D9.out.mono B8.out.size))
    have s9 := D9.out.size
    clear D9 G8 P8 B8 CE
    go_wp2_with fail
    refine (markIntS_own qo cq w3.heap.size L w9 hL2 G9.out).mono ?_
    rintro e w10 ⟨rfl, hp10, hg10⟩
    have D10 : Hid (Below w2.heap.size w9 w10) := gbelow hg10 (fun g hg => by have := EG.out g hg; omega) (by omega)
    have P10 := hide1 (P9.out.below D10.out (P2.out.inB (Nat.le_refl _)))
    have B10 := hide1 (B9.out.trans (D10.out.mono B2.out.size))
    have M10 := hide1 hp10
    have s10 := hg10.size
    clear hp10 hg10 D10 G9 P9 B9
    go_wp2_with fail
    refine (heldIntS_own qo L.length cq w10 hL2 M10.out).mono ?_
    rintro e w11 ⟨rfl, rfl⟩
    go_wp2_with fail
    refine (CT.out _ (HR.out.later B10.out)).mono ?_
    rintro e w12 ⟨b12, c12, rfl, ho12, hb12⟩
    have T12 := hide1 ho12.rd
    have P12 := hide1 (P10.out.later hb12)
    have M12 := hide1 (M10.out.later hb12)
    have B12 := hide1 (B10.out.trans (hb12.mono B10.out.size))
    clear ho12 hb12 P10 M10 B10
    go_wp2_with fail
    refine (CI.out b12 c12 w12 T12.out).mono ?_
    rintro e w13 ⟨ro, cr, rfl, ho13, hb13⟩
    have H13 := hide1 (OwnK.rd ho13)
    have P13 := hide1 (P12.out.later hb13)
    have M13 := hide1 (M12.out.later hb13)
    have B13 := hide1 (B12.out.trans (hb13.mono B12.out.size))
    clear ho13 hb13 P12 M12 B12
    go_wp2_with fail
    refine (eqIntS_own ro po L cr cp w13 hL2 H13.out P13.out).mono ?_
    rintro e w14 ⟨rfl, hb14⟩
    have M14 := hide1 (M13.out.later hb14)
    have B14 := hide1 (B13.out.trans (hb14.mono B13.out.size))
    clear hb14 H13 P13 M13 B13
    go_wp2_with fail
    refine (heldIntS_own qo L.length cq w14 hL2 M14.out).mono ?_
    rintro e w15 ⟨rfl, rfl⟩
    go_wp2
    go_ret
    exact ⟨rfl, B14.out⟩
  · have q : decide (1048576 < (l.length : Int)) = true := decide_eq_true (by omega)
    go_enter Try.func6, Try.ntmps6
    go_wp2
    go_ret
    exact ⟨rfl, Below.refl _ _⟩

set_option maxRecDepth 100000 in
theorem lifted_FnExactSpread (os : Os) (started : os.Started) (H : Type) (enc : TypeId × Value → H) :
    ReturnsInHanded {} Try.checked os 6 .any (Rows.fnExactSpreadSpec.pre6 enc Try.prog Try.f6 Rows.fnExactSpreadRow.domain false) (Rows.fnExactSpreadSpec.post enc Try.prog Try.f6 false true false false) := by
  refine returnsInHanded_of_change (C := Try.checked) (show ownKnob Try.prog.godebug = none by kernel_rfl) started (by kernel_rfl) Try.func6
    (ChangeSpec.witness6 (enc := enc) (C := Try.checked) false ⟨#[], #[.slice none 0 0, .int .i64 0], []⟩ 8 (by kernel_rfl) (by kernel_rfl) (by kernel_rfl) (by kernel_rfl)) ?_
  intro W base args ds gs before hval0 hW hcnd _
  have hval : ∀ (j : Nat) t v, Try.f6.params[j]? = some t → args[j]? = some v → Value.okWide Try.prog W .any base t v := hval0
  have hW' := hW
  obtain ⟨p, q, hA0, hV, rfl, hfz, hnd⟩ := hW
  have hA : DataW.TrodAll enc Try.prog W 0 (fun _ => true) true Try.f6.params.toList args.toList ds p := hA0
  rw [Try.params6] at hA hval
  obtain ⟨v0, vs0, d0, ds0, p0, q0, hargs, rfl, rfl, h0, r0⟩ := trodAll_cons hA
  obtain ⟨v1, vs1, d1, ds1, p1, q1, rfl, rfl, rfl, h1, r1⟩ := trodAll_cons r0
  obtain ⟨rfl, rfl, rfl⟩ := trodAll_nil r1
  obtain rfl : args = #[v0, v1] := by cases args; simp_all
  obtain ⟨rfl, rfl⟩ := trodVars_none hV
  have k0 := h0
  have lt0 : ∀ x ∈ p0, x.block < W.heap.size := by obtain ⟨m, hm⟩ := k0; exact DataW.trod_lt m _ _ _ hm
  obtain ⟨ao0, l0, ca0, rfl, hR0, hl0⟩ := open_intsV (hval 0 24 v0 rfl rfl) h0
  obtain ⟨a1, rfl, rfl, rfl, w1⟩ := open_int Try.underlying3 (hval 1 3 v1 rfl rfl) h1
  clear hA0 hval0
  try simp only [List.append_nil] at hW'
  refine (walk_FnExactSpread ao0 l0 ca0 a1 W hR0 hl0 w1).mono fun e W' ⟨he, bel⟩ => ?_
  subst he
  exact ⟨_, rfl, _, _, _, [], _, [], hW', trodAll_mk1 (shut_bool Try.underlying4 _), (trodAll_cons_mk (Below.trod (show laidOutB Try.prog = true by kernel_rfl) (by kernel_rfl) (of_decide_eq_true (by kernel_rfl)) k0 bel lt0) (trodAll_cons_mk (shut_int Try.underlying3 w1) trodAll_mk0)), rfl, bel.frame _, fun h => by cases h⟩

theorem proved_FnExactSpread : Rows.FnExactSpreadSaid :=
  OpenClaim.holds_of_wide 6 Try.f6 rfl rfl rfl rfl rfl rfl rfl ⟨rfl, rfl, rfl, rfl, rfl⟩ rfl rfl rfl rfl rfl (by kernel_rfl) Try.func6 (by kernel_rfl)
    (of_decide_eq_true (by kernel_rfl)) (by unfold Func.isWrapper; first | (rw [if_pos (by decide +kernel)]; kernel_rfl) | (rw [if_neg (by decide +kernel)]; exact ⟨rfl, rfl⟩))
    (fun os started H enc _ => lifted_FnExactSpread os started H enc)
#print axioms proved_FnExactSpread
end Go.Proofs.Ytejjheoimafeoaa
