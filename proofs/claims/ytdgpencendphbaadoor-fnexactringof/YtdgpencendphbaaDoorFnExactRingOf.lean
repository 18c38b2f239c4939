/- RingOf answers as its model at every argument, the library's three tables being as the program's text lays them (the card ties them to the text of a pruned copy of the project). -/
import Derived.Test.YtdgpencendphbaaDoorCards
import Derived.Test.YtdgpencendphbaaDoorTie
import Derived.ProofKit
import Derived.LaidMore
import Derived.OpenShut
import Derived.ShutString
import Derived.ChangeOld
import Derived.Stop.Joined
import Derived.Stop.LaidErr
import Derived.SevenTiedAt
import Derived.Test.YtdgpencendphbaaDoorIntV
import Derived.Test.YtdgpencendphbaaDoorRiD
namespace Go.Proofs.YtdgpencendphbaaDoor
open Go.ChangeShapes Go.WideShapes Go.ChangeAt Go.RowKit
open Go.ChangeMaps (open_string shut_string)
set_option linter.unusedVariables false

theorem of_laid_FnExactRingOf {W : World} (h : laidMetH Tryd.prog Rows.fnExactRingOfRow.laid W) : Tens W := by
  rw [MakeChecks.laidMetH_plain _ _ _ (by kernel_rfl)] at h
  exact Lib.tabIs_of_head gTens (by kernel_rfl) Tryd.underlying134 Tryd.underlying106 (by kernel_rfl) (by kernel_rfl) (laidMet.tail (laidMet.tail h))

theorem RingA.small {L : List Int} {R : List Sp} {t : Bool} (h : RingA L R t) : R.length ≤ 24 := by
  rcases h with ⟨h1, rfl, _⟩ | ⟨_, rfl, _⟩
  · have := h1.1.2
    rw [ringL_len]
    omega
  · exact Nat.zero_le _

set_option maxRecDepth 100000 in
set_option maxHeartbeats 8000000 in
theorem walk_FnExactRingOf (ao : Option Addr) (l : List Int) (ca : Nat) (w : World) (hR : RdZ w ao l) (hl : l.length ≤ maxLen) (ht : Tens w) :
    Calls Tryd.prog 6 #[.slice ao l.length ca] w fun e w' => e = .returned (.bool true) ∧ Below w.heap.size w w' := by
  unfold maxLen at hl
  have HR := hide1 hR
  have HT := hide1 ht
  have hp := ht.pos
  clear hR ht
  by_cases hn : l.length ≤ 1048576
  · have q : decide (1048576 < (l.length : Int)) = false := decide_eq_false (by omega)
    have CT := hide1 (fun w' (hb : Below w.heap.size w w') => toIntS_own ao l ca w' hn (HR.out.later hb))
    have CS := hide1 (fun (b : Option Addr) (x : Nat) w' (hA : RdZ w' b l) => specRing_any b l x w' hn hA)
    have CI := hide1 (fun (b : Option Addr) (x : Nat) w' (hA : RdZ w' b l) (ht : Tens w') => implRing_any b l x w' hn hA ht)
    clear HR
    go_enter Tryd.func6, Tryd.ntmps6
    go_wp2_with fail
    refine (CT.out w (Below.refl _ _)).mono ?_
    rintro e w1 ⟨b1, c1, rfl, ho1, hb1⟩
    have T1 := hide1 ho1.rd
    have Z1 := hide1 hb1
    have s1 : w.heap.size ≤ w1.heap.size := hb1.size
    clear ho1 hb1
    go_wp2_with fail
    refine (CS.out b1 c1 w1 T1.out).mono ?_
    rintro e w2 ⟨pp, cp, R, t, rfl, hA2, ho2, hb2⟩
    have HA := hide1 hA2
    have hRm : R.length ≤ 24 := RingA.small hA2
    have P2 : Hid (OwnR w2 w1.heap.size pp cp R) := ho2
    have EP := hide1 (fun g (hg : (Value.slice pp R.length cp).ownBlock = some g) => World.ownsRow.lt ho2 g hg)
    have Z2 := hide1 (Z1.out.trans (hb2.mono Z1.out.size))
    have s2 : w1.heap.size ≤ w2.heap.size := hb2.size
    have G3 := hide1 (And.intro (Blk.new w2 28 #[.slice pp R.length cp]) ((Below.refl w2.heap.size w2).alloc (Nat.le_refl _) (.cells #[.slice pp R.length cp] 28)))
    clear ho2 hb2 hA2 T1 Z1 CS
    go_wp2_with fail
    generalize (w2.alloc (.cells #[.slice pp R.length cp] 28)) = w3 at G3 ⊢
    have Q3 : Hid (VarR w3 28 w2.heap.size pp R.length cp) := G3.out.1
    have Z3 := hide1 (Z2.out.trans (G3.out.2.mono Z2.out.size))
    have P3 := hide1 (P2.out.later G3.out.2)
    have s3 : w2.heap.size + 1 ≤ w3.heap.size := G3.out.1.lt
    clear G3 Z2 P2
    have TZ := hide1 (fun w' (hb : Below w.heap.size w w') => HT.out.below hb hp)
    clear HT
    refine (CT.out w3 Z3.out).mono ?_
    rintro e w4 ⟨b4, c4, rfl, ho4, hb4⟩
    have A4 := hide1 ho4
    have EA := hide1 (fun g (hg : (Value.slice b4 l.length c4).ownBlock = some g) => ho4.lt g hg)
    have Z4 := hide1 (Z3.out.trans (hb4.mono Z3.out.size))
    have Q4 := hide1 (Q3.out.later hb4)
    have P4 := hide1 (P3.out.later hb4)
    have s4 : w3.heap.size ≤ w4.heap.size := hb4.size
    clear Q3 P3
    clear ho4 hb4 Z3
    go_wp2_with fail
    refine (CI.out b4 c4 w4 A4.out.rd (TZ.out w4 Z4.out)).mono ?_
    rintro e w5 ⟨qo, cq, Rq, tq, rfl, hA5, ho5, hb5⟩
    obtain ⟨rfl, rfl⟩ := HA.out.det hA5
    have G5 : Hid (OwnR w5 w4.heap.size qo cq R) := ho5
    have EG := hide1 (fun g (hg : (Value.slice qo R.length cq).ownBlock = some g) => World.ownsRow.lt ho5 g hg)
    have Q5 := hide1 (Q4.out.later hb5)
    have P5 := hide1 (P4.out.later hb5)
    have A5 := hide1 (A4.out.later hb5)
    have Z5 := hide1 (Z4.out.trans (hb5.mono Z4.out.size))
    have s5 : w4.heap.size ≤ w5.heap.size := hb5.size
    clear Q4 P4 A4 Z4
    clear ho5 hb5 hA5
    have G6' := hide1 (And.intro (Blk.new w5 28 #[.slice qo R.length cq]) ((Below.refl w5.heap.size w5).alloc (Nat.le_refl _) (.cells #[.slice qo R.length cq] 28)))
    have xq := (Q5.out.cells).2
    have hlQ := (Q5.out.cells).1
    go_wp2_with fail
    try generalize (w5.alloc (.cells #[.slice qo R.length cq] 28)) = w6 at G6' ⊢
    have X6 : Hid (VarR w6 28 w5.heap.size qo R.length cq) := G6'.out.1
    have xs6 : w5.heap.size + 1 ≤ w6.heap.size := G6'.out.1.lt
    have Q6 := hide1 (Q5.out.later G6'.out.2)
    have P6 := hide1 (P5.out.later G6'.out.2)
    have A6 := hide1 (A5.out.later G6'.out.2)
    have Z6 := hide1 (Z5.out.trans (G6'.out.2.mono Z5.out.size))
    have G6 := hide1 (G5.out.later G6'.out.2)
    have s6 : w5.heap.size ≤ w6.heap.size := G6'.out.2.size
    clear Q5 P5 A5 Z5 G5
    clear G6' xq hlQ
    have xa := (X6.out.cells).2
    have xb := (Q6.out.cells).2
    have qt : (t != t) = false := by simp
    try go_wp2_with fail
    refine (eqRing_own qo pp R cq cp w6 (by omega) G6.out.rd P6.out.rd).mono ?_
    rintro e w7 ⟨rfl, hb7⟩
    have Q7 := hide1 (Q6.out.later hb7)
    have P7 := hide1 (P6.out.later hb7)
    have A7 := hide1 (A6.out.later hb7)
    have Z7 := hide1 (Z6.out.trans (hb7.mono Z6.out.size))
    have G7 := hide1 (G6.out.later hb7)
    have X7 := hide1 (X6.out.later hb7)
    have s7 : w6.heap.size ≤ w7.heap.size := hb7.size
    clear Q6 P6 A6 Z6 G6 X6
    clear hb7 xa xb
    go_wp2_with fail
    refine (CT.out w7 Z7.out).mono ?_
    rintro e w8 ⟨b8, c8, rfl, ho8, hb8⟩
    have T8 := hide1 ho8.rd
    have Q8 := hide1 (Q7.out.later hb8)
    have P8 := hide1 (P7.out.later hb8)
    have A8 := hide1 (A7.out.later hb8)
    have Z8 := hide1 (Z7.out.trans (hb8.mono Z7.out.size))
    have G8 := hide1 (G7.out.later hb8)
    have X8 := hide1 (X7.out.later hb8)
    have s8 : w7.heap.size ≤ w8.heap.size := hb8.size
    clear Q7 P7 A7 Z7 G7 X7
    clear ho8 hb8
    go_wp2_with fail
    refine (eqIntS_own b4 b8 l c4 c8 w8 hn A8.out.rd T8.out).mono ?_
    rintro e w9 ⟨rfl, hb9⟩
    have Q9 := hide1 (Q8.out.later hb9)
    have P9 := hide1 (P8.out.later hb9)
    have A9 := hide1 (A8.out.later hb9)
    have Z9 := hide1 (Z8.out.trans (hb9.mono Z8.out.size))
    have G9 := hide1 (G8.out.later hb9)
    have X9 := hide1 (X8.out.later hb9)
    have s9 : w8.heap.size ≤ w9.heap.size := hb9.size
    clear Q8 P8 A8 Z8 G8 X8
    clear hb9 T8
    go_wp2_with fail
    refine (markIntS_own b4 c4 w3.heap.size l w9 hn A9.out).mono ?_
    rintro e w10 ⟨rfl, _, hg10⟩
    clear A9
    have Q10 : Hid (VarR w10 28 w2.heap.size pp R.length cp) := gblk hg10 Q9.out (fun e => by have := EA.out _ e; omega)
    have P10 : Hid (OwnR w10 w1.heap.size pp cp R) := gown hg10 P9.out (fun k h1 h2 => by have := EP.out k h1; have := EA.out k h2; omega)
    have Z10 := hide1 (Z9.out.trans (gbelow (B := w.heap.size) hg10 (fun g hg => by have := EA.out g hg; omega) (by omega)))
    have G10 : Hid (OwnR w10 w4.heap.size qo cq R) := gown hg10 G9.out (fun k h1 h2 => by have := EG.out k h1; have := EA.out k h2; omega)
    have X10 : Hid (VarR w10 28 w5.heap.size qo R.length cq) := gblk hg10 X9.out (fun e => by have := EA.out _ e; omega)
    have s10 : w9.heap.size ≤ w10.heap.size := hg10.size
    clear hg10 Q9 P9 Z9 G9 X9
    have q8 : decide (1 + (l.length : Int) < 0) = false := decide_eq_false (by omega)
    have xa := (X10.out.cells).2
    have xb := (Q10.out.cells).2
    go_wp2_with fail
    refine (eqRing_own qo pp R cq cp w10 (by omega) G10.out.rd P10.out.rd).mono ?_
    rintro e w11 ⟨rfl, hb11⟩
    have Q11 := hide1 (Q10.out.later hb11)
    have P11 := hide1 (P10.out.later hb11)
    have Z11 := hide1 (Z10.out.trans (hb11.mono Z10.out.size))
    have G11 := hide1 (G10.out.later hb11)
    have X11 := hide1 (X10.out.later hb11)
    have s11 : w10.heap.size ≤ w11.heap.size := hb11.size
    clear Q10 P10 Z10 G10 X10
    clear hb11 xa xb
    have x := (X11.out.cells).2
    have M := hide1 (markRing_any qo cq 1 w4.heap.size R w11 (by omega) (by omega) (by omega) G11.out)
    rw [show ((1 : Nat) : Int) = 1 from rfl] at M
    go_wp2_with fail
    refine M.out.mono ?_
    rintro e w12 ⟨rfl, hp12, hg12⟩
    have N12 := hide1 (rdP_of_own (l := patPs 1 R.length) (by rw [patPs_length]; exact hp12))
    clear M x G11 hp12
    have Q12 : Hid (VarR w12 28 w2.heap.size pp R.length cp) := gblk hg12 Q11.out (fun e => by have := EG.out _ e; omega)
    have P12 : Hid (OwnR w12 w1.heap.size pp cp R) := gown hg12 P11.out (fun k h1 h2 => by have := EP.out k h1; have := EG.out k h2; omega)
    have Z12 := hide1 (Z11.out.trans (gbelow (B := w.heap.size) hg12 (fun g hg => by have := EG.out g hg; omega) (by omega)))
    have X12 : Hid (VarR w12 28 w5.heap.size qo R.length cq) := gblk hg12 X11.out (fun e => by have := EG.out _ e; omega)
    have s12 : w11.heap.size ≤ w12.heap.size := hg12.size
    clear hg12 Q11 P11 Z11 X11
    have q9 : decide (1 + 2 * (R.length : Int) < 0) = false := decide_eq_false (by omega)
    have e9 : ((1 + 2 * (R.length : Int)) != (1 + 2 * (R.length : Int))) = false := by simp
    have CH := hide1 (fun w' (h : RdP w' qo (patPs 1 R.length)) => heldRing_any qo R.length cq 1 w' (by omega) (by omega) (by omega) h)
    rw [show ((1 : Nat) : Int) = 1 from rfl] at CH
    have x := (X12.out.cells).2
    go_wp2_with fail
    refine (CH.out w12 N12.out).mono ?_
    rintro e w13 ⟨rfl, hb13⟩
    have Q13 := hide1 (Q12.out.later hb13)
    have P13 := hide1 (P12.out.later hb13)
    have Z13 := hide1 (Z12.out.trans (hb13.mono Z12.out.size))
    have X13 := hide1 (X12.out.later hb13)
    have N13 := hide1 (N12.out.later hb13)
    have s13 : w12.heap.size ≤ w13.heap.size := hb13.size
    clear Q12 P12 Z12 X12 N12
    clear hb13 x
    go_wp2_with fail
    refine (CT.out w13 Z13.out).mono ?_
    rintro e w14 ⟨b14, c14, rfl, ho14, hb14⟩
    have T14 := hide1 ho14.rd
    have Q14 := hide1 (Q13.out.later hb14)
    have P14 := hide1 (P13.out.later hb14)
    have Z14 := hide1 (Z13.out.trans (hb14.mono Z13.out.size))
    have X14 := hide1 (X13.out.later hb14)
    have N14 := hide1 (N13.out.later hb14)
    have s14 : w13.heap.size ≤ w14.heap.size := hb14.size
    clear Q13 P13 Z13 X13 N13
    clear ho14 hb14
    go_wp2_with fail
    refine (CI.out b14 c14 w14 T14.out (TZ.out w14 Z14.out)).mono ?_
    rintro e w15 ⟨ro, cr, Rz, tz, rfl, hA15, ho15, hb15⟩
    obtain ⟨rfl, rfl⟩ := HA.out.det hA15
    have H15 : Hid (OwnR w15 w14.heap.size ro cr R) := ho15
    have Q15 := hide1 (Q14.out.later hb15)
    have P15 := hide1 (P14.out.later hb15)
    have Z15 := hide1 (Z14.out.trans (hb15.mono Z14.out.size))
    have X15 := hide1 (X14.out.later hb15)
    have N15 := hide1 (N14.out.later hb15)
    have s15 : w14.heap.size ≤ w15.heap.size := hb15.size
    clear Q14 P14 Z14 X14 N14
    clear ho15 hb15 hA15 T14
    have G16 := hide1 (And.intro (Blk.new w15 28 #[.slice ro R.length cr]) ((Below.refl w15.heap.size w15).alloc (Nat.le_refl _) (.cells #[.slice ro R.length cr] 28)))
    have xq := (Q15.out.cells).2
    have hlQ := (Q15.out.cells).1
    go_wp2_with fail
    try generalize (w15.alloc (.cells #[.slice ro R.length cr] 28)) = w16 at G16 ⊢
    have Y16 : Hid (VarR w16 28 w15.heap.size ro R.length cr) := G16.out.1
    have Q16 := hide1 (Q15.out.later G16.out.2)
    have P16 := hide1 (P15.out.later G16.out.2)
    have Z16 := hide1 (Z15.out.trans (G16.out.2.mono Z15.out.size))
    have X16 := hide1 (X15.out.later G16.out.2)
    have N16 := hide1 (N15.out.later G16.out.2)
    have H16 := hide1 (H15.out.later G16.out.2)
    have s16 : w15.heap.size ≤ w16.heap.size := G16.out.2.size
    clear Q15 P15 Z15 X15 N15 H15
    clear G16 xq hlQ
    have xa := (Y16.out.cells).2
    have xb := (Q16.out.cells).2
    try go_wp2_with fail
    refine (eqRing_own ro pp R cr cp w16 (by omega) H16.out.rd P16.out.rd).mono ?_
    rintro e w17 ⟨rfl, hb17⟩
    have Q17 := hide1 (Q16.out.later hb17)
    have P17 := hide1 (P16.out.later hb17)
    have Z17 := hide1 (Z16.out.trans (hb17.mono Z16.out.size))
    have X17 := hide1 (X16.out.later hb17)
    have N17 := hide1 (N16.out.later hb17)
    have H17 := hide1 (H16.out.later hb17)
    have s17 : w16.heap.size ≤ w17.heap.size := hb17.size
    clear Q16 P16 Z16 X16 N16 H16
    clear hb17 xa xb Y16
    have x := (X17.out.cells).2
    go_wp2_with fail
    refine (CH.out w17 N17.out).mono ?_
    rintro e w18 ⟨rfl, hb18⟩
    have BF := hide1 (Z17.out.trans (hb18.mono Z17.out.size))
    go_wp2
    go_ret
    exact ⟨rfl, BF.out⟩
  · have q : decide (1048576 < (l.length : Int)) = true := decide_eq_true (by omega)
    clear HT
    go_enter Tryd.func6, Tryd.ntmps6
    go_wp2
    go_ret
    exact ⟨rfl, Below.refl _ _⟩

theorem door_met_FnExactRingOf (os : Os) (args : Array Value) : laidMetH Tryd.prog Rows.fnExactRingOfRow.laid ((World.doorLaid Tryd.prog 24 os).forCall (fun _ _ => 0) ⟨#[], args, []⟩).memory :=
  laidMetH_of_parts3 (fuel := 8) (laidMet_of_run' 8 (by kernel_rfl) (by kernel_rfl)) (by kernel_rfl) (by kernel_rfl)

set_option maxRecDepth 100000 in
theorem lifted_FnExactRingOf (os : Os) (started : os.Started) (H : Type) (enc : TypeId × Value → H) :
    ReturnsInHanded {} Tryd.checked os 6 .any (fun w args => (Rows.fnExactRingOfSpec.pre enc Tryd.prog Tryd.f6 [] false w args ∧ laidMetH Tryd.prog Rows.fnExactRingOfRow.laid w) ∧ sizedMet enc Tryd.prog Tryd.f6 (OpenSpec.ofChange Rows.fnExactRingOfSpec) false w args)
      (Rows.fnExactRingOfSpec.post enc Tryd.prog Tryd.f6 false true false false) := by
  refine returnsInHanded_of_change_and (C := Tryd.checked) (X := fun w _ => laidMetH Tryd.prog Rows.fnExactRingOfRow.laid w) (fun _ _ _ hh h => h.of_heap hh) (show ownKnob Tryd.prog.godebug = none by kernel_rfl) started (by kernel_rfl) Tryd.func6
    (ChangeSpec.witness_shaped (enc := enc) (C := Tryd.checked) (os := os) (X := fun w _ => laidMetH Tryd.prog Rows.fnExactRingOfRow.laid w) false (World.doorLaid Tryd.prog 24 os) #[.slice none 0 0] 8 rfl (World.shaped_of_RefB (by kernel_rfl) (by kernel_rfl)) (by kernel_rfl) (by kernel_rfl) (by kernel_rfl) (door_met_FnExactRingOf os _)) ?_
  intro W base args ds gs before hval0 hW _ _ hL _
  have hval : ∀ (j : Nat) t v, Tryd.f6.params[j]? = some t → args[j]? = some v → Value.okWide Tryd.prog W .any base t v := hval0
  have hW' := hW
  obtain ⟨p, q, hA0, hV, rfl, hfz, hnd⟩ := hW
  have hA : DataW.TrodAll enc Tryd.prog W 0 (fun _ => true) true Tryd.f6.params.toList args.toList ds p := hA0
  rw [Tryd.params6] at hA hval
  obtain ⟨v0, vs0, d0, ds0, p0, q0, hargs, rfl, rfl, h0, r0⟩ := trodAll_cons hA
  obtain ⟨rfl, rfl, rfl⟩ := trodAll_nil r0
  obtain rfl : args = #[v0] := by cases args; simp_all
  obtain ⟨rfl, rfl⟩ := trodVars_none hV
  have k0 := h0
  have lt0 : ∀ x ∈ p0, x.block < W.heap.size := by obtain ⟨m, hm⟩ := k0; exact DataW.trod_lt m _ _ _ hm
  obtain ⟨ao0, l0, ca0, rfl, hR0, hl0⟩ := open_intsV (hval 0 24 v0 rfl rfl) h0
  have hX := of_laid_FnExactRingOf hL
  clear hA0 hval0 hL
  try simp only [List.append_nil] at hW'
  refine (walk_FnExactRingOf ao0 l0 ca0 W hR0 hl0 hX).mono fun e W' ⟨he, bel⟩ => ?_
  subst he
  exact ⟨_, rfl, _, _, _, [], _, [], hW', trodAll_mk1 (shut_bool Tryd.underlying4 _), (trodAll_cons_mk (Below.trod (show laidOutB Tryd.prog = true by kernel_rfl) (by kernel_rfl) (of_decide_eq_true (by kernel_rfl)) k0 bel lt0) trodAll_mk0), rfl, bel.frame _, fun h => by cases h⟩

theorem row_FnExactRingOf : Rows.FnExactRingOfSaid :=
  OpenClaim.holds_of_wide 6 Tryd.f6 rfl rfl rfl rfl rfl rfl rfl ⟨rfl, rfl, rfl, rfl, rfl⟩ rfl rfl rfl rfl rfl (by kernel_rfl) Tryd.func6 (by kernel_rfl)
    (of_decide_eq_true (by kernel_rfl)) (by unfold Func.isWrapper; first | (rw [if_pos (by decide +kernel)]; kernel_rfl) | (rw [if_neg (by decide +kernel)]; exact ⟨rfl, rfl⟩))
    (fun os started H enc _ => lifted_FnExactRingOf os started H enc)

theorem proved_FnExactRingOf : Rows.FnExactRingOfCardSaid :=
  Claim7.holds_tied_plain_at .later [] Rows.fnExactRingOfCard.laidKinds true Rows.fnExactRingOfCard.stood.harness false
    row_FnExactRingOf (fun _ h => by cases h) (by kernel_rfl) (fun _ h => by cases h) fnExactRingOf_row_tie rfl ⟨rfl, rfl⟩ (by kernel_rfl) rfl
    (fun f fn hf hfn => by
      obtain rfl : f = 6 := Option.some.inj ((show Tryd.prog.funcNamed Tryd.f6.name = some 6 by kernel_rfl).symm.trans hf) |>.symm
      obtain rfl : fn = Tryd.f6 := (Option.some.inj (Tryd.func6.symm.trans hfn)).symm
      exact ⟨by kernel_rfl, fun j t ht => by
        rw [Tryd.params6] at ht
        have hm : t ∈ ([24] : List TypeId) := by simpa using Array.mem_of_getElem? ht
        have hall : (([24] : List TypeId).all fun u => !Tryd.prog.wantsStandIn u) = true := by kernel_rfl
        exact (show Tryd.prog.wantsStandIn t = false by simpa using List.all_eq_true.1 hall t hm)⟩)
    (by kernel_rfl)
#print axioms proved_FnExactRingOf
end Go.Proofs.YtdgpencendphbaaDoor
