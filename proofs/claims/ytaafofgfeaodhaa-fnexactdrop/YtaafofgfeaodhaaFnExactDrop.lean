/- Drop answers as its model at every argument. -/
import Derived.Test.YtaafofgfeaodhaaRows
import Derived.ProofKit
import Derived.OpenShut
import Derived.ShutString
import Derived.ChangeOld
import Derived.Test.YtaafofgfeaodhaaQuW
namespace Go.Proofs.Ytaafofgfeaodhaa
open Go.ChangeShapes Go.WideShapes Go.ChangeAt Go.RowKit
open Go.ChangeMaps (open_string shut_string)
set_option linter.unusedVariables false

set_option maxRecDepth 100000 in
set_option maxHeartbeats 8000000 in
theorem walk_FnExactDrop (ao : Option Addr) (l : List ByteArray) (ca : Nat) (ad : Int) (a1 : ByteArray) (w : World) (hR : RdQ w ao l) (hl : l.length ≤ maxLen ∧ ∀ i (h : i < l.length), l[i].size ≤ maxLen) (w1 : a1.size ≤ maxLen) :
    Calls Try.prog 8 #[quV ao l.length ca ad, .string a1] w fun e w' => e = .returned (.bool true) ∧ Below w.heap.size w w' := by
  have B0 := fun (w : World) o => (Below.refl w.heap.size w).alloc (Nat.le_refl _) o
  have CZ := hide1 (fun o1 => szQueue_any ao l ca ad (w.alloc o1) hl.1 hl.2 (hR.later (B0 w o1)))
  have HR := hide1 hR
  unfold quV at CZ ⊢
  clear hR hl
  unfold maxLen at w1
  by_cases hs : a1.size ≤ 1048576
  · have q : decide (1048576 < (a1.size : Int)) = false := decide_eq_false (by omega)
    go_enter Try.func8, Try.ntmps8
    go_wp2_with fail
    refine (CZ.out _).mono ?_
    rintro e w1 ⟨hr, hb1⟩
    have V1 := hide1 (VarQ.box hb1)
    have B1 := hide1 (boxQ_below hb1)
    clear hb1 CZ
    rcases hr with rfl | ⟨r, rfl, hn, hks⟩
    · go_wp2
      go_ret
      exact ⟨rfl, B1.out⟩
    have qr : decide ((r : Int) < 0) = false := by simp
    obtain ⟨hs1, x0, x1⟩ := V1.out.cells
    have T2 := hide1 (toQueue_own ao l ca ad w1 hn (HR.out.later B1.out))
    go_wp2_with fail
    refine T2.out.mono ?_
    rintro e w2 ⟨b2, c2, rfl, ho2, hb2⟩
    have RD2 := hide1 ho2.rd
    have B2 := hide1 (B1.out.trans (hb2.mono B1.out.size))
    have V2 := hide1 (V1.out.later hb2)
    clear ho2 hb2 T2 x0 x1 V1
    obtain ⟨⟨⟨L, M⟩, t⟩, hRR⟩ : ∃ R, drpR l ad a1 = R := ⟨_, rfl⟩
    have hL : L.length ≤ 1048576 := by have := drpR_length l ad a1; rw [hRR] at this; dsimp only at this; omega
    have HRR := hide1 hRR
    clear hRR
    have L3 := hide1 (specDrop_own b2 l c2 ad a1 w2 hn RD2.out HRR.out)
    go_wp2_with fail
    refine L3.out.mono ?_
    rintro e w3 ⟨po, cp, rfl, ho3, hb3⟩
    have B3 := hide1 (B2.out.trans (hb3.mono B2.out.size))
    have V3 := hide1 (V2.out.later hb3)
    have R3 := hide1 ho3.rd
    have I3 := hide1 (HR.out.later B3.out)
    clear ho3 hb3 L3 RD2 V2
    obtain ⟨hs3, x0, x1⟩ := V3.out.cells
    have T4 := hide1 (fun o1 => toQueue_own ao l ca ad (w3.alloc o1) hn (I3.out.later (B0 w3 o1)))
    go_wp2_with fail
    refine (T4.out _).mono ?_
    rintro e w4 ⟨b4, c4, rfl, ho4, hb4⟩
    have s4 : w3.heap.size + 1 ≤ w4.heap.size := boxQ_size hb4
    have O4 := hide1 (ho4.base (show w3.heap.size + 1 ≤ _ by rw [World.size_alloc]; omega))
    have B34 := hide1 (boxQ_below hb4)
    have N4 : Hid (BndQ (w3.heap.size + 1) w4 w.heap.size ao l ca ad w3.heap.size po L cp M) := hide1 ⟨by omega, by omega, R3.out.inB (by omega), I3.out.inB (by omega), V3.out.later B34.out, I3.out.later B34.out, VarQ.box hb4, R3.out.later B34.out⟩
    have B4 := hide1 (B3.out.trans (B34.out.mono B3.out.size))
    clear ho4 hb4 T4 x0 x1 V3 I3 R3
    have hcap := O4.out.cap
    have L5 := hide1 (fun o1 => implDrop_own b4 l c4 ad a1 (w4.alloc o1) hn hcap.1 hcap.2 (O4.out.rd.later (B0 w4 o1)) HRR.out)
    clear hcap
    have qt : (t != t) = false := by simp
    go_wp2_with fail
    refine (L5.out _).mono ?_
    rintro e w5 ⟨qo, cq, rfl, ho5, hb5⟩
    have V5 := hide1 (VarQ.box hb5)
    have B45 := hide1 (boxQ_below hb5)
    have s5 : w4.heap.size + 1 ≤ w5.heap.size := boxQ_size hb5
    have N5 := hide1 (N4.out.later s4 B45.out)
    have X5 := hide1 (O4.out.later B45.out)
    have G5 := hide1 (ho5.base (show w4.heap.size + 1 ≤ _ by rw [World.size_alloc]; omega))
    have B5 := hide1 (B4.out.trans (B45.out.mono B4.out.size))
    clear ho5 hb5 L5
    obtain ⟨_, c0, c1⟩ := N5.out.v6.cells
    have E6 := hide1 (fun o1 => eqQueue_own qo po L cq cp M (w5.alloc o1) hL (G5.out.rd.later (B0 w5 o1)) (N5.out.r6.later (B0 w5 o1)))
    go_wp2_with fail
    refine (E6.out _).mono ?_
    rintro e w6 ⟨rfl, hb6⟩
    have V9 := hide1 (VarQ.box hb6)
    have B56 := hide1 (boxQ_below hb6)
    have s6 : w5.heap.size + 1 ≤ w6.heap.size := boxQ_size hb6
    have N6 := hide1 (N5.out.later (by omega) B56.out)
    have V6 := hide1 (V5.out.later B56.out)
    have X6 := hide1 (X5.out.later B56.out)
    have G6 := hide1 (G5.out.later B56.out)
    have B6 := hide1 (B5.out.trans (B56.out.mono B5.out.size))
    clear hb6 E6 c0 c1
    have SV := hide1 N6.out.v0
    have SR := hide1 N6.out.ri
    have SX := hide1 V6.out
    have RX := hide1 X6.out.rd
    have CT := hide1 (fun w' (hb : Below w6.heap.size w6 w') => toQueue_own ao l ca ad w' hn (SR.out.later hb))
    obtain ⟨mX, z0, z1⟩ := SX.out.cells
    obtain ⟨mS, x0, x1⟩ := SV.out.cells
    have ZX := hide1 (And.intro z0 (And.intro z1 (And.intro x0 x1)))
    go_wp2
    go_region_held3 (fun w' => w'.cell? ⟨w4.heap.size, 0, none⟩ = some (.int .i64 ad) ∧ w'.cell? ⟨w4.heap.size, 1, none⟩ = some (.slice b4 l.length c4) ∧ w'.cell? ⟨w.heap.size, 0, none⟩ = some (.int .i64 ad) ∧ w'.cell? ⟨w.heap.size, 1, none⟩ = some (.slice ao l.length ca)) (first | go_keep | exact ⟨(D8.out.cell mX).trans ZX.out.1, (D8.out.cell mX).trans ZX.out.2.1, (D8.out.cell mS).trans ZX.out.2.2.1, (D8.out.cell mS).trans ZX.out.2.2.2⟩ | exact ⟨(D7.out.cell mX).trans ZX.out.1, (D7.out.cell mX).trans ZX.out.2.1, (D7.out.cell mS).trans ZX.out.2.2.1, (D7.out.cell mS).trans ZX.out.2.2.2⟩) ((first | (go_at_call 23; refine (CE.out _ (by go_grown)).mono ?_; rintro e w8 ⟨rfl, hb8⟩; have D8 : Hid (Below w6.heap.size w6 w8) := (D7.out.trans (show Below w6.heap.size w7 _ by go_grown)).trans (hb8.mono (by have := D7.out.size; go_size)); clear hb8) | (go_at_call 22; refine (CT.out _ (by go_grown)).mono ?_; rintro e w7 ⟨b7, c7, rfl, ho7, hb7⟩; have D7 : Hid (Below w6.heap.size w6 w7) := (show Below w6.heap.size w6 _ by go_grown).trans hb7; have CE := hide1 (fun w' (hb : Below w7.heap.size w7 w') => eqQueue_own b4 b7 l c4 c7 ad w' hn (RX.out.later (D7.out.trans (hb.mono D7.out.size))) (ho7.rd.later hb)); clear ho7)))
    clear z0 z1 x0 x1 ZX CT CE D7 hb7 mX mS SX SR
    have N8 := hide1 (N6.out.later (by omega) D8.out)
    have V8 := hide1 (V6.out.later D8.out)
    have W9 := hide1 (V9.out.later D8.out)
    have X8 := hide1 (X6.out.later D8.out)
    have G8 := hide1 (G6.out.later D8.out)
    have B8 := hide1 (B6.out.trans (D8.out.mono B6.out.size))
    have s8 : w6.heap.size ≤ w8.heap.size := D8.out.size
    clear SV RX N6 V6 V9 X6 G6
    obtain ⟨_, z0, z1⟩ := V8.out.cells
    have M8 := hide1 (markQueue_own b4 c4 (w3.heap.size + 1) l ad w8 hn X8.out)
    go_wp2_with fail
    refine M8.out.mono ?_
    rintro e w9 ⟨rfl, _, hg9⟩
    have e9 : ∀ g, (Value.slice b4 l.length c4).ownBlock = some g → w3.heap.size + 1 ≤ g ∧ g < w4.heap.size := fun g hg => O4.out.lt g hg
    have eG : ∀ g, (Value.slice qo L.length cq).ownBlock = some g → w4.heap.size + 1 ≤ g ∧ g < w5.heap.size := fun g hg => G5.out.lt g hg
    have N9 := hide1 (N8.out.below (gbelow hg9 (fun g hg => (e9 g hg).1) (by omega)))
    have W10 : Hid (VarQ w9 26 w5.heap.size qo L.length cq M) := gblk hg9 W9.out (fun e => by have := e9 _ e; omega)
    have G9 : Hid (OwnQ w9 (w4.heap.size + 1) qo cq L) := gown hg9 G8.out (fun k h1 h2 => by have := eG k h1; have := e9 k h2; omega)
    have B9 := hide1 (B8.out.trans (gbelow (B := w.heap.size) hg9 (fun g hg => by have := e9 g hg; have := B3.out.size; omega) (by have := B8.out.size; omega)))
    have s9 : w8.heap.size ≤ w9.heap.size := hg9.size
    clear hg9 M8 z0 z1 N8 V8 W9 X8 G8
    obtain ⟨_, y0, y1⟩ := W10.out.cells
    obtain ⟨_, c0, c1⟩ := N9.out.v6.cells
    have ql : decide ((1 : Int) + (l.length : Int) < 0) = false := by simp; omega
    have E9 := hide1 (eqQueue_own qo po L cq cp M w9 hL G9.out.rd N9.out.r6)
    go_wp2_with fail
    refine E9.out.mono ?_
    rintro e w10 ⟨rfl, hb10⟩
    have N10 := hide1 (N9.out.later (by omega) hb10)
    have W11 := hide1 (W10.out.later hb10)
    have G10 := hide1 (G9.out.later hb10)
    have B10 := hide1 (B9.out.trans (hb10.mono B9.out.size))
    have s10 : w9.heap.size ≤ w10.heap.size := hb10.size
    clear hb10 E9 y0 y1 c0 c1 N9 W10 G9
    obtain ⟨_, y0, y1⟩ := W11.out.cells
    have M10 := hide1 (markQueue_own qo cq (w4.heap.size + 1) L M w10 hL G10.out)
    go_wp2_with fail
    refine M10.out.mono ?_
    rintro e w11 ⟨rfl, hp11, hg11⟩
    have N11 := hide1 (N10.out.below (gbelow hg11 (fun g hg => by have := eG g hg; omega) (by omega)))
    have W12 : Hid (VarQ w11 26 w5.heap.size qo L.length cq M) := gblk hg11 W11.out (fun e => by have := eG _ e; omega)
    have P11 := hide1 hp11
    have B11 := hide1 (B10.out.trans (gbelow (B := w.heap.size) hg11 (fun g hg => by have := eG g hg; have := B4.out.size; omega) (by have := B10.out.size; omega)))
    have s11 : w10.heap.size ≤ w11.heap.size := hg11.size
    clear hg11 hp11 M10 y0 y1 N10 W11 G10
    obtain ⟨_, y0, y1⟩ := W12.out.cells
    have H11 := hide1 (heldQueue_own qo L.length cq M w11 hL P11.out)
    have qm : ((1 : Int) + (L.length : Int) != (1 : Int) + (L.length : Int)) = false := by simp
    have qn : decide ((1 : Int) + (L.length : Int) < 0) = false := by simp; omega
    go_wp2_with fail
    refine H11.out.mono ?_
    rintro e w12 ⟨rfl, hb12⟩
    have N12 := hide1 (N11.out.later (by omega) hb12)
    have W13 := hide1 (W12.out.later hb12)
    have P12 := hide1 (P11.out.later hb12)
    have B12 := hide1 (B11.out.trans (hb12.mono B11.out.size))
    have s12 : w11.heap.size ≤ w12.heap.size := hb12.size
    clear hb12 H11 y0 y1 N11 W12 P11
    obtain ⟨_, x0, x1⟩ := N12.out.v0.cells
    have T13 := hide1 (toQueue_own ao l ca ad w12 hn N12.out.ri)
    go_wp2_with fail
    refine T13.out.mono ?_
    rintro e w13 ⟨b13, c13, rfl, ho13, hb13⟩
    have L14 := hide1 (implDrop_own b13 l c13 ad a1 w13 hn ho13.cap.1 ho13.cap.2 ho13.rd HRR.out)
    have N13 := hide1 (N12.out.later (by omega) hb13)
    have W14 := hide1 (W13.out.later hb13)
    have P13 := hide1 (P12.out.later hb13)
    have B13 := hide1 (B12.out.trans (hb13.mono B12.out.size))
    have s13 : w12.heap.size ≤ w13.heap.size := hb13.size
    clear ho13 hb13 T13 x0 x1 N12 W13 P12
    go_wp2_with fail
    refine L14.out.mono ?_
    rintro e w14 ⟨ro, cr, rfl, ho14, hb14⟩
    have N14 := hide1 (N13.out.later (by omega) hb14)
    have W15 := hide1 (W14.out.later hb14)
    have P14 := hide1 (P13.out.later hb14)
    have B14 := hide1 (B13.out.trans (hb14.mono B13.out.size))
    have R14 := hide1 ho14.rd
    clear ho14 hb14 L14 N13 W14 P13
    obtain ⟨_, c0, c1⟩ := N14.out.v6.cells
    have E15 := hide1 (fun o1 => eqQueue_own ro po L cr cp M (w14.alloc o1) hL (R14.out.later (B0 w14 o1)) (N14.out.r6.later (B0 w14 o1)))
    go_wp2_with fail
    refine (E15.out _).mono ?_
    rintro e w15 ⟨rfl, hb15⟩
    have B1415 := hide1 (boxQ_below hb15)
    have W16 := hide1 (W15.out.later B1415.out)
    have P15 := hide1 (P14.out.later B1415.out)
    have B15 := hide1 (B14.out.trans (B1415.out.mono B14.out.size))
    clear hb15 E15 c0 c1 N14 W15 P14
    obtain ⟨_, y0, y1⟩ := W16.out.cells
    have H16 := hide1 (heldQueue_own qo L.length cq M w15 hL P15.out)
    go_wp2_with fail
    refine H16.out.mono ?_
    rintro e w16 ⟨rfl, hb16⟩
    have B16 := hide1 (B15.out.trans (hb16.mono B15.out.size))
    clear hb16
    go_wp2
    go_ret
    exact ⟨rfl, B16.out⟩
  · have q : decide (1048576 < (a1.size : Int)) = true := decide_eq_true (by omega)
    have HB := hide1 (B0 w (.cells #[.int .i64 ad, .slice ao l.length ca] 38))
    clear CZ
    go_enter Try.func8, Try.ntmps8
    go_wp2
    go_ret
    exact ⟨rfl, by first | exact HB.out | exact Below.refl _ _⟩

set_option maxRecDepth 100000 in
theorem lifted_FnExactDrop (os : Os) (started : os.Started) (H : Type) (enc : TypeId × Value → H) :
    ReturnsInHanded {} Try.checked os 8 .any (Rows.fnExactDropSpec.pre6 enc Try.prog Try.f8 Rows.fnExactDropRow.domain false) (Rows.fnExactDropSpec.post enc Try.prog Try.f8 false true false false) := by
  refine returnsInHanded_of_change (C := Try.checked) (show ownKnob Try.prog.godebug = none by kernel_rfl) started (by kernel_rfl) Try.func8
    (ChangeSpec.witness6 (enc := enc) (C := Try.checked) false ⟨#[], #[.agg #[.int .i64 0, .slice none 0 0], .string ByteArray.empty], []⟩ 8 (by kernel_rfl) (by kernel_rfl) (by kernel_rfl) (by kernel_rfl)) ?_
  intro W base args ds gs before hval0 hW hcnd _
  have hval : ∀ (j : Nat) t v, Try.f8.params[j]? = some t → args[j]? = some v → Value.okWide Try.prog W .any base t v := hval0
  have hW' := hW
  obtain ⟨p, q, hA0, hV, rfl, hfz, hnd⟩ := hW
  have hA : DataW.TrodAll enc Try.prog W 0 (fun _ => true) true Try.f8.params.toList args.toList ds p := hA0
  rw [Try.params8] at hA hval
  obtain ⟨v0, vs0, d0, ds0, p0, q0, hargs, rfl, rfl, h0, r0⟩ := trodAll_cons hA
  obtain ⟨v1, vs1, d1, ds1, p1, q1, rfl, rfl, rfl, h1, r1⟩ := trodAll_cons r0
  obtain ⟨rfl, rfl, rfl⟩ := trodAll_nil r1
  obtain rfl : args = #[v0, v1] := by cases args; simp_all
  obtain ⟨rfl, rfl⟩ := trodVars_none hV
  have k0 := h0
  have lt0 : ∀ x ∈ p0, x.block < W.heap.size := by obtain ⟨m, hm⟩ := k0; exact DataW.trod_lt m _ _ _ hm
  obtain ⟨ao0, l0, ca0, m0, rfl, hR0, hl0⟩ := open_queue (hval 0 38 v0 rfl rfl) h0
  obtain ⟨a1, rfl, rfl, rfl, w1⟩ := open_string Try.underlying9 (hval 1 9 v1 rfl rfl) h1
  clear hA0 hval0
  try simp only [List.append_nil] at hW'
  refine (walk_FnExactDrop ao0 l0 ca0 m0 a1 W hR0 hl0 w1).mono fun e W' ⟨he, bel⟩ => ?_
  subst he
  exact ⟨_, rfl, _, _, _, [], _, [], hW', trodAll_mk1 (shut_bool Try.underlying4 _), (trodAll_cons_mk (Below.trod (show laidOutB Try.prog = true by kernel_rfl) (by kernel_rfl) (of_decide_eq_true (by kernel_rfl)) k0 bel lt0) (trodAll_cons_mk (shut_string Try.underlying9 w1) trodAll_mk0)), rfl, bel.frame _, fun h => by cases h⟩

theorem proved_FnExactDrop : Rows.FnExactDropSaid :=
  OpenClaim.holds_of_wide 8 Try.f8 rfl rfl rfl rfl rfl rfl rfl ⟨rfl, rfl, rfl, rfl, rfl⟩ rfl rfl rfl rfl rfl (by kernel_rfl) Try.func8 (by kernel_rfl)
    (of_decide_eq_true (by kernel_rfl)) (by unfold Func.isWrapper; first | (rw [if_pos (by decide +kernel)]; kernel_rfl) | (rw [if_neg (by decide +kernel)]; exact ⟨rfl, rfl⟩))
    (fun os started H enc _ => lifted_FnExactDrop os started H enc)
#print axioms proved_FnExactDrop
end Go.Proofs.Ytaafofgfeaodhaa
