/- CleanTable answers as its model at every argument. -/
import Derived.Test.YtahglnojllkjdaaRows
import Derived.ProofKit
import Derived.OpenShut
import Derived.ShutString
import Derived.ChangeOld
import Derived.Test.YtahglnojllkjdaaTabC1
namespace Go.Proofs.Ytahglnojllkjdaa
open Go.ChangeShapes Go.WideShapes Go.ChangeAt Go.RowKit
open Go.ChangeMaps (open_string shut_string)
set_option linter.unusedVariables false

set_option maxRecDepth 100000 in
set_option maxHeartbeats 8000000 in
theorem walk_FnExactCleanTable (ao a' : Option Addr) (l o : List Ce) (ca ca' : Nat) (mv : Int) (w : World) (hR : RdJ w ao l) (hQ : RdJ w a' o) (hl : l.length ≤ maxLen ∧ ∀ i (h : i < l.length), l[i].key.size ≤ maxLen) (hm : o.length ≤ maxLen ∧ ∀ i (h : i < o.length), o[i].key.size ≤ maxLen) :
    Calls Try.prog 11 #[tbV ao l.length ca a' o.length ca' mv] w fun e w' => e = .returned (.bool true) ∧ Below w.heap.size w w' := by
  have B0 := fun (w : World) o => (Below.refl w.heap.size w).alloc (Nat.le_refl _) o
  have CZ := hide1 (fun o1 => szTable_any ao a' l o ca ca' mv (w.alloc o1) hl.1 hm.1 (hR.later (B0 w o1)) (hQ.later (B0 w o1)) hl.2 hm.2)
  have HR := hide1 hR
  have HQ := hide1 hQ
  unfold tbV at CZ ⊢
  clear hR hQ hl hm
  go_enter Try.func11, Try.ntmps11
  go_wp2_with fail
  refine (CZ.out _).mono ?_
  rintro e w1 ⟨hr, hb1⟩
  have V1 := hide1 (VarT.box hb1)
  have B1 := hide1 (box_below hb1)
  clear hb1 CZ
  rcases hr with rfl | ⟨r, rfl, hsm, hsm'⟩
  · go_wp2
    go_ret
    exact ⟨rfl, B1.out⟩
  have qr : decide ((r : Int) < 0) = false := by simp
  have hn := hsm.1
  have hn' := hsm'.1
  clear hsm hsm'
  obtain ⟨hs1, x0, x1, x2⟩ := V1.out.cells
  have T2 := hide1 (toTable_own ao a' l o ca ca' mv w1 hn hn' (HR.out.later B1.out) (HQ.out.later B1.out))
  unfold tbV at T2
  go_wp2_with fail
  refine T2.out.mono ?_
  rintro e w2 ⟨b2, c2, d2, e2, rfl, ho2, hb2⟩
  have RD2 := hide1 ho2.rd
  have B2 := hide1 (B1.out.trans (hb2.mono B1.out.size))
  have V2 := hide1 (V1.out.later hb2)
  clear ho2 hb2 T2 x0 x1 x2 V1
  have L3 := hide1 (specClean_any b2 d2 l o c2 e2 mv w2 hn hn' RD2.out.1 RD2.out.2)
  unfold tbV at L3
  go_wp2_with fail
  refine L3.out.mono ?_
  rintro e w3 ⟨po, L, cp, po', O, cp', M, t, rfl, hN, ho3, hp3, ha3, hb3⟩
  have hL := cleanA_small hN
  have hO := hL.2
  have hL := hL.1
  have HN := hide1 hN
  have B3 := hide1 (B2.out.trans (hb3.mono B2.out.size))
  have V3 := hide1 (V2.out.later hb3)
  have R3 := hide1 (And.intro (rdC_of_own ho3) (rdC_of_own hp3))
  have P3 := hide1 (own_lt2 ho3)
  have P3' := hide1 (own_lt2 hp3)
  have I3 := hide1 (HR.out.later B3.out)
  have I3' := hide1 (HQ.out.later B3.out)
  clear hN ho3 hp3 ha3 hb3 L3 RD2 V2
  obtain ⟨hs3, x0, x1, x2⟩ := V3.out.cells
  have T4 := hide1 (fun o1 => toTable_own ao a' l o ca ca' mv (w3.alloc o1) hn hn' (I3.out.later (B0 w3 o1)) (I3'.out.later (B0 w3 o1)))
  unfold tbV at T4 ⊢
  go_wp2_with fail
  refine (T4.out _).mono ?_
  rintro e w4 ⟨b4, c4, d4, e4, rfl, ho4, hb4⟩
  have s4 : w3.heap.size + 1 ≤ w4.heap.size := box_size hb4
  have O4 := hide1 (ho4.base (show w3.heap.size + 1 ≤ _ by rw [World.size_alloc]; omega))
  have B34 := hide1 (box_below hb4)
  have N4 : Hid (BndT (w3.heap.size + 1) w4 w.heap.size ao l ca a' o ca' mv w3.heap.size po L cp po' O cp' M) := hide1 ⟨by omega, by omega, (fun b hb => by have := P3.out b hb; omega), (fun b hb => by have := P3'.out b hb; omega), I3.out.inB (by omega), I3'.out.inB (by omega), V3.out.later B34.out, I3.out.later B34.out, I3'.out.later B34.out, VarT.box hb4, R3.out.1.later B34.out, R3.out.2.later B34.out⟩
  have B4 := hide1 (B3.out.trans (B34.out.mono B3.out.size))
  clear ho4 hb4 T4 x0 x1 x2 V3 P3 P3' I3 I3' R3
  have L5 := hide1 (fun o1 => implClean_any b4 d4 l o c4 e4 mv (w4.alloc o1) hn hn' (((O4.out.rd.1.later (B0 w4 o1)).toJ)) (((O4.out.rd.2.later (B0 w4 o1)).toJ)))
  unfold tbV at L5
  go_wp2_with fail
  refine (L5.out _).mono ?_
  rintro e w5 ⟨qo, L', cq, qo', O', cq', M', t', rfl, hN', ho5, hp5, ha5, hb5⟩
  obtain ⟨rfl, rfl, rfl, rfl⟩ := hN'.det HN.out
  have V5 := hide1 (VarT.box hb5)
  have B45 := hide1 (box_below hb5)
  have s5 : w4.heap.size + 1 ≤ w5.heap.size := box_size hb5
  have N5 := hide1 (N4.out.later s4 B45.out)
  have X5 := hide1 (O4.out.later B45.out)
  have G5 : Hid (Own2 w5 (w4.heap.size + 1) qo cq L' qo' cq' O') := hide1 (Own2.base (B := (w4.alloc _).heap.size) ⟨ho5, hp5, ha5⟩ (by rw [World.size_alloc]; omega))
  have B5 := hide1 (B4.out.trans (B45.out.mono B4.out.size))
  clear hN' ho5 hp5 ha5 hb5 L5
  obtain ⟨_, c0, c1, c2⟩ := N5.out.v6.cells
  have E6 := hide1 (fun o1 => eqTable_same qo po qo' po' L' O' cq cp cq' cp' M' (w5.alloc o1) (by omega) (by omega) (G5.out.rd.1.later (B0 w5 o1)) (N5.out.r6.later (B0 w5 o1)) (G5.out.rd.2.later (B0 w5 o1)) (N5.out.r6'.later (B0 w5 o1)))
  unfold tbV at E6 ⊢
  have qt : (t' != t') = false := by simp
  go_wp2_with fail
  refine (E6.out _).mono ?_
  rintro e w6 ⟨rfl, hb6⟩
  have V9 := hide1 (VarT.box hb6)
  have B56 := hide1 (box_below hb6)
  have s6 : w5.heap.size + 1 ≤ w6.heap.size := box_size hb6
  have N6 := hide1 (N5.out.later (by omega) B56.out)
  have V6 := hide1 (V5.out.later B56.out)
  have X6 := hide1 (X5.out.later B56.out)
  have G6 := hide1 (G5.out.later B56.out)
  have B6 := hide1 (B5.out.trans (B56.out.mono B5.out.size))
  clear hb6 E6 c0 c1 c2
  have SV := hide1 N6.out.v0
  have RX := hide1 X6.out.rd
  have CT := hide1 (fun w' (hb : Below w6.heap.size w6 w') => toTable_own ao a' l o ca ca' mv w' hn hn' (N6.out.ri.later hb) (N6.out.ri'.later hb))
  unfold tbV at CT
  obtain ⟨mX, z0, z1, z2⟩ := V6.out.cells
  obtain ⟨mS, x0, x1, x2⟩ := SV.out.cells
  have ZX := hide1 (And.intro z0 (And.intro z1 (And.intro z2 (And.intro x0 (And.intro x1 x2)))))
  go_wp2
  go_region_held3 (fun w' => w'.cell? ⟨w4.heap.size, 0, none⟩ = some (.slice b4 l.length c4) ∧ w'.cell? ⟨w4.heap.size, 1, none⟩ = some (.slice d4 o.length e4) ∧ w'.cell? ⟨w4.heap.size, 2, none⟩ = some (.int .i64 mv) ∧ w'.cell? ⟨w.heap.size, 0, none⟩ = some (.slice ao l.length ca) ∧ w'.cell? ⟨w.heap.size, 1, none⟩ = some (.slice a' o.length ca') ∧ w'.cell? ⟨w.heap.size, 2, none⟩ = some (.int .i64 mv)) (first | go_keep | exact ⟨(D8.out.cell mX).trans ZX.out.1, (D8.out.cell mX).trans ZX.out.2.1, (D8.out.cell mX).trans ZX.out.2.2.1, (D8.out.cell mS).trans ZX.out.2.2.2.1, (D8.out.cell mS).trans ZX.out.2.2.2.2.1, (D8.out.cell mS).trans ZX.out.2.2.2.2.2⟩ | exact ⟨(D7.out.cell mX).trans ZX.out.1, (D7.out.cell mX).trans ZX.out.2.1, (D7.out.cell mX).trans ZX.out.2.2.1, (D7.out.cell mS).trans ZX.out.2.2.2.1, (D7.out.cell mS).trans ZX.out.2.2.2.2.1, (D7.out.cell mS).trans ZX.out.2.2.2.2.2⟩) ((first | (go_at_call 17; refine (CE.out _ (by go_grown)).mono ?_; rintro e w8 ⟨rfl, hb8⟩; have D8 : Hid (Below w6.heap.size w6 w8) := (D7.out.trans (show Below w6.heap.size w7 _ by go_grown)).trans (hb8.mono (by have := D7.out.size; go_size)); clear hb8) | (go_at_call 22; refine (CT.out _ (by go_grown)).mono ?_; rintro e w7 ⟨b7, c7, d7, e7, rfl, ho7, hb7⟩; have D7 : Hid (Below w6.heap.size w6 w7) := (show Below w6.heap.size w6 _ by go_grown).trans hb7; have CE := hide1 (fun w' (hb : Below w7.heap.size w7 w') => eqTable_same b4 b7 d4 d7 l o c4 c7 e4 e7 mv w' hn hn' (RX.out.1.later (D7.out.trans (hb.mono D7.out.size))) (ho7.rd.1.later hb) (RX.out.2.later (D7.out.trans (hb.mono D7.out.size))) (ho7.rd.2.later hb)); unfold tbV at CE; clear ho7)))
  clear z0 z1 z2 x0 x1 x2 ZX CT CE D7 hb7 mX mS
  have N8 := hide1 (N6.out.later (by omega) D8.out)
  have V8 := hide1 (V6.out.later D8.out)
  have W9 := hide1 (V9.out.later D8.out)
  have X8 := hide1 (X6.out.later D8.out)
  have G8 := hide1 (G6.out.later D8.out)
  have B8 := hide1 (B6.out.trans (D8.out.mono B6.out.size))
  have s8 : w6.heap.size ≤ w8.heap.size := D8.out.size
  clear SV RX N6 V6 V9 X6 G6
  obtain ⟨_, z0, z1, z2⟩ := V8.out.cells
  have M8 := hide1 (markTable_own b4 d4 l o c4 e4 1 (w3.heap.size + 1) mv w8 hn hn' (by omega) (by omega) X8.out)
  unfold tbV at M8
  go_wp2_with fail
  refine M8.out.mono ?_
  rintro e w9 ⟨rfl, _, _, hg9⟩
  have e9 : ∀ g, ((Value.slice b4 l.length c4).ownBlock = some g ∨ (Value.slice d4 o.length e4).ownBlock = some g) → w3.heap.size + 1 ≤ g ∧ g < w4.heap.size := fun g hg => O4.out.lt g hg
  have eG : ∀ g, ((Value.slice qo L'.length cq).ownBlock = some g ∨ (Value.slice qo' O'.length cq').ownBlock = some g) → w4.heap.size + 1 ≤ g ∧ g < w5.heap.size := fun g hg => G5.out.lt g hg
  have N9 := hide1 (N8.out.below (hg9.below (fun g hg => (e9 g hg).1) (by omega)))
  have W10 : Hid (VarT w9 26 w5.heap.size qo L'.length cq qo' O'.length cq' M') := hg9.blk W9.out (fun e => by have := e9 _ (.inl e); omega) (fun e => by have := e9 _ (.inr e); omega)
  have G9 : Hid (Own2 w9 (w4.heap.size + 1) qo cq L' qo' cq' O') := ⟨hg9.own G8.out.1 (fun k h1 h2 => by have := eG k (.inl h1); have := e9 k (.inl h2); omega) (fun k h1 h2 => by have := eG k (.inl h1); have := e9 k (.inr h2); omega), hg9.own G8.out.2.1 (fun k h1 h2 => by have := eG k (.inr h1); have := e9 k (.inl h2); omega) (fun k h1 h2 => by have := eG k (.inr h1); have := e9 k (.inr h2); omega), G8.out.2.2⟩
  have B9 := hide1 (B8.out.trans (hg9.below (B := w.heap.size) (fun g hg => by have := e9 g hg; have := B3.out.size; omega) (by have := B8.out.size; omega)))
  have s9 : w8.heap.size ≤ w9.heap.size := hg9.size
  clear hg9 M8 z0 z1 z2 N8 V8 W9 X8 G8
  obtain ⟨_, y0, y1, y2⟩ := W10.out.cells
  obtain ⟨_, c0, c1, c2⟩ := N9.out.v6.cells
  have ql : decide ((1 : Int) + 2 * (l.length : Int) + 2 * (o.length : Int) < 0) = false := by simp; omega
  have E9 := hide1 (eqTable_same qo po qo' po' L' O' cq cp cq' cp' M' w9 (by omega) (by omega) G9.out.rd.1 N9.out.r6 G9.out.rd.2 N9.out.r6')
  unfold tbV at E9
  go_wp2_with fail
  refine E9.out.mono ?_
  rintro e w10 ⟨rfl, hb10⟩
  have N10 := hide1 (N9.out.later (by omega) hb10)
  have W11 := hide1 (W10.out.later hb10)
  have G10 := hide1 (G9.out.later hb10)
  have B10 := hide1 (B9.out.trans (hb10.mono B9.out.size))
  have s10 : w9.heap.size ≤ w10.heap.size := hb10.size
  clear hb10 E9 y0 y1 y2 c0 c1 c2 N9 W10 G9
  obtain ⟨_, y0, y1, y2⟩ := W11.out.cells
  have M10 := hide1 (markTable_own qo qo' L' O' cq cq' 1 (w4.heap.size + 1) M' w10 (by omega) (by omega) (by omega) (by omega) G10.out)
  unfold tbV at M10
  go_wp2_with fail
  refine M10.out.mono ?_
  rintro e w11 ⟨rfl, hp11, hp11', hg11⟩
  have N11 := hide1 (N10.out.below (hg11.below (fun g hg => by have := eG g hg; omega) (by omega)))
  have W12 : Hid (VarT w11 26 w5.heap.size qo L'.length cq qo' O'.length cq' M') := hg11.blk W11.out (fun e => by have := eG _ (.inl e); omega) (fun e => by have := eG _ (.inr e); omega)
  have P11 := hide1 (And.intro hp11 hp11')
  have B11 := hide1 (B10.out.trans (hg11.below (B := w.heap.size) (fun g hg => by have := eG g hg; have := B4.out.size; omega) (by have := B10.out.size; omega)))
  have s11 : w10.heap.size ≤ w11.heap.size := hg11.size
  clear hg11 hp11 hp11' M10 y0 y1 y2 N10 W11 G10
  obtain ⟨_, y0, y1, y2⟩ := W12.out.cells
  have H11 := hide1 (heldTable_any qo qo' L'.length O'.length cq cq' 1 M' w11 (by omega) (by omega) (by omega) (by omega) P11.out.1 P11.out.2)
  unfold tbV at H11
  have qm : ((1 : Int) + 2 * (L'.length : Int) + 2 * (O'.length : Int) != (1 : Int) + 2 * (L'.length : Int) + 2 * (O'.length : Int)) = false := by simp
  have qn : decide ((1 : Int) + 2 * (L'.length : Int) + 2 * (O'.length : Int) < 0) = false := by simp; omega
  go_wp2_with fail
  refine H11.out.mono ?_
  rintro e w12 ⟨rfl, hb12⟩
  have N12 := hide1 (N11.out.later (by omega) hb12)
  have W13 := hide1 (W12.out.later hb12)
  have P12 := hide1 (And.intro (P11.out.1.later hb12) (P11.out.2.later hb12))
  have B12 := hide1 (B11.out.trans (hb12.mono B11.out.size))
  have s12 : w11.heap.size ≤ w12.heap.size := hb12.size
  clear hb12 H11 y0 y1 y2 N11 W12 P11
  obtain ⟨_, x0, x1, x2⟩ := N12.out.v0.cells
  have T13 := hide1 (toTable_own ao a' l o ca ca' mv w12 hn hn' N12.out.ri N12.out.ri')
  unfold tbV at T13
  go_wp2_with fail
  refine T13.out.mono ?_
  rintro e w13 ⟨b13, c13, d13, e13, rfl, ho13, hb13⟩
  have L14 := hide1 (implClean_any b13 d13 l o c13 e13 mv w13 hn hn' (ho13.rd.1.toJ) (ho13.rd.2.toJ))
  have N13 := hide1 (N12.out.later (by omega) hb13)
  have W14 := hide1 (W13.out.later hb13)
  have P13 := hide1 (And.intro (P12.out.1.later hb13) (P12.out.2.later hb13))
  have B13 := hide1 (B12.out.trans (hb13.mono B12.out.size))
  have s13 : w12.heap.size ≤ w13.heap.size := hb13.size
  clear ho13 hb13 T13 x0 x1 x2 N12 W13 P12
  unfold tbV at L14
  go_wp2_with fail
  refine L14.out.mono ?_
  rintro e w14 ⟨ro, L2, cr, ro', O2, cr', M2, t2, rfl, hN2, ho14, hp14, ha14, hb14⟩
  obtain ⟨rfl, rfl, rfl, rfl⟩ := hN2.det HN.out
  have N14 := hide1 (N13.out.later (by omega) hb14)
  have W15 := hide1 (W14.out.later hb14)
  have P14 := hide1 (And.intro (P13.out.1.later hb14) (P13.out.2.later hb14))
  have B14 := hide1 (B13.out.trans (hb14.mono B13.out.size))
  have R14 := hide1 (And.intro (rdC_of_own ho14) (rdC_of_own hp14))
  clear hN2 ho14 hp14 ha14 hb14 L14 N13 W14 P13
  obtain ⟨_, c0, c1, c2⟩ := N14.out.v6.cells
  have E15 := hide1 (fun o1 => eqTable_same ro po ro' po' L2 O2 cr cp cr' cp' M2 (w14.alloc o1) (by omega) (by omega) (R14.out.1.later (B0 w14 o1)) (N14.out.r6.later (B0 w14 o1)) (R14.out.2.later (B0 w14 o1)) (N14.out.r6'.later (B0 w14 o1)))
  unfold tbV at E15 ⊢
  go_wp2_with fail
  refine (E15.out _).mono ?_
  rintro e w15 ⟨rfl, hb15⟩
  have B1415 := hide1 (box_below hb15)
  have W16 := hide1 (W15.out.later B1415.out)
  have P15 := hide1 (And.intro (P14.out.1.later B1415.out) (P14.out.2.later B1415.out))
  have B15 := hide1 (B14.out.trans (B1415.out.mono B14.out.size))
  clear hb15 E15 c0 c1 c2 N14 W15 P14
  obtain ⟨_, y0, y1, y2⟩ := W16.out.cells
  have H16 := hide1 (heldTable_any qo qo' L2.length O2.length cq cq' 1 M2 w15 (by omega) (by omega) (by omega) (by omega) P15.out.1 P15.out.2)
  unfold tbV at H16
  go_wp2_with fail
  refine H16.out.mono ?_
  rintro e w16 ⟨rfl, hb16⟩
  have B16 := hide1 (B15.out.trans (hb16.mono B15.out.size))
  clear hb16
  go_wp2
  go_ret
  exact ⟨rfl, B16.out⟩

set_option maxRecDepth 100000 in
theorem lifted_FnExactCleanTable (os : Os) (started : os.Started) (H : Type) (enc : TypeId × Value → H) :
    ReturnsInHanded {} Try.checked os 11 .any (Rows.fnExactCleanTableSpec.pre6 enc Try.prog Try.f11 Rows.fnExactCleanTableRow.domain false) (Rows.fnExactCleanTableSpec.post enc Try.prog Try.f11 false true false false) := by
  refine returnsInHanded_of_change (C := Try.checked) (show ownKnob Try.prog.godebug = none by kernel_rfl) started (by kernel_rfl) Try.func11
    (ChangeSpec.witness6 (enc := enc) (C := Try.checked) false ⟨#[], #[.agg #[.slice none 0 0, .slice none 0 0, .int .i64 0]], []⟩ 8 (by kernel_rfl) (by kernel_rfl) (by kernel_rfl) (by kernel_rfl)) ?_
  intro W base args ds gs before hval0 hW hcnd _
  have hval : ∀ (j : Nat) t v, Try.f11.params[j]? = some t → args[j]? = some v → Value.okWide Try.prog W .any base t v := hval0
  have hW' := hW
  obtain ⟨p, q, hA0, hV, rfl, hfz, hnd⟩ := hW
  have hA : DataW.TrodAll enc Try.prog W 0 (fun _ => true) true Try.f11.params.toList args.toList ds p := hA0
  rw [Try.params11] at hA hval
  obtain ⟨v0, vs0, d0, ds0, p0, q0, hargs, rfl, rfl, h0, r0⟩ := trodAll_cons hA
  obtain ⟨rfl, rfl, rfl⟩ := trodAll_nil r0
  obtain rfl : args = #[v0] := by cases args; simp_all
  obtain ⟨rfl, rfl⟩ := trodVars_none hV
  have k0 := h0
  have lt0 : ∀ x ∈ p0, x.block < W.heap.size := by obtain ⟨m, hm⟩ := k0; exact DataW.trod_lt m _ _ _ hm
  obtain ⟨ao0, l0, ca0, b0, o0, cb0, m0, rfl, hR0, hQ0, hl0, hm0⟩ := open_table (hval 0 34 v0 rfl rfl) h0
  clear hA0 hval0
  try simp only [List.append_nil] at hW'
  refine (walk_FnExactCleanTable ao0 b0 l0 o0 ca0 cb0 m0 W hR0 hQ0 hl0 hm0).mono fun e W' ⟨he, bel⟩ => ?_
  subst he
  exact ⟨_, rfl, _, _, _, [], _, [], hW', trodAll_mk1 (shut_bool Try.underlying4 _), (trodAll_cons_mk (Below.trod (show laidOutB Try.prog = true by kernel_rfl) (by kernel_rfl) (of_decide_eq_true (by kernel_rfl)) k0 bel lt0) trodAll_mk0), rfl, bel.frame _, fun h => by cases h⟩

theorem proved_FnExactCleanTable : Rows.FnExactCleanTableSaid :=
  OpenClaim.holds_of_wide 11 Try.f11 rfl rfl rfl rfl rfl rfl rfl ⟨rfl, rfl, rfl, rfl, rfl⟩ rfl rfl rfl rfl rfl (by kernel_rfl) Try.func11 (by kernel_rfl)
    (of_decide_eq_true (by kernel_rfl)) (by unfold Func.isWrapper; first | (rw [if_pos (by decide +kernel)]; kernel_rfl) | (rw [if_neg (by decide +kernel)]; exact ⟨rfl, rfl⟩))
    (fun os started H enc _ => lifted_FnExactCleanTable os started H enc)
#print axioms proved_FnExactCleanTable
end Go.Proofs.Ytahglnojllkjdaa
