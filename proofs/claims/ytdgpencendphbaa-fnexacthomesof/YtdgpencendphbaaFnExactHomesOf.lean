/- HomesOf answers as its model at every argument; its answer owns its memory, behind another call too; no condition. -/
import Derived.Test.YtdgpencendphbaaRows
import Derived.ProofKit
import Derived.OpenShut
import Derived.ShutString
import Derived.ChangeOld
import Derived.Test.YtdgpencendphbaaIntV
import Derived.Test.YtdgpencendphbaaRiB
import Derived.Test.YtdgpencendphbaaRiN
namespace Go.Proofs.Ytdgpencendphbaa
open Go.ChangeShapes Go.WideShapes Go.ChangeAt Go.RowKit
open Go.ChangeMaps (open_string shut_string)
set_option linter.unusedVariables false

/-- A ring that came in, in its box. -/
structure InR1 (w0 w : World) (ao : Option Addr) (n ca : Nat) : Prop where
  bel : Below w0.heap.size w0 w
  va : VarR w 24 w0.heap.size ao n ca
theorem InR1.step {w0 w w' : World} {ao : Option Addr} {n ca B : Nat} (h : InR1 w0 w ao n ca) (hb : Below B w w') (hB : w0.heap.size + 1 ≤ B) : InR1 w0 w' ao n ca :=
  ⟨h.bel.trans (hb.mono (by omega)), h.va.below hb (by omega)⟩
theorem InR1.later {w0 w w' : World} {ao : Option Addr} {n ca : Nat} (h : InR1 w0 w ao n ca) (hb : Below w.heap.size w w') : InR1 w0 w' ao n ca := h.step hb h.va.cells.1

theorem homesS_length (l : List Sp) (h : Int) (n : Nat) : (homesS l h n).length ≤ l.length := by
  unfold homesS
  rw [List.length_take]
  have h1 := homesI_length (vs := (aroundS l h).map (·.2)) (Nat.le_refl _)
  rw [homesI_all, List.length_map, around_length] at h1
  omega

set_option maxRecDepth 100000 in
set_option maxHeartbeats 8000000 in
theorem walk_FnExactHomesOf (ao : Option Addr) (l : List Sp) (ca : Nat) (a1 : ByteArray) (a2 : Int) (w : World) (hR : RdO w ao l) (hl : l.length ≤ maxLen ∧ ∀ i (h : i < l.length), (Lit.int .i64 l[i].2).wf = true) (w1 : a1.size ≤ maxLen) (wf2 : (Lit.int .i64 a2).wf = true) :
    Calls Try.prog 4 #[riV ao l.length ca, .string a1, .int .i64 a2] w fun e w' => e = .returned (.bool true) ∧ Below w.heap.size w w' := by
  have B0 := fun (w : World) o => (Below.refl w.heap.size w).alloc (Nat.le_refl _) o
  have CZ := hide1 (fun w' => szRing_any ao l.length ca 1048576 w' hl.1 (Nat.le_refl _))
  have HWF : Hid (WfN l) := hl.2
  have HR := hide1 hR
  unfold riV
  clear hR hl wf2
  unfold maxLen at w1
  by_cases hs : a1.size ≤ 1048576
  · have q : decide (1048576 < (a1.size : Int)) = false := decide_eq_false (by omega)
    go_enter Try.func4, Try.ntmps4
    go_wp2_with fail
    refine (CZ.out _).mono ?_
    rintro e w1 ⟨hr, hb1⟩
    have I1 : Hid (InR1 w w1 ao l.length ca) := ⟨boxR_below hb1, VarR.box hb1⟩
    clear hb1 CZ
    rcases hr with rfl | ⟨r, rfl, hrn⟩
    · go_wp2
      go_ret
      exact ⟨rfl, I1.out.bel⟩
    have hn : l.length ≤ 1048576 := by omega
    clear hrn
    have qr : decide ((r : Int) < 0) = false := by simp
    have CS := hide1 (fun (b : Option Addr) (x : Nat) w' (hA : RdP w' b l) => specHomes_any b l x a1 a2 w' hn hs hA)
    have CI := hide1 (fun (b : Option Addr) (x : Nat) w' (hA : RdP w' b l) => implHomes_any b l x a1 a2 w' hn hs hA HWF.out)
    unfold riV at CS CI
    have hLm := Nat.le_trans (homesS_length l (hashN a1 0 : Int) a2.toNat) hn
    obtain ⟨L, hLe⟩ : ∃ L, homesS l (hashN a1 0 : Int) a2.toNat = L := ⟨_, rfl⟩
    rw [hLe] at CS CI hLm
    clear hLe HWF
    have CT := hide1 (fun w' (hb : Below w.heap.size w w') => toRing_own ao l ca w' hn (HR.out.later hb))
    clear HR
    have sI : w.heap.size + 1 ≤ w1.heap.size := I1.out.va.cells.1
    have x := I1.out.va.cells.2
    go_wp2_with fail
    refine (CT.out w1 I1.out.bel).mono ?_
    rintro e w2 ⟨b2, c2, rfl, ho2, hb2⟩
    have T2 := hide1 ho2.rd
    have I2 := hide1 (I1.out.later hb2)
    have s2 : w1.heap.size ≤ w2.heap.size := hb2.size
    clear I1
    clear ho2 hb2 x
    go_wp2_with fail
    refine (CS.out b2 c2 w2 T2.out).mono ?_
    rintro e w3 ⟨pp, cp, rfl, ho3, hb3⟩
    have P3 : Hid (OwnK w3 w2.heap.size pp cp L) := ho3
    have EP := hide1 (fun g (hg : (Value.slice pp L.length cp).ownBlock = some g) => World.ownsRow.lt ho3 g hg)
    have I3 := hide1 (I2.out.later hb3)
    have s3 : w2.heap.size ≤ w3.heap.size := hb3.size
    clear I2
    clear ho3 hb3 T2 CS
    have x := I3.out.va.cells.2
    go_wp2_with fail
    refine (CT.out w3 I3.out.bel).mono ?_
    rintro e w4 ⟨b4, c4, rfl, ho4, hb4⟩
    have A4 := hide1 ho4
    have EA := hide1 (fun g (hg : (Value.slice b4 l.length c4).ownBlock = some g) => ho4.lt g hg)
    have I4 := hide1 (I3.out.later hb4)
    have P4 := hide1 (P3.out.later hb4)
    have s4 : w3.heap.size ≤ w4.heap.size := hb4.size
    clear I3 P3
    clear ho4 hb4 x
    have G5 := hide1 (And.intro (Blk.new w4 29 #[.slice b4 l.length c4]) ((Below.refl w4.heap.size w4).alloc (Nat.le_refl _) (.cells #[.slice b4 l.length c4] 29)))
    go_wp2_with fail
    generalize (w4.alloc (.cells #[.slice b4 l.length c4] 29)) = w5 at G5 ⊢
    have X5 : Hid (VarR w5 29 w4.heap.size b4 l.length c4) := G5.out.1
    have xs5 : w4.heap.size + 1 ≤ w5.heap.size := G5.out.1.lt
    have I5 := hide1 (I4.out.later G5.out.2)
    have P5 := hide1 (P4.out.later G5.out.2)
    have A5 := hide1 (A4.out.later G5.out.2)
    have s5 : w4.heap.size ≤ w5.heap.size := G5.out.2.size
    clear I4 P4 A4
    clear G5
    refine (CI.out b4 c4 w5 A5.out.rd).mono ?_
    rintro e w6 ⟨qo, cq, rfl, ho6, hb6⟩
    have G6 : Hid (OwnK w6 w5.heap.size qo cq L) := ho6
    have EG := hide1 (fun g (hg : (Value.slice qo L.length cq).ownBlock = some g) => World.ownsRow.lt ho6 g hg)
    have I6 := hide1 (I5.out.later hb6)
    have P6 := hide1 (P5.out.later hb6)
    have A6 := hide1 (A5.out.later hb6)
    have X6 := hide1 (X5.out.later hb6)
    have s6 : w5.heap.size ≤ w6.heap.size := hb6.size
    clear I5 P5 A5 X5
    clear ho6 hb6
    go_wp2_with fail
    refine (eqIntS_own qo pp L cq cp w6 hLm G6.out.rd P6.out.rd).mono ?_
    rintro e w7 ⟨rfl, hb7⟩
    have I7 := hide1 (I6.out.later hb7)
    have P7 := hide1 (P6.out.later hb7)
    have A7 := hide1 (A6.out.later hb7)
    have X7 := hide1 (X6.out.later hb7)
    have G7 := hide1 (G6.out.later hb7)
    have s7 : w6.heap.size ≤ w7.heap.size := hb7.size
    clear I6 P6 A6 X6 G6
    clear hb7
    have mX := (X7.out.cells).1
    have z0 := (X7.out.cells).2
    have mS := (I7.out.va.cells).1
    have x0 := (I7.out.va.cells).2
    have ZX := hide1 (And.intro z0 x0)
    have RX := hide1 A7.out.rd
    have BB := hide1 I7.out.bel
    have hsB : w.heap.size ≤ w7.heap.size := BB.out.size
    go_wp2
    go_region_held3 (fun w' => w'.cell? ⟨w4.heap.size, 0, none⟩ = some (.slice b4 l.length c4) ∧ w'.cell? ⟨w.heap.size, 0, none⟩ = some (.slice ao l.length ca)) (first | go_keep | exact ⟨(D8.out.cell mX).trans ZX.out.1, (D8.out.cell mS).trans ZX.out.2⟩ | exact ⟨(D7.out.cell mX).trans ZX.out.1, (D7.out.cell mS).trans ZX.out.2⟩) ((first | (go_at_call 10; refine (CE.out _ (show Below wx.heap.size wx _ by go_grown)).mono ?_; rintro e wy ⟨rfl, hb8⟩; have D8 : Hid (Below w7.heap.size w7 wy) := (D7.out.trans (show Below w7.heap.size wx _ by have := D7.out.size; go_grown)).trans (hb8.mono (by have := D7.out.size; go_size)); clear hb8) | (go_at_call 8; refine (CT.out _ (BB.out.trans ((show Below w7.heap.size w7 _ by go_grown).mono hsB))).mono ?_; rintro e wx ⟨tb, tc, rfl, ho7, hb7⟩; have D7 : Hid (Below w7.heap.size w7 wx) := (show Below w7.heap.size w7 _ by go_grown).trans (hb7.mono (by go_size)); have CE := hide1 (fun w' (hb : Below wx.heap.size wx w') => eqRing_own b4 tb l c4 tc w' hn (RX.out.later (D7.out.trans (hb.mono D7.out.size))) (ho7.rd.later hb)); clear ho7 hb7)))
    clear z0 x0 ZX CE D7 mX mS RX BB hsB
    obtain ⟨w8, e8⟩ : ∃ w8, w8 = wy := ⟨_, rfl⟩
    subst e8
    have I8 := hide1 (I7.out.later D8.out)
    have P8 := hide1 (P7.out.later D8.out)
    have A8 := hide1 (A7.out.later D8.out)
    have X8 := hide1 (X7.out.later D8.out)
    have G8 := hide1 (G7.out.later D8.out)
    have s8 : w7.heap.size ≤ w8.heap.size := D8.out.size
    clear I7 P7 A7 X7 G7
    clear D8
    have x := (X8.out.cells).2
    have M := hide1 (markRing_any b4 c4 1 w3.heap.size l w8 hn (by omega) (by omega) A8.out)
    rw [show ((1 : Nat) : Int) = 1 from rfl] at M
    go_wp2_with fail
    refine M.out.mono ?_
    rintro e w9 ⟨rfl, _, hg9⟩
    clear M x A8 X8
    have I9 := hide1 (I8.out.step (gbelow (B := w.heap.size + 1) hg9 (fun g hg => by have := EA.out g hg; omega) (by omega)) (Nat.le_refl _))
    have P9 : Hid (OwnK w9 w2.heap.size pp cp L) := gown hg9 P8.out (fun k h1 h2 => by have := EP.out k h1; have := EA.out k h2; omega)
    have G9 : Hid (OwnK w9 w5.heap.size qo cq L) := gown hg9 G8.out (fun k h1 h2 => by have := EG.out k h1; have := EA.out k h2; omega)
    have s9 : w8.heap.size ≤ w9.heap.size := hg9.size
    clear hg9 I8 P8 G8
    have q8 : decide (1 + 2 * (l.length : Int) < 0) = false := decide_eq_false (by omega)
    go_wp2_with fail
    refine (eqIntS_own qo pp L cq cp w9 hLm G9.out.rd P9.out.rd).mono ?_
    rintro e w10 ⟨rfl, hb10⟩
    have I10 := hide1 (I9.out.later hb10)
    have P10 := hide1 (P9.out.later hb10)
    have G10 := hide1 (G9.out.later hb10)
    have s10 : w9.heap.size ≤ w10.heap.size := hb10.size
    clear I9 P9 G9
    clear hb10
    go_wp2_with fail
    refine (markIntS_own qo cq w5.heap.size L w10 hLm G10.out).mono ?_
    rintro e w11 ⟨rfl, hp11, hg11⟩
    have N11 := hide1 hp11
    clear hp11 G10
    have I11 := hide1 (I10.out.step (gbelow (B := w.heap.size + 1) hg11 (fun g hg => by have := EG.out g hg; omega) (by omega)) (Nat.le_refl _))
    have P11 : Hid (OwnK w11 w2.heap.size pp cp L) := gown hg11 P10.out (fun k h1 h2 => by have := EP.out k h1; have := EG.out k h2; omega)
    have s11 : w10.heap.size ≤ w11.heap.size := hg11.size
    clear hg11 I10 P10
    have q9 : decide (1 + (L.length : Int) < 0) = false := decide_eq_false (by omega)
    have e9 : ((1 + (L.length : Int)) != (1 + (L.length : Int))) = false := by simp
    go_wp2_with fail
    refine (heldIntS_own qo L.length cq w11 hLm N11.out).mono ?_
    rintro e w12 ⟨rfl, hw12⟩
    obtain rfl : w11 = w12 := hw12.symm
    have x := I11.out.va.cells.2
    go_wp2_with fail
    refine (CT.out w11 I11.out.bel).mono ?_
    rintro e w13 ⟨b13, c13, rfl, ho13, hb13⟩
    have T13 := hide1 ho13.rd
    have I13 := hide1 (I11.out.later hb13)
    have P13 := hide1 (P11.out.later hb13)
    have N13 := hide1 (N11.out.later hb13)
    have s13 : w11.heap.size ≤ w13.heap.size := hb13.size
    clear I11 P11 N11
    clear ho13 hb13 x
    go_wp2_with fail
    refine (CI.out b13 c13 w13 T13.out).mono ?_
    rintro e w14 ⟨ro, cr, rfl, ho14, hb14⟩
    have H14 := hide1 (OwnK.rd ho14)
    have I14 := hide1 (I13.out.later hb14)
    have P14 := hide1 (P13.out.later hb14)
    have N14 := hide1 (N13.out.later hb14)
    have s14 : w13.heap.size ≤ w14.heap.size := hb14.size
    clear I13 P13 N13
    clear ho14 hb14 T13
    go_wp2_with fail
    refine (eqIntS_own ro pp L cr cp w14 hLm H14.out P14.out.rd).mono ?_
    rintro e w15 ⟨rfl, hb15⟩
    have I15 := hide1 (I14.out.later hb15)
    have P15 := hide1 (P14.out.later hb15)
    have N15 := hide1 (N14.out.later hb15)
    have s15 : w14.heap.size ≤ w15.heap.size := hb15.size
    clear I14 P14 N14
    clear hb15 H14
    go_wp2_with fail
    refine (heldIntS_own qo L.length cq w15 hLm N15.out).mono ?_
    rintro e w16 ⟨rfl, hw16⟩
    obtain rfl : w15 = w16 := hw16.symm
    have BF := hide1 I15.out.bel
    go_wp2
    go_ret
    exact ⟨rfl, BF.out⟩
  · have q : decide (1048576 < (a1.size : Int)) = true := decide_eq_true (by omega)
    have HB := hide1 (B0 w (.cells #[.slice ao l.length ca] 24))
    clear CZ
    go_enter Try.func4, Try.ntmps4
    go_wp2
    go_ret
    exact ⟨rfl, by first | exact HB.out | exact Below.refl _ _⟩

set_option maxRecDepth 100000 in
theorem lifted_FnExactHomesOf (os : Os) (started : os.Started) (H : Type) (enc : TypeId × Value → H) :
    ReturnsInHanded {} Try.checked os 4 .any (Rows.fnExactHomesOfSpec.pre6 enc Try.prog Try.f4 Rows.fnExactHomesOfRow.domain false) (Rows.fnExactHomesOfSpec.post enc Try.prog Try.f4 false true false false) := by
  refine returnsInHanded_of_change (C := Try.checked) (show ownKnob Try.prog.godebug = none by kernel_rfl) started (by kernel_rfl) Try.func4
    (ChangeSpec.witness6 (enc := enc) (C := Try.checked) false ⟨#[], #[.agg #[.slice none 0 0], .string ByteArray.empty, .int .i64 0], []⟩ 8 (by kernel_rfl) (by kernel_rfl) (by kernel_rfl) (by kernel_rfl)) ?_
  intro W base args ds gs before hval0 hW hcnd _
  have hval : ∀ (j : Nat) t v, Try.f4.params[j]? = some t → args[j]? = some v → Value.okWide Try.prog W .any base t v := hval0
  have hW' := hW
  obtain ⟨p, q, hA0, hV, rfl, hfz, hnd⟩ := hW
  have hA : DataW.TrodAll enc Try.prog W 0 (fun _ => true) true Try.f4.params.toList args.toList ds p := hA0
  rw [Try.params4] at hA hval
  obtain ⟨v0, vs0, d0, ds0, p0, q0, hargs, rfl, rfl, h0, r0⟩ := trodAll_cons hA
  obtain ⟨v1, vs1, d1, ds1, p1, q1, rfl, rfl, rfl, h1, r1⟩ := trodAll_cons r0
  obtain ⟨v2, vs2, d2, ds2, p2, q2, rfl, rfl, rfl, h2, r2⟩ := trodAll_cons r1
  obtain ⟨rfl, rfl, rfl⟩ := trodAll_nil r2
  obtain rfl : args = #[v0, v1, v2] := by cases args; simp_all
  obtain ⟨rfl, rfl⟩ := trodVars_none hV
  have k0 := h0
  have lt0 : ∀ x ∈ p0, x.block < W.heap.size := by obtain ⟨m, hm⟩ := k0; exact DataW.trod_lt m _ _ _ hm
  obtain ⟨ao0, l0, ca0, rfl, hR0, hl0⟩ := open_ringW (hval 0 24 v0 rfl rfl) h0
  obtain ⟨a1, rfl, rfl, rfl, w1⟩ := open_string Try.underlying9 (hval 1 9 v1 rfl rfl) h1
  obtain ⟨a2, rfl, rfl, rfl, w2⟩ := open_int Try.underlying3 (hval 2 3 v2 rfl rfl) h2
  clear hA0 hval0
  try simp only [List.append_nil] at hW'
  refine (walk_FnExactHomesOf ao0 l0 ca0 a1 a2 W hR0 hl0 w1 w2).mono fun e W' ⟨he, bel⟩ => ?_
  subst he
  exact ⟨_, rfl, _, _, _, [], _, [], hW', trodAll_mk1 (shut_bool Try.underlying4 _), (trodAll_cons_mk (Below.trod (show laidOutB Try.prog = true by kernel_rfl) (by kernel_rfl) (of_decide_eq_true (by kernel_rfl)) k0 bel lt0) (trodAll_cons_mk (shut_string Try.underlying9 w1) (trodAll_cons_mk (shut_int Try.underlying3 w2) trodAll_mk0))), rfl, bel.frame _, fun h => by cases h⟩

theorem proved_FnExactHomesOf : Rows.FnExactHomesOfSaid :=
  OpenClaim.holds_of_wide 4 Try.f4 rfl rfl rfl rfl rfl rfl rfl ⟨rfl, rfl, rfl, rfl, rfl⟩ rfl rfl rfl rfl rfl (by kernel_rfl) Try.func4 (by kernel_rfl)
    (of_decide_eq_true (by kernel_rfl)) (by unfold Func.isWrapper; first | (rw [if_pos (by decide +kernel)]; kernel_rfl) | (rw [if_neg (by decide +kernel)]; exact ⟨rfl, rfl⟩))
    (fun os started H enc _ => lifted_FnExactHomesOf os started H enc)
#print axioms proved_FnExactHomesOf
end Go.Proofs.Ytdgpencendphbaa
