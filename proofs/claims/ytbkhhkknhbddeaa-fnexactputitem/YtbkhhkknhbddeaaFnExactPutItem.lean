/- PutItem answers as its model at every argument, and its answer is its own memory. -/
import Derived.Test.YtbkhhkknhbddeaaRows
import Derived.ProofKit
import Derived.OpenShut
import Derived.ShutString
import Derived.ChangeOld
import Derived.Test.YtbkhhkknhbddeaaToI
import Derived.Test.YtbkhhkknhbddeaaMkI
import Derived.Test.YtbkhhkknhbddeaaImT
import Derived.Test.YtbkhhkknhbddeaaCpE
import Derived.Test.YtbkhhkknhbddeaaImO
import Derived.Test.YtbkhhkknhbddeaaImI
namespace Go.Proofs.Ytbkhhkknhbddeaa
open Go.ChangeShapes Go.WideShapes Go.ChangeAt Go.RowKit
open Go.ChangeMaps (open_string shut_string)
set_option linter.unusedVariables false
set_option maxRecDepth 100000 in
set_option maxHeartbeats 4000000 in
theorem walk_FnExactPutItem (ao : Option Addr) (l : List Im) (ca : Nat) (x : Im) (w : World) (hR : RdG imC 3 w ao l) (hl : l.length ≤ maxLen) (hw : ∀ s ∈ l, wfItem s) (hx : wfItem x) :
    Calls Try.prog 6 #[.slice ao l.length ca, .agg #[.string x.k, .string x.v, .int .i64 x.n]] w fun e w' => e = .returned (.bool true) ∧ Below w.heap.size w w' := by
  have hl9 : l.length ≤ 9223372036854775807 := by unfold maxLen at hl; omega
  have HR := hide1 hR
  have HX := hide1 (show x.k.size ≤ 9223372036854775807 ∧ x.v.size ≤ 9223372036854775807 by obtain ⟨h2, h3, _⟩ := hx; unfold maxLen at h2 h3; omega)
  have CZ := hide1 (fun W (hb : Below w.heap.size w W) => szItemS_any ao l ca 1048576 W (Nat.le_refl _) hl9 (HR.out.later hb) (fun i h => by have h1 := hw _ (List.getElem_mem h); obtain ⟨h2, h3, _⟩ := h1; unfold maxLen at h2 h3; omega))
  clear hR hw hl hl9 hx
  go_enter Try.func6, Try.ntmps6
  have E_0 := hide1 (Below.refl w.heap.size w)
  have FB := hide1 (And.intro (Blk.new w 42 #[.string x.k, .string x.v, .int .i64 x.n]) ((Below.refl w.heap.size w).alloc (Nat.le_refl _) (.cells #[.string x.k, .string x.v, .int .i64 x.n] 42)))
  go_upto_region 1 with fail
  generalize (w.alloc (.cells #[.string x.k, .string x.v, .int .i64 x.n] 42)) = u0 at FB ⊢
  obtain ⟨G0, hG0⟩ : ∃ G, G = w.heap.size := ⟨_, rfl⟩
  have KB := hide1 FB.out.1
  rw [← hG0] at KB ⊢
  have E_1 := hide1 (E_0.out.trans ((FB.out.2).mono E_0.out.size))
  clear E_0
  have B0_1 := hide1 (KB.out)
  clear KB FB hG0
  go_wp2_with fail
  refine (CZ.out u0 E_1.out).mono ?_
  rintro e wz ⟨hz, hb⟩
  have E_2 := hide1 (E_1.out.trans ((hb).mono E_1.out.size))
  have B0_2 := hide1 (B0_1.out.below (hb) B0_1.out.lt)
  clear E_1 B0_1
  clear CZ hb
  rcases hz with rfl | ⟨r, rfl, hr1, hr2, hr3⟩
  · go_wp2
    go_ret
    exact ⟨rfl, E_2.out⟩
  have HZ := hide1 (show ∀ x ∈ l, x.k.size ≤ 1048576 ∧ x.v.size ≤ 1048576 from fun e he => by obtain ⟨j, hj, rfl⟩ := List.getElem_of_mem he; exact hr3 j hj)
  clear hr3
  have qr : ¬ ((r : Int) < 0) := by omega
  have qr2 : decide ((r : Int) < 0) = false := decide_eq_false qr
  have c0 : wz.cell? ⟨G0, 0, none⟩ = some (.string x.k) := B0_2.out.cell 0
  have c1 : wz.cell? ⟨G0, 1, none⟩ = some (.string x.v) := B0_2.out.cell 1
  have c2 : wz.cell? ⟨G0, 2, none⟩ = some (.int .i64 x.n) := B0_2.out.cell 2
  go_wp2_with fail
  refine (szItem_any x r wz HX.out hr1).mono ?_
  rintro e wy ⟨hz, hb⟩
  clear c0 c1 c2
  have E_3 := hide1 (E_2.out.trans ((hb).mono E_2.out.size))
  have B0_3 := hide1 (B0_2.out.below (hb) B0_2.out.lt)
  clear E_2 B0_2
  clear hb qr qr2
  rcases hz with rfl | ⟨r2, rfl, hr3⟩
  · go_wp2
    go_ret
    exact ⟨rfl, E_3.out⟩
  have qr : ¬ ((r2 : Int) < 0) := by omega
  have qr2 : decide ((r2 : Int) < 0) = false := decide_eq_false qr
  have HY := hide1 (show x.k.size ≤ 1048576 ∧ x.v.size ≤ 1048576 by omega)
  clear hr3
  have CT := hide1 (fun W (hb : Below w.heap.size w W) => toItemS_any ao l ca W hr2 (HR.out.later hb))
  have CS := hide1 (fun W (b : Option Addr) (cb : Nat) (h : RdG imC 3 W b l) => specPutItem_any b l cb x W hr2 h)
  have CI := hide1 (fun W (b : Option Addr) (cb : Nat) (h : RdG imC 3 W b l) => implPutItem_any b l cb x W hr2 HZ.out HY.out h)
  have hp : (putI l x).length ≤ 1048576 := by
    unfold putI
    split
    · exact hr2
    · split
      · rename_i h; have := h.2.2.2; omega
      · exact hr2
  generalize putI l x = p at *
  have CT4 := hide1 (fun w' (hb : Below wy.heap.size wy w') => CT.out w' (E_3.out.trans (hb.mono E_3.out.size)))
  have c0 : wy.cell? ⟨G0, 0, none⟩ = some (.string x.k) := B0_3.out.cell 0
  have c1 : wy.cell? ⟨G0, 1, none⟩ = some (.string x.v) := B0_3.out.cell 1
  have c2 : wy.cell? ⟨G0, 2, none⟩ = some (.int .i64 x.n) := B0_3.out.cell 2
  have ZS := hide1 (fun w' (D : Below wy.heap.size wy w') => (show w'.cell? ⟨G0, 0, none⟩ = some (.string x.k) ∧ w'.cell? ⟨G0, 1, none⟩ = some (.string x.v) ∧ w'.cell? ⟨G0, 2, none⟩ = some (.int .i64 x.n) from ⟨(D.cell B0_3.out.lt).trans c0, (D.cell B0_3.out.lt).trans c1, (D.cell B0_3.out.lt).trans c2⟩))
  go_wp2
  go_region_held3 (fun w' => w'.cell? ⟨G0, 0, none⟩ = some (.string x.k) ∧ w'.cell? ⟨G0, 1, none⟩ = some (.string x.v) ∧ w'.cell? ⟨G0, 2, none⟩ = some (.int .i64 x.n)) (first | go_keep | exact ZS.out _ DA3.out | exact ZS.out _ DA2.out | exact ZS.out _ DA1.out) ((first | (go_at_call 15; refine (CE.out _ (by go_grown)).mono ?_; rintro e wA3 ⟨⟨zb, zc, rfl, hZ, _⟩, hb3⟩; have DA3 : Hid (Below wy.heap.size wy wA3) := (DA2.out.trans (show Below wy.heap.size wA2 _ by go_grown)).trans (hb3.mono (by have := DA2.out.size; go_size)); clear hb3) | (go_at_call 26; refine (toItem_any x _).mono ?_; rintro e wA2 ⟨rfl, hb2⟩; have DA2 : Hid (Below wy.heap.size wy wA2) := (DA1.out.trans (show Below wy.heap.size wA1 _ by go_grown)).trans (hb2.mono (by have := DA1.out.size; go_size)); have CE := hide1 (fun w' (hb : Below wA2.heap.size wA2 w') => CS.out w' b1 cc1 ((R1.out.later hb2).later hb)); clear hb2) | (go_at_call 23; refine (CT4.out _ (by go_grown)).mono ?_; rintro e wA1 ⟨b1, cc1, rfl, ho1, hb1⟩; have DA1 : Hid (Below wy.heap.size wy wA1) := (show Below wy.heap.size wy _ by go_grown).trans hb1; have R1 := hide1 (rdG_of_own encIm.len ho1 rfl); clear ho1 hb1)))
  clear c0 c1 c2
  clear ZS CT4 CE R1
  have E_4 := hide1 (E_3.out.trans ((DA3.out).mono E_3.out.size))
  have B0_4 := hide1 (B0_3.out.below (DA3.out) B0_3.out.lt)
  clear E_3 B0_3
  have Z_4 := hide1 (hZ)
  have LZ := hide1 (fun b o (e : zb = some ⟨b, o, none⟩) (h : 0 < p.length) => RdG.ltI hZ e h)
  have EW := hide1 (show w.heap.size ≤ wA3.heap.size from E_4.out.size)
  have LB := hide1 (show G0 < wA3.heap.size from B0_4.out.lt)
  clear hZ DA1 DA2 DA3
  have P_4 := hide1 (Nat.le_refl wA3.heap.size)
  go_wp2_with fail
  refine (CT.out wA3 E_4.out).mono ?_
  rintro e w4 ⟨xb, xc, rfl, hO, hb⟩
  have P_5 := hide1 (Nat.le_trans P_4.out (hb).size)
  have E_5 := hide1 (E_4.out.trans ((hb).mono E_4.out.size))
  have B0_5 := hide1 (B0_4.out.below (hb) B0_4.out.lt)
  have Z_5 := hide1 (Z_4.out.later (hb))
  clear E_4 B0_4 Z_4
  clear P_4
  have X_5 := hide1 (hO)
  have XB := hide1 (show ∀ q, (Value.slice xb l.length xc).ownBlock = some q → wA3.heap.size ≤ q ∧ q < w4.heap.size from fun q hq => hO.lt q hq)
  have L34 := hide1 (show wA3.heap.size ≤ w4.heap.size from hb.size)
  clear hb hO
  have c0 : w4.cell? ⟨G0, 0, none⟩ = some (.string x.k) := B0_5.out.cell 0
  have c1 : w4.cell? ⟨G0, 1, none⟩ = some (.string x.v) := B0_5.out.cell 1
  have c2 : w4.cell? ⟨G0, 2, none⟩ = some (.int .i64 x.n) := B0_5.out.cell 2
  go_wp2_with fail
  refine (toItem_any x w4).mono ?_
  rintro e w5 ⟨rfl, hb⟩
  clear c0 c1 c2
  have P_6 := hide1 (Nat.le_trans P_5.out (hb).size)
  have E_6 := hide1 (E_5.out.trans ((hb).mono E_5.out.size))
  have B0_6 := hide1 (B0_5.out.below (hb) B0_5.out.lt)
  have Z_6 := hide1 (Z_5.out.later (hb))
  have X_6 := hide1 (own_kept X_5.out (hb))
  clear E_5 B0_5 Z_5 X_5
  clear P_5
  have L45 := hide1 (show w4.heap.size ≤ w5.heap.size from hb.size)
  clear hb
  go_wp2_with fail
  refine (CI.out w5 xb xc (rdG_of_own encIm.len X_6.out rfl)).mono ?_
  rintro e w6 ⟨⟨gb, gc, rfl, hO⟩, hb⟩
  have P_7 := hide1 (Nat.le_trans P_6.out (hb).size)
  have E_7 := hide1 (E_6.out.trans ((hb).mono E_6.out.size))
  have B0_7 := hide1 (B0_6.out.below (hb) B0_6.out.lt)
  have Z_7 := hide1 (Z_6.out.later (hb))
  have X_7 := hide1 (own_kept X_6.out (hb))
  clear E_6 B0_6 Z_6 X_6
  clear P_6
  have G_7 := hide1 (hO)
  have Q_7 := hide1 (show w5.heap.size ≤ w6.heap.size from hb.size)
  clear hb hO
  go_wp2_with fail
  refine (eqItemS_same gb zb p gc zc w6 hp (rdG_of_own encIm.len G_7.out rfl) Z_7.out).mono ?_
  rintro e w7 ⟨rfl, hb⟩
  have P_8 := hide1 (Nat.le_trans P_7.out (hb).size)
  have Q_8 := hide1 (Nat.le_trans Q_7.out (hb).size)
  have E_8 := hide1 (E_7.out.trans ((hb).mono E_7.out.size))
  have B0_8 := hide1 (B0_7.out.below (hb) B0_7.out.lt)
  have Z_8 := hide1 (Z_7.out.later (hb))
  have X_8 := hide1 (own_kept X_7.out (hb))
  have G_8 := hide1 (own_kept G_7.out (hb))
  clear E_7 B0_7 Z_7 X_7 G_7
  clear P_7 Q_7
  clear hb
  go_wp2_with fail
  refine (CT.out w7 E_8.out).mono ?_
  rintro e w8 ⟨yb, yc, rfl, hO, hb⟩
  have P_9 := hide1 (Nat.le_trans P_8.out (hb).size)
  have Q_9 := hide1 (Nat.le_trans Q_8.out (hb).size)
  have E_9 := hide1 (E_8.out.trans ((hb).mono E_8.out.size))
  have B0_9 := hide1 (B0_8.out.below (hb) B0_8.out.lt)
  have Z_9 := hide1 (Z_8.out.later (hb))
  have X_9 := hide1 (own_kept X_8.out (hb))
  have G_9 := hide1 (own_kept G_8.out (hb))
  clear E_8 B0_8 Z_8 X_8 G_8
  clear P_8 Q_8
  have YR := hide1 (rdG_of_own encIm.len hO rfl)
  clear hb hO
  go_wp2_with fail
  refine (eqItemS_same xb yb l xc yc w8 hr2 (rdG_of_own encIm.len X_9.out rfl) YR.out).mono ?_
  rintro e w9 ⟨rfl, hb⟩
  have P_10 := hide1 (Nat.le_trans P_9.out (hb).size)
  have Q_10 := hide1 (Nat.le_trans Q_9.out (hb).size)
  have E_10 := hide1 (E_9.out.trans ((hb).mono E_9.out.size))
  have B0_10 := hide1 (B0_9.out.below (hb) B0_9.out.lt)
  have Z_10 := hide1 (Z_9.out.later (hb))
  have X_10 := hide1 (own_kept X_9.out (hb))
  have G_10 := hide1 (own_kept G_9.out (hb))
  clear E_9 B0_9 Z_9 X_9 G_9
  clear P_9 Q_9
  clear hb YR
  go_wp2_with fail
  refine (markItemS_any (.slice xb l.length xc) l.length 1 (rowG imC l) wA3.heap.size w9 hr2 (by omega) (by omega) X_10.out).mono ?_
  rintro e wa ⟨rfl, hO, hg⟩
  have q0 : decide (1 + 3 * (l.length : Int) < 0) = false := decide_eq_false (by omega)
  have q1 : ¬ (1 + 3 * (l.length : Int) < 0) := by omega
  have gl := gbelow (B := wA3.heap.size) hg (fun q hq => (XB.out q hq).1) P_10.out
  have E_11 := hide1 (E_10.out.trans (gl.mono EW.out))
  have B0_11 := hide1 (B0_10.out.below gl LB.out)
  have Z_11 := hide1 (RdG.laterI Z_10.out gl LZ.out)
  have P_11 := hide1 (Nat.le_trans P_10.out gl.size)
  have Q_11 := hide1 (Nat.le_trans Q_10.out gl.size)
  have G_11 := hide1 (gown hg G_10.out (fun q hq e => by have := (XB.out q e).2; have := (G_10.out.lt q hq).1; have := L45.out; omega))
  clear E_10 B0_10 Z_10 P_10 Q_10 G_10 X_10 hO hg gl XB
  go_wp2_with fail
  refine (eqItemS_same gb zb p gc zc wa hp (rdG_of_own encIm.len G_11.out rfl) Z_11.out).mono ?_
  rintro e wb ⟨rfl, hb⟩
  have P_12 := hide1 (Nat.le_trans P_11.out (hb).size)
  have Q_12 := hide1 (Nat.le_trans Q_11.out (hb).size)
  have E_12 := hide1 (E_11.out.trans ((hb).mono E_11.out.size))
  have B0_12 := hide1 (B0_11.out.below (hb) B0_11.out.lt)
  have Z_12 := hide1 (Z_11.out.later (hb))
  have G_12 := hide1 (own_kept G_11.out (hb))
  clear E_11 B0_11 Z_11 G_11
  clear P_11 Q_11
  clear hb
  go_wp2_with fail
  refine (markItemS_any (.slice gb p.length gc) p.length 1 (rowG imC p) w5.heap.size wb hp (by omega) (by omega) G_12.out).mono ?_
  rintro e wc ⟨rfl, hO, hg⟩
  have q2 : decide (1 + 3 * (p.length : Int) < 0) = false := decide_eq_false (by omega)
  have q3 : ¬ (1 + 3 * (p.length : Int) < 0) := by omega
  have q4 : ((1 + 3 * (p.length : Int)) != (1 + 3 * (p.length : Int))) = false := by simp
  have l35 : wA3.heap.size ≤ w5.heap.size := Nat.le_trans L34.out L45.out
  have gl := gbelow (B := w5.heap.size) hg (fun q hq => (G_12.out.lt q hq).1) Q_12.out
  have E_13 := hide1 (E_12.out.trans (gl.mono (Nat.le_trans EW.out l35)))
  have B0_13 := hide1 (B0_12.out.below gl (Nat.lt_of_lt_of_le LB.out l35))
  have Z_13 := hide1 (RdG.laterI Z_12.out gl (fun b o e h => Nat.lt_of_lt_of_le (LZ.out b o e h) l35))
  have G_13 := hide1 hO
  clear E_12 B0_12 Z_12 P_12 Q_12 G_12 hO hg gl l35
  go_wp2_with fail
  refine (heldItemS_any gb p.length gc 1 wc hp (by omega) (by omega) (rdG_of_own encIm.len G_13.out (patG_length _ _ _ _))).mono ?_
  rintro e wd ⟨rfl, hb⟩
  have E_14 := hide1 (E_13.out.trans ((hb).mono E_13.out.size))
  have B0_14 := hide1 (B0_13.out.below (hb) B0_13.out.lt)
  have Z_14 := hide1 (Z_13.out.later (hb))
  have G_14 := hide1 (own_kept G_13.out (hb))
  clear E_13 B0_13 Z_13 G_13
  clear hb
  have CT4 := hide1 (fun w' (hb : Below wd.heap.size wd w') => CT.out w' (E_14.out.trans (hb.mono E_14.out.size)))
  have c0 : wd.cell? ⟨G0, 0, none⟩ = some (.string x.k) := B0_14.out.cell 0
  have c1 : wd.cell? ⟨G0, 1, none⟩ = some (.string x.v) := B0_14.out.cell 1
  have c2 : wd.cell? ⟨G0, 2, none⟩ = some (.int .i64 x.n) := B0_14.out.cell 2
  have ZS := hide1 (fun w' (D : Below wd.heap.size wd w') => (show w'.cell? ⟨G0, 0, none⟩ = some (.string x.k) ∧ w'.cell? ⟨G0, 1, none⟩ = some (.string x.v) ∧ w'.cell? ⟨G0, 2, none⟩ = some (.int .i64 x.n) from ⟨(D.cell B0_14.out.lt).trans c0, (D.cell B0_14.out.lt).trans c1, (D.cell B0_14.out.lt).trans c2⟩))
  go_wp2
  go_region_held3 (fun w' => w'.cell? ⟨G0, 0, none⟩ = some (.string x.k) ∧ w'.cell? ⟨G0, 1, none⟩ = some (.string x.v) ∧ w'.cell? ⟨G0, 2, none⟩ = some (.int .i64 x.n)) (first | go_keep | exact ZS.out _ DB3.out | exact ZS.out _ DB2.out | exact ZS.out _ DB1.out) ((first | (go_at_call 11; refine (CE.out _ (by go_grown)).mono ?_; rintro e wB3 ⟨⟨hb4, hc4, rfl, hO⟩, hb3⟩; have DB3 : Hid (Below wd.heap.size wd wB3) := (DB2.out.trans (show Below wd.heap.size wB2 _ by go_grown)).trans (hb3.mono (by have := DB2.out.size; go_size)); clear hb3) | (go_at_call 26; refine (toItem_any x _).mono ?_; rintro e wB2 ⟨rfl, hb2⟩; have DB2 : Hid (Below wd.heap.size wd wB2) := (DB1.out.trans (show Below wd.heap.size wB1 _ by go_grown)).trans (hb2.mono (by have := DB1.out.size; go_size)); have CE := hide1 (fun w' (hb : Below wB2.heap.size wB2 w') => CI.out w' b1 cc1 ((R1.out.later hb2).later hb)); clear hb2) | (go_at_call 23; refine (CT4.out _ (by go_grown)).mono ?_; rintro e wB1 ⟨b1, cc1, rfl, ho1, hb1⟩; have DB1 : Hid (Below wd.heap.size wd wB1) := (show Below wd.heap.size wd _ by go_grown).trans hb1; have R1 := hide1 (rdG_of_own encIm.len ho1 rfl); clear ho1 hb1)))
  clear c0 c1 c2
  clear ZS CT4 CE R1
  have E_15 := hide1 (E_14.out.trans ((DB3.out).mono E_14.out.size))
  have B0_15 := hide1 (B0_14.out.below (DB3.out) B0_14.out.lt)
  have Z_15 := hide1 (Z_14.out.later (DB3.out))
  have G_15 := hide1 (own_kept G_14.out (DB3.out))
  clear E_14 B0_14 Z_14 G_14
  have H_15 := hide1 (hO)
  clear hO DB1 DB2 DB3
  go_wp2_with fail
  refine (eqItemS_same hb4 zb p hc4 zc wB3 hp (rdG_of_own encIm.len H_15.out rfl) Z_15.out).mono ?_
  rintro e we ⟨rfl, hb⟩
  have E_16 := hide1 (E_15.out.trans ((hb).mono E_15.out.size))
  have B0_16 := hide1 (B0_15.out.below (hb) B0_15.out.lt)
  have Z_16 := hide1 (Z_15.out.later (hb))
  have G_16 := hide1 (own_kept G_15.out (hb))
  have H_16 := hide1 (own_kept H_15.out (hb))
  clear E_15 B0_15 Z_15 G_15 H_15
  clear hb
  go_wp2_with fail
  refine (heldItemS_any gb p.length gc 1 we hp (by omega) (by omega) (rdG_of_own encIm.len G_16.out (patG_length _ _ _ _))).mono ?_
  rintro e wf ⟨rfl, hb⟩
  have E_17 := hide1 (E_16.out.trans ((hb).mono E_16.out.size))
  have B0_17 := hide1 (B0_16.out.below (hb) B0_16.out.lt)
  have Z_17 := hide1 (Z_16.out.later (hb))
  have G_17 := hide1 (own_kept G_16.out (hb))
  have H_17 := hide1 (own_kept H_16.out (hb))
  clear E_16 B0_16 Z_16 G_16 H_16
  clear hb
  go_wp2
  go_ret
  exact ⟨rfl, E_17.out⟩

set_option maxRecDepth 100000 in
theorem lifted_FnExactPutItem (os : Os) (started : os.Started) (H : Type) (enc : TypeId × Value → H) :
    ReturnsInHanded {} Try.checked os 6 .any (Rows.fnExactPutItemSpec.pre6 enc Try.prog Try.f6 Rows.fnExactPutItemRow.domain false) (Rows.fnExactPutItemSpec.post enc Try.prog Try.f6 false true false false) := by
  refine returnsInHanded_of_change (C := Try.checked) (show ownKnob Try.prog.godebug = none by kernel_rfl) started (by kernel_rfl) Try.func6
    (ChangeSpec.witness6 (enc := enc) (C := Try.checked) false ⟨#[], #[.slice none 0 0, .agg #[.string ByteArray.empty, .string ByteArray.empty, .int .i64 0]], []⟩ 8 (by kernel_rfl) (by kernel_rfl) (by kernel_rfl) (by kernel_rfl)) ?_
  intro W base args ds gs before hval0 hW hcnd _
  have hval : ∀ (j : Nat) t v, Try.f6.params[j]? = some t → args[j]? = some v → Value.okWide Try.prog W .any base t v := hval0
  have hW' := hW
  obtain ⟨p, q, hA0, hV, rfl, hfz, hnd⟩ := hW
  have hA : DataW.TrodAll enc Try.prog W 0 (fun _ => true) true Try.f6.params.toList args.toList ds p := hA0
  rw [Try.params6] at hA hval
  obtain ⟨v0, vs0, d0, ds0, p0, q0, hargs, rfl, rfl, h0, r0⟩ := trodAll_cons hA
  obtain ⟨v1, vs1, d1, ds1, p1, q1, rfl, rfl, rfl, h1, r1⟩ := trodAll_cons r0
  obtain ⟨rfl, rfl, rfl⟩ := trodAll_nil r1
  obtain rfl : args = #[v0, v1] := by cases args; simp_all
  obtain ⟨rfl, rfl⟩ := trodVars_none hV
  have k0 := h0
  have lt0 : ∀ x ∈ p0, x.block < W.heap.size := by obtain ⟨m, hm⟩ := k0; exact DataW.trod_lt m _ _ _ hm
  obtain ⟨ao0, l0, ca0, rfl, hR0, hl0, hw0⟩ := open_items (hval 0 38 v0 rfl rfl) h0
  have k1 := h1
  have lt1 : ∀ x ∈ p1, x.block < W.heap.size := by obtain ⟨m, hm⟩ := k1; exact DataW.trod_lt m _ _ _ hm
  obtain ⟨a1, rfl, w1⟩ := open_item (hval 1 42 v1 rfl rfl) h1
  clear hA0 hval0
  try simp only [List.append_nil] at hW'
  refine (walk_FnExactPutItem ao0 l0 ca0 a1 W hR0 hl0 hw0 w1).mono fun e W' ⟨he, bel⟩ => ?_
  subst he
  exact ⟨_, rfl, _, _, _, [], _, [], hW', trodAll_mk1 (shut_bool Try.underlying4 _), (trodAll_cons_mk (Below.trod (show laidOutB Try.prog = true by kernel_rfl) (by kernel_rfl) (of_decide_eq_true (by kernel_rfl)) k0 bel lt0) (trodAll_cons_mk (Below.trod (show laidOutB Try.prog = true by kernel_rfl) (by kernel_rfl) (of_decide_eq_true (by kernel_rfl)) k1 bel lt1) trodAll_mk0)), rfl, bel.frame _, fun h => by cases h⟩

theorem proved_FnExactPutItem : Rows.FnExactPutItemSaid :=
  OpenClaim.holds_of_wide 6 Try.f6 rfl rfl rfl rfl rfl rfl rfl ⟨rfl, rfl, rfl, rfl, rfl⟩ rfl rfl rfl rfl rfl (by kernel_rfl) Try.func6 (by kernel_rfl)
    (of_decide_eq_true (by kernel_rfl)) (by unfold Func.isWrapper; first | (rw [if_pos (by decide +kernel)]; kernel_rfl) | (rw [if_neg (by decide +kernel)]; exact ⟨rfl, rfl⟩))
    (fun os started H enc _ => lifted_FnExactPutItem os started H enc)
#print axioms proved_FnExactPutItem
end Go.Proofs.Ytbkhhkknhbddeaa
