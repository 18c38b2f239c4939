import Derived.Test.YtigpjmmfelndkaaGreatDoorKYG
namespace Go.Proofs.YtigpjmmfelndkaaGreatDoor
open Go.RowKit
set_option linter.unusedVariables false
set_option maxRecDepth 100000
set_option maxHeartbeats 2000000
theorem VaN.keysW {w : World} {r B S c : Nat} {A : NA} {N : Nr} {b : Option Addr} {l : List ByteArray} (h : VaN w r B A N) (ho : OwnQ w S b c l) (hS : ∀ v ∈ vlN A N, ∀ g, v.ownBlock = some g -> g < S) (hB : B <= S /\ r < S) : VaN (w.setCell ⟨r, 6, none⟩ (.slice b l.length c)) r B { A with w := b, wc := c } { N with w := l } :=
 ⟨Blk.set h.var 6 _, (h.own.off _ _ h.ne).setW (qaA ho _ _ (fun g hg => by have := (ho.lt g hg).1; have := hB.2; dsimp only; omega)) hS hB.1 N.wm, qbW (i := 3) h.ne (fun g hg => by have := (ho.lt g hg).1; have := hB.2; omega), by simpa using h.le⟩
theorem VaN.keysT {w : World} {r B S c : Nat} {A : NA} {N : Nr} {b : Option Addr} {l : List ByteArray} (h : VaN w r B A N) (ho : OwnQ w S b c l) (hS : ∀ v ∈ vlN A N, ∀ g, v.ownBlock = some g -> g < S) (hB : B <= S /\ r < S) : VaN (w.setCell ⟨r, 8, none⟩ (.slice b l.length c)) r B { A with t := b, tc := c } { N with t := l } :=
 ⟨Blk.set h.var 8 _, (h.own.off _ _ h.ne).setT (qaA ho _ _ (fun g hg => by have := (ho.lt g hg).1; have := hB.2; dsimp only; omega)) hS hB.1 N.tm, qbW (i := 4) h.ne (fun g hg => by have := (ho.lt g hg).1; have := hB.2; omega), by simpa using h.le⟩
theorem VaN.keysS {w : World} {r B S c : Nat} {A : NA} {N : Nr} {b : Option Addr} {l : List ByteArray} (h : VaN w r B A N) (ho : OwnQ w S b c l) (hS : ∀ v ∈ vlN A N, ∀ g, v.ownBlock = some g -> g < S) (hB : B <= S /\ r < S) : VaN (w.setCell ⟨r, 10, none⟩ (.slice b l.length c)) r B { A with s := b, sc := c } { N with s := l } :=
 ⟨Blk.set h.var 10 _, (h.own.off _ _ h.ne).setS (qaA ho _ _ (fun g hg => by have := (ho.lt g hg).1; have := hB.2; dsimp only; omega)) hS hB.1 N.sm, qbW (i := 5) h.ne (fun g hg => by have := (ho.lt g hg).1; have := hB.2; omega), by simpa using h.le⟩
theorem liftN_same (N : Nr) (k : ByteArray) : (qcE N k).w = N.w /\ (qcE N k).t = N.t /\ (qcE N k).s = N.s := by
 unfold qcE
 split <;> exact ⟨rfl, rfl, rfl⟩
theorem forgetS {w : World} {A : NA} {N : Nr} (h : InN N) (hA : RdN w A N) (k : ByteArray) (hin : k ∈ qaD N) :
  Calls Tryz.prog 71 #[neV A N, .string k] w fun e w' => ∃ A', e = .returned (.tuple #[neV A' (frgN N k), .bool true]) /\ OwnN w' w.heap.size A' (frgN N k) /\ Below w.heap.size w w' := by
 have hkq := h.key hin
 have hl := h.small
 have F0 := hI (qdT w (nA A N) nZ 39 39)
 obtain ⟨j, hj, hu, hkj, hS, hat, hd1, hd2⟩ := h.seek hin
 have C1 := hI (fun w' (hb : Below w.heap.size w w') => qdP A.c A.o N.ce N.od A.cc A.oc N.mv k w' hl.fc hl.fo (by have := hkq.2; omega) (hA.fc.later hb) (hA.fo.later hb) h.okT (qaZ hkq) hS)
 have C2 := hI (fun w' (hb : Below w.heap.size w w') => nearOkS h (hA.later hb))
 have C3 := hI (fun w' (hb : Below w.heap.size w w') => copyS h (hA.later hb))
 have C4 := hI (fun w' r A1 (V : VaN w' r (w.heap.size + 2) A1 N) => specLft_any V hl h.inT h.od h.mv k hin)
 have CW := hI (fun w' ao ca (hR : RdQ w' ao N.w) => qcB ao N.w ca k w' (by have := h.qw.small; omega) hR)
 have CT := hI (fun w' ao ca (hR : RdQ w' ao N.t) => qcB ao N.t ca k w' (by have := h.qt.small; omega) hR)
 have CS := hI (fun w' ao ca (hR : RdQ w' ao N.s) => qcB ao N.s ca k w' (by have := h.qs.small; omega) hR)
 have HF := hI (h.frg hin).1
 have HX := hI (show ({ qcE N k with w := (frgN N k).w, t := (frgN N k).t } : Nr) = { frgN N k with s := (qcE N k).s } from rfl)
 have HQ := hI (liftN_same N k)
 rw [show qaQ N.w k = (frgN N k).w from rfl] at CW
 rw [show qaQ N.t k = (frgN N k).t from rfl] at CT
 rw [show qaQ N.s k = (frgN N k).s from rfl] at CS
 unfold tbV at C1
 unfold neV at C2 C3
 generalize 24 * N.sl[j].gen + (j : Int) = hd at *
 generalize frgN N k = M at *
 generalize qcE N k = N4 at *
 clear hA hl h hkq hin hu hkj hS hat
 unfold neV
 go_enter Tryz.func71, Tryz.ntmps71
 go_wp2_with fail
 generalize ((w.alloc (.cells (nA A N) 39)).alloc (.cells nZ 39)) = w0 at F0 ⊢
 obtain ⟨P0, R0, B0⟩ := F0.out
 have P0 := hI P0
 have R0 := hI R0
 have B0 := hI B0
 have sz0 : w.heap.size + 2 <= w0.heap.size := by have := R0.out.lt; omega
 clear F0
 refine (C1.out w0 B0.out).mono ?_
 rintro e w1 ⟨rfl, hb1⟩
 have P1 := bRn P0 hb1
 have R1 := bRn R0 hb1
 have B1 := tRn B0 hb1
 have z1 : w0.heap.size <= w1.heap.size := hb1.size
 clear hb1 C1 P0 R0 B0
 obtain ⟨_, v0, v1, v2, v3, v4, v5, v6, v7, v8, v9, v10, v11, v12, v13⟩ := qcG P1.out
 go_wp2_with fail
 refine (C2.out w1 B1.out).mono ?_
 rintro e w2 ⟨rfl, hb2⟩
 have P2 := bRn P1 hb2
 have R2 := bRn R1 hb2
 have B2 := tRn B1 hb2
 have z2 : w1.heap.size <= w2.heap.size := hb2.size
 clear hb2 C2 P1 R1 B1 v0 v1 v2 v3 v4 v5 v6 v7 v8 v9 v10 v11 v12 v13
 obtain ⟨_, v0, v1, v2, v3, v4, v5, v6, v7, v8, v9, v10, v11, v12, v13⟩ := qcG P2.out
 go_wp2_with fail
 refine (C3.out w2 B2.out).mono ?_
 rintro e w3 ⟨A3, rfl, ho3, hb3⟩
 have R3 := bRn R2 hb3
 have B3 := tRn B2 hb3
 have z3 : w2.heap.size <= w3.heap.size := hb3.size
 have VX : Hid (VaN (w3.alloc (.cells (nA A3 N) 39)) w3.heap.size (w.heap.size + 2) A3 N /\ Below w3.heap.size w3 (w3.alloc (.cells (nA A3 N) 39))) :=
  ⟨VaN.box (S := w2.heap.size) ho3 (by omega) z3 (Blk.new w3 39 _) ((Below.refl _ _).alloc (Nat.le_refl _) _), (Below.refl _ _).alloc (Nat.le_refl _) _⟩
 clear hb3 ho3 C3 P2 R2 B2 v0 v1 v2 v3 v4 v5 v6 v7 v8 v9 v10 v11 v12 v13
 go_wp2_with fail
 generalize (w3.alloc (.cells (nA A3 N) 39)) = w4 at VX ⊢
 obtain ⟨V4, b34⟩ := VX.out
 have V4 := hI V4
 have R4 := bRn R3 b34
 have B4 := tRn B3 b34
 have hr : w.heap.size + 1 < w3.heap.size := by omega
 clear b34 VX R3 B3
 generalize w3.heap.size = r at *
 refine (C4.out w4 r A3 V4.out).mono ?_
 rintro e w5 ⟨rfl, A5, hv5, hg5⟩
 have V5 := hI hv5
 have R5 := hI (gblk hg5 R4.out (fun e => by injection e; omega))
 have B5 := hI (B4.out.trans (qaW hg5 (fun g e => by injection e; omega) B4.out.size))
 clear hv5 hg5 C4 V4 R4 B4
 have hq : (N4 : Nr).w = N.w := HQ.out.1
 have x6 : w5.cell? ⟨r, 6, none⟩ = some (.slice A5.w N.w.length A5.wc) := by rw [<- hq]; exact V5.out.cell 6
 have rd : RdQ w5 A5.w N.w := by rw [<- hq]; exact V5.out.own.rd.fw
 have DD := hI (CW.out w5 A5.w A5.wc rd)
 clear hq rd CW
 go_wp2_with fail
 refine DD.out.mono ?_
 rintro e w6 ⟨b6, c6, rfl, ho6, hb6⟩
 have V6 := hI (V5.out.later hb6)
 have R6 := bRn R5 hb6
 have B6 := tRn B5 hb6
 have VY := hI (V6.out.keysW ho6 (V5.out.own.below_of (Nat.le_refl _)) V5.out.le)
 have yf : ∀ j, w6.frozen? ⟨r, j, none⟩ = false := fun j => V6.out.var.froz j
 have RY := hI (Blk.far R6.out ⟨r, 6, none⟩ (.slice b6 M.w.length c6) (by show w.heap.size + 1 ≠ r; omega))
 have BY := hI (B6.out.setCell (p := ⟨r, 6, none⟩) (by show w.heap.size <= r; omega) (.slice b6 M.w.length c6))
 obtain ⟨_, v0, v1, v2, v3, v4, v5, v6, v7, v8, v9, v10, v11, v12, v13⟩ := qcG V6.out.var
 (try dsimp only at v0 v1 v2 v3 v4 v5 v6 v7 v8 v9 v10 v11 v12 v13)
 clear x6 DD hb6 ho6 V6 R6 B6 V5 R5 B5
 have RX := hI (And.intro VY.out (And.intro RY.out BY.out))
 clear VY RY BY
 rw [show (N4 : Nr).t = N.t from HQ.out.2.1] at v8
 clear v0 v1 v2 v3 v4 v5 v7 v9 v10 v11 v12 v13
 go_wp2_with fail
 generalize (w6.setCell ⟨r, 6, none⟩ (.slice b6 M.w.length c6)) = w7 at RX ⊢
 obtain ⟨V7, R7, B7⟩ := RX.out
 have V7 := hI V7
 have R7 := hI R7
 have B7 := hI B7
 clear RX yf v6 v8
 have hq : ({ N4 with w := M.w } : Nr).t = N.t := HQ.out.2.1
 have x8 : w7.cell? ⟨r, 8, none⟩ = some (.slice A5.t N.t.length A5.tc) := by rw [<- hq]; exact V7.out.cell 8
 have rd : RdQ w7 A5.t N.t := by rw [<- hq]; exact V7.out.own.rd.ft
 have DD := hI (CT.out w7 A5.t A5.tc rd)
 clear hq rd CT
 refine DD.out.mono ?_
 rintro e w8 ⟨b8, c8, rfl, ho8, hb8⟩
 have V8 := hI (V7.out.later hb8)
 have R8 := bRn R7 hb8
 have B8 := tRn B7 hb8
 have VY := hI (V8.out.keysT ho8 (V7.out.own.below_of (Nat.le_refl _)) V7.out.le)
 have yf : ∀ j, w8.frozen? ⟨r, j, none⟩ = false := fun j => V8.out.var.froz j
 have RY := hI (Blk.far R8.out ⟨r, 8, none⟩ (.slice b8 M.t.length c8) (by show w.heap.size + 1 ≠ r; omega))
 have BY := hI (B8.out.setCell (p := ⟨r, 8, none⟩) (by show w.heap.size <= r; omega) (.slice b8 M.t.length c8))
 obtain ⟨_, v0, v1, v2, v3, v4, v5, v6, v7, v8, v9, v10, v11, v12, v13⟩ := qcG V8.out.var
 (try dsimp only at v0 v1 v2 v3 v4 v5 v6 v7 v8 v9 v10 v11 v12 v13)
 clear x8 DD hb8 ho8 V8 R8 B8 V7 R7 B7
 have RX := hI (And.intro VY.out (And.intro RY.out BY.out))
 clear VY RY BY
 rw [show (N4 : Nr).s = N.s from HQ.out.2.2] at v10
 clear v0 v1 v2 v3 v4 v5 v6 v7 v9 v11 v12 v13
 go_wp2_with fail
 generalize (w8.setCell ⟨r, 8, none⟩ (.slice b8 M.t.length c8)) = w9 at RX ⊢
 obtain ⟨V9, R9, B9⟩ := RX.out
 have V9 := hI V9
 have R9 := hI R9
 have B9 := hI B9
 clear RX yf v8 v10
 have VZ : Hid (VaN w9 r (w.heap.size + 2) { ({ A5 with w := b6, wc := c6 } : NA) with t := b8, tc := c8 } { M with s := N4.s }) := by
  show VaN _ _ _ _ _
  rw [<- HX.out]
  exact V9.out
 clear V9
 have V9 := VZ
 clear VZ
 have hq : ({ M with s := N4.s } : Nr).s = N.s := HQ.out.2.2
 have x10 : w9.cell? ⟨r, 10, none⟩ = some (.slice A5.s N.s.length A5.sc) := by rw [<- hq]; exact V9.out.cell 10
 have rd : RdQ w9 A5.s N.s := by rw [<- hq]; exact V9.out.own.rd.fs
 have DD := hI (CS.out w9 A5.s A5.sc rd)
 clear hq rd CS
 refine DD.out.mono ?_
 rintro e w10 ⟨b10, c10, rfl, ho10, hb10⟩
 have V10 := hI (V9.out.later hb10)
 have R10 := bRn R9 hb10
 have B10 := tRn B9 hb10
 have VY := hI (V10.out.keysS ho10 (V9.out.own.below_of (Nat.le_refl _)) V9.out.le)
 have yf : ∀ j, w10.frozen? ⟨r, j, none⟩ = false := fun j => V10.out.var.froz j
 have RY := hI (Blk.far R10.out ⟨r, 10, none⟩ (.slice b10 M.s.length c10) (by show w.heap.size + 1 ≠ r; omega))
 have BY := hI (B10.out.setCell (p := ⟨r, 10, none⟩) (by show w.heap.size <= r; omega) (.slice b10 M.s.length c10))
 obtain ⟨_, v0, v1, v2, v3, v4, v5, v6, v7, v8, v9, v10, v11, v12, v13⟩ := qcG V10.out.var
 (try dsimp only at v0 v1 v2 v3 v4 v5 v6 v7 v8 v9 v10 v11 v12 v13)
 clear x10 DD hb10 ho10 V10 R10 B10 V9 R9 B9
 have VM : Hid (VaN (w10.setCell ⟨r, 10, none⟩ (.slice b10 M.s.length c10)) r (w.heap.size + 2) { ({ ({ A5 with w := b6, wc := c6 } : NA) with t := b8, tc := c8 } : NA) with s := b10, sc := c10 } M) := VY
 clear VY
 have VY := VM
 clear VM
 have CX := hI (fun w' A1 (hR : RdN w' A1 M) => copyS HF.out hR)
 unfold neV at CX
 go_wp2_with fail
 generalize (w10.setCell ⟨r, 10, none⟩ (.slice b10 M.s.length c10)) = w11 at VY RY BY ⊢
 refine (CX.out w11 { ({ ({ A5 with w := b6, wc := c6 } : NA) with t := b8, tc := c8 } : NA) with s := b10, sc := c10 } VY.out.own.rd).mono ?_
 rintro e w12 ⟨A12, rfl, ho12, hb12⟩
 have R12 := bRn RY hb12
 have BW := tRn BY hb12
 have O12 := hI (ho12.base (B' := w.heap.size + 2) (by have := RY.out.lt; omega))
 clear hb12 ho12 CX VY RY BY yf v0 v1 v2 v3 v4 v5 v6 v7 v8 v9 v10 v11 v12 v13
 have u0 : w12.cell? ⟨w.heap.size + 1, 0, none⟩ = _ := cRn (R12.out.cell 0) rfl
 have u1 : w12.cell? ⟨w.heap.size + 1, 1, none⟩ = _ := cRn (R12.out.cell 1) rfl
 have u2 : w12.cell? ⟨w.heap.size + 1, 2, none⟩ = _ := cRn (R12.out.cell 2) rfl
 have u3 : w12.cell? ⟨w.heap.size + 1, 3, none⟩ = _ := cRn (R12.out.cell 3) rfl
 have u4 : w12.cell? ⟨w.heap.size + 1, 4, none⟩ = _ := cRn (R12.out.cell 4) rfl
 have u5 : w12.cell? ⟨w.heap.size + 1, 5, none⟩ = _ := cRn (R12.out.cell 5) rfl
 have u6 : w12.cell? ⟨w.heap.size + 1, 6, none⟩ = _ := cRn (R12.out.cell 6) rfl
 have u7 : w12.cell? ⟨w.heap.size + 1, 7, none⟩ = _ := cRn (R12.out.cell 7) rfl
 have u8 : w12.cell? ⟨w.heap.size + 1, 8, none⟩ = _ := cRn (R12.out.cell 8) rfl
 have u9 : w12.cell? ⟨w.heap.size + 1, 9, none⟩ = _ := cRn (R12.out.cell 9) rfl
 have u10 : w12.cell? ⟨w.heap.size + 1, 10, none⟩ = _ := cRn (R12.out.cell 10) rfl
 have u11 : w12.cell? ⟨w.heap.size + 1, 11, none⟩ = _ := cRn (R12.out.cell 11) rfl
 have u12 : w12.cell? ⟨w.heap.size + 1, 12, none⟩ = _ := cRn (R12.out.cell 12) rfl
 have u13 : w12.cell? ⟨w.heap.size + 1, 13, none⟩ = _ := cRn (R12.out.cell 13) rfl
 have uf : ∀ j, w12.frozen? ⟨w.heap.size + 1, j, none⟩ = false := fun j => R12.out.froz j
 have HH := hI (Blk.set (Blk.set (Blk.set (Blk.set (Blk.set (Blk.set (Blk.set (Blk.set (Blk.set (Blk.set (Blk.set (Blk.set (Blk.set (Blk.set (R12.out) 0 (.slice A12.a M.sl.length A12.ac)) 1 (.int .i64 M.fr)) 2 (.slice A12.c M.ce.length A12.cc)) 3 (.slice A12.o M.od.length A12.oc)) 4 (.int .i64 M.mv)) 5 (.int .i64 M.wm)) 6 (.slice A12.w M.w.length A12.wc)) 7 (.int .i64 M.tm)) 8 (.slice A12.t M.t.length A12.tc)) 9 (.int .i64 M.sm)) 10 (.slice A12.s M.s.length A12.sc)) 11 (.slice A12.k M.sk.length A12.kc)) 12 (.int .i64 M.ad)) 13 (.int .i64 M.dr))
 have OX := hI (OwnN.put14 (s := w.heap.size + 1) O12.out (by omega) (.slice A12.a M.sl.length A12.ac) (.int .i64 M.fr) (.slice A12.c M.ce.length A12.cc) (.slice A12.o M.od.length A12.oc) (.int .i64 M.mv) (.int .i64 M.wm) (.slice A12.w M.w.length A12.wc) (.int .i64 M.tm) (.slice A12.t M.t.length A12.tc) (.int .i64 M.sm) (.slice A12.s M.s.length A12.sc) (.slice A12.k M.sk.length A12.kc) (.int .i64 M.ad) (.int .i64 M.dr))
 have BX := hI (qaM (s := w.heap.size + 1) BW.out (by omega) (.slice A12.a M.sl.length A12.ac) (.int .i64 M.fr) (.slice A12.c M.ce.length A12.cc) (.slice A12.o M.od.length A12.oc) (.int .i64 M.mv) (.int .i64 M.wm) (.slice A12.w M.w.length A12.wc) (.int .i64 M.tm) (.slice A12.t M.t.length A12.tc) (.int .i64 M.sm) (.slice A12.s M.s.length A12.sc) (.slice A12.k M.sk.length A12.kc) (.int .i64 M.ad) (.int .i64 M.dr))
 go_wp2
 refine bodyPost_ret (resQ2 Tryz.results71 _ _ (w.heap.size + 1) 39 (nA A12 M) (0, 0) _ rfl HH.out Tryz.underlying39 rfl (by kernel_rfl)) rfl ?_
 exact ⟨A12, rfl, OX.out.base (by omega), BX.out⟩
theorem forgetSN {w : World} {A : NA} {N : Nr} (h : InN N) (hA : RdN w A N) (k : ByteArray) (hks : k.size <= 1048576) (hnin : ¬ k ∈ qaD N) :
  Calls Tryz.prog 71 #[neV A N, .string k] w fun e w' => e = .returned (.tuple #[neV noA zeN, .bool false]) /\ Below w.heap.size w w' := by
 have hl := h.small
 have F0 := hI (qdT w (nA A N) nZ 39 39)
 have C1 := hI (fun w' (hb : Below w.heap.size w w') => qeC A.c A.o N.ce N.od A.cc A.oc N.mv k w' hl.fc hl.fo hks (hA.fc.later hb) (hA.fo.later hb) (h.noSeek hnin))
 have C2 := hI (fun w' (hb : Below w.heap.size w w') => nearOkS h (hA.later hb))
 unfold neV at C2
 clear hA hl h hnin
 unfold neV noA zeN
 simp only [List.length_nil]
 go_enter Tryz.func71, Tryz.ntmps71
 go_wp2_with fail
 generalize ((w.alloc (.cells (nA A N) 39)).alloc (.cells nZ 39)) = w0 at F0 ⊢
 obtain ⟨P0, R0, B0⟩ := F0.out
 have P0 := hI P0
 have R0 := hI R0
 have B0 := hI B0
 have sz0 : w.heap.size + 2 <= w0.heap.size := by have := R0.out.lt; omega
 clear F0
 refine (C1.out w0 B0.out).mono ?_
 rintro e w1 ⟨rfl, hb1⟩
 have P1 := bRn P0 hb1
 have R1 := bRn R0 hb1
 have B1 := tRn B0 hb1
 clear hb1 C1 P0 R0 B0
 obtain ⟨_, v0, v1, v2, v3, v4, v5, v6, v7, v8, v9, v10, v11, v12, v13⟩ := qcG P1.out
 go_wp2_with fail
 refine (C2.out w1 B1.out).mono ?_
 rintro e w2 ⟨rfl, hb2⟩
 have R2 := bRn R1 hb2
 have B2 := tRn B1 hb2
 clear hb2 C2 P1 R1 B1 v0 v1 v2 v3 v4 v5 v6 v7 v8 v9 v10 v11 v12 v13
 have u0 : w2.cell? ⟨w.heap.size + 1, 0, none⟩ = _ := cRn (R2.out.cell 0) rfl
 have u1 : w2.cell? ⟨w.heap.size + 1, 1, none⟩ = _ := cRn (R2.out.cell 1) rfl
 have u2 : w2.cell? ⟨w.heap.size + 1, 2, none⟩ = _ := cRn (R2.out.cell 2) rfl
 have u3 : w2.cell? ⟨w.heap.size + 1, 3, none⟩ = _ := cRn (R2.out.cell 3) rfl
 have u4 : w2.cell? ⟨w.heap.size + 1, 4, none⟩ = _ := cRn (R2.out.cell 4) rfl
 have u5 : w2.cell? ⟨w.heap.size + 1, 5, none⟩ = _ := cRn (R2.out.cell 5) rfl
 have u6 : w2.cell? ⟨w.heap.size + 1, 6, none⟩ = _ := cRn (R2.out.cell 6) rfl
 have u7 : w2.cell? ⟨w.heap.size + 1, 7, none⟩ = _ := cRn (R2.out.cell 7) rfl
 have u8 : w2.cell? ⟨w.heap.size + 1, 8, none⟩ = _ := cRn (R2.out.cell 8) rfl
 have u9 : w2.cell? ⟨w.heap.size + 1, 9, none⟩ = _ := cRn (R2.out.cell 9) rfl
 have u10 : w2.cell? ⟨w.heap.size + 1, 10, none⟩ = _ := cRn (R2.out.cell 10) rfl
 have u11 : w2.cell? ⟨w.heap.size + 1, 11, none⟩ = _ := cRn (R2.out.cell 11) rfl
 have u12 : w2.cell? ⟨w.heap.size + 1, 12, none⟩ = _ := cRn (R2.out.cell 12) rfl
 have u13 : w2.cell? ⟨w.heap.size + 1, 13, none⟩ = _ := cRn (R2.out.cell 13) rfl
 have uf : ∀ j, w2.frozen? ⟨w.heap.size + 1, j, none⟩ = false := fun j => R2.out.froz j
 have HH := hI (Blk.set (Blk.set (Blk.set (Blk.set (Blk.set (Blk.set (Blk.set (Blk.set (Blk.set (Blk.set (Blk.set (Blk.set (Blk.set (Blk.set (R2.out) 0 (.slice none 0 0)) 1 (.int .i64 0)) 2 (.slice none 0 0)) 3 (.slice none 0 0)) 4 (.int .i64 0)) 5 (.int .i64 0)) 6 (.slice none 0 0)) 7 (.int .i64 0)) 8 (.slice none 0 0)) 9 (.int .i64 0)) 10 (.slice none 0 0)) 11 (.slice none 0 0)) 12 (.int .i64 0)) 13 (.int .i64 0))
 have BX := hI (qaM (s := w.heap.size + 1) B2.out (by omega) (.slice none 0 0) (.int .i64 0) (.slice none 0 0) (.slice none 0 0) (.int .i64 0) (.int .i64 0) (.slice none 0 0) (.int .i64 0) (.slice none 0 0) (.int .i64 0) (.slice none 0 0) (.slice none 0 0) (.int .i64 0) (.int .i64 0))
 go_wp2
 refine bodyPost_ret (resQ2 Tryz.results71 _ _ (w.heap.size + 1) 39 nZ (0, 0) _ rfl HH.out Tryz.underlying39 rfl (by kernel_rfl)) rfl ?_
 exact ⟨rfl, BX.out⟩
end Go.Proofs.YtigpjmmfelndkaaGreatDoor
