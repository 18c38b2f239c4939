import Derived.Test.YtigpjmmfelndkaaGreatDoorLYW
import Derived.Test.YtigpjmmfelndkaaGreatDoorLYK
namespace Go.Proofs.YtigpjmmfelndkaaGreatDoor
open Go.RowKit
set_option linter.unusedVariables false
set_option maxRecDepth 100000
set_option maxHeartbeats 8000000
theorem qzM {w : World} {r B : Nat} {A : NA} {N : Nr} (h : VaH w r B A N) (hl : SmN N) (hq : N.w.length <= 65536 /\ N.t.length <= 65536 /\ N.s.length <= 65536) :
  Calls Tryz.prog 35 #[.pointer (some ⟨r, 0, none⟩)] w fun e w' => ∃ A', e = .returned (neV A' N) /\ OwnN w' w.heap.size A' N /\ Below w.heap.size w w' := by
 have F0 := hI (show Blk (w.alloc (.cells nZ 39)) w.heap.size 39 [.slice none 0 0, .int .i64 0, .slice none 0 0, .slice none 0 0, .int .i64 0, .int .i64 0, .slice none 0 0, .int .i64 0, .slice none 0 0, .int .i64 0, .slice none 0 0, .slice none 0 0, .int .i64 0, .int .i64 0] /\ Below w.heap.size w (w.alloc (.cells nZ 39)) from ⟨Blk.new w _ _, bAl _ _⟩)
 have C0 := hI (fun w' (hb : Below w.heap.size w w') => qzL (A := A) hl hq (h.own.rd.later hb))
 have H := hI h
 unfold neV at C0 ⊢
 clear h hl hq
 go_enter Tryz.func35, Tryz.ntmps35
 go_wp2_with fail
 generalize (w.alloc (.cells nZ 39)) = w0 at F0 ⊢
 obtain ⟨R0, B0⟩ := F0.out
 have R0 := hI R0
 have B0 := hI B0
 have V0 := hI (H.out.later B0.out)
 have hr := H.out.var.lt
 have sz0 : w.heap.size < w0.heap.size := R0.out.lt
 clear F0 H
 obtain ⟨_, x0, x1, x2, x3, x4, x5, x6, x7, x8, x9, x10, x11, x12, x13⟩ := (show r < w0.heap.size /\ _ from qcR V0.out.var)
 have qq : ∀ (u : World) (i j : Nat) (v : Value), (u.setCell ⟨w.heap.size, i, none⟩ v).cell? ⟨r, j, none⟩ = u.cell? ⟨r, j, none⟩ := fun u i j v => World.cell?_setCell_other _ _ _ _ (by intro e; injection e; omega)
 go_region_held3 (fun w' => w'.cell? ⟨r, 0, none⟩ = some (.slice A.a N.sl.length A.ac) /\ w'.cell? ⟨r, 1, none⟩ = some (.int .i64 N.fr) /\ w'.cell? ⟨r, 2, none⟩ = some (.slice A.c N.ce.length A.cc) /\ w'.cell? ⟨r, 3, none⟩ = some (.slice A.o N.od.length A.oc) /\ w'.cell? ⟨r, 4, none⟩ = some (.int .i64 N.mv) /\ w'.cell? ⟨r, 5, none⟩ = some (.int .i64 N.wm) /\ w'.cell? ⟨r, 6, none⟩ = some (.slice A.w N.w.length A.wc) /\ w'.cell? ⟨r, 7, none⟩ = some (.int .i64 N.tm) /\ w'.cell? ⟨r, 8, none⟩ = some (.slice A.t N.t.length A.tc) /\ w'.cell? ⟨r, 9, none⟩ = some (.int .i64 N.sm) /\ w'.cell? ⟨r, 10, none⟩ = some (.slice A.s N.s.length A.sc) /\ w'.cell? ⟨r, 11, none⟩ = some (.slice A.k N.sk.length A.kc) /\ w'.cell? ⟨r, 12, none⟩ = some (.int .i64 N.ad) /\ w'.cell? ⟨r, 13, none⟩ = some (.int .i64 N.dr)) (first | simp only [World.cell?_drew, x0, x1, x2, x3, x4, x5, x6, x7, x8, x9, x10, x11, x12, x13, and_self] | simp only [x0, x1, x2, x3, x4, x5, x6, x7, x8, x9, x10, x11, x12, x13, and_self] | simp only [qq, x0, x1, x2, x3, x4, x5, x6, x7, x8, x9, x10, x11, x12, x13, and_self] | simp only [World.cell?_drew, qq, x0, x1, x2, x3, x4, x5, x6, x7, x8, x9, x10, x11, x12, x13, and_self]) ((first | (go_at_call 68; refine (C0.out _ (B0.out.trans (show Below w.heap.size w0 _ by go_grown))).mono ?_; rintro e w1 ⟨A1, rfl, ho, hb⟩; have b1 : Hid (Below w0.heap.size w0 w1) := (show Below w0.heap.size w0 _ by go_grown).trans (hb.mono (by go_size)); have O1 : Hid (OwnN w1 w0.heap.size A1 N) := ho.base (by go_size); clear ho hb x0 x1 x2 x3 x4 x5 x6 x7 x8 x9 x10 x11 x12 x13; obtain ⟨_, x0, x1, x2, x3, x4, x5, x6, x7, x8, x9, x10, x11, x12, x13⟩ := (show r < w1.heap.size /\ _ from qcR (V0.out.later b1.out).var); have R1 := hI (R0.out.below b1.out sz0); have y0 : w1.cell? ⟨w.heap.size, 0, none⟩ = some (.slice none 0 0) := R1.out.cell 0; have y1 : w1.cell? ⟨w.heap.size, 1, none⟩ = some (.int .i64 0) := R1.out.cell 1; have y2 : w1.cell? ⟨w.heap.size, 2, none⟩ = some (.slice none 0 0) := R1.out.cell 2; have y3 : w1.cell? ⟨w.heap.size, 3, none⟩ = some (.slice none 0 0) := R1.out.cell 3; have y4 : w1.cell? ⟨w.heap.size, 4, none⟩ = some (.int .i64 0) := R1.out.cell 4; have y5 : w1.cell? ⟨w.heap.size, 5, none⟩ = some (.int .i64 0) := R1.out.cell 5; have y6 : w1.cell? ⟨w.heap.size, 6, none⟩ = some (.slice none 0 0) := R1.out.cell 6; have y7 : w1.cell? ⟨w.heap.size, 7, none⟩ = some (.int .i64 0) := R1.out.cell 7; have y8 : w1.cell? ⟨w.heap.size, 8, none⟩ = some (.slice none 0 0) := R1.out.cell 8; have y9 : w1.cell? ⟨w.heap.size, 9, none⟩ = some (.int .i64 0) := R1.out.cell 9; have y10 : w1.cell? ⟨w.heap.size, 10, none⟩ = some (.slice none 0 0) := R1.out.cell 10; have y11 : w1.cell? ⟨w.heap.size, 11, none⟩ = some (.slice none 0 0) := R1.out.cell 11; have y12 : w1.cell? ⟨w.heap.size, 12, none⟩ = some (.int .i64 0) := R1.out.cell 12; have y13 : w1.cell? ⟨w.heap.size, 13, none⟩ = some (.int .i64 0) := R1.out.cell 13; have yf : ∀ j, w1.frozen? ⟨w.heap.size, j, none⟩ = false := (fun j => R1.out.froz j))))
 all_goals
  have HH := hI (Blk.set (Blk.set (Blk.set (Blk.set (Blk.set (Blk.set (Blk.set (Blk.set (Blk.set (Blk.set (Blk.set (Blk.set (Blk.set (Blk.set (R1.out) 0 (.slice A1.a N.sl.length A1.ac)) 1 (.int .i64 N.fr)) 2 (.slice A1.c N.ce.length A1.cc)) 3 (.slice A1.o N.od.length A1.oc)) 4 (.int .i64 N.mv)) 5 (.int .i64 N.wm)) 6 (.slice A1.w N.w.length A1.wc)) 7 (.int .i64 N.tm)) 8 (.slice A1.t N.t.length A1.tc)) 9 (.int .i64 N.sm)) 10 (.slice A1.s N.s.length A1.sc)) 11 (.slice A1.k N.sk.length A1.kc)) 12 (.int .i64 N.ad)) 13 (.int .i64 N.dr))
  have OX := hI (OwnN.put14 (s := w.heap.size) O1.out (by omega) (.slice A1.a N.sl.length A1.ac) (.int .i64 N.fr) (.slice A1.c N.ce.length A1.cc) (.slice A1.o N.od.length A1.oc) (.int .i64 N.mv) (.int .i64 N.wm) (.slice A1.w N.w.length A1.wc) (.int .i64 N.tm) (.slice A1.t N.t.length A1.tc) (.int .i64 N.sm) (.slice A1.s N.s.length A1.sc) (.slice A1.k N.sk.length A1.kc) (.int .i64 N.ad) (.int .i64 N.dr))
  have BX := hI (qaM (s := w.heap.size) (B0.out.trans (b1.out.mono B0.out.size)) (Nat.le_refl _) (.slice A1.a N.sl.length A1.ac) (.int .i64 N.fr) (.slice A1.c N.ce.length A1.cc) (.slice A1.o N.od.length A1.oc) (.int .i64 N.mv) (.int .i64 N.wm) (.slice A1.w N.w.length A1.wc) (.int .i64 N.tm) (.slice A1.t N.t.length A1.tc) (.int .i64 N.sm) (.slice A1.s N.s.length A1.sc) (.slice A1.k N.sk.length A1.kc) (.int .i64 N.ad) (.int .i64 N.dr))
  go_wp2
  refine bodyPost_ret (results_cell_row Tryz.results35 _ _ w.heap.size 39 (nA A1 N) (0, 0) _ rfl HH.out Tryz.underlying39 rfl (by kernel_rfl)) rfl ?_
  exact ⟨A1, rfl, OX.out.base (by omega), BX.out⟩
theorem qoQ {w : World} {B : Nat} {A : NA} {N : Nr} (h : InN N) (hA : OwnN w B A N) (hB : B <= w.heap.size) :
  Calls Tryz.prog 29 #[neV A N] w fun e w' => ∃ r, e = .returned (.tuple #[.pointer (some ⟨r, 0, none⟩), .bool true]) /\ VaH w' r B A N /\ w.heap.size <= r /\ Below w.heap.size w w' := by
 have BX := hI (And.intro (show Blk (w.alloc (.cells (nA A N) 39)) w.heap.size 39 (neC A N) from Blk.new w 39 _) (bAl w (.cells (nA A N) 39)))
 have C1 := hI (fun w' (hb : Below w.heap.size w w') => qsZ h (hA.rd.later hb) hA.caps)
 have HA := hI hA
 unfold neV at C1 ⊢
 clear h hA
 go_enter Tryz.func29, Tryz.ntmps29
 go_wp2_with fail
 generalize (w.alloc (.cells (nA A N) 39)) = w0 at BX ⊢
 obtain ⟨K0, B0⟩ := BX.out
 have K0 := hI K0
 have B0 := hI B0
 clear BX
 refine (C1.out w0 B0.out).mono ?_
 rintro e w1 ⟨rfl, hb1⟩
 have K1 := bRn K0 hb1
 have B1 := tRn B0 hb1
 clear hb1 C1 K0 B0
 obtain ⟨_, v0, v1, v2, v3, v4, v5, v6, v7, v8, v9, v10, v11, v12, v13⟩ := qcR K1.out
 go_wp2
 go_ret2
 have hs := B1.out.size
 refine ⟨w1.heap.size, rfl, ⟨Blk.new w1 75 _, (HA.out.later B1.out).later (bAl _ _), fun v hv g hg => by have := (HA.out.lt v hv g hg).2; omega, by rw [World.size_alloc]; omega⟩, hs, B1.out.alloc hs _⟩
end Go.Proofs.YtigpjmmfelndkaaGreatDoor
