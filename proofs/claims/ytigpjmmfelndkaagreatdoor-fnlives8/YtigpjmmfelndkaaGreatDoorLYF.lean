import Derived.Test.YtigpjmmfelndkaaGreatDoorLYE
namespace Go.Proofs.YtigpjmmfelndkaaGreatDoor
open Go.RowKit
set_option linter.unusedVariables false
set_option maxRecDepth 100000
set_option maxHeartbeats 8000000
theorem qyS {w : World} {r : Nat} {t : TypeId} {cs : List Value} (h : Blk w r t cs) (s j : Nat) (v : Value) (hs : r ≠ s) : Blk (w.setCell ⟨s, j, none⟩ v) r t cs := h.far ⟨s, j, none⟩ v hs
theorem qoV {w : World} {A : NA} {N : Nr} (h : InN N) (hA : RdN w A N) :
  Calls Tryz.prog 37 #[neV A N] w fun e w' => ∃ A', e = .returned (neV A' N) /\ OwnN w' w.heap.size A' N /\ Below w.heap.size w w' := by
 have hl := h.small
 have hn24 := h.inT.ar.most
 have h2 := h.two
 have hce : 0 < N.ce.length := by have := qjC hn24; have := h.len; omega
 have hw24 := h.qw.small
 have ht24 := h.qt.small
 have hs24 := h.qs.small
 have F0 := hI (qdI w (nA A N) nZ 39 39)
 have C1 := hI (fun w' (hb : Below w.heap.size w w') => qfP A.a N.sl A.ac N.fr w' hn24 (by omega) (hA.fa.later hb))
 have C2 := hI (fun w' (hb : Below w.heap.size w w') => qfF A.c A.o N.ce N.od A.cc A.oc N.mv w' hl.fc hl.fo hce (hA.fc.later hb).toJ (hA.fo.later hb).toJ)
 have C6 := hI (fun w' (hb : Below w.heap.size w w') => qhM A.k N.sk A.kc N.ad w' hl.fk (hA.fk.later hb))
 unfold arV at C1
 unfold tbV at C2
 unfold skV at C6
 have HW := hI hA.fw
 have HT := hI hA.ft
 have HS := hI hA.fs
 clear hA hl h
 unfold neV
 go_enter Tryz.func37, Tryz.ntmps37
 go_wp2_with fail
 generalize ((w.alloc (.cells (nA A N) 39)).alloc (.cells nZ 39)) = w0 at F0 ⊢
 obtain ⟨P0, R0, B0⟩ := F0.out
 have P0 := hI P0
 have R0 := hI R0
 have B0 := hI B0
 have sz0 : w.heap.size + 2 <= w0.heap.size := by have := R0.out.lt; omega
 clear F0
 refine (C1.out w0 B0.out).mono ?_
 rintro e w1 ⟨ab, ac, rfl, ho1, hb1⟩
 have ra1 := hI (RowI.of (qaB (base := w.heap.size + 2) ho1 sz0))
 have z1 : w0.heap.size <= w1.heap.size := hb1.size
 have P1 := bRn P0 hb1
 have R1 := bRn R0 hb1
 have B1 := tRn B0 hb1
 clear P0 R0 B0
 clear hb1 ho1 C1
 have y0 : w1.cell? ⟨w.heap.size, 0, none⟩ = _ := cRn (P1.out.cell 0) rfl
 have y1 : w1.cell? ⟨w.heap.size, 1, none⟩ = _ := cRn (P1.out.cell 1) rfl
 have y2 : w1.cell? ⟨w.heap.size, 2, none⟩ = _ := cRn (P1.out.cell 2) rfl
 have y3 : w1.cell? ⟨w.heap.size, 3, none⟩ = _ := cRn (P1.out.cell 3) rfl
 have y4 : w1.cell? ⟨w.heap.size, 4, none⟩ = _ := cRn (P1.out.cell 4) rfl
 have yf (j) : w1.frozen? ⟨w.heap.size, j, none⟩ = false := P1.out.froz j
 have yl : w.heap.size < w1.heap.size := P1.out.lt
 have FX := hI (And.intro (Blk.set (Blk.set (P1.out) 0 (.slice (some ⟨ab, 0, none⟩) N.sl.length ac)) 1 (.int .i64 N.fr)) (And.intro (qyS (qyS (R1.out) w.heap.size 0 (.slice (some ⟨ab, 0, none⟩) N.sl.length ac) (by omega)) w.heap.size 1 (.int .i64 N.fr) (by omega)) (And.intro (((B1.out).setCell (p := ⟨w.heap.size, 0, none⟩) (Nat.le_refl _) (.slice (some ⟨ab, 0, none⟩) N.sl.length ac)).setCell (p := ⟨w.heap.size, 1, none⟩) (Nat.le_refl _) (.int .i64 N.fr)) (((ra1.out).far ⟨w.heap.size, 0, none⟩ (.slice (some ⟨ab, 0, none⟩) N.sl.length ac) (by show w.heap.size < _; omega)).far ⟨w.heap.size, 1, none⟩ (.int .i64 N.fr) (by show w.heap.size < _; omega)))))
 have ZX := hI (show ((w1.setCell ⟨w.heap.size, 0, none⟩ (.slice (some ⟨ab, 0, none⟩) N.sl.length ac)).setCell ⟨w.heap.size, 1, none⟩ (.int .i64 N.fr)).heap.size = w1.heap.size by simp)
 clear P1 R1 B1 ra1
 go_wp2_with fail
 generalize ((w1.setCell ⟨w.heap.size, 0, none⟩ (.slice (some ⟨ab, 0, none⟩) N.sl.length ac)).setCell ⟨w.heap.size, 1, none⟩ (.int .i64 N.fr)) = w2 at FX ZX ⊢
 obtain ⟨P2, R2, B2, ra2⟩ := FX.out
 have P2 := hI P2
 have R2 := hI R2
 have B2 := hI B2
 have ra2 := hI ra2
 have z2 : w2.heap.size = w1.heap.size := ZX.out
 clear FX ZX
 clear yf yl y0 y1 y2 y3 y4
 refine (C2.out w2 B2.out).mono ?_
 rintro e w3 ⟨v, rfl, hmv⟩
 obtain ⟨tb, tc, tb', tc', rfl, ho3, ho3', hne, hb3⟩ := hmv
 have rc3 := hI (RowI.of ho3)
 have ro3 := hI (RowI.of ho3')
 have z3 : w2.heap.size <= w3.heap.size := hb3.size
 unfold tbV
 have P3 := bRn P2 hb3
 have R3 := bRn R2 hb3
 have B3 := tRn B2 hb3
 have ra3 := hI (ra2.out.later hb3)
 clear P2 R2 B2 ra2
 clear hb3 ho3 ho3' C2
 have y2 : w3.cell? ⟨w.heap.size, 2, none⟩ = _ := cRn (P3.out.cell 2) rfl
 have y3 : w3.cell? ⟨w.heap.size, 3, none⟩ = _ := cRn (P3.out.cell 3) rfl
 have y4 : w3.cell? ⟨w.heap.size, 4, none⟩ = _ := cRn (P3.out.cell 4) rfl
 have y6 : w3.cell? ⟨w.heap.size, 6, none⟩ = _ := cRn (P3.out.cell 6) rfl
 have yf (j) : w3.frozen? ⟨w.heap.size, j, none⟩ = false := P3.out.froz j
 have yl : w.heap.size < w3.heap.size := P3.out.lt
 have FX := hI (And.intro (Blk.set (Blk.set (Blk.set (P3.out) 2 (.slice (some ⟨tb, 0, none⟩) N.ce.length tc)) 3 (.slice (some ⟨tb', 0, none⟩) N.od.length tc')) 4 (.int .i64 N.mv)) (And.intro (qyS (qyS (qyS (R3.out) w.heap.size 2 (.slice (some ⟨tb, 0, none⟩) N.ce.length tc) (by omega)) w.heap.size 3 (.slice (some ⟨tb', 0, none⟩) N.od.length tc') (by omega)) w.heap.size 4 (.int .i64 N.mv) (by omega)) (And.intro ((((B3.out).setCell (p := ⟨w.heap.size, 2, none⟩) (Nat.le_refl _) (.slice (some ⟨tb, 0, none⟩) N.ce.length tc)).setCell (p := ⟨w.heap.size, 3, none⟩) (Nat.le_refl _) (.slice (some ⟨tb', 0, none⟩) N.od.length tc')).setCell (p := ⟨w.heap.size, 4, none⟩) (Nat.le_refl _) (.int .i64 N.mv)) (And.intro ((((ra3.out).far ⟨w.heap.size, 2, none⟩ (.slice (some ⟨tb, 0, none⟩) N.ce.length tc) (by show w.heap.size < _; omega)).far ⟨w.heap.size, 3, none⟩ (.slice (some ⟨tb', 0, none⟩) N.od.length tc') (by show w.heap.size < _; omega)).far ⟨w.heap.size, 4, none⟩ (.int .i64 N.mv) (by show w.heap.size < _; omega)) (And.intro ((((rc3.out).far ⟨w.heap.size, 2, none⟩ (.slice (some ⟨tb, 0, none⟩) N.ce.length tc) (by show w.heap.size < _; omega)).far ⟨w.heap.size, 3, none⟩ (.slice (some ⟨tb', 0, none⟩) N.od.length tc') (by show w.heap.size < _; omega)).far ⟨w.heap.size, 4, none⟩ (.int .i64 N.mv) (by show w.heap.size < _; omega)) ((((ro3.out).far ⟨w.heap.size, 2, none⟩ (.slice (some ⟨tb, 0, none⟩) N.ce.length tc) (by show w.heap.size < _; omega)).far ⟨w.heap.size, 3, none⟩ (.slice (some ⟨tb', 0, none⟩) N.od.length tc') (by show w.heap.size < _; omega)).far ⟨w.heap.size, 4, none⟩ (.int .i64 N.mv) (by show w.heap.size < _; omega)))))))
 have ZX := hI (show (((w3.setCell ⟨w.heap.size, 2, none⟩ (.slice (some ⟨tb, 0, none⟩) N.ce.length tc)).setCell ⟨w.heap.size, 3, none⟩ (.slice (some ⟨tb', 0, none⟩) N.od.length tc')).setCell ⟨w.heap.size, 4, none⟩ (.int .i64 N.mv)).heap.size = w3.heap.size by simp)
 clear P3 R3 B3 ra3 rc3 ro3
 go_wp2_with (first | (at_builtin; (generalize (((w3.setCell ⟨w.heap.size, 2, none⟩ (.slice (some ⟨tb, 0, none⟩) N.ce.length tc)).setCell ⟨w.heap.size, 3, none⟩ (.slice (some ⟨tb', 0, none⟩) N.od.length tc')).setCell ⟨w.heap.size, 4, none⟩ (.int .i64 N.mv)) = w4 at FX ZX ⊢; obtain ⟨P4, R4, B4, ra4, rc4, ro4⟩ := FX.out; have P4 := hI P4; have R4 := hI R4; have B4 := hI B4; have ra4 := hI ra4; have rc4 := hI rc4; have ro4 := hI ro4; have z4 : w4.heap.size = w3.heap.size := ZX.out; clear FX ZX; (refine qbV rfl _ _ 30 rfl Tryz.underlying30 w3.heap.size _ 0 [] rfl (by have h9 := qbB w4 9; rw [z4] at h9; exact h9) A.w N.w.length A.wc N.w rfl rfl (HW.out.later (B4.out.trans ((bAl _ _).mono B4.out.size))) (by omega) (by rw [World.size_alloc]; omega) ?_; intro v5 w5 ho5 hg5; obtain ⟨wb, wc, hv5⟩ := qoB ho5; subst hv5; rw [Nat.zero_add, List.nil_append] at ho5; have hb5 : Below w4.heap.size w4 w5 := Below.grown (bAl _ _) hg5 (by rw [World.size_alloc]; omega) (fun k hk => by have h9 : w3.heap.size = k := Option.some.inj hk; omega); have rw5 := hI (RowI.of ho5); have z5 : w4.heap.size <= w5.heap.size := hb5.size; have P5 := bRn P4 hb5; have R5 := bRn R4 hb5; have B5 := tRn B4 hb5; have ra5 := hI (ra4.out.later hb5); have rc5 := hI (rc4.out.later hb5); have ro5 := hI (ro4.out.later hb5); clear P4 R4 B4 ra4 rc4 ro4; clear hb5 ho5 hg5; clear yf yl; have x6 : w5.cell? ⟨w.heap.size, 6, none⟩ = some (.slice A.w N.w.length A.wc) := P5.out.cell 6; have x8 : w5.cell? ⟨w.heap.size, 8, none⟩ = some (.slice A.t N.t.length A.tc) := P5.out.cell 8; have yf : ∀ j, w5.frozen? ⟨w.heap.size, j, none⟩ = false := fun j => P5.out.froz j; have yl : w.heap.size < w5.heap.size := P5.out.lt; have FX := hI (And.intro (Blk.set (P5.out) 6 (.slice wb N.w.length wc)) (And.intro (qyS (R5.out) w.heap.size 6 (.slice wb N.w.length wc) (by omega)) (And.intro ((B5.out).setCell (p := ⟨w.heap.size, 6, none⟩) (Nat.le_refl _) (.slice wb N.w.length wc)) (And.intro ((ra5.out).far ⟨w.heap.size, 6, none⟩ (.slice wb N.w.length wc) (by show w.heap.size < _; omega)) (And.intro ((rc5.out).far ⟨w.heap.size, 6, none⟩ (.slice wb N.w.length wc) (by show w.heap.size < _; omega)) (And.intro ((ro5.out).far ⟨w.heap.size, 6, none⟩ (.slice wb N.w.length wc) (by show w.heap.size < _; omega)) ((rw5.out).far ⟨w.heap.size, 6, none⟩ (.slice wb N.w.length wc) (by show w.heap.size < _; omega)))))))); have ZX := hI (show (w5.setCell ⟨w.heap.size, 6, none⟩ (.slice wb N.w.length wc)).heap.size = w5.heap.size by simp); clear P5 R5 B5 ra5 rc5 ro5 rw5))) | (at_builtin; (generalize (w5.setCell ⟨w.heap.size, 6, none⟩ (.slice wb N.w.length wc)) = w6 at FX ZX ⊢; obtain ⟨P6, R6, B6, ra6, rc6, ro6, rw6⟩ := FX.out; have P6 := hI P6; have R6 := hI R6; have B6 := hI B6; have ra6 := hI ra6; have rc6 := hI rc6; have ro6 := hI ro6; have rw6 := hI rw6; have z6 : w6.heap.size = w5.heap.size := ZX.out; clear FX ZX; (refine qbV rfl _ _ 30 rfl Tryz.underlying30 w5.heap.size _ 0 [] rfl (by have h9 := qbB w6 9; rw [z6] at h9; exact h9) A.t N.t.length A.tc N.t rfl rfl (HT.out.later (B6.out.trans ((bAl _ _).mono B6.out.size))) (by omega) (by rw [World.size_alloc]; omega) ?_; intro v7 w7 ho7 hg7; obtain ⟨tb2, tc2, hv7⟩ := qoB ho7; subst hv7; rw [Nat.zero_add, List.nil_append] at ho7; have hb7 : Below w6.heap.size w6 w7 := Below.grown (bAl _ _) hg7 (by rw [World.size_alloc]; omega) (fun k hk => by have h9 : w5.heap.size = k := Option.some.inj hk; omega); have rt7 := hI (RowI.of ho7); have z7 : w6.heap.size <= w7.heap.size := hb7.size; have P7 := bRn P6 hb7; have R7 := bRn R6 hb7; have B7 := tRn B6 hb7; have ra7 := hI (ra6.out.later hb7); have rc7 := hI (rc6.out.later hb7); have ro7 := hI (ro6.out.later hb7); have rw7 := hI (rw6.out.later hb7); clear P6 R6 B6 ra6 rc6 ro6 rw6; clear hb7 ho7 hg7; clear yf yl; have x8 : w7.cell? ⟨w.heap.size, 8, none⟩ = some (.slice A.t N.t.length A.tc) := P7.out.cell 8; have x10 : w7.cell? ⟨w.heap.size, 10, none⟩ = some (.slice A.s N.s.length A.sc) := P7.out.cell 10; have yf : ∀ j, w7.frozen? ⟨w.heap.size, j, none⟩ = false := fun j => P7.out.froz j; have yl : w.heap.size < w7.heap.size := P7.out.lt; have FX := hI (And.intro (Blk.set (P7.out) 8 (.slice tb2 N.t.length tc2)) (And.intro (qyS (R7.out) w.heap.size 8 (.slice tb2 N.t.length tc2) (by omega)) (And.intro ((B7.out).setCell (p := ⟨w.heap.size, 8, none⟩) (Nat.le_refl _) (.slice tb2 N.t.length tc2)) (And.intro ((ra7.out).far ⟨w.heap.size, 8, none⟩ (.slice tb2 N.t.length tc2) (by show w.heap.size < _; omega)) (And.intro ((rc7.out).far ⟨w.heap.size, 8, none⟩ (.slice tb2 N.t.length tc2) (by show w.heap.size < _; omega)) (And.intro ((ro7.out).far ⟨w.heap.size, 8, none⟩ (.slice tb2 N.t.length tc2) (by show w.heap.size < _; omega)) (And.intro ((rw7.out).far ⟨w.heap.size, 8, none⟩ (.slice tb2 N.t.length tc2) (by show w.heap.size < _; omega)) ((rt7.out).far ⟨w.heap.size, 8, none⟩ (.slice tb2 N.t.length tc2) (by show w.heap.size < _; omega))))))))); have ZX := hI (show (w7.setCell ⟨w.heap.size, 8, none⟩ (.slice tb2 N.t.length tc2)).heap.size = w7.heap.size by simp); clear P7 R7 B7 ra7 rc7 ro7 rw7 rt7))) | (at_builtin; (generalize (w7.setCell ⟨w.heap.size, 8, none⟩ (.slice tb2 N.t.length tc2)) = w8 at FX ZX ⊢; obtain ⟨P8, R8, B8, ra8, rc8, ro8, rw8, rt8⟩ := FX.out; have P8 := hI P8; have R8 := hI R8; have B8 := hI B8; have ra8 := hI ra8; have rc8 := hI rc8; have ro8 := hI ro8; have rw8 := hI rw8; have rt8 := hI rt8; have z8 : w8.heap.size = w7.heap.size := ZX.out; clear FX ZX; (refine qbV rfl _ _ 30 rfl Tryz.underlying30 w7.heap.size _ 0 [] rfl (by have h9 := qbB w8 9; rw [z8] at h9; exact h9) A.s N.s.length A.sc N.s rfl rfl (HS.out.later (B8.out.trans ((bAl _ _).mono B8.out.size))) (by omega) (by rw [World.size_alloc]; omega) ?_; intro v9 w9 ho9 hg9; obtain ⟨sb, sc2, hv9⟩ := qoB ho9; subst hv9; rw [Nat.zero_add, List.nil_append] at ho9; have hb9 : Below w8.heap.size w8 w9 := Below.grown (bAl _ _) hg9 (by rw [World.size_alloc]; omega) (fun k hk => by have h9 : w7.heap.size = k := Option.some.inj hk; omega); have rs9 := hI (RowI.of ho9); have z9 : w8.heap.size <= w9.heap.size := hb9.size; have P9 := bRn P8 hb9; have R9 := bRn R8 hb9; have B9 := tRn B8 hb9; have ra9 := hI (ra8.out.later hb9); have rc9 := hI (rc8.out.later hb9); have ro9 := hI (ro8.out.later hb9); have rw9 := hI (rw8.out.later hb9); have rt9 := hI (rt8.out.later hb9); clear P8 R8 B8 ra8 rc8 ro8 rw8 rt8; clear hb9 ho9 hg9; clear yf yl; have x10 : w9.cell? ⟨w.heap.size, 10, none⟩ = some (.slice A.s N.s.length A.sc) := P9.out.cell 10; have x11 : w9.cell? ⟨w.heap.size, 11, none⟩ = some (.slice A.k N.sk.length A.kc) := P9.out.cell 11; have x12 : w9.cell? ⟨w.heap.size, 12, none⟩ = some (.int .i64 N.ad) := P9.out.cell 12; have yf : ∀ j, w9.frozen? ⟨w.heap.size, j, none⟩ = false := fun j => P9.out.froz j; have yl : w.heap.size < w9.heap.size := P9.out.lt; have FX := hI (And.intro (Blk.set (P9.out) 10 (.slice sb N.s.length sc2)) (And.intro (qyS (R9.out) w.heap.size 10 (.slice sb N.s.length sc2) (by omega)) (And.intro ((B9.out).setCell (p := ⟨w.heap.size, 10, none⟩) (Nat.le_refl _) (.slice sb N.s.length sc2)) (And.intro ((ra9.out).far ⟨w.heap.size, 10, none⟩ (.slice sb N.s.length sc2) (by show w.heap.size < _; omega)) (And.intro ((rc9.out).far ⟨w.heap.size, 10, none⟩ (.slice sb N.s.length sc2) (by show w.heap.size < _; omega)) (And.intro ((ro9.out).far ⟨w.heap.size, 10, none⟩ (.slice sb N.s.length sc2) (by show w.heap.size < _; omega)) (And.intro ((rw9.out).far ⟨w.heap.size, 10, none⟩ (.slice sb N.s.length sc2) (by show w.heap.size < _; omega)) (And.intro ((rt9.out).far ⟨w.heap.size, 10, none⟩ (.slice sb N.s.length sc2) (by show w.heap.size < _; omega)) ((rs9.out).far ⟨w.heap.size, 10, none⟩ (.slice sb N.s.length sc2) (by show w.heap.size < _; omega)))))))))); have ZX := hI (show (w9.setCell ⟨w.heap.size, 10, none⟩ (.slice sb N.s.length sc2)).heap.size = w9.heap.size by simp); clear P9 R9 B9 ra9 rc9 ro9 rw9 rt9 rs9))))
 generalize (w9.setCell ⟨w.heap.size, 10, none⟩ (.slice sb N.s.length sc2)) = w10 at FX ZX ⊢
 obtain ⟨P10, R10, B10, ra10, rc10, ro10, rw10, rt10, rs10⟩ := FX.out
 have P10 := hI P10
 have R10 := hI R10
 have B10 := hI B10
 have ra10 := hI ra10
 have rc10 := hI rc10
 have ro10 := hI ro10
 have rw10 := hI rw10
 have rt10 := hI rt10
 have rs10 := hI rs10
 have z10 : w10.heap.size = w9.heap.size := ZX.out
 clear FX ZX
 refine (C6.out w10 B10.out).mono ?_
 rintro e w11 hm11
 obtain ⟨kb, kc, rfl, ho11, hb11⟩ := hm11
 have rk11 := hI (RowI.of ho11)
 have z11 : w10.heap.size <= w11.heap.size := hb11.size
 unfold skV
 have P11 := bRn P10 hb11
 have R11 := bRn R10 hb11
 have B11 := tRn B10 hb11
 have ra11 := hI (ra10.out.later hb11)
 have rc11 := hI (rc10.out.later hb11)
 have ro11 := hI (ro10.out.later hb11)
 have rw11 := hI (rw10.out.later hb11)
 have rt11 := hI (rt10.out.later hb11)
 have rs11 := hI (rs10.out.later hb11)
 clear P10 R10 B10 ra10 rc10 ro10 rw10 rt10 rs10
 clear hb11 ho11 C6
 have y0 : w11.cell? ⟨w.heap.size, 0, none⟩ = some (.slice (some ⟨ab, 0, none⟩) N.sl.length ac) := P11.out.cell 0
 have y1 : w11.cell? ⟨w.heap.size, 1, none⟩ = _ := cRn (P11.out.cell 1) rfl
 have y2 : w11.cell? ⟨w.heap.size, 2, none⟩ = some (.slice (some ⟨tb, 0, none⟩) N.ce.length tc) := P11.out.cell 2
 have y3 : w11.cell? ⟨w.heap.size, 3, none⟩ = some (.slice (some ⟨tb', 0, none⟩) N.od.length tc') := P11.out.cell 3
 have y4 : w11.cell? ⟨w.heap.size, 4, none⟩ = _ := cRn (P11.out.cell 4) rfl
 have y5 : w11.cell? ⟨w.heap.size, 5, none⟩ = _ := cRn (P11.out.cell 5) rfl
 have y6 : w11.cell? ⟨w.heap.size, 6, none⟩ = _ := cRn (P11.out.cell 6) rfl
 have y7 : w11.cell? ⟨w.heap.size, 7, none⟩ = _ := cRn (P11.out.cell 7) rfl
 have y8 : w11.cell? ⟨w.heap.size, 8, none⟩ = _ := cRn (P11.out.cell 8) rfl
 have y9 : w11.cell? ⟨w.heap.size, 9, none⟩ = _ := cRn (P11.out.cell 9) rfl
 have y10 : w11.cell? ⟨w.heap.size, 10, none⟩ = _ := cRn (P11.out.cell 10) rfl
 have y11 : w11.cell? ⟨w.heap.size, 11, none⟩ = _ := cRn (P11.out.cell 11) rfl
 have y12 : w11.cell? ⟨w.heap.size, 12, none⟩ = _ := cRn (P11.out.cell 12) rfl
 have y13 : w11.cell? ⟨w.heap.size, 13, none⟩ = _ := cRn (P11.out.cell 13) rfl
 have yf (j) : w11.frozen? ⟨w.heap.size, j, none⟩ = false := P11.out.froz j
 have u0 : w11.cell? ⟨w.heap.size + 1, 0, none⟩ = _ := cRn (R11.out.cell 0) rfl
 have u1 : w11.cell? ⟨w.heap.size + 1, 1, none⟩ = _ := cRn (R11.out.cell 1) rfl
 have u2 : w11.cell? ⟨w.heap.size + 1, 2, none⟩ = _ := cRn (R11.out.cell 2) rfl
 have u3 : w11.cell? ⟨w.heap.size + 1, 3, none⟩ = _ := cRn (R11.out.cell 3) rfl
 have u4 : w11.cell? ⟨w.heap.size + 1, 4, none⟩ = _ := cRn (R11.out.cell 4) rfl
 have u5 : w11.cell? ⟨w.heap.size + 1, 5, none⟩ = _ := cRn (R11.out.cell 5) rfl
 have u6 : w11.cell? ⟨w.heap.size + 1, 6, none⟩ = _ := cRn (R11.out.cell 6) rfl
 have u7 : w11.cell? ⟨w.heap.size + 1, 7, none⟩ = _ := cRn (R11.out.cell 7) rfl
 have u8 : w11.cell? ⟨w.heap.size + 1, 8, none⟩ = _ := cRn (R11.out.cell 8) rfl
 have u9 : w11.cell? ⟨w.heap.size + 1, 9, none⟩ = _ := cRn (R11.out.cell 9) rfl
 have u10 : w11.cell? ⟨w.heap.size + 1, 10, none⟩ = _ := cRn (R11.out.cell 10) rfl
 have u11 : w11.cell? ⟨w.heap.size + 1, 11, none⟩ = _ := cRn (R11.out.cell 11) rfl
 have u12 : w11.cell? ⟨w.heap.size + 1, 12, none⟩ = _ := cRn (R11.out.cell 12) rfl
 have u13 : w11.cell? ⟨w.heap.size + 1, 13, none⟩ = _ := cRn (R11.out.cell 13) rfl
 have uf (j) : w11.frozen? ⟨w.heap.size + 1, j, none⟩ = false := R11.out.froz j
 have RX := hI (Blk.set (Blk.set (Blk.set (Blk.set (Blk.set (Blk.set (Blk.set (Blk.set (Blk.set (Blk.set (Blk.set (Blk.set (Blk.set (Blk.set (qyS (qyS (R11.out) w.heap.size 11 (.slice kb N.sk.length kc) (by omega)) w.heap.size 12 (.int .i64 N.ad) (by omega)) 0 (.slice (some ⟨ab, 0, none⟩) N.sl.length ac)) 1 (.int .i64 N.fr)) 2 (.slice (some ⟨tb, 0, none⟩) N.ce.length tc)) 3 (.slice (some ⟨tb', 0, none⟩) N.od.length tc')) 4 (.int .i64 N.mv)) 5 (.int .i64 N.wm)) 6 (.slice wb N.w.length wc)) 7 (.int .i64 N.tm)) 8 (.slice tb2 N.t.length tc2)) 9 (.int .i64 N.sm)) 10 (.slice sb N.s.length sc2)) 11 (.slice kb N.sk.length kc)) 12 (.int .i64 N.ad)) 13 (.int .i64 N.dr))
 have OX := hI (OwnN.seq (A := ⟨some ⟨ab, 0, none⟩, ac, some ⟨tb, 0, none⟩, tc, some ⟨tb', 0, none⟩, tc', wb, wc, tb2, tc2, sb, sc2, kb, kc⟩) (N := N) (B := w.heap.size + 2) (S1 := w1.heap.size) (S2 := w3.heap.size) (S3 := w5.heap.size) (S4 := w7.heap.size) (S5 := w9.heap.size) (S6 := w11.heap.size) (by omega) (by omega) (by omega) (by omega) (by omega) ((((((((((((((((((ra11.out).far ⟨w.heap.size, 11, none⟩ (.slice kb N.sk.length kc) (by show w.heap.size < _; omega)).far ⟨w.heap.size, 12, none⟩ (.int .i64 N.ad) (by show w.heap.size < _; omega)).far ⟨w.heap.size + 1, 0, none⟩ (.slice (some ⟨ab, 0, none⟩) N.sl.length ac) (by show w.heap.size + 1 < _; omega)).far ⟨w.heap.size + 1, 1, none⟩ (.int .i64 N.fr) (by show w.heap.size + 1 < _; omega)).far ⟨w.heap.size + 1, 2, none⟩ (.slice (some ⟨tb, 0, none⟩) N.ce.length tc) (by show w.heap.size + 1 < _; omega)).far ⟨w.heap.size + 1, 3, none⟩ (.slice (some ⟨tb', 0, none⟩) N.od.length tc') (by show w.heap.size + 1 < _; omega)).far ⟨w.heap.size + 1, 4, none⟩ (.int .i64 N.mv) (by show w.heap.size + 1 < _; omega)).far ⟨w.heap.size + 1, 5, none⟩ (.int .i64 N.wm) (by show w.heap.size + 1 < _; omega)).far ⟨w.heap.size + 1, 6, none⟩ (.slice wb N.w.length wc) (by show w.heap.size + 1 < _; omega)).far ⟨w.heap.size + 1, 7, none⟩ (.int .i64 N.tm) (by show w.heap.size + 1 < _; omega)).far ⟨w.heap.size + 1, 8, none⟩ (.slice tb2 N.t.length tc2) (by show w.heap.size + 1 < _; omega)).far ⟨w.heap.size + 1, 9, none⟩ (.int .i64 N.sm) (by show w.heap.size + 1 < _; omega)).far ⟨w.heap.size + 1, 10, none⟩ (.slice sb N.s.length sc2) (by show w.heap.size + 1 < _; omega)).far ⟨w.heap.size + 1, 11, none⟩ (.slice kb N.sk.length kc) (by show w.heap.size + 1 < _; omega)).far ⟨w.heap.size + 1, 12, none⟩ (.int .i64 N.ad) (by show w.heap.size + 1 < _; omega)).far ⟨w.heap.size + 1, 13, none⟩ (.int .i64 N.dr) (by show w.heap.size + 1 < _; omega)).wide (by omega) (by omega)) ((((((((((((((((((rc11.out).far ⟨w.heap.size, 11, none⟩ (.slice kb N.sk.length kc) (by show w.heap.size < _; omega)).far ⟨w.heap.size, 12, none⟩ (.int .i64 N.ad) (by show w.heap.size < _; omega)).far ⟨w.heap.size + 1, 0, none⟩ (.slice (some ⟨ab, 0, none⟩) N.sl.length ac) (by show w.heap.size + 1 < _; omega)).far ⟨w.heap.size + 1, 1, none⟩ (.int .i64 N.fr) (by show w.heap.size + 1 < _; omega)).far ⟨w.heap.size + 1, 2, none⟩ (.slice (some ⟨tb, 0, none⟩) N.ce.length tc) (by show w.heap.size + 1 < _; omega)).far ⟨w.heap.size + 1, 3, none⟩ (.slice (some ⟨tb', 0, none⟩) N.od.length tc') (by show w.heap.size + 1 < _; omega)).far ⟨w.heap.size + 1, 4, none⟩ (.int .i64 N.mv) (by show w.heap.size + 1 < _; omega)).far ⟨w.heap.size + 1, 5, none⟩ (.int .i64 N.wm) (by show w.heap.size + 1 < _; omega)).far ⟨w.heap.size + 1, 6, none⟩ (.slice wb N.w.length wc) (by show w.heap.size + 1 < _; omega)).far ⟨w.heap.size + 1, 7, none⟩ (.int .i64 N.tm) (by show w.heap.size + 1 < _; omega)).far ⟨w.heap.size + 1, 8, none⟩ (.slice tb2 N.t.length tc2) (by show w.heap.size + 1 < _; omega)).far ⟨w.heap.size + 1, 9, none⟩ (.int .i64 N.sm) (by show w.heap.size + 1 < _; omega)).far ⟨w.heap.size + 1, 10, none⟩ (.slice sb N.s.length sc2) (by show w.heap.size + 1 < _; omega)).far ⟨w.heap.size + 1, 11, none⟩ (.slice kb N.sk.length kc) (by show w.heap.size + 1 < _; omega)).far ⟨w.heap.size + 1, 12, none⟩ (.int .i64 N.ad) (by show w.heap.size + 1 < _; omega)).far ⟨w.heap.size + 1, 13, none⟩ (.int .i64 N.dr) (by show w.heap.size + 1 < _; omega)).wide (by omega) (by omega)) ((((((((((((((((((ro11.out).far ⟨w.heap.size, 11, none⟩ (.slice kb N.sk.length kc) (by show w.heap.size < _; omega)).far ⟨w.heap.size, 12, none⟩ (.int .i64 N.ad) (by show w.heap.size < _; omega)).far ⟨w.heap.size + 1, 0, none⟩ (.slice (some ⟨ab, 0, none⟩) N.sl.length ac) (by show w.heap.size + 1 < _; omega)).far ⟨w.heap.size + 1, 1, none⟩ (.int .i64 N.fr) (by show w.heap.size + 1 < _; omega)).far ⟨w.heap.size + 1, 2, none⟩ (.slice (some ⟨tb, 0, none⟩) N.ce.length tc) (by show w.heap.size + 1 < _; omega)).far ⟨w.heap.size + 1, 3, none⟩ (.slice (some ⟨tb', 0, none⟩) N.od.length tc') (by show w.heap.size + 1 < _; omega)).far ⟨w.heap.size + 1, 4, none⟩ (.int .i64 N.mv) (by show w.heap.size + 1 < _; omega)).far ⟨w.heap.size + 1, 5, none⟩ (.int .i64 N.wm) (by show w.heap.size + 1 < _; omega)).far ⟨w.heap.size + 1, 6, none⟩ (.slice wb N.w.length wc) (by show w.heap.size + 1 < _; omega)).far ⟨w.heap.size + 1, 7, none⟩ (.int .i64 N.tm) (by show w.heap.size + 1 < _; omega)).far ⟨w.heap.size + 1, 8, none⟩ (.slice tb2 N.t.length tc2) (by show w.heap.size + 1 < _; omega)).far ⟨w.heap.size + 1, 9, none⟩ (.int .i64 N.sm) (by show w.heap.size + 1 < _; omega)).far ⟨w.heap.size + 1, 10, none⟩ (.slice sb N.s.length sc2) (by show w.heap.size + 1 < _; omega)).far ⟨w.heap.size + 1, 11, none⟩ (.slice kb N.sk.length kc) (by show w.heap.size + 1 < _; omega)).far ⟨w.heap.size + 1, 12, none⟩ (.int .i64 N.ad) (by show w.heap.size + 1 < _; omega)).far ⟨w.heap.size + 1, 13, none⟩ (.int .i64 N.dr) (by show w.heap.size + 1 < _; omega)).wide (by omega) (by omega)) (fun g hg e => hne (by have e1 : tb = g := Option.some.inj hg; have e2 : tb' = g := Option.some.inj e; rw [e1, e2])) ((((((((((((((((((rw11.out).far ⟨w.heap.size, 11, none⟩ (.slice kb N.sk.length kc) (by show w.heap.size < _; omega)).far ⟨w.heap.size, 12, none⟩ (.int .i64 N.ad) (by show w.heap.size < _; omega)).far ⟨w.heap.size + 1, 0, none⟩ (.slice (some ⟨ab, 0, none⟩) N.sl.length ac) (by show w.heap.size + 1 < _; omega)).far ⟨w.heap.size + 1, 1, none⟩ (.int .i64 N.fr) (by show w.heap.size + 1 < _; omega)).far ⟨w.heap.size + 1, 2, none⟩ (.slice (some ⟨tb, 0, none⟩) N.ce.length tc) (by show w.heap.size + 1 < _; omega)).far ⟨w.heap.size + 1, 3, none⟩ (.slice (some ⟨tb', 0, none⟩) N.od.length tc') (by show w.heap.size + 1 < _; omega)).far ⟨w.heap.size + 1, 4, none⟩ (.int .i64 N.mv) (by show w.heap.size + 1 < _; omega)).far ⟨w.heap.size + 1, 5, none⟩ (.int .i64 N.wm) (by show w.heap.size + 1 < _; omega)).far ⟨w.heap.size + 1, 6, none⟩ (.slice wb N.w.length wc) (by show w.heap.size + 1 < _; omega)).far ⟨w.heap.size + 1, 7, none⟩ (.int .i64 N.tm) (by show w.heap.size + 1 < _; omega)).far ⟨w.heap.size + 1, 8, none⟩ (.slice tb2 N.t.length tc2) (by show w.heap.size + 1 < _; omega)).far ⟨w.heap.size + 1, 9, none⟩ (.int .i64 N.sm) (by show w.heap.size + 1 < _; omega)).far ⟨w.heap.size + 1, 10, none⟩ (.slice sb N.s.length sc2) (by show w.heap.size + 1 < _; omega)).far ⟨w.heap.size + 1, 11, none⟩ (.slice kb N.sk.length kc) (by show w.heap.size + 1 < _; omega)).far ⟨w.heap.size + 1, 12, none⟩ (.int .i64 N.ad) (by show w.heap.size + 1 < _; omega)).far ⟨w.heap.size + 1, 13, none⟩ (.int .i64 N.dr) (by show w.heap.size + 1 < _; omega)).wide (by omega) (by omega)) ((((((((((((((((((rt11.out).far ⟨w.heap.size, 11, none⟩ (.slice kb N.sk.length kc) (by show w.heap.size < _; omega)).far ⟨w.heap.size, 12, none⟩ (.int .i64 N.ad) (by show w.heap.size < _; omega)).far ⟨w.heap.size + 1, 0, none⟩ (.slice (some ⟨ab, 0, none⟩) N.sl.length ac) (by show w.heap.size + 1 < _; omega)).far ⟨w.heap.size + 1, 1, none⟩ (.int .i64 N.fr) (by show w.heap.size + 1 < _; omega)).far ⟨w.heap.size + 1, 2, none⟩ (.slice (some ⟨tb, 0, none⟩) N.ce.length tc) (by show w.heap.size + 1 < _; omega)).far ⟨w.heap.size + 1, 3, none⟩ (.slice (some ⟨tb', 0, none⟩) N.od.length tc') (by show w.heap.size + 1 < _; omega)).far ⟨w.heap.size + 1, 4, none⟩ (.int .i64 N.mv) (by show w.heap.size + 1 < _; omega)).far ⟨w.heap.size + 1, 5, none⟩ (.int .i64 N.wm) (by show w.heap.size + 1 < _; omega)).far ⟨w.heap.size + 1, 6, none⟩ (.slice wb N.w.length wc) (by show w.heap.size + 1 < _; omega)).far ⟨w.heap.size + 1, 7, none⟩ (.int .i64 N.tm) (by show w.heap.size + 1 < _; omega)).far ⟨w.heap.size + 1, 8, none⟩ (.slice tb2 N.t.length tc2) (by show w.heap.size + 1 < _; omega)).far ⟨w.heap.size + 1, 9, none⟩ (.int .i64 N.sm) (by show w.heap.size + 1 < _; omega)).far ⟨w.heap.size + 1, 10, none⟩ (.slice sb N.s.length sc2) (by show w.heap.size + 1 < _; omega)).far ⟨w.heap.size + 1, 11, none⟩ (.slice kb N.sk.length kc) (by show w.heap.size + 1 < _; omega)).far ⟨w.heap.size + 1, 12, none⟩ (.int .i64 N.ad) (by show w.heap.size + 1 < _; omega)).far ⟨w.heap.size + 1, 13, none⟩ (.int .i64 N.dr) (by show w.heap.size + 1 < _; omega)).wide (by omega) (by omega)) ((((((((((((((((((rs11.out).far ⟨w.heap.size, 11, none⟩ (.slice kb N.sk.length kc) (by show w.heap.size < _; omega)).far ⟨w.heap.size, 12, none⟩ (.int .i64 N.ad) (by show w.heap.size < _; omega)).far ⟨w.heap.size + 1, 0, none⟩ (.slice (some ⟨ab, 0, none⟩) N.sl.length ac) (by show w.heap.size + 1 < _; omega)).far ⟨w.heap.size + 1, 1, none⟩ (.int .i64 N.fr) (by show w.heap.size + 1 < _; omega)).far ⟨w.heap.size + 1, 2, none⟩ (.slice (some ⟨tb, 0, none⟩) N.ce.length tc) (by show w.heap.size + 1 < _; omega)).far ⟨w.heap.size + 1, 3, none⟩ (.slice (some ⟨tb', 0, none⟩) N.od.length tc') (by show w.heap.size + 1 < _; omega)).far ⟨w.heap.size + 1, 4, none⟩ (.int .i64 N.mv) (by show w.heap.size + 1 < _; omega)).far ⟨w.heap.size + 1, 5, none⟩ (.int .i64 N.wm) (by show w.heap.size + 1 < _; omega)).far ⟨w.heap.size + 1, 6, none⟩ (.slice wb N.w.length wc) (by show w.heap.size + 1 < _; omega)).far ⟨w.heap.size + 1, 7, none⟩ (.int .i64 N.tm) (by show w.heap.size + 1 < _; omega)).far ⟨w.heap.size + 1, 8, none⟩ (.slice tb2 N.t.length tc2) (by show w.heap.size + 1 < _; omega)).far ⟨w.heap.size + 1, 9, none⟩ (.int .i64 N.sm) (by show w.heap.size + 1 < _; omega)).far ⟨w.heap.size + 1, 10, none⟩ (.slice sb N.s.length sc2) (by show w.heap.size + 1 < _; omega)).far ⟨w.heap.size + 1, 11, none⟩ (.slice kb N.sk.length kc) (by show w.heap.size + 1 < _; omega)).far ⟨w.heap.size + 1, 12, none⟩ (.int .i64 N.ad) (by show w.heap.size + 1 < _; omega)).far ⟨w.heap.size + 1, 13, none⟩ (.int .i64 N.dr) (by show w.heap.size + 1 < _; omega)).wide (by omega) (by omega)) ((((((((((((((((((rk11.out).far ⟨w.heap.size, 11, none⟩ (.slice kb N.sk.length kc) (by show w.heap.size < _; omega)).far ⟨w.heap.size, 12, none⟩ (.int .i64 N.ad) (by show w.heap.size < _; omega)).far ⟨w.heap.size + 1, 0, none⟩ (.slice (some ⟨ab, 0, none⟩) N.sl.length ac) (by show w.heap.size + 1 < _; omega)).far ⟨w.heap.size + 1, 1, none⟩ (.int .i64 N.fr) (by show w.heap.size + 1 < _; omega)).far ⟨w.heap.size + 1, 2, none⟩ (.slice (some ⟨tb, 0, none⟩) N.ce.length tc) (by show w.heap.size + 1 < _; omega)).far ⟨w.heap.size + 1, 3, none⟩ (.slice (some ⟨tb', 0, none⟩) N.od.length tc') (by show w.heap.size + 1 < _; omega)).far ⟨w.heap.size + 1, 4, none⟩ (.int .i64 N.mv) (by show w.heap.size + 1 < _; omega)).far ⟨w.heap.size + 1, 5, none⟩ (.int .i64 N.wm) (by show w.heap.size + 1 < _; omega)).far ⟨w.heap.size + 1, 6, none⟩ (.slice wb N.w.length wc) (by show w.heap.size + 1 < _; omega)).far ⟨w.heap.size + 1, 7, none⟩ (.int .i64 N.tm) (by show w.heap.size + 1 < _; omega)).far ⟨w.heap.size + 1, 8, none⟩ (.slice tb2 N.t.length tc2) (by show w.heap.size + 1 < _; omega)).far ⟨w.heap.size + 1, 9, none⟩ (.int .i64 N.sm) (by show w.heap.size + 1 < _; omega)).far ⟨w.heap.size + 1, 10, none⟩ (.slice sb N.s.length sc2) (by show w.heap.size + 1 < _; omega)).far ⟨w.heap.size + 1, 11, none⟩ (.slice kb N.sk.length kc) (by show w.heap.size + 1 < _; omega)).far ⟨w.heap.size + 1, 12, none⟩ (.int .i64 N.ad) (by show w.heap.size + 1 < _; omega)).far ⟨w.heap.size + 1, 13, none⟩ (.int .i64 N.dr) (by show w.heap.size + 1 < _; omega)).wide (by omega) (by omega)))
 have BX := hI (((((((((((((((((B11.out).setCell (p := ⟨w.heap.size, 11, none⟩) (Nat.le_refl _) (.slice kb N.sk.length kc)).setCell (p := ⟨w.heap.size, 12, none⟩) (Nat.le_refl _) (.int .i64 N.ad)).setCell (p := ⟨w.heap.size + 1, 0, none⟩) (by show w.heap.size <= w.heap.size + 1; omega) (.slice (some ⟨ab, 0, none⟩) N.sl.length ac)).setCell (p := ⟨w.heap.size + 1, 1, none⟩) (by show w.heap.size <= w.heap.size + 1; omega) (.int .i64 N.fr)).setCell (p := ⟨w.heap.size + 1, 2, none⟩) (by show w.heap.size <= w.heap.size + 1; omega) (.slice (some ⟨tb, 0, none⟩) N.ce.length tc)).setCell (p := ⟨w.heap.size + 1, 3, none⟩) (by show w.heap.size <= w.heap.size + 1; omega) (.slice (some ⟨tb', 0, none⟩) N.od.length tc')).setCell (p := ⟨w.heap.size + 1, 4, none⟩) (by show w.heap.size <= w.heap.size + 1; omega) (.int .i64 N.mv)).setCell (p := ⟨w.heap.size + 1, 5, none⟩) (by show w.heap.size <= w.heap.size + 1; omega) (.int .i64 N.wm)).setCell (p := ⟨w.heap.size + 1, 6, none⟩) (by show w.heap.size <= w.heap.size + 1; omega) (.slice wb N.w.length wc)).setCell (p := ⟨w.heap.size + 1, 7, none⟩) (by show w.heap.size <= w.heap.size + 1; omega) (.int .i64 N.tm)).setCell (p := ⟨w.heap.size + 1, 8, none⟩) (by show w.heap.size <= w.heap.size + 1; omega) (.slice tb2 N.t.length tc2)).setCell (p := ⟨w.heap.size + 1, 9, none⟩) (by show w.heap.size <= w.heap.size + 1; omega) (.int .i64 N.sm)).setCell (p := ⟨w.heap.size + 1, 10, none⟩) (by show w.heap.size <= w.heap.size + 1; omega) (.slice sb N.s.length sc2)).setCell (p := ⟨w.heap.size + 1, 11, none⟩) (by show w.heap.size <= w.heap.size + 1; omega) (.slice kb N.sk.length kc)).setCell (p := ⟨w.heap.size + 1, 12, none⟩) (by show w.heap.size <= w.heap.size + 1; omega) (.int .i64 N.ad)).setCell (p := ⟨w.heap.size + 1, 13, none⟩) (by show w.heap.size <= w.heap.size + 1; omega) (.int .i64 N.dr))
 clear P11 R11 B11 ra11 rc11 ro11 rw11 rt11 rs11 rk11
 go_wp2
 refine bodyPost_ret (results_cell_row Tryz.results37 _ _ (w.heap.size + 1) 39 #[.slice (some ⟨ab, 0, none⟩) N.sl.length ac, .int .i64 N.fr, .slice (some ⟨tb, 0, none⟩) N.ce.length tc, .slice (some ⟨tb', 0, none⟩) N.od.length tc', .int .i64 N.mv, .int .i64 N.wm, .slice wb N.w.length wc, .int .i64 N.tm, .slice tb2 N.t.length tc2, .int .i64 N.sm, .slice sb N.s.length sc2, .slice kb N.sk.length kc, .int .i64 N.ad, .int .i64 N.dr] (0, 0) _ rfl RX.out Tryz.underlying39 rfl (by kernel_rfl)) rfl ?_
 exact ⟨_, rfl, OX.out.base (by omega), BX.out⟩
def qbE (L : List ByteArray) : List ByteArray := L.foldl qmL []
theorem quL {ks : List ByteArray} {x z : ByteArray} : z ∈ qmL ks x ↔ z = x ∨ z ∈ ks := by
 unfold qmL
 simp only [List.mem_append, List.mem_filter, List.mem_cons, Bool.not_eq_true']
 constructor
 ·rintro (⟨h, _⟩ | h | ⟨h, _⟩)
  ·exact .inr h
  ·exact .inl h
  ·exact .inr h
 ·rintro (h | h)
  ·exact .inr (.inl h)
  ·cases e : kLt z x with
   | true => exact .inl ⟨h, rfl⟩
   | false => exact .inr (.inr ⟨h, rfl⟩)
theorem qzX {ks : List ByteArray} {x : ByteArray} (h : ks.Pairwise (fun a b => kLt a b = true)) (hx : ¬ x ∈ ks) : (qmL ks x).Pairwise (fun a b => kLt a b = true) := by
 unfold qmL
 rw [List.pairwise_append]
 refine ⟨h.filter _, ?_, ?_⟩
 ·rw [List.pairwise_cons]
  refine ⟨fun y hy => ?_, h.filter _⟩
  simp only [List.mem_filter, Bool.not_eq_true'] at hy
  cases e : kLt x y with
  | true => rfl
  | false => exact absurd (qhF e hy.2 ▸ hy.1) hx
 ·intro a ha b hb
  simp only [List.mem_filter] at ha
  rcases List.mem_cons.1 hb with rfl | hb
  ·exact ha.2
  ·simp only [List.mem_filter, Bool.not_eq_true'] at hb
   cases e : kLt x b with
   | true => exact qfW ha.2 e
   | false => exact absurd (qhF e hb.2 ▸ hb.1) hx
theorem qlP (ks : List ByteArray) (x : ByteArray) : (qmL ks x).length = ks.length + 1 := by
 unfold qmL
 rw [List.length_append, List.length_cons]
 have : ∀ l : List ByteArray, (l.filter (fun y => kLt y x)).length + (l.filter (fun y => !kLt y x)).length = l.length := by
  intro l
  induction l with
  | nil => rfl
  | cons a l ih => cases e : kLt a x <;> simp [e] <;> omega
 have := this ks
 omega
theorem qlW : ∀ (L ks : List ByteArray), ks.Pairwise (fun a b => kLt a b = true) -> L.Nodup -> (∀ x ∈ L, ¬ x ∈ ks) -> (L.foldl qmL ks).Pairwise (fun a b => kLt a b = true) /\ (∀ z, z ∈ L.foldl qmL ks ↔ z ∈ L ∨ z ∈ ks) /\ (L.foldl qmL ks).length = ks.length + L.length
 | [], ks, h, _, _ => ⟨h, fun z => by simp, by simp⟩
 | x :: L, ks, h, hn, hd => by
  rw [List.nodup_cons] at hn
  obtain ⟨h1, h2, h3⟩ := qlW L (qmL ks x) (qzX h (hd x (List.mem_cons_self))) hn.2 (fun y hy e => by
   rcases quL.1 e with rfl | e
   ·exact hn.1 hy
   ·exact hd y (List.mem_cons_of_mem _ hy) e)
  refine ⟨h1, fun z => ?_, ?_⟩
  ·rw [List.foldl_cons, h2, quL, List.mem_cons]
   constructor
   ·rintro (h | h | h)
    ·exact .inl (.inr h)
    ·exact .inl (.inl h)
    ·exact .inr h
   ·rintro ((h | h) | h)
    ·exact .inr (.inl h)
    ·exact .inl h
    ·exact .inr (.inr h)
  ·rw [List.foldl_cons, h3, qlP, List.length_cons]
   omega
theorem qcS (L : List ByteArray) : (qbE L).length = L.length := by
 have : ∀ (L ks : List ByteArray), (L.foldl qmL ks).length = ks.length + L.length := by
  intro L
  induction L with
  | nil => intro ks; rfl
  | cons x L ih => intro ks; rw [List.foldl_cons, ih, qlP, List.length_cons]; omega
 have h := this L []
 rw [List.length_nil, Nat.zero_add] at h
 exact h
theorem qhG (L : List ByteArray) (x : ByteArray) : qmL (qbE L) x = qbE (L ++ [x]) := by
 unfold qbE
 rw [List.foldl_append]
 rfl
theorem qtF {N : Nr} (h : InN N) : qbE (qaD N) = qbX (qaY (qdL N.ce N.od)) := by
 have hok : OkT N.ce N.od N.mv := by rw [h.od, h.mv]; exact qcG.2 h.inT.tb
 obtain ⟨h1, h2, _⟩ := qlW (qaD N) [] List.Pairwise.nil h.nd (fun x _ e => by cases e)
 refine qpA _ _ h1 (qoH hok) (fun z => ?_)
 rw [qoG hok, show (z ∈ qbE (qaD N)) = (z ∈ (qaD N).foldl qmL []) from rfl, h2 z, h.od]
 constructor
 ·rintro (hz | hz)
  ·obtain ⟨j, hj, hu, hkj⟩ := h.inT.ent z hz
   have := (h.inT.used j hj hu).2
   rw [hkj] at this
   exact ⟨(h.inT.key hz).2, _, this⟩
  ·cases hz
 ·rintro ⟨hz, x, hx⟩
  exact .inl (h.inT.back z x hz hx)
theorem qhP {w : World} {A : NA} {N : Nr} (hA : RdN w A N) (hw : N.w.length <= 24) (ht : N.t.length <= 24) (hs : N.s.length <= 24) :
  Calls Tryz.prog 24 #[neV A N] w fun e w' => ∃ po pc, e = .returned (.slice po (qbE (qaD N)).length pc) /\ OwnQ w' w.heap.size po pc (qbE (qaD N)) /\ Below w.heap.size w w' := by
 have BX := hI (And.intro (qdI w (nA A N) #[] 39 9) (qbB (w.alloc (.cells (nA A N) 39)) 9))
 have HA := hI hA
 have hw' : (N.w.length : Int) <= 24 := by omega
 have ht' : (N.t.length : Int) <= 24 := by omega
 have hs' : (N.s.length : Int) <= 24 := by omega
 clear hA
 unfold neV
 go_enter Tryz.func24, Tryz.ntmps24
 go_wp2
 rw [World.size_alloc] at BX
 generalize ((w.alloc (.cells (nA A N) 39)).alloc (.cells #[] 9)) = w1 at BX ⊢
 obtain ⟨⟨K0, E0, B0⟩, O1⟩ := BX.out
 have K0 := hI K0
 have B0 := hI B0
 have O1 := hI O1
 have hs1 : w.heap.size + 1 < w1.heap.size := E0.lt
 clear BX E0
 go_loopw [3, 4] (fun ov iv wr => ∃ i : Nat, i <= N.w.length /\ iv = .int .i64 (i : Int) /\ Hid (∃ po pc, ov = .slice po (qbE (([] : List ByteArray) ++ N.w.take i)).length pc /\ wr.ownsRow (w.heap.size + 1) 9 1 (.slice po (qbE (([] : List ByteArray) ++ N.w.take i)).length pc) (qbE (([] : List ByteArray) ++ N.w.take i)).length (sc (qbE (([] : List ByteArray) ++ N.w.take i)))) /\ Hid (Below w1.heap.size w1 wr)) (fun _ iv _ => N.w.length - (intOf iv).toNat)
 case atStart => exact ⟨0, by omega, rfl, ⟨some ⟨w.heap.size + 1, 0, none⟩, 0, by simp [qbE], by simpa [qbE, sc] using O1.out⟩, Below.refl _ _⟩
 case round =>
  obtain ⟨i, hi, rfl, hown, hbel⟩ := hrel
  have K := K0.out.below hbel.out K0.out.lt
  have xq : wr.cell? ⟨w.heap.size, 6, none⟩ = _ := cRn (K.cell 6) rfl
  clear K
  by_cases hlt : i < N.w.length
  ·have k1 : (i : Int) < (N.w.length : Int) := by omega
   obtain ⟨po, pc, rfl, ho⟩ := hown.out
   obtain ⟨b, o, hab, _, hc⟩ := (HA.out.fw.later (B0.out.trans (hbel.out.mono B0.out.size))) i hlt
   have HS := hI (show N.w.take i ++ [N.w[i]] = N.w.take (i + 1) from (List.take_succ_eq_append_getElem hlt).symm)
   generalize N.w[i] = x at *
   have HAB := hI hab
   rw [hab] at xq
   have CI := hI (qcH po (qbE (([] : List ByteArray) ++ N.w.take i)) pc x wr (by rw [qcS]; simp only [List.length_append, List.length_take, List.length_nil]; omega) (qcO ho))
   rw [qhG, List.append_assoc ([] : List ByteArray) (N.w.take i) [x], HS.out] at CI
   generalize (qbE (([] : List ByteArray) ++ N.w.take i)).length = nn at *
   clear hab ho hown HS
   go_wp2_with fail
   refine CI.out.mono ?_
   rintro e w2 ⟨qo, qc, rfl, ho2, hb2⟩
   have O2 := hI (qaB (base := w.heap.size + 1) ho2 (by have := hbel.out.size; omega))
   have B2 := tRn hbel hb2
   clear ho2 hb2 hbel CI xq hc
   go_wp2
   go_roundw
   case rel => exact ⟨i + 1, by omega, by go_num, ⟨qo, qc, rfl, O2.out⟩, B2⟩
   case measure => simp [intOf]; omega
  ·obtain rfl : i = N.w.length := by omega
   have hown2 := hown.out
   rw [List.take_length] at hown2
   have OW0 := hI hown2
   have BW0 := hbel
   clear hown hown2 hbel
   go_wp2
   go_loopw [3, 5] (fun ov iv wr => ∃ i : Nat, i <= N.t.length /\ iv = .int .i64 (i : Int) /\ Hid (∃ po pc, ov = .slice po (qbE (N.w ++ N.t.take i)).length pc /\ wr.ownsRow (w.heap.size + 1) 9 1 (.slice po (qbE (N.w ++ N.t.take i)).length pc) (qbE (N.w ++ N.t.take i)).length (sc (qbE (N.w ++ N.t.take i)))) /\ Hid (Below w1.heap.size w1 wr)) (fun _ iv _ => N.t.length - (intOf iv).toNat)
   case atStart => exact ⟨0, by omega, rfl, by have h := OW0.out; rw [List.nil_append] at h; show ∃ po pc, _; simpa using h, BW0⟩
   case round =>
    obtain ⟨i, hi, rfl, hown, hbel⟩ := hrel
    have K := K0.out.below hbel.out K0.out.lt
    have xq : wr.cell? ⟨w.heap.size, 8, none⟩ = _ := cRn (K.cell 8) rfl
    clear K
    by_cases hlt : i < N.t.length
    ·have k1 : (i : Int) < (N.t.length : Int) := by omega
     obtain ⟨po, pc, rfl, ho⟩ := hown.out
     obtain ⟨b, o, hab, _, hc⟩ := (HA.out.ft.later (B0.out.trans (hbel.out.mono B0.out.size))) i hlt
     have HS := hI (show N.t.take i ++ [N.t[i]] = N.t.take (i + 1) from (List.take_succ_eq_append_getElem hlt).symm)
     generalize N.t[i] = x at *
     have HAB := hI hab
     rw [hab] at xq
     have CI := hI (qcH po (qbE (N.w ++ N.t.take i)) pc x wr (by rw [qcS]; simp only [List.length_append, List.length_take]; omega) (qcO ho))
     rw [qhG, List.append_assoc N.w (N.t.take i) [x], HS.out] at CI
     generalize (qbE (N.w ++ N.t.take i)).length = nn at *
     clear hab ho hown HS
     go_wp2_with fail
     refine CI.out.mono ?_
     rintro e w2 ⟨qo, qc, rfl, ho2, hb2⟩
     have O2 := hI (qaB (base := w.heap.size + 1) ho2 (by have := hbel.out.size; omega))
     have B2 := tRn hbel hb2
     clear ho2 hb2 hbel CI xq hc
     go_wp2
     go_roundw
     case rel => exact ⟨i + 1, by omega, by go_num, ⟨qo, qc, rfl, O2.out⟩, B2⟩
     case measure => simp [intOf]; omega
    ·obtain rfl : i = N.t.length := by omega
     have hown2 := hown.out
     rw [List.take_length] at hown2
     have OW1 := hI hown2
     have BW1 := hbel
     clear hown hown2 hbel
     go_wp2
     go_loopw [3, 6] (fun ov iv wr => ∃ i : Nat, i <= N.s.length /\ iv = .int .i64 (i : Int) /\ Hid (∃ po pc, ov = .slice po (qbE ((N.w ++ N.t) ++ N.s.take i)).length pc /\ wr.ownsRow (w.heap.size + 1) 9 1 (.slice po (qbE ((N.w ++ N.t) ++ N.s.take i)).length pc) (qbE ((N.w ++ N.t) ++ N.s.take i)).length (sc (qbE ((N.w ++ N.t) ++ N.s.take i)))) /\ Hid (Below w1.heap.size w1 wr)) (fun _ iv _ => N.s.length - (intOf iv).toNat)
     case atStart => exact ⟨0, by omega, rfl, by have h := OW1.out; show ∃ po pc, _; simpa using h, BW1⟩
     case round =>
      obtain ⟨i, hi, rfl, hown, hbel⟩ := hrel
      have K := K0.out.below hbel.out K0.out.lt
      have xq : wr.cell? ⟨w.heap.size, 10, none⟩ = _ := cRn (K.cell 10) rfl
      clear K
      by_cases hlt : i < N.s.length
      ·have k1 : (i : Int) < (N.s.length : Int) := by omega
       obtain ⟨po, pc, rfl, ho⟩ := hown.out
       obtain ⟨b, o, hab, _, hc⟩ := (HA.out.fs.later (B0.out.trans (hbel.out.mono B0.out.size))) i hlt
       have HS := hI (show N.s.take i ++ [N.s[i]] = N.s.take (i + 1) from (List.take_succ_eq_append_getElem hlt).symm)
       generalize N.s[i] = x at *
       have HAB := hI hab
       rw [hab] at xq
       have CI := hI (qcH po (qbE ((N.w ++ N.t) ++ N.s.take i)) pc x wr (by rw [qcS]; simp only [List.length_append, List.length_take]; omega) (qcO ho))
       rw [qhG, List.append_assoc (N.w ++ N.t) (N.s.take i) [x], HS.out] at CI
       generalize (qbE ((N.w ++ N.t) ++ N.s.take i)).length = nn at *
       clear hab ho hown HS
       go_wp2_with fail
       refine CI.out.mono ?_
       rintro e w2 ⟨qo, qc, rfl, ho2, hb2⟩
       have O2 := hI (qaB (base := w.heap.size + 1) ho2 (by have := hbel.out.size; omega))
       have B2 := tRn hbel hb2
       clear ho2 hb2 hbel CI xq hc
       go_wp2
       go_roundw
       case rel => exact ⟨i + 1, by omega, by go_num, ⟨qo, qc, by rw [List.append_assoc], O2.out⟩, B2⟩
       case measure => simp [intOf]; omega
      ·obtain rfl : i = N.s.length := by omega
       have hown2 := hown.out
       rw [List.take_length] at hown2
       have OW2 := hI hown2
       have BW2 := hbel
       clear hown hown2 hbel
       obtain ⟨po, pc, rfl, ho⟩ := OW2.out
       have O3 := hI ho
       clear ho OW2 OW1 OW0
       go_wp2
       go_ret
       exact ⟨po, pc, rfl, qaB O3.out (by omega), B0.out.trans (BW2.out.mono B0.out.size)⟩
end Go.Proofs.YtigpjmmfelndkaaGreatDoor
