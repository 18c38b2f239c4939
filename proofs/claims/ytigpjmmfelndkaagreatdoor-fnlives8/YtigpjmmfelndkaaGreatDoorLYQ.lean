import Derived.Test.YtigpjmmfelndkaaGreatDoorLYP
import Derived.Test.YtigpjmmfelndkaaGreatDoorLYL
namespace Go.Proofs.YtigpjmmfelndkaaGreatDoor
open Go.RowKit
set_option linter.unusedVariables false
set_option maxRecDepth 100000
set_option maxHeartbeats 8000000
theorem zcN {w : World} {r B : Nat} {A : NA} {N R : Nr} (h : VaH w r B A N) (hl : SmN N) (k v : ByteArray) {W1 : List ByteArray} (hPR : pshR N.w N.wm k = ((W1, N.wm), ⟨#[]⟩, true)) (CLY : ∀ w' A', VaH w' r B A' { N with w := W1, wm := N.wm } -> Calls Tryz.prog 77 #[.pointer (some ⟨r, 0, none⟩), .string k, .string v] w' fun e w'' => e = .returned (.tuple #[]) /\ ∃ A'', VaH w'' r B A'' R /\ w'.grownBy w'' (some r)) :
  Calls Tryz.prog 31 #[.pointer (some ⟨r, 0, none⟩), .string k, .string v] w fun e w' => e = .returned (.string ⟨#[]⟩) /\ ∃ A', VaH w' r B A' R /\ w.grownBy w' (some r) := by
 have C5 := hI (qcA A.w N.w A.wc N.wm k w hl.fw h.own.fw.cap.1 h.own.fw.cap.2 h.own.rd.fw hPR)
 have HLY := hI CLY
 have H := hI h
 clear h hl hPR CLY
 have t9 : w.cell? ⟨r, 5, none⟩ = _ := cRn (H.out.cell 5) rfl
 have t10 : w.cell? ⟨r, 6, none⟩ = _ := cRn (H.out.cell 6) rfl
 go_enter Tryz.func31, Tryz.ntmps31
 go_wp2_with fail
 refine C5.out.mono ?_
 rintro e w6 ⟨p6, c6, rfl, ho, hb6⟩
 have F := hI (show VaH (w6.alloc (.cells #[.int .i64 N.wm, .slice p6 W1.length c6] 32)) r B A N /\ Blk (w6.alloc (.cells #[.int .i64 N.wm, .slice p6 W1.length c6] 32)) w6.heap.size 32 [.int .i64 N.wm, .slice p6 W1.length c6] /\ OwnQ (w6.alloc (.cells #[.int .i64 N.wm, .slice p6 W1.length c6] 32)) w.heap.size p6 c6 W1 /\ w.grownBy (w6.alloc (.cells #[.int .i64 N.wm, .slice p6 W1.length c6] 32)) (some r) from
  ⟨(H.out.later hb6).later (bAl _ _), Blk.new w6 _ _, ho.later (bAl _ _), qbO (hb6.alloc hb6.size _)⟩)
 have hv5 := hI (H.out.own.below_of (Nat.le_refl _))
 have hB5 := hI H.out.le
 clear ho hb6 C5 t9 t10 H
 go_upto_region 2 with fail
 generalize (w6.alloc (.cells #[.int .i64 N.wm, .slice p6 W1.length c6] 32)) = W7 at F ⊢
 generalize w6.heap.size = Q7 at F ⊢
 have V7 := hI F.out.1
 have K7 := hI F.out.2.1
 have O7 := hI F.out.2.2.1
 have G7 := hI F.out.2.2.2
 clear F
 have z0 : W7.cell? ⟨Q7, 0, none⟩ = _ := cRn (K7.out.cell 0) rfl
 have z1 : W7.cell? ⟨Q7, 1, none⟩ = _ := cRn (K7.out.cell 1) rfl
 have z9 : W7.cell? ⟨r, 5, none⟩ = _ := cRn (V7.out.cell 5) rfl
 have z10 : W7.cell? ⟨r, 6, none⟩ = _ := cRn (V7.out.cell 6) rfl
 have zf (j) : W7.frozen? ⟨r, j, none⟩ = false := V7.out.var.froz j
 have V8 := hI (V7.out.putW (m := N.wm) O7.out hv5.out hB5.out)
 have G8 := hI (qbF (qbF G7.out 5 (.int .i64 N.wm)) 6 (.slice p6 W1.length c6))
 clear V7 K7 O7 G7 hv5 hB5
 go_upto_region 3 with fail
 generalize ((W7.setCell ⟨r, 5, none⟩ (.int .i64 N.wm)).setCell ⟨r, 6, none⟩ (.slice p6 W1.length c6)) = W8 at V8 G8 ⊢
 clear z0 z1 z9 z10 zf
 go_wp2_with fail
 refine (HLY.out W8 _ V8.out).mono ?_
 rintro e w9 ⟨rfl, A9, V9, G9⟩
 have VV := hI V9
 have GG := hI (qaK G8.out G9)
 clear V9 G9
 go_wp2
 go_ret
 exact ⟨rfl, A9, VV.out, GG.out⟩
theorem zcM {w : World} {r B : Nat} {A : NA} {N Q R : Nr} (h : VaH w r B A N) (hl : SmN N) (k v : ByteArray) {W1 : List ByteArray} {lf : ByteArray} (hPR : pshR N.w N.wm k = ((W1, N.wm), lf, true)) (hne : ¬ lf = ⟨#[]⟩) (CTR : ∀ w' A', VaH w' r B A' { N with w := W1, wm := N.wm } -> w.grownBy w' (some r) -> Calls Tryz.prog 75 #[.pointer (some ⟨r, 0, none⟩), .string lf] w' fun e w'' => e = .returned (.string ⟨#[]⟩) /\ ∃ A'', VaH w'' r B A'' Q /\ w'.grownBy w'' (some r)) (CLY : ∀ w' A', VaH w' r B A' Q -> Calls Tryz.prog 77 #[.pointer (some ⟨r, 0, none⟩), .string k, .string v] w' fun e w'' => e = .returned (.tuple #[]) /\ ∃ A'', VaH w'' r B A'' R /\ w'.grownBy w'' (some r)) :
  Calls Tryz.prog 31 #[.pointer (some ⟨r, 0, none⟩), .string k, .string v] w fun e w' => e = .returned (.string ⟨#[]⟩) /\ ∃ A', VaH w' r B A' R /\ w.grownBy w' (some r) := by
 have C5 := hI (qcA A.w N.w A.wc N.wm k w hl.fw h.own.fw.cap.1 h.own.fw.cap.2 h.own.rd.fw hPR)
 have HLY := hI CLY
 have HTR := hI CTR
 have ql : lf.toList.isEmpty = false := by
  obtain ⟨q, _⟩ := qdX hne
  rcases e : lf.toList with _ | _
  ·rw [e] at q; simp at q
  ·rfl
 have HL := hI ql
 have H := hI h
 clear h hl hPR CLY CTR hne ql
 have t9 : w.cell? ⟨r, 5, none⟩ = _ := cRn (H.out.cell 5) rfl
 have t10 : w.cell? ⟨r, 6, none⟩ = _ := cRn (H.out.cell 6) rfl
 go_enter Tryz.func31, Tryz.ntmps31
 go_wp2_with fail
 refine C5.out.mono ?_
 rintro e w6 ⟨p6, c6, rfl, ho, hb6⟩
 have F := hI (show VaH (w6.alloc (.cells #[.int .i64 N.wm, .slice p6 W1.length c6] 32)) r B A N /\ Blk (w6.alloc (.cells #[.int .i64 N.wm, .slice p6 W1.length c6] 32)) w6.heap.size 32 [.int .i64 N.wm, .slice p6 W1.length c6] /\ OwnQ (w6.alloc (.cells #[.int .i64 N.wm, .slice p6 W1.length c6] 32)) w.heap.size p6 c6 W1 /\ w.grownBy (w6.alloc (.cells #[.int .i64 N.wm, .slice p6 W1.length c6] 32)) (some r) from
  ⟨(H.out.later hb6).later (bAl _ _), Blk.new w6 _ _, ho.later (bAl _ _), qbO (hb6.alloc hb6.size _)⟩)
 have hv5 := hI (H.out.own.below_of (Nat.le_refl _))
 have hB5 := hI H.out.le
 clear ho hb6 C5 t9 t10 H
 go_upto_region 2 with fail
 generalize (w6.alloc (.cells #[.int .i64 N.wm, .slice p6 W1.length c6] 32)) = W7 at F ⊢
 generalize w6.heap.size = Q7 at F ⊢
 have V7 := hI F.out.1
 have K7 := hI F.out.2.1
 have O7 := hI F.out.2.2.1
 have G7 := hI F.out.2.2.2
 clear F
 have z0 : W7.cell? ⟨Q7, 0, none⟩ = _ := cRn (K7.out.cell 0) rfl
 have z1 : W7.cell? ⟨Q7, 1, none⟩ = _ := cRn (K7.out.cell 1) rfl
 have z9 : W7.cell? ⟨r, 5, none⟩ = _ := cRn (V7.out.cell 5) rfl
 have z10 : W7.cell? ⟨r, 6, none⟩ = _ := cRn (V7.out.cell 6) rfl
 have zf (j) : W7.frozen? ⟨r, j, none⟩ = false := V7.out.var.froz j
 have V8 := hI (V7.out.putW (m := N.wm) O7.out hv5.out hB5.out)
 have G8 := hI (qbF (qbF G7.out 5 (.int .i64 N.wm)) 6 (.slice p6 W1.length c6))
 clear V7 K7 O7 G7 hv5 hB5
 go_upto_region 3 with fail
 generalize ((W7.setCell ⟨r, 5, none⟩ (.int .i64 N.wm)).setCell ⟨r, 6, none⟩ (.slice p6 W1.length c6)) = W8 at V8 G8 ⊢
 clear z0 z1 z9 z10 zf
 have ql := HL.out
 go_wp2_with fail
 clear ql
 refine (HTR.out W8 _ V8.out G8.out).mono ?_
 rintro e w10 ⟨rfl, A10, V, G⟩
 have V10 := hI V
 have G10 := hI (qaK G8.out G)
 clear V G V8 G8 HTR
 go_wp2_with fail
 refine (HLY.out w10 _ V10.out).mono ?_
 rintro e w9 ⟨rfl, A9, V9, G9⟩
 have VV := hI V9
 have GG := hI (qaK G10.out G9)
 clear V9 G9
 go_wp2
 go_ret
 exact ⟨rfl, A9, VV.out, GG.out⟩
theorem zcL {w : World} {r B : Nat} {A : NA} {N Q P R : Nr} (h : VaH w r B A N) (hl : SmN N) (k v : ByteArray) {W1 : List ByteArray} {lf gone : ByteArray} (hPR : pshR N.w N.wm k = ((W1, N.wm), lf, true)) (hne : ¬ lf = ⟨#[]⟩) (hgn : ¬ gone = ⟨#[]⟩) (CTR : ∀ w' A', VaH w' r B A' { N with w := W1, wm := N.wm } -> w.grownBy w' (some r) -> Calls Tryz.prog 75 #[.pointer (some ⟨r, 0, none⟩), .string lf] w' fun e w'' => e = .returned (.string gone) /\ ∃ A'', VaH w'' r B A'' Q /\ w'.grownBy w'' (some r)) (CRM : ∀ w' A', VaH w' r B A' Q -> Calls Tryz.prog 76 #[.pointer (some ⟨r, 0, none⟩), .string gone] w' fun e w'' => e = .returned (.tuple #[]) /\ ∃ A'', VaH w'' r B A'' P /\ w'.grownBy w'' (some r)) (CLY : ∀ w' A', VaH w' r B A' P -> Calls Tryz.prog 77 #[.pointer (some ⟨r, 0, none⟩), .string k, .string v] w' fun e w'' => e = .returned (.tuple #[]) /\ ∃ A'', VaH w'' r B A'' R /\ w'.grownBy w'' (some r)) :
  Calls Tryz.prog 31 #[.pointer (some ⟨r, 0, none⟩), .string k, .string v] w fun e w' => e = .returned (.string gone) /\ ∃ A', VaH w' r B A' R /\ w.grownBy w' (some r) := by
 have C5 := hI (qcA A.w N.w A.wc N.wm k w hl.fw h.own.fw.cap.1 h.own.fw.cap.2 h.own.rd.fw hPR)
 have HLY := hI CLY
 have HTR := hI CTR
 have HRM := hI CRM
 have ql : lf.toList.isEmpty = false := by
  obtain ⟨q, _⟩ := qdX hne
  rcases e : lf.toList with _ | _
  ·rw [e] at q; simp at q
  ·rfl
 have qg : gone.toList.isEmpty = false := by
  obtain ⟨q, _⟩ := qdX hgn
  rcases e : gone.toList with _ | _
  ·rw [e] at q; simp at q
  ·rfl
 have HL := hI ql
 have HG := hI qg
 have H := hI h
 clear h hl hPR CLY CTR CRM hne hgn ql qg
 have t9 : w.cell? ⟨r, 5, none⟩ = _ := cRn (H.out.cell 5) rfl
 have t10 : w.cell? ⟨r, 6, none⟩ = _ := cRn (H.out.cell 6) rfl
 go_enter Tryz.func31, Tryz.ntmps31
 go_wp2_with fail
 refine C5.out.mono ?_
 rintro e w6 ⟨p6, c6, rfl, ho, hb6⟩
 have F := hI (show VaH (w6.alloc (.cells #[.int .i64 N.wm, .slice p6 W1.length c6] 32)) r B A N /\ Blk (w6.alloc (.cells #[.int .i64 N.wm, .slice p6 W1.length c6] 32)) w6.heap.size 32 [.int .i64 N.wm, .slice p6 W1.length c6] /\ OwnQ (w6.alloc (.cells #[.int .i64 N.wm, .slice p6 W1.length c6] 32)) w.heap.size p6 c6 W1 /\ w.grownBy (w6.alloc (.cells #[.int .i64 N.wm, .slice p6 W1.length c6] 32)) (some r) from
  ⟨(H.out.later hb6).later (bAl _ _), Blk.new w6 _ _, ho.later (bAl _ _), qbO (hb6.alloc hb6.size _)⟩)
 have hv5 := hI (H.out.own.below_of (Nat.le_refl _))
 have hB5 := hI H.out.le
 clear ho hb6 C5 t9 t10 H
 go_upto_region 2 with fail
 generalize (w6.alloc (.cells #[.int .i64 N.wm, .slice p6 W1.length c6] 32)) = W7 at F ⊢
 generalize w6.heap.size = Q7 at F ⊢
 have V7 := hI F.out.1
 have K7 := hI F.out.2.1
 have O7 := hI F.out.2.2.1
 have G7 := hI F.out.2.2.2
 clear F
 have z0 : W7.cell? ⟨Q7, 0, none⟩ = _ := cRn (K7.out.cell 0) rfl
 have z1 : W7.cell? ⟨Q7, 1, none⟩ = _ := cRn (K7.out.cell 1) rfl
 have z9 : W7.cell? ⟨r, 5, none⟩ = _ := cRn (V7.out.cell 5) rfl
 have z10 : W7.cell? ⟨r, 6, none⟩ = _ := cRn (V7.out.cell 6) rfl
 have zf (j) : W7.frozen? ⟨r, j, none⟩ = false := V7.out.var.froz j
 have V8 := hI (V7.out.putW (m := N.wm) O7.out hv5.out hB5.out)
 have G8 := hI (qbF (qbF G7.out 5 (.int .i64 N.wm)) 6 (.slice p6 W1.length c6))
 clear V7 K7 O7 G7 hv5 hB5
 go_upto_region 3 with fail
 generalize ((W7.setCell ⟨r, 5, none⟩ (.int .i64 N.wm)).setCell ⟨r, 6, none⟩ (.slice p6 W1.length c6)) = W8 at V8 G8 ⊢
 clear z0 z1 z9 z10 zf
 have ql := HL.out
 go_wp2_with fail
 clear ql
 refine (HTR.out W8 _ V8.out G8.out).mono ?_
 rintro e w10 ⟨rfl, A10, V, G⟩
 have V10 := hI V
 have G10 := hI (qaK G8.out G)
 clear V G V8 G8 HTR
 have qg := HG.out
 go_wp2_with fail
 clear qg
 refine (HRM.out w10 _ V10.out).mono ?_
 rintro e w11 ⟨rfl, A11, V, G⟩
 have V11 := hI V
 have G11 := hI (qaK G10.out G)
 clear V G V10 G10 HRM
 go_wp2_with fail
 refine (HLY.out w11 _ V11.out).mono ?_
 rintro e w9 ⟨rfl, A9, V9, G9⟩
 have VV := hI V9
 have GG := hI (qaK G11.out G9)
 clear V9 G9
 go_wp2
 go_ret
 exact ⟨rfl, A9, VV.out, GG.out⟩
theorem KepQ.small {N Q : Nr} {k gone : ByteArray} (q : KepQ N Q k gone) (hs : SmN N) : SmN Q :=
 ⟨by rw [q.sl]; exact hs.fa, by rw [q.ce]; exact hs.fc, by rw [q.od]; exact hs.fo, by have := q.qw.small; omega, by have := q.qt.small; omega, by have := q.qs.small; omega, by rw [q.sk]; exact hs.fk⟩
theorem zeI {w : World} {r B : Nat} {A : NA} {N : Nr} (h : VaH w r B A N) (hN : InN N) (hD : TabD w) (hr : 0 < r) (k v : ByteArray) (hk : qcV k) (hv : v.size <= 20) (hn : ¬ k ∈ qaD N) :
  Calls Tryz.prog 31 #[.pointer (some ⟨r, 0, none⟩), .string k, .string v] w fun e w' => e = .returned (.string (kepQ N k).2) /\ ∃ A', VaH w' r B A' (qmK (if (kepQ N k).2 = ⟨#[]⟩ then (kepQ N k).1 else qdE (kepQ N k).1 (kepQ N k).2) k v) /\ w.grownBy w' (some r) := by
 have hl := hN.small
 have hq := hN.kep hk hn
 obtain ⟨K, f, st⟩ := hN.stp hn hq
 have hkK : ¬ k ∈ K := fun e => hn ((st.mem k).1 e).1
 have hk0 := qbD hk
 have CLY := fun w' A' (V' : VaH w' r B A' (if (kepQ N k).2 = ⟨#[]⟩ then (kepQ N k).1 else qdE (kepQ N k).1 (kepQ N k).2)) => layI V' st.sm st.inT st.od st.mv st.nd st.len st.fr st.lt k v hk hk0 hkK hv
 have hsum := hN.sum
 have hP : PshQ N.w N.wm k := ⟨hN.qw, hk, fun e => hn (InN.mem.2 (.inl e)), by omega⟩
 have hPR := qcC hP
 have hwl := hN.qw.2.2.1
 have hp2 := qkJ (l := N.w) (m := N.wm.toNat) (k := k) (by omega) (by omega)
 have hD2 : ∀ w', w.grownBy w' (some r) -> TabD w' := fun w' g => hD.below (qaU (B := 1) g (fun g' e => by injection e with e; omega) hD.pos) (by omega)
 have hKP : kepQ N k = if (k :: N.w).getD N.wm.toNat ⟨#[]⟩ = ⟨#[]⟩ then ({ N with w := (k :: N.w).take N.wm.toNat }, ⟨#[]⟩) else tryN { N with w := (k :: N.w).take N.wm.toNat } ((k :: N.w).getD N.wm.toNat ⟨#[]⟩) := rfl
 have hlf : ¬ (k :: N.w).getD N.wm.toNat ⟨#[]⟩ = ⟨#[]⟩ -> (k :: N.w).getD N.wm.toNat ⟨#[]⟩ ∈ N.w := by
  intro hne
  rcases hp2 with ⟨_, _, e2⟩ | ⟨_, l0, x, el, _, e2⟩
  ·exact absurd e2 hne
  ·rw [e2, el]; simp
 have hW : ((k :: N.w).take N.wm.toNat).length <= 1048576 := by rw [List.length_take]; have := hN.qw.small; simp only [List.length_cons]; omega
 generalize (k :: N.w).getD N.wm.toNat ⟨#[]⟩ = lf at *
 generalize (k :: N.w).take N.wm.toNat = W1 at *
 by_cases hle : lf = ⟨#[]⟩
 ·rw [if_pos hle] at hKP
  rw [hKP] at CLY ⊢
  rw [hle] at hPR
  simp only [if_true] at CLY ⊢
  exact zcN h hl k v hPR CLY
 ·rw [if_neg hle] at hKP
  have hlw := hlf hle
  obtain ⟨_, _, _, d1, _, _⟩ := qjP.1 hN.nd
  have CTR := fun w' A' (V' : VaH w' r B A' { N with w := W1, wm := N.wm }) (g : w.grownBy w' (some r)) => tryI V' ⟨hl.fa, hl.fc, hl.fo, hW, hl.ft, hl.fs, hl.fk⟩ (hD2 w' g) lf hN.qt (hN.qw.2.2.2.1 lf hlw) (d1 lf hlw) (show ¬ N.tm = 0 by omega)
  have e1 : tryN { N with w := W1, wm := N.wm } lf = kepQ N k := hKP.symm
  rw [e1] at CTR
  by_cases hg : (kepQ N k).2 = ⟨#[]⟩
  ·rw [if_pos hg] at CLY ⊢
   rw [hg] at CTR ⊢
   exact zcM h hl k v hPR hle CTR CLY
  ·rw [if_neg hg] at CLY ⊢
   have hgk : (kepQ N k).2 ∈ qaD N := by
    rcases hq.was with e | e
    ·exact absurd e hg
    ·exact e
   have CRM := fun w' A' (V' : VaH w' r B A' (kepQ N k).1) => zbR V' (hq.small hl) (by rw [hq.sl, hq.fr, hq.ce]; exact hN.inT) (by rw [hq.od]; exact hN.od) (by rw [hq.mv]; exact hN.mv) (kepQ N k).2 hgk
   exact zcL h hl k v hPR hle hg CTR CRM CLY
theorem zdP {w : World} {r B : Nat} {A : NA} {N N1 N2 N3 : Nr} (h : VaH w r B A N) (k v : ByteArray)
  (CF : ∀ w' A', VaH w' r B A' N -> Calls Tryz.prog 80 #[.pointer (some ⟨r, 0, none⟩), .string k] w' fun e w'' => e = .returned (.tuple #[]) /\ ∃ A'', VaH w'' r B A'' N1 /\ w'.grownBy w'' (some r))
  (CL : ∀ w' A', VaH w' r B A' N1 -> Calls Tryz.prog 77 #[.pointer (some ⟨r, 0, none⟩), .string k, .string v] w' fun e w'' => e = .returned (.tuple #[]) /\ ∃ A'', VaH w'' r B A'' N2 /\ w'.grownBy w'' (some r))
  (CT : ∀ w' A', VaH w' r B A' N2 -> Calls Tryz.prog 69 #[.pointer (some ⟨r, 5, none⟩), .string k] w' fun e w'' => e = .returned (.tuple #[]) /\ ∃ A'', VaH w'' r B A'' N3 /\ w'.grownBy w'' (some r)) :
  Calls Tryz.prog 33 #[.pointer (some ⟨r, 0, none⟩), .string k, .string v] w fun e w' => e = .returned (.string ⟨#[]⟩) /\ ∃ A', VaH w' r B A' N3 /\ w.grownBy w' (some r) := by
 have H := hI h
 have HF := hI CF
 have HL := hI CL
 have HT := hI CT
 clear h CF CL CT
 go_enter Tryz.func33, Tryz.ntmps33
 go_wp2_with fail
 refine (HF.out w _ H.out).mono ?_
 rintro e w1 ⟨rfl, A1, V, G⟩
 have V1 := hI V
 have G1 := hI G
 clear V G H HF
 go_wp2_with fail
 refine (HL.out w1 _ V1.out).mono ?_
 rintro e w2 ⟨rfl, A2, V, G⟩
 have V2 := hI V
 have G2 := hI (qaK G1.out G)
 clear V G V1 G1 HL
 go_wp2_with fail
 refine (HT.out w2 _ V2.out).mono ?_
 rintro e w3 ⟨rfl, A3, V, G⟩
 have V3 := hI V
 have G3 := hI (qaK G2.out G)
 clear V G V2 G2 HT
 go_wp2
 go_ret
 exact ⟨rfl, A3, V3.out, G3.out⟩
theorem zdO {w : World} {r B : Nat} {A : NA} {N : Nr} (h : VaH w r B A N) (hN : InN N) (k v : ByteArray) (hk : qcV k) (hv : v.size <= 20) (hin : k ∈ qaD N) :
  Calls Tryz.prog 33 #[.pointer (some ⟨r, 0, none⟩), .string k, .string v] w fun e w' => e = .returned (.string ⟨#[]⟩) /\ ∃ A', VaH w' r B A' (qdR (qlF N k v) k) /\ w.grownBy w' (some r) := by
 have hl := hN.small
 obtain ⟨j, hj, hu, hkj⟩ := hN.inT.ent k hin
 obtain ⟨L, hL, hLl, hRN⟩ := InN.rnwN_eq hN.inT hj hu v
 rw [hkj] at hL hRN
 have hok : OkT N.ce N.od N.mv := by rw [hN.od, hN.mv]; exact qcG.2 hN.inT.tb
 have hXl : j < (N.sl.set j (qaS N.sl[j] N.fr)).length := by rw [List.length_set]; exact hj
 have hX : (N.sl.set j (qaS N.sl[j] N.fr))[j] = qaS N.sl[j] N.fr := List.getElem_set_self hXl
 have hXok := hN.inT.ar.lift hj hu
 have HR := hN.rnw hin hv
 have hin4 : k ∈ qaD (qlF N k v) := by rw [HR.2.1]; exact hin
 have e2 : qlF N k v = { N with sl := (N.sl.set j (qaS N.sl[j] N.fr)).set j ⟨(N.sl.set j (qaS N.sl[j] N.fr))[j].gen, true, k, v, 0⟩, fr := (N.sl.set j (qaS N.sl[j] N.fr))[j].next, ce := L, od := [], mv := 0 } := by
  rw [hRN, hX, List.set_set, <- hN.od, <- hN.mv]
  rfl
 have CT := fun w' A' (V' : VaH w' r B A' (qlF N k v)) => zaU V' HR.1 HR.1.small k hin4
 have CL := fun w' A' (V' : VaH w' r B A' { N with sl := N.sl.set j (qaS N.sl[j] N.fr), fr := (j : Int) }) => zaZ (f := j) V' ⟨by dsimp only; rw [List.length_set]; exact hl.fa, hl.fc, hl.fo, hl.fw, hl.ft, hl.fs, hl.fk⟩ hok hXok rfl hXl k v hk hv (L := L) (by dsimp only; rw [hX, hN.od, hN.mv]; exact hL)
 have CF := fun w' A' (V' : VaH w' r B A' N) => zeH V' hl hN.inT hN.od hN.mv hj hu k hkj
 refine zdP h k v CF (N2 := qlF N k v) ?_ CT
 rw [e2]
 exact CL
theorem qyB {k v : ByteArray} (hk : qcV k) (hv : v.size <= 20) : fits k v = true := by
 have h1 := hk.1
 have h2 := hk.2
 simp [fits, h1, h2, hv]
theorem zcH {w : World} {B : Nat} {A : NA} {N : Nr} (h : InN N) (hA : OwnN w B A N) (hB : B <= w.heap.size) (hD : TabD w) (k v : ByteArray) (hk : qcV k) (hv : v.size <= 20) (hn : ¬ k ∈ qaD N) :
  Calls Tryz.prog 7 #[neV A N, .string k, .string v] w fun e w' => ∃ A', e = .returned (.tuple #[neV A' (keepN N k v).1, .string (keepN N k v).2, .bool true]) /\ OwnN w' w.heap.size A' (keepN N k v).1 /\ Below w.heap.size w w' := by
 have hmf : ∀ (fn : Fn) (first cap : Array Value) (w : World), (Instr.makeFunc fn first cap).run Tryz.prog w = .ok (.func fn first cap) w := fun _ _ _ _ => rfl
 have F0 := hI (qdI w (nA A N) nZ 39 39)
 have hks : k.size <= 1048576 := by have := hk.2; omega
 have HFT := hI (show fits k v = true from qyB hk hv)
 have C0 := hI (fun w' (hb : Below w.heap.size w w') => qoQ h (hA.later hb) (Nat.le_trans hB hb.size))
 have C1 := hI (fun w' r (V : VaH w' r B A N) => valI V h k hks)
 have C2 := hI (fun w' r (V : VaH w' r B A N) (hD : TabD w') => quY V h.small k hks hD)
 have hc := h.cn k
 have hn3 : ¬ k ∈ qaD (cnN N k) := by rw [qcD]; exact hn
 have hKP := h.keep hk hv
 have e : keepN N k v = (qmK (if (kepQ (cnN N k) k).2 = ⟨#[]⟩ then (kepQ (cnN N k) k).1 else qdE (kepQ (cnN N k) k).1 (kepQ (cnN N k) k).2) k v, (kepQ (cnN N k) k).2) := by unfold keepN; rw [if_neg (fun e => hn ((qaF _ _).1 e))]
 have C3 := hI (fun w' r A' (V : VaH w' r B A' (cnN N k)) (hD' : TabD w') (hr : 0 < r) => zeI V hc hD' hr k v hk hv hn3)
 have hf := hKP.ok
 rw [e] at hf ⊢
 dsimp only at hf ⊢
 have C4 := hI (fun w' r A' (V : VaH w' r B A' (qmK (if (kepQ (cnN N k) k).2 = ⟨#[]⟩ then (kepQ (cnN N k) k).1 else qdE (kepQ (cnN N k) k).1 (kepQ (cnN N k) k).2) k v)) => qzM V hf.small ⟨by have := hf.qw.small; omega, by have := hf.qt.small; omega, by have := hf.qs.small; omega⟩)
 have HK := hI hn
 have HD := hI hD
 generalize qmK (if (kepQ (cnN N k) k).2 = ⟨#[]⟩ then (kepQ (cnN N k) k).1 else qdE (kepQ (cnN N k) k).1 (kepQ (cnN N k) k).2) k v = N5 at *
 generalize (kepQ (cnN N k) k).2 = gn at *
 generalize cnN N k = N4 at *
 unfold neV at C0 C4 ⊢
 have hw0 := hD.pos
 clear h hA hks hf hn hD hk hv e hKP hc hn3
 go_enter Tryz.func7, Tryz.ntmps7
 go_wp2_with fail
 generalize ((w.alloc (.cells (nA A N) 39)).alloc (.cells nZ 39)) = w0 at F0 ⊢
 obtain ⟨P0, R0, B0⟩ := F0.out
 have R0 := hI R0
 have B0 := hI B0
 have sz0 : w.heap.size + 2 <= w0.heap.size := by have := R0.out.lt; omega
 clear F0 P0
 refine (C0.out w0 B0.out).mono ?_
 rintro e w1 ⟨r, rfl, hV, hr, hb⟩
 have V1 := hI hV
 have R1 := bRn R0 hb
 have B1 := tRn B0 hb
 clear C0 hV hb R0 B0
 go_wp2_with fail
 refine (qkQ k v w1).mono ?_
 rintro e w1' ⟨rfl, rfl⟩
 rw [HFT.out]
 go_wp2_with fail
 refine (C1.out w1' r V1.out).mono ?_
 rintro e w2 ⟨⟨vx, _, _, hy⟩ | ⟨rfl, _⟩, hb⟩
 case inl => exact absurd hy HK.out
 have V2 := hI (V1.out.later hb)
 have R2 := bRn R1 hb
 have B2 := tRn B1 hb
 have hrl := V2.out.var.lt
 have hRl := R2.out.lt
 clear C1 hb V1 R1 B1
 have D3 := hI (HD.out.below B2.out hw0)
 go_wp2_with fail
 refine (C2.out w2 r V2.out D3.out).mono ?_
 rintro e w4 ⟨rfl, A4, V, G⟩
 have V4 := hI V
 have R4 := hI (qlV G R2.out (fun e => by injection e with e; omega))
 have B4 := hI (B2.out.trans (qaU G (fun g' e => by injection e with e; omega) B2.out.size))
 have D4 := hI (HD.out.below B4.out hw0)
 clear V G V2 R2 B2 C2 D3
 go_wp2_with fail
 refine (C3.out w4 r A4 V4.out D4.out (by omega)).mono ?_
 rintro e w5 ⟨rfl, A5, V, G⟩
 have V5 := hI V
 have R5 := hI (qlV G R4.out (fun e => by injection e with e; omega))
 have B5 := hI (B4.out.trans (qaU G (fun g' e => by injection e with e; omega) B4.out.size))
 clear V G V4 R4 B4 C3 D4
 go_wp2_with fail
 refine (C4.out w5 r A5 V5.out).mono ?_
 rintro e w6 ⟨A6, rfl, ho, hb⟩
 have R6 := bRn R5 hb
 have B6 := tRn B5 hb
 have O6 := hI ho
 have hs5 : w.heap.size + 1 < w5.heap.size := R5.out.lt
 clear ho hb V5 R5 B5 C4
 have u0 : w6.cell? ⟨w.heap.size + 1, 0, none⟩ = _ := cRn (R6.out.cell 0) rfl
 have u1 : w6.cell? ⟨w.heap.size + 1, 1, none⟩ = _ := cRn (R6.out.cell 1) rfl
 have u2 : w6.cell? ⟨w.heap.size + 1, 2, none⟩ = _ := cRn (R6.out.cell 2) rfl
 have u3 : w6.cell? ⟨w.heap.size + 1, 3, none⟩ = _ := cRn (R6.out.cell 3) rfl
 have u4 : w6.cell? ⟨w.heap.size + 1, 4, none⟩ = _ := cRn (R6.out.cell 4) rfl
 have u5 : w6.cell? ⟨w.heap.size + 1, 5, none⟩ = _ := cRn (R6.out.cell 5) rfl
 have u6 : w6.cell? ⟨w.heap.size + 1, 6, none⟩ = _ := cRn (R6.out.cell 6) rfl
 have u7 : w6.cell? ⟨w.heap.size + 1, 7, none⟩ = _ := cRn (R6.out.cell 7) rfl
 have u8 : w6.cell? ⟨w.heap.size + 1, 8, none⟩ = _ := cRn (R6.out.cell 8) rfl
 have u9 : w6.cell? ⟨w.heap.size + 1, 9, none⟩ = _ := cRn (R6.out.cell 9) rfl
 have u10 : w6.cell? ⟨w.heap.size + 1, 10, none⟩ = _ := cRn (R6.out.cell 10) rfl
 have u11 : w6.cell? ⟨w.heap.size + 1, 11, none⟩ = _ := cRn (R6.out.cell 11) rfl
 have u12 : w6.cell? ⟨w.heap.size + 1, 12, none⟩ = _ := cRn (R6.out.cell 12) rfl
 have u13 : w6.cell? ⟨w.heap.size + 1, 13, none⟩ = _ := cRn (R6.out.cell 13) rfl
 have uf (j) : w6.frozen? ⟨w.heap.size + 1, j, none⟩ = false := R6.out.froz j
 have HH := hI (Blk.set (Blk.set (Blk.set (Blk.set (Blk.set (Blk.set (Blk.set (Blk.set (Blk.set (Blk.set (Blk.set (Blk.set (Blk.set (Blk.set (R6.out) 0 (.slice A6.a N5.sl.length A6.ac)) 1 (.int .i64 N5.fr)) 2 (.slice A6.c N5.ce.length A6.cc)) 3 (.slice A6.o N5.od.length A6.oc)) 4 (.int .i64 N5.mv)) 5 (.int .i64 N5.wm)) 6 (.slice A6.w N5.w.length A6.wc)) 7 (.int .i64 N5.tm)) 8 (.slice A6.t N5.t.length A6.tc)) 9 (.int .i64 N5.sm)) 10 (.slice A6.s N5.s.length A6.sc)) 11 (.slice A6.k N5.sk.length A6.kc)) 12 (.int .i64 N5.ad)) 13 (.int .i64 N5.dr))
 have OX := hI (OwnN.put14 (s := w.heap.size + 1) O6.out (by omega) (.slice A6.a N5.sl.length A6.ac) (.int .i64 N5.fr) (.slice A6.c N5.ce.length A6.cc) (.slice A6.o N5.od.length A6.oc) (.int .i64 N5.mv) (.int .i64 N5.wm) (.slice A6.w N5.w.length A6.wc) (.int .i64 N5.tm) (.slice A6.t N5.t.length A6.tc) (.int .i64 N5.sm) (.slice A6.s N5.s.length A6.sc) (.slice A6.k N5.sk.length A6.kc) (.int .i64 N5.ad) (.int .i64 N5.dr))
 have BX := hI (qaM (s := w.heap.size + 1) B6.out (by omega) (.slice A6.a N5.sl.length A6.ac) (.int .i64 N5.fr) (.slice A6.c N5.ce.length A6.cc) (.slice A6.o N5.od.length A6.oc) (.int .i64 N5.mv) (.int .i64 N5.wm) (.slice A6.w N5.w.length A6.wc) (.int .i64 N5.tm) (.slice A6.t N5.t.length A6.tc) (.int .i64 N5.sm) (.slice A6.s N5.s.length A6.sc) (.slice A6.k N5.sk.length A6.kc) (.int .i64 N5.ad) (.int .i64 N5.dr))
 go_wp2
 refine bodyPost_ret (qeO Tryz.results7 _ _ (w.heap.size + 1) 39 (nA A6 N5) (0, 0) _ rfl HH.out Tryz.underlying39 rfl (by kernel_rfl)) rfl ?_
 exact ⟨A6, rfl, OX.out.base (by omega), BX.out⟩
theorem qzU {w : World} {B : Nat} {A : NA} {N : Nr} (h : InN N) (hA : OwnN w B A N) (hB : B <= w.heap.size) (hD : TabD w) (k v : ByteArray) (hk : qcV k) (hv : v.size <= 20) (hn : k ∈ qaD N) :
  Calls Tryz.prog 7 #[neV A N, .string k, .string v] w fun e w' => ∃ A', e = .returned (.tuple #[neV A' (keepN N k v).1, .string (keepN N k v).2, .bool true]) /\ OwnN w' w.heap.size A' (keepN N k v).1 /\ Below w.heap.size w w' := by
 have hmf : ∀ (fn : Fn) (first cap : Array Value) (w : World), (Instr.makeFunc fn first cap).run Tryz.prog w = .ok (.func fn first cap) w := fun _ _ _ _ => rfl
 have F0 := hI (qdI w (nA A N) nZ 39 39)
 have hks : k.size <= 1048576 := by have := hk.2; omega
 have HFT := hI (show fits k v = true from qyB hk hv)
 have C0 := hI (fun w' (hb : Below w.heap.size w w') => qoQ h (hA.later hb) (Nat.le_trans hB hb.size))
 have C1 := hI (fun w' r (V : VaH w' r B A N) => valI V h k hks)
 have C2 := hI (fun w' r (V : VaH w' r B A N) (hD : TabD w') => quY V h.small k hks hD)
 have hc := h.cn k
 have hn3 : k ∈ qaD (cnN N k) := by rw [qcD]; exact hn
 have hKP := h.keep hk hv
 have e : keepN N k v = (qdR (qlF (cnN N k) k v) k, ⟨#[]⟩) := by unfold keepN; rw [if_pos ((qaF _ _).2 hn)]
 have C3 := hI (fun w' r A' (V : VaH w' r B A' (cnN N k)) => zdO V hc k v hk hv hn3)
 have hf := hKP.ok
 rw [e] at hf ⊢
 dsimp only at hf ⊢
 have C4 := hI (fun w' r A' (V : VaH w' r B A' (qdR (qlF (cnN N k) k v) k)) => qzM V hf.small ⟨by have := hf.qw.small; omega, by have := hf.qt.small; omega, by have := hf.qs.small; omega⟩)
 have HK := hI hn
 have HD := hI hD
 generalize qdR (qlF (cnN N k) k v) k = N5 at *
 generalize cnN N k = N4 at *
 unfold neV at C0 C4 ⊢
 have hw0 := hD.pos
 clear h hA hks hf hn hD hk hv e hKP hc hn3
 go_enter Tryz.func7, Tryz.ntmps7
 go_wp2_with fail
 generalize ((w.alloc (.cells (nA A N) 39)).alloc (.cells nZ 39)) = w0 at F0 ⊢
 obtain ⟨P0, R0, B0⟩ := F0.out
 have R0 := hI R0
 have B0 := hI B0
 have sz0 : w.heap.size + 2 <= w0.heap.size := by have := R0.out.lt; omega
 clear F0 P0
 refine (C0.out w0 B0.out).mono ?_
 rintro e w1 ⟨r, rfl, hV, hr, hb⟩
 have V1 := hI hV
 have R1 := bRn R0 hb
 have B1 := tRn B0 hb
 clear C0 hV hb R0 B0
 go_wp2_with fail
 refine (qkQ k v w1).mono ?_
 rintro e w1' ⟨rfl, rfl⟩
 rw [HFT.out]
 go_wp2_with fail
 refine (C1.out w1' r V1.out).mono ?_
 rintro e w2 ⟨⟨vx, rfl, _, _⟩ | ⟨_, hy⟩, hb⟩
 case inr => exact absurd HK.out hy
 have V2 := hI (V1.out.later hb)
 have R2 := bRn R1 hb
 have B2 := tRn B1 hb
 have hrl := V2.out.var.lt
 have hRl := R2.out.lt
 clear C1 hb V1 R1 B1
 have D3 := hI (HD.out.below B2.out hw0)
 go_wp2_with fail
 refine (C2.out w2 r V2.out D3.out).mono ?_
 rintro e w4 ⟨rfl, A4, V, G⟩
 have V4 := hI V
 have R4 := hI (qlV G R2.out (fun e => by injection e with e; omega))
 have B4 := hI (B2.out.trans (qaU G (fun g' e => by injection e with e; omega) B2.out.size))
 have D4 := hI (HD.out.below B4.out hw0)
 clear V G V2 R2 B2 C2 D3
 go_wp2_with fail
 refine (C3.out w4 r A4 V4.out).mono ?_
 rintro e w5 ⟨rfl, A5, V, G⟩
 have V5 := hI V
 have R5 := hI (qlV G R4.out (fun e => by injection e with e; omega))
 have B5 := hI (B4.out.trans (qaU G (fun g' e => by injection e with e; omega) B4.out.size))
 clear V G V4 R4 B4 C3 D4
 go_wp2_with fail
 refine (C4.out w5 r A5 V5.out).mono ?_
 rintro e w6 ⟨A6, rfl, ho, hb⟩
 have R6 := bRn R5 hb
 have B6 := tRn B5 hb
 have O6 := hI ho
 have hs5 : w.heap.size + 1 < w5.heap.size := R5.out.lt
 clear ho hb V5 R5 B5 C4
 have u0 : w6.cell? ⟨w.heap.size + 1, 0, none⟩ = _ := cRn (R6.out.cell 0) rfl
 have u1 : w6.cell? ⟨w.heap.size + 1, 1, none⟩ = _ := cRn (R6.out.cell 1) rfl
 have u2 : w6.cell? ⟨w.heap.size + 1, 2, none⟩ = _ := cRn (R6.out.cell 2) rfl
 have u3 : w6.cell? ⟨w.heap.size + 1, 3, none⟩ = _ := cRn (R6.out.cell 3) rfl
 have u4 : w6.cell? ⟨w.heap.size + 1, 4, none⟩ = _ := cRn (R6.out.cell 4) rfl
 have u5 : w6.cell? ⟨w.heap.size + 1, 5, none⟩ = _ := cRn (R6.out.cell 5) rfl
 have u6 : w6.cell? ⟨w.heap.size + 1, 6, none⟩ = _ := cRn (R6.out.cell 6) rfl
 have u7 : w6.cell? ⟨w.heap.size + 1, 7, none⟩ = _ := cRn (R6.out.cell 7) rfl
 have u8 : w6.cell? ⟨w.heap.size + 1, 8, none⟩ = _ := cRn (R6.out.cell 8) rfl
 have u9 : w6.cell? ⟨w.heap.size + 1, 9, none⟩ = _ := cRn (R6.out.cell 9) rfl
 have u10 : w6.cell? ⟨w.heap.size + 1, 10, none⟩ = _ := cRn (R6.out.cell 10) rfl
 have u11 : w6.cell? ⟨w.heap.size + 1, 11, none⟩ = _ := cRn (R6.out.cell 11) rfl
 have u12 : w6.cell? ⟨w.heap.size + 1, 12, none⟩ = _ := cRn (R6.out.cell 12) rfl
 have u13 : w6.cell? ⟨w.heap.size + 1, 13, none⟩ = _ := cRn (R6.out.cell 13) rfl
 have uf (j) : w6.frozen? ⟨w.heap.size + 1, j, none⟩ = false := R6.out.froz j
 have HH := hI (Blk.set (Blk.set (Blk.set (Blk.set (Blk.set (Blk.set (Blk.set (Blk.set (Blk.set (Blk.set (Blk.set (Blk.set (Blk.set (Blk.set (R6.out) 0 (.slice A6.a N5.sl.length A6.ac)) 1 (.int .i64 N5.fr)) 2 (.slice A6.c N5.ce.length A6.cc)) 3 (.slice A6.o N5.od.length A6.oc)) 4 (.int .i64 N5.mv)) 5 (.int .i64 N5.wm)) 6 (.slice A6.w N5.w.length A6.wc)) 7 (.int .i64 N5.tm)) 8 (.slice A6.t N5.t.length A6.tc)) 9 (.int .i64 N5.sm)) 10 (.slice A6.s N5.s.length A6.sc)) 11 (.slice A6.k N5.sk.length A6.kc)) 12 (.int .i64 N5.ad)) 13 (.int .i64 N5.dr))
 have OX := hI (OwnN.put14 (s := w.heap.size + 1) O6.out (by omega) (.slice A6.a N5.sl.length A6.ac) (.int .i64 N5.fr) (.slice A6.c N5.ce.length A6.cc) (.slice A6.o N5.od.length A6.oc) (.int .i64 N5.mv) (.int .i64 N5.wm) (.slice A6.w N5.w.length A6.wc) (.int .i64 N5.tm) (.slice A6.t N5.t.length A6.tc) (.int .i64 N5.sm) (.slice A6.s N5.s.length A6.sc) (.slice A6.k N5.sk.length A6.kc) (.int .i64 N5.ad) (.int .i64 N5.dr))
 have BX := hI (qaM (s := w.heap.size + 1) B6.out (by omega) (.slice A6.a N5.sl.length A6.ac) (.int .i64 N5.fr) (.slice A6.c N5.ce.length A6.cc) (.slice A6.o N5.od.length A6.oc) (.int .i64 N5.mv) (.int .i64 N5.wm) (.slice A6.w N5.w.length A6.wc) (.int .i64 N5.tm) (.slice A6.t N5.t.length A6.tc) (.int .i64 N5.sm) (.slice A6.s N5.s.length A6.sc) (.slice A6.k N5.sk.length A6.kc) (.int .i64 N5.ad) (.int .i64 N5.dr))
 go_wp2
 refine bodyPost_ret (qeO Tryz.results7 _ _ (w.heap.size + 1) 39 (nA A6 N5) (0, 0) _ rfl HH.out Tryz.underlying39 rfl (by kernel_rfl)) rfl ?_
 exact ⟨A6, rfl, OX.out.base (by omega), BX.out⟩
theorem keepI {w : World} {B : Nat} {A : NA} {N : Nr} (h : InN N) (hA : OwnN w B A N) (hB : B <= w.heap.size) (hD : TabD w) (k v : ByteArray) (hk : qcV k) (hv : v.size <= 20) :
  Calls Tryz.prog 7 #[neV A N, .string k, .string v] w fun e w' => ∃ A', e = .returned (.tuple #[neV A' (keepN N k v).1, .string (keepN N k v).2, .bool true]) /\ OwnN w' w.heap.size A' (keepN N k v).1 /\ Below w.heap.size w w' := by
 by_cases hn : k ∈ qaD N
 ·exact qzU h hA hB hD k v hk hv hn
 ·exact zcH h hA hB hD k v hk hv hn
end Go.Proofs.YtigpjmmfelndkaaGreatDoor
