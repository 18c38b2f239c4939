import Derived.Test.YtigpjmmfelndkaaGreatDoorLYF
import Derived.Test.YtigpjmmfelndkaaGreatDoorLXVY
import Derived.Test.YtigpjmmfelndkaaGreatDoorLYW
namespace Go.Proofs.YtigpjmmfelndkaaGreatDoor
open Go.RowKit
set_option linter.unusedVariables false
set_option maxRecDepth 100000
set_option maxHeartbeats 16000000
theorem zdS (A : NA) (N : Nr) (w : World) (hl : SmN N) (hA : RdN w A N) (c0 : OkA N.sl N.fr) (c1 : 2 <= N.sl.length) (c2 : OkT N.ce N.od N.mv) (c3 : N.od.length = 0) (c4 : N.ce.length = qaN N.sl.length) (c5 : OkQ N.w N.wm) (c6 : OkQ N.t N.tm) (c7 : OkQ N.s N.sm) (c8 : N.wm = (qdD N.sl.length : Int)) (c9 : N.tm = (qeF N.sl.length : Int)) (c10 : N.sm = (qdO N.sl.length : Int)) (c11 : OkK N.sk N.ad) (c12 : okD N.dr = true) :
  Calls Tryz.prog 51 #[neV A N] w fun e w' => e = .returned (.bool true) /\ Below w.heap.size w w' := by
 have BX := hI (Blk.new w 39 (nA A N))
 have BB := hI (bAl w (.cells (nA A N) 39))
 have CM := hI (fun w' => qhO N.sl.length w' hl.fa)
 have C0 : Hid (∀ w', Below w.heap.size w w' -> Calls Tryz.prog 93 #[.agg #[.slice A.a N.sl.length A.ac, .int .i64 N.fr]] w' fun e w'' => e = .returned (.bool true) /\ Below w'.heap.size w' w'') := by
  show ∀ w', _
  intro w' hb
  refine (qgC A.a N.sl A.ac N.fr w' hl.fa (hA.fa.later hb)).mono ?_
  rintro e w'' ⟨x, rfl, hx, hb2⟩
  obtain rfl : x = true := by cases x <;> simp_all
  exact ⟨rfl, hb2⟩
 have C2 : Hid (∀ w', Below w.heap.size w w' -> Calls Tryz.prog 90 #[.agg #[.slice A.c N.ce.length A.cc, .slice A.o N.od.length A.oc, .int .i64 N.mv]] w' fun e w'' => e = .returned (.bool true) /\ Below w'.heap.size w' w'') := by
  show ∀ w', _
  intro w' hb
  refine (qcX A.c A.o N.ce N.od A.cc A.oc N.mv w' hl.fc hl.fo (hA.fc.later hb) (hA.fo.later hb)).mono ?_
  rintro e w'' ⟨x, rfl, hx, hb2⟩
  obtain rfl : x = true := by cases x <;> simp_all
  exact ⟨rfl, hb2⟩
 have C5 : Hid (∀ w', Below w.heap.size w w' -> Calls Tryz.prog 97 #[.agg #[.int .i64 N.wm, .slice A.w N.w.length A.wc]] w' fun e w'' => e = .returned (.bool true) /\ Below w'.heap.size w' w'') := by
  show ∀ w', _
  intro w' hb
  refine (qcY A.w N.w A.wc N.wm w' hl.fw (hA.fw.later hb)).mono ?_
  rintro e w'' ⟨x, rfl, hx, hb2⟩
  obtain rfl : x = true := by cases x <;> simp_all
  exact ⟨rfl, hb2⟩
 have C6 : Hid (∀ w', Below w.heap.size w w' -> Calls Tryz.prog 97 #[.agg #[.int .i64 N.tm, .slice A.t N.t.length A.tc]] w' fun e w'' => e = .returned (.bool true) /\ Below w'.heap.size w' w'') := by
  show ∀ w', _
  intro w' hb
  refine (qcY A.t N.t A.tc N.tm w' hl.ft (hA.ft.later hb)).mono ?_
  rintro e w'' ⟨x, rfl, hx, hb2⟩
  obtain rfl : x = true := by cases x <;> simp_all
  exact ⟨rfl, hb2⟩
 have C7 : Hid (∀ w', Below w.heap.size w w' -> Calls Tryz.prog 97 #[.agg #[.int .i64 N.sm, .slice A.s N.s.length A.sc]] w' fun e w'' => e = .returned (.bool true) /\ Below w'.heap.size w' w'') := by
  show ∀ w', _
  intro w' hb
  refine (qcY A.s N.s A.sc N.sm w' hl.fs (hA.fs.later hb)).mono ?_
  rintro e w'' ⟨x, rfl, hx, hb2⟩
  obtain rfl : x = true := by cases x <;> simp_all
  exact ⟨rfl, hb2⟩
 have C11 : Hid (∀ w', Below w.heap.size w w' -> Calls Tryz.prog 112 #[.agg #[.slice A.k N.sk.length A.kc, .int .i64 N.ad]] w' fun e w'' => e = .returned (.bool true) /\ Below w'.heap.size w' w'') := by
  show ∀ w', _
  intro w' hb
  refine (qgW A.k N.sk A.kc N.ad w' (hA.fk.later hb)).mono ?_
  rintro e w'' ⟨x, rfl, hx, hb2⟩
  obtain rfl : x = true := by cases x <;> simp_all
  exact ⟨rfl, hb2⟩
 have C12 : Hid (∀ w', Calls Tryz.prog 113 #[.agg #[.int .i64 N.dr]] w' fun e w'' => e = .returned (.bool true) /\ Below w'.heap.size w' w'') := by
  show ∀ w', _
  intro w'
  refine (qdJ N.dr w').mono ?_
  rintro e w'' ⟨rfl, hb2⟩
  exact ⟨by rw [show okD N.dr = true by cases h : okD N.dr <;> simp_all], hb2⟩
 have C4 := hI (fun w' => qgS N.sl.length w' c0.most)
 have q1 : decide ((2 : Int) <= (N.sl.length : Int)) = true := by simp; omega
 have q3 : ((N.od.length : Int) == 0) = true := beq_iff_eq.2 (by omega)
 have q4 : ((N.ce.length : Int) == (qaN N.sl.length : Int)) = true := beq_iff_eq.2 (by omega)
 have q8 : (N.wm == (qdD N.sl.length : Int)) = true := by simp; omega
 have q9 : (N.tm == (qeF N.sl.length : Int)) = true := by simp; omega
 have q10 : (N.sm == (qdO N.sl.length : Int)) = true := by simp; omega
 have D1 : 2 <= N.sl.length := c1
 clear hA hl c0 c1 c2 c3 c4 c5 c6 c7 c8 c9 c10 c11 c12
 unfold neV
 go_enter Tryz.func51, Tryz.ntmps51
 go_wp2_with fail
 refine (CM.out _).mono ?_
 rintro e w1 ⟨mx, my, mz, rfl, hmz, hw⟩
 have hw2 := hw.symm
 clear hw
 subst hw2
 obtain ⟨rfl, rfl, rfl⟩ := hmz D1
 clear D1
 generalize w.alloc (.cells (nA A N) 39) = w1 at BX BB ⊢
 have x0 : w1.cell? ⟨w.heap.size, 0, none⟩ = _ := cRn (BX.out.cell 0) rfl
 have x1 : w1.cell? ⟨w.heap.size, 1, none⟩ = _ := cRn (BX.out.cell 1) rfl
 have x2 : w1.cell? ⟨w.heap.size, 2, none⟩ = _ := cRn (BX.out.cell 2) rfl
 have x3 : w1.cell? ⟨w.heap.size, 3, none⟩ = _ := cRn (BX.out.cell 3) rfl
 have x4 : w1.cell? ⟨w.heap.size, 4, none⟩ = _ := cRn (BX.out.cell 4) rfl
 have x5 : w1.cell? ⟨w.heap.size, 5, none⟩ = _ := cRn (BX.out.cell 5) rfl
 have x6 : w1.cell? ⟨w.heap.size, 6, none⟩ = _ := cRn (BX.out.cell 6) rfl
 have x7 : w1.cell? ⟨w.heap.size, 7, none⟩ = _ := cRn (BX.out.cell 7) rfl
 have x8 : w1.cell? ⟨w.heap.size, 8, none⟩ = _ := cRn (BX.out.cell 8) rfl
 have x9 : w1.cell? ⟨w.heap.size, 9, none⟩ = _ := cRn (BX.out.cell 9) rfl
 have x10 : w1.cell? ⟨w.heap.size, 10, none⟩ = _ := cRn (BX.out.cell 10) rfl
 have x11 : w1.cell? ⟨w.heap.size, 11, none⟩ = _ := cRn (BX.out.cell 11) rfl
 have x12 : w1.cell? ⟨w.heap.size, 12, none⟩ = _ := cRn (BX.out.cell 12) rfl
 have x13 : w1.cell? ⟨w.heap.size, 13, none⟩ = _ := cRn (BX.out.cell 13) rfl
 have X := hI (And.intro x0 (And.intro x1 (And.intro x2 (And.intro x3 (And.intro x4 (And.intro x5 (And.intro x6 (And.intro x7 (And.intro x8 (And.intro x9 (And.intro x10 (And.intro x11 (And.intro x12 x13)))))))))))))
 have hs0 : w.heap.size < w1.heap.size := BX.out.lt
 clear CM
 go_wp2_with fail
 simp only [List.append_eq, List.cons_append, List.nil_append]
 go_region_held3 (fun w' => w'.cell? ⟨w.heap.size, 0, none⟩ = some (.slice A.a N.sl.length A.ac) /\ w'.cell? ⟨w.heap.size, 1, none⟩ = some (.int .i64 N.fr) /\ w'.cell? ⟨w.heap.size, 2, none⟩ = some (.slice A.c N.ce.length A.cc) /\ w'.cell? ⟨w.heap.size, 3, none⟩ = some (.slice A.o N.od.length A.oc) /\ w'.cell? ⟨w.heap.size, 4, none⟩ = some (.int .i64 N.mv) /\ w'.cell? ⟨w.heap.size, 5, none⟩ = some (.int .i64 N.wm) /\ w'.cell? ⟨w.heap.size, 6, none⟩ = some (.slice A.w N.w.length A.wc) /\ w'.cell? ⟨w.heap.size, 7, none⟩ = some (.int .i64 N.tm) /\ w'.cell? ⟨w.heap.size, 8, none⟩ = some (.slice A.t N.t.length A.tc) /\ w'.cell? ⟨w.heap.size, 9, none⟩ = some (.int .i64 N.sm) /\ w'.cell? ⟨w.heap.size, 10, none⟩ = some (.slice A.s N.s.length A.sc) /\ w'.cell? ⟨w.heap.size, 11, none⟩ = some (.slice A.k N.sk.length A.kc) /\ w'.cell? ⟨w.heap.size, 12, none⟩ = some (.int .i64 N.ad) /\ w'.cell? ⟨w.heap.size, 13, none⟩ = some (.int .i64 N.dr)) (first | go_keep | exact ⟨(HBc.cell hs0).trans X.out.1, (HBc.cell hs0).trans X.out.2.1, (HBc.cell hs0).trans X.out.2.2.1, (HBc.cell hs0).trans X.out.2.2.2.1, (HBc.cell hs0).trans X.out.2.2.2.2.1, (HBc.cell hs0).trans X.out.2.2.2.2.2.1, (HBc.cell hs0).trans X.out.2.2.2.2.2.2.1, (HBc.cell hs0).trans X.out.2.2.2.2.2.2.2.1, (HBc.cell hs0).trans X.out.2.2.2.2.2.2.2.2.1, (HBc.cell hs0).trans X.out.2.2.2.2.2.2.2.2.2.1, (HBc.cell hs0).trans X.out.2.2.2.2.2.2.2.2.2.2.1, (HBc.cell hs0).trans X.out.2.2.2.2.2.2.2.2.2.2.2.1, (HBc.cell hs0).trans X.out.2.2.2.2.2.2.2.2.2.2.2.2.1, (HBc.cell hs0).trans X.out.2.2.2.2.2.2.2.2.2.2.2.2.2⟩) ((first | (go_at_call 113; refine (C12.out _).mono ?_; rintro e wk ⟨rfl, hbk⟩; have HBc : Below w1.heap.size w1 wk := (by first | exact (HBc.trans (show Below w1.heap.size _ _ by go_grown)).trans (hbk.mono (by have := HBc.size; go_size)) | exact (show Below w1.heap.size w1 _ by go_grown).trans (hbk.mono (by go_size))); clear hbk) | (go_at_call 112; with_reducible refine Calls.mono (C11.out _ (BB.out.trans ((show Below w1.heap.size w1 _ by first | exact (HBc.trans (show Below w1.heap.size wk _ by go_grown)) | go_grown).mono BB.out.size))) ?_; rintro e wk ⟨rfl, hbk⟩; have HBc : Below w1.heap.size w1 wk := (by first | exact (HBc.trans (show Below w1.heap.size _ _ by go_grown)).trans (hbk.mono (by have := HBc.size; go_size)) | exact (show Below w1.heap.size w1 _ by go_grown).trans (hbk.mono (by go_size))); clear hbk) | (go_at_call 97; with_reducible refine Calls.mono (C7.out _ (BB.out.trans ((show Below w1.heap.size w1 _ by first | exact (HBc.trans (show Below w1.heap.size wk _ by go_grown)) | go_grown).mono BB.out.size))) ?_; rintro e wk ⟨rfl, hbk⟩; have HBc : Below w1.heap.size w1 wk := (by first | exact (HBc.trans (show Below w1.heap.size _ _ by go_grown)).trans (hbk.mono (by have := HBc.size; go_size)) | exact (show Below w1.heap.size w1 _ by go_grown).trans (hbk.mono (by go_size))); clear hbk) | (go_at_call 97; with_reducible refine Calls.mono (C6.out _ (BB.out.trans ((show Below w1.heap.size w1 _ by first | exact (HBc.trans (show Below w1.heap.size wk _ by go_grown)) | go_grown).mono BB.out.size))) ?_; rintro e wk ⟨rfl, hbk⟩; have HBc : Below w1.heap.size w1 wk := (by first | exact (HBc.trans (show Below w1.heap.size _ _ by go_grown)).trans (hbk.mono (by have := HBc.size; go_size)) | exact (show Below w1.heap.size w1 _ by go_grown).trans (hbk.mono (by go_size))); clear hbk) | (go_at_call 97; with_reducible refine Calls.mono (C5.out _ (BB.out.trans ((show Below w1.heap.size w1 _ by first | exact (HBc.trans (show Below w1.heap.size wk _ by go_grown)) | go_grown).mono BB.out.size))) ?_; rintro e wk ⟨rfl, hbk⟩; have HBc : Below w1.heap.size w1 wk := (by first | exact (HBc.trans (show Below w1.heap.size _ _ by go_grown)).trans (hbk.mono (by have := HBc.size; go_size)) | exact (show Below w1.heap.size w1 _ by go_grown).trans (hbk.mono (by go_size))); clear hbk) | (go_at_call 63; refine (C4.out _).mono ?_; rintro e wq ⟨rfl, hw⟩; have hw2 := hw.symm; clear hw; subst hw2) | (go_at_call 90; with_reducible refine Calls.mono (C2.out _ (BB.out.trans ((show Below w1.heap.size w1 _ by first | exact (HBc.trans (show Below w1.heap.size wk _ by go_grown)) | go_grown).mono BB.out.size))) ?_; rintro e wk ⟨rfl, hbk⟩; have HBc : Below w1.heap.size w1 wk := (by first | exact (HBc.trans (show Below w1.heap.size _ _ by go_grown)).trans (hbk.mono (by have := HBc.size; go_size)) | exact (show Below w1.heap.size w1 _ by go_grown).trans (hbk.mono (by go_size))); clear hbk) | (go_at_call 93; with_reducible refine Calls.mono (C0.out _ (BB.out.trans ((show Below w1.heap.size w1 _ by first | exact (HBc.trans (show Below w1.heap.size wk _ by go_grown)) | go_grown).mono BB.out.size))) ?_; rintro e wk ⟨rfl, hbk⟩; have HBc : Below w1.heap.size w1 wk := (by first | exact (HBc.trans (show Below w1.heap.size _ _ by go_grown)).trans (hbk.mono (by have := HBc.size; go_size)) | exact (show Below w1.heap.size w1 _ by go_grown).trans (hbk.mono (by go_size))); clear hbk)))
 all_goals
  have B9 := tRn BB HBc
  go_wp2
  go_ret
  exact ⟨rfl, by first | exact B9.out | exact below_drewN B9.out _ | exact B9.out.drew⟩
theorem InN.seek {N : Nr} (h : InN N) {k : ByteArray} (hk : k ∈ qaD N) : ∃ (j : Nat) (hj : j < N.sl.length), N.sl[j].used = true /\ N.sl[j].key = k /\ qcP N.ce N.od k = some (24 * N.sl[j].gen + (j : Int)) /\ AtA N.sl N.fr (24 * N.sl[j].gen + (j : Int)) j /\ -9223372036854775808 <= 24 * N.sl[j].gen + (j : Int) /\ 24 * N.sl[j].gen + (j : Int) <= 9223372036854775807 := by
 obtain ⟨j, hj, hu, hkj⟩ := h.inT.ent k hk
 have hS := h.inT.handle hj hu
 rw [hkj] at hS
 have hsl := h.inT.ar.slots j hj
 have hm := h.inT.ar.most
 exact ⟨j, hj, hu, hkj, by rw [h.od]; exact hS, h.inT.at hj hu, by have := hsl.1; omega, by have := hsl.2.1; omega⟩
theorem InN.okT {N : Nr} (h : InN N) : OkT N.ce N.od N.mv := by rw [h.od, h.mv]; exact qcG.2 h.inT.tb
theorem qjJ (ao : Option Addr) (l : List Sl) (ca : Nat) (f hd : Int) (w : World) (hl : l.length <= 1048576) (h1 : -9223372036854775808 <= hd) (h2 : hd <= 9223372036854775807) (hA : RdA w ao l) {j : Nat} (hj : j < l.length) (hat : AtA l f hd j) :
  Calls Tryz.prog 54 #[.agg #[.slice ao l.length ca, .int .i64 f], .int .i64 hd] w fun e w' => e = .returned (.tuple #[.string l[j].key, .string l[j].val, .bool true]) /\ Below w.heap.size w w' := by
 refine (qpY ao l ca f hd w hl h1 h2 hA).mono ?_
 rintro e w' ⟨⟨k, hk, rfl, ha⟩ | ⟨_, hn⟩, hb⟩
 ·obtain rfl : k = j := AtA.det ha hat
  exact ⟨rfl, hb⟩
 ·exact absurd hat (hn j)
theorem qiP {w : World} {A : NA} {N : Nr} (h : InN N) (hA : RdN w A N) :
  Calls Tryz.prog 10 #[neV A N] w fun e w' => e = .returned (.bool true) /\ Below w.heap.size w w' := by
 have hl := h.small
 have BX := hI (And.intro (show Blk (w.alloc (.cells (nA A N) 39)) w.heap.size 39 (neC A N) from Blk.new w 39 _) (bAl w (.cells (nA A N) 39)))
 have CP := hI (fun w' (hb : Below w.heap.size w w') => zdS A N w' hl (hA.later hb) h.inT.ar h.two h.okT (by rw [h.od]; rfl) h.len h.qw h.qt h.qs h.wm h.tm h.sm h.sk h.dr)
 have CK := hI (fun w' (hb : Below w.heap.size w w') => qhP (hA.later hb) h.qw.small h.qt.small h.qs.small)
 have CA := hI (fun w' (hb : Below w.heap.size w w') => qjL A.c A.o N.ce N.od A.cc A.oc N.mv w' hl.fc hl.fo (hA.fc.later hb) (hA.fo.later hb))
 have CU := hI (fun w' (hb : Below w.heap.size w w') => qpF A.a N.sl A.ac N.fr w' hl.fa (hA.fa.later hb))
 unfold tbV at CA
 unfold arV at CU
 unfold neV at CP CK
 have HE := hI (qtF h)
 have HL := hI (show (qbE (qaD N)).length = (qaD N).length /\ (qaD N).length <= 72 /\ OkA N.sl N.fr /\ qeN N.sl N.sl.length = (qaD N).length /\ OkT N.ce N.od N.mv from ⟨qcS _, by have := h.qw.small; have := h.qt.small; have := h.qs.small; simp only [qaD, List.length_append]; omega, h.inT.ar, h.inT.count h.nd, h.okT⟩)
 have HM := hI (show ∀ k ∈ qbE (qaD N), k ∈ qaD N from fun k hk => by
  obtain ⟨_, h2, _⟩ := qlW (qaD N) [] List.Pairwise.nil h.nd (fun x _ e => by cases e)
  rcases (h2 k).1 hk with hk | hk
  ·exact hk
  ·cases hk)
 have HI := hI h
 have HA := hI hA
 have HSM := hI hl
 generalize qbE (qaD N) = ks at *
 clear hA hl h
 unfold neV
 go_enter Tryz.func10, Tryz.ntmps10
 go_wp2_with fail
 generalize (w.alloc (.cells (nA A N) 39)) = w0 at BX ⊢
 obtain ⟨K0, B0⟩ := BX.out
 have K0 := hI K0
 have B0 := hI B0
 clear BX
 refine (CP.out w0 B0.out).mono ?_
 rintro e w1 ⟨rfl, hb1⟩
 have K1 := bRn K0 hb1
 have B1 := tRn B0 hb1
 clear hb1 CP K0 B0
 obtain ⟨_, v0, v1, v2, v3, v4, v5, v6, v7, v8, v9, v10, v11, v12, v13⟩ := qcR K1.out
 go_wp2_with fail
 refine (CK.out w1 B1.out).mono ?_
 rintro e w2 ⟨po, pc, rfl, ho2, hb2⟩
 have K2 := bRn K1 hb2
 have B2 := tRn B1 hb2
 have R2 := hI ho2.rd
 clear hb2 ho2 CK K1 B1 v0 v1 v2 v3 v4 v5 v6 v7 v8 v9 v10 v11 v12 v13
 have x2 : w2.cell? ⟨w.heap.size, 2, none⟩ = _ := cRn (K2.out.cell 2) rfl
 have x3 : w2.cell? ⟨w.heap.size, 3, none⟩ = _ := cRn (K2.out.cell 3) rfl
 have x4 : w2.cell? ⟨w.heap.size, 4, none⟩ = _ := cRn (K2.out.cell 4) rfl
 go_wp2_with fail
 refine (CA.out w2 B2.out).mono ?_
 rintro e w3 ⟨qo, al, qc, rfl, hks, ho3, hb3⟩
 obtain rfl : al = ks := (KeysA.det hks (.inl ⟨HL.out.2.2.2.2, rfl⟩)).trans HE.out.symm
 have K3 := bRn K2 hb3
 have B3 := tRn B2 hb3
 have R3 := hI (R2.out.later hb3)
 have Q3 := hI (show RdQ w3 qo al from qeV ho3)
 clear hb3 ho3 hks CA K2 B2 R2 x2 x3 x4 HE
 have x0 : w3.cell? ⟨w.heap.size, 0, none⟩ = _ := cRn (K3.out.cell 0) rfl
 have x1 : w3.cell? ⟨w.heap.size, 1, none⟩ = _ := cRn (K3.out.cell 1) rfl
 have qq : ((al.length : Int) != (al.length : Int)) = false := by simp
 have hal : al.length <= 72 := by have := HL.out.1; have := HL.out.2.1; omega
 have hal' : (al.length : Int) <= 72 := by omega
 go_wp2_with fail
 refine (CU.out w3 B3.out).mono ?_
 rintro e w4 ⟨⟨r, rfl, hr, _⟩, hb4⟩
 obtain rfl : r = al.length := (hr HL.out.2.2.1).trans (HL.out.2.2.2.1.trans HL.out.1.symm)
 have K4 := bRn K3 hb4
 have B4 := tRn B3 hb4
 have R4 := hI (R3.out.later hb4)
 have Q4 := hI (Q3.out.later hb4)
 clear hb4 hr CU K3 B3 R3 Q3 x0 x1
 go_wp2
 go_loopw [5] (fun iv wr => ∃ i : Nat, i <= al.length /\ iv = .int .i64 (i : Int) /\ Hid (Below w4.heap.size w4 wr)) (fun iv _ => al.length - (intOf iv).toNat)
 case atStart => exact ⟨0, by omega, rfl, Below.refl _ _⟩
 case round =>
  obtain ⟨i, hi, rfl, hbel⟩ := hrel
  by_cases hlt : i < al.length
  ·have k1 : (i : Int) < (al.length : Int) := by omega
   have K5 := K4.out.below hbel.out K4.out.lt
   have BW := hI (B4.out.trans (hbel.out.mono B4.out.size))
   have x0 : wr.cell? ⟨w.heap.size, 0, none⟩ = _ := cRn (K5.cell 0) rfl
   have x1 : wr.cell? ⟨w.heap.size, 1, none⟩ = _ := cRn (K5.cell 1) rfl
   have x2 : wr.cell? ⟨w.heap.size, 2, none⟩ = _ := cRn (K5.cell 2) rfl
   have x3 : wr.cell? ⟨w.heap.size, 3, none⟩ = _ := cRn (K5.cell 3) rfl
   have x4 : wr.cell? ⟨w.heap.size, 4, none⟩ = _ := cRn (K5.cell 4) rfl
   obtain ⟨pb, px, hpo, hpb, hpc⟩ := (R4.out.later hbel.out) i hlt
   obtain ⟨qb, qx, hqo, hqb, hqc⟩ := (Q4.out.later hbel.out) i hlt
   obtain ⟨j, hj, hu, hkj, hS, hat, hd1, hd2⟩ := HI.out.seek (HM.out _ (List.getElem_mem hlt))
   have hkq := HI.out.key (HM.out _ (List.getElem_mem hlt))
   generalize al[i] = x at *
   generalize 24 * N.sl[j].gen + (j : Int) = hd at *
   have CS := hI (fun w' (hb : Below w.heap.size w w') => qeI A.c A.o N.ce N.od A.cc A.oc N.mv x w' HSM.out.fc HSM.out.fo (by have := hkq.2; omega) (HA.out.fc.later hb) (HA.out.fo.later hb) HL.out.2.2.2.2 (qbD hkq) hS)
   have CLk := hI (fun w' (hb : Below w.heap.size w w') => qjJ A.a N.sl A.ac N.fr hd w' HSM.out.fa hd1 hd2 (HA.out.fa.later hb) hj hat)
   rw [hkj] at CLk
   unfold tbV at CS
   generalize N.sl[j].val = vv at *
   have HPO := hI hpo
   have HQO := hI hqo
   rw [hpo, hqo]
   clear hu hkj hS hat hkq hpo hqo K5
   go_wp2_with fail
   have hbx : w.heap.size < wr.heap.size := by have := K4.out.lt; have := hbel.out.size; omega
   go_region_held3 (fun w' => w'.cell? ⟨w.heap.size, 2, none⟩ = some (.slice A.c N.ce.length A.cc) /\ w'.cell? ⟨w.heap.size, 3, none⟩ = some (.slice A.o N.od.length A.oc) /\ w'.cell? ⟨w.heap.size, 4, none⟩ = some (.int .i64 N.mv) /\ w'.cell? ⟨pb, px + i, none⟩ = some (.string x)) (first | simp only [World.cell?_drew, x2, x3, x4, hpc, and_self] | simp only [z2, z3, z4, zp, and_self] | simp only [World.cell?_drew, z2, z3, z4, zp, and_self]) ((go_at_call 39; refine (CS.out _ (BW.out.trans (show Below w.heap.size wr _ by go_grown))).mono ?_; rintro e w5 ⟨rfl, hb5⟩; have D5 : Hid (Below wr.heap.size wr w5) := (show Below wr.heap.size wr _ by go_grown).trans (hb5.mono (by go_size)); clear hb5; have z2 : w5.cell? ⟨w.heap.size, 2, none⟩ = some (.slice A.c N.ce.length A.cc) := (D5.out.cell hbx).trans x2; have z3 : w5.cell? ⟨w.heap.size, 3, none⟩ = some (.slice A.o N.od.length A.oc) := (D5.out.cell hbx).trans x3; have z4 : w5.cell? ⟨w.heap.size, 4, none⟩ = some (.int .i64 N.mv) := (D5.out.cell hbx).trans x4; have zp : w5.cell? ⟨pb, px + i, none⟩ = some (.string x) := (D5.out.cell hpb).trans hpc))
   have y0 : w5.cell? ⟨w.heap.size, 0, none⟩ = some (.slice A.a N.sl.length A.ac) := (D5.out.cell hbx).trans x0
   have y1 : w5.cell? ⟨w.heap.size, 1, none⟩ = some (.int .i64 N.fr) := (D5.out.cell hbx).trans x1
   have zq : w5.cell? ⟨qb, qx + i, none⟩ = some (.string x) := (D5.out.cell hqb).trans hqc
   have BW5 := hI (BW.out.trans (D5.out.mono BW.out.size))
   have hpb5 : pb < w5.heap.size := by have := D5.out.size; omega
   have hqb5 : qb < w5.heap.size := by have := D5.out.size; omega
   clear z2 z3 z4 x0 x1 x2 x3 x4 hpc hqc CS
   go_wp2_with fail
   refine (CLk.out w5 BW5.out).mono ?_
   rintro e w6 ⟨rfl, hb6⟩
   have zp6 : w6.cell? ⟨pb, px + i, none⟩ = some (.string x) := (hb6.cell hpb5).trans zp
   have zq6 : w6.cell? ⟨qb, qx + i, none⟩ = some (.string x) := (hb6.cell hqb5).trans zq
   have D6 := hI (hbel.out.trans ((D5.out.trans (hb6.mono D5.out.size)).mono hbel.out.size))
   have qx2 : (x.toList != x.toList) = false := by simp
   clear zp zq y0 y1 CLk hb6 D5 BW5 BW hbel
   go_wp2_with fail
   go_quiet (fail)
   all_goals go_wp2
   all_goals go_roundw
   case rel => exact ⟨i + 1, by omega, by go_num, by have := D6.out; first | exact this | exact this.drew | exact below_drewN this _⟩
   case measure => simp [intOf]; omega
  ·obtain rfl : i = al.length := by omega
   have hb2 := hI (B4.out.trans (hbel.out.mono B4.out.size))
   go_wp2
   go_ret
   exact ⟨rfl, hb2.out⟩
theorem VaN.box {B S : Nat} {A : NA} {N : Nr} {w1 w2 : World} (ho : OwnN w1 S A N) (hB : B <= S) (hs : S <= w1.heap.size) (hv : Blk w2 w1.heap.size 39 (neC A N)) (hb : Below w1.heap.size w1 w2) : VaN w2 w1.heap.size B A N :=
 ⟨hv, (ho.later hb).base hB, fun v hv2 g hg e => by have := (ho.lt v hv2 g hg).2; omega, by have := hb.size; omega, hv.lt⟩
theorem qfE (ao a' : Option Addr) (l o : List Ce) (ca ca' : Nat) (mv : Int) (key : ByteArray) (w : World) (hl : l.length <= 1048576) (hl' : o.length <= 1048576) (hk : key.size <= 1048576) (hA : RdC w ao l) (hA' : RdC w a' o) (hn : ¬ (key.toList ≠ [] /\ ∃ x, qcP l o key = some x)) :
  Calls Tryz.prog 39 #[.agg #[.slice ao l.length ca, .slice a' o.length ca', .int .i64 mv], .string key] w fun e w' => e = .returned (.tuple #[.int .i64 0, .bool false]) /\ Below w.heap.size w w' := by
 refine (qdZ ao a' l o ca ca' mv key w hl hl' hk hA hA').mono ?_
 rintro e w' ⟨h, t, rfl, ha, hb⟩
 rcases ha with ⟨rfl, _, h1, h2⟩ | ⟨rfl, rfl, _⟩
 ·exact absurd ⟨h1, _, h2⟩ hn
 ·exact ⟨rfl, hb⟩
theorem InN.noSeek {N : Nr} (h : InN N) {k : ByteArray} (hk : ¬ k ∈ qaD N) : ¬ (k.toList ≠ [] /\ ∃ x, qcP N.ce N.od k = some x) := by
 rintro ⟨h0, x, hx⟩
 rw [h.od, h.inT.none h0 hk] at hx
 cases hx
theorem wantS {w : World} {A : NA} {N : Nr} (h : InN N) (hA : RdN w A N) (k : ByteArray) (hk : qcV k) :
  Calls Tryz.prog 20 #[neV A N, .string k] w fun e w' => ∃ A' v t, e = .returned (.tuple #[neV A' (wantN N k), .string v, .bool t]) /\ ((k ∈ qaD N /\ t = true /\ qkI N.sl k v) ∨ (¬ k ∈ qaD N /\ t = false /\ v = ⟨#[]⟩)) /\ OwnN w' w.heap.size A' (wantN N k) /\ Below w.heap.size w w' := by
 have hl := h.small
 have F0 := hI (qdI w (nA A N) nZ 39 39)
 have C1 := hI (fun w' (hb : Below w.heap.size w w') => qoV h (hA.later hb))
 have C2 := hI (fun w' (hb : Below w.heap.size w w') => qiP h (hA.later hb))
 have C3 := hI (fun w' r A1 (V : VaN w' r (w.heap.size + 2) A1 N) => qeA V hl k (by have := hk.2; omega))
 have CI : Hid (∀ w', Calls Tryz.prog 36 #[.int .i64 (k.size : Int), .int .i64 1, .int .i64 12] w' fun e w'' => e = .returned (.bool true) /\ w'' = w') := by
  show ∀ w', _
  intro w'
  refine (qdP (k.size : Int) 1 12 w').mono ?_
  rintro e w'' ⟨rfl, hw⟩
  exact ⟨by rw [show (decide ((1 : Int) <= (k.size : Int)) && decide ((k.size : Int) <= 12)) = true by have := hk.1; have := hk.2; simp; omega], hw.symm⟩
 unfold neV at C1 C2
 have HI := hI h
 have HC := hI (h.cn k)
 have HKq := hI hk
 have hks : (k.size : Int) <= 12 := by have := hk.2; omega
 have HU : Hid ((qaD (cnN N k)) = qaD N /\ (cnN N k).sl = N.sl) := ⟨qcD N k, (qiG N k).1⟩
 have HW := hI (show wantN N k = if qeG (qaD N) k = true then qdR (cnN N k) k else cnN N k from rfl)
 generalize wantN N k = M at *
 generalize cnN N k = N3 at *
 clear hA hl h hk
 unfold neV
 go_enter Tryz.func20, Tryz.ntmps20
 go_wp2_with fail
 generalize ((w.alloc (.cells (nA A N) 39)).alloc (.cells nZ 39)) = w0 at F0 ⊢
 obtain ⟨P0, R0, B0⟩ := F0.out
 have P0 := hI P0
 have R0 := hI R0
 have B0 := hI B0
 have sz0 : w.heap.size + 2 <= w0.heap.size := by have := R0.out.lt; omega
 clear F0
 refine (C1.out w0 B0.out).mono ?_
 rintro e w1 ⟨A1, rfl, ho1, hb1⟩
 have P1 := bRn P0 hb1
 have R1 := bRn R0 hb1
 have B1 := tRn B0 hb1
 have O1 := hI ho1
 have z1 : w0.heap.size <= w1.heap.size := hb1.size
 clear hb1 ho1 C1 P0 R0 B0
 have E2 := hI (fun o1 => C2.out (w1.alloc o1) (B1.out.trans ((bAl w1 o1).mono B1.out.size)))
 obtain ⟨_, v0, v1, v2, v3, v4, v5, v6, v7, v8, v9, v10, v11, v12, v13⟩ := qcR P1.out
 go_wp2_with fail
 refine (E2.out _).mono ?_
 rintro e w2 ⟨rfl, hb2⟩
 obtain ⟨vx2, b12, _⟩ := qzN hb2
 have V2 := hI (VaN.box (B := w.heap.size + 2) O1.out (by omega) z1 vx2 b12)
 have R2 := bRn R1 b12
 have B2 := tRn B1 b12
 have hr : w.heap.size + 1 < w1.heap.size := by omega
 clear vx2 b12 hb2 E2 C2 O1 P1 R1 B1 v0 v1 v2 v3 v4 v5 v6 v7 v8 v9 v10 v11 v12 v13
 generalize w1.heap.size = r at *
 go_wp2_with fail
 refine (CI.out _).mono ?_
 rintro e w2' ⟨rfl, hw2⟩
 have hw2 := hw2.symm
 subst hw2
 clear CI
 go_wp2_with fail
 refine (C3.out w2 r A1 V2.out).mono ?_
 rintro e w3 ⟨rfl, A3, hv3, hg3⟩
 have V3 := hI hv3
 have R3 := hI (qlV hg3 R2.out (fun e => by injection e; omega))
 have B3 := hI (B2.out.trans (qaU hg3 (fun g e => by injection e; omega) B2.out.size))
 clear hv3 hg3 C3 V2 R2 B2
 have x2 : w3.cell? ⟨r, 2, none⟩ = _ := cRn (V3.out.cell 2) rfl
 have x3 : w3.cell? ⟨r, 3, none⟩ = _ := cRn (V3.out.cell 3) rfl
 have x4 : w3.cell? ⟨r, 4, none⟩ = _ := cRn (V3.out.cell 4) rfl
 have hl3 := HC.out.small
 by_cases hin : k ∈ qaD N
 ·have HIN := hI hin
  obtain ⟨j, hj, hu, hkj, hS, hat, hd1, hd2⟩ := HC.out.seek (k := k) (by rw [HU.out.1]; exact hin)
  have C4 := hI (qeI A3.c A3.o N3.ce N3.od A3.cc A3.oc N3.mv k w3 hl3.fc hl3.fo (by have := HKq.out.2; omega) V3.out.own.rd.fc V3.out.own.rd.fo HC.out.okT (qbD HKq.out) hS)
  unfold tbV at C4
  have HV := hI (show qkI N.sl k N3.sl[j].val by rw [<- HU.out.2]; exact ⟨j, hj, hu, hkj, rfl⟩)
  have C5 := hI (fun w' A4 (V : VaN w' r (w.heap.size + 2) A4 N3) => qkW V HC.out hl3 k (by rw [HU.out.1]; exact HIN.out))
  have hTs := hI (And.intro (qhK N3 k).1 (qhK N3 k).2.1)
  have HM : Hid (M = qdR N3 k) := by show M = _; rw [HW.out, if_pos ((qaF _ _).2 hin)]
  have HTI := hI (HC.out.tch (k := k) (by rw [HU.out.1]; exact hin)).1
  have C6 := hI (fun w' A5 (V : VaN w' r (w.heap.size + 2) A5 (qdR N3 k)) => qjJ A5.a N3.sl A5.ac N3.fr (24 * N3.sl[j].gen + (j : Int)) w' hl3.fa hd1 hd2 (by have h9 := V.own.rd.fa; rw [hTs.out.1] at h9; exact h9) hj hat)
  generalize qdR N3 k = N5 at *
  generalize 24 * N3.sl[j].gen + (j : Int) = hd at *
  generalize N3.sl[j].val = vv at *
  generalize N3.sl[j].key = kk at *
  clear hin hu hkj hS hat
  go_wp2_with fail
  refine C4.out.mono ?_
  rintro e w4 ⟨rfl, hb4⟩
  have V4 := hI (V3.out.later hb4)
  have R4 := bRn R3 hb4
  have B4 := tRn B3 hb4
  clear hb4 C4 V3 R3 B3 x2 x3 x4
  go_wp2_with fail
  refine (C5.out w4 A3 V4.out).mono ?_
  rintro e w5 ⟨rfl, A5, hv5, hg5⟩
  have V5 := hI hv5
  have R5 := hI (qlV hg5 R4.out (fun e => by injection e; omega))
  have B5 := hI (B4.out.trans (qaU hg5 (fun g e => by injection e; omega) B4.out.size))
  have C7 := hI (C6.out w5 A5 hv5)
  clear hv5 hg5 C5 C6 V4 R4 B4
  have x0 : w5.cell? ⟨r, 0, none⟩ = _ := cRn (V5.out.cell 0) rfl
  have x1 : w5.cell? ⟨r, 1, none⟩ = _ := cRn (V5.out.cell 1) rfl
  rw [hTs.out.1] at x0
  rw [hTs.out.2] at x1
  go_wp2_with fail
  refine C7.out.mono ?_
  rintro e w6 ⟨rfl, hb6⟩
  have V6 := hI (V5.out.later hb6)
  have R6 := bRn R5 hb6
  have BW := tRn B5 hb6
  clear hb6 C7 V5 R5 B5 x0 x1
  obtain ⟨_, v0, v1, v2, v3, v4, v5, v6, v7, v8, v9, v10, v11, v12, v13⟩ := qcR V6.out.var
  have u0 : w6.cell? ⟨w.heap.size + 1, 0, none⟩ = _ := cRn (R6.out.cell 0) rfl
  have u1 : w6.cell? ⟨w.heap.size + 1, 1, none⟩ = _ := cRn (R6.out.cell 1) rfl
  have u2 : w6.cell? ⟨w.heap.size + 1, 2, none⟩ = _ := cRn (R6.out.cell 2) rfl
  have u3 : w6.cell? ⟨w.heap.size + 1, 3, none⟩ = _ := cRn (R6.out.cell 3) rfl
  have u4 : w6.cell? ⟨w.heap.size + 1, 4, none⟩ = _ := cRn (R6.out.cell 4) rfl
  have u5 : w6.cell? ⟨w.heap.size + 1, 5, none⟩ = _ := cRn (R6.out.cell 5) rfl
  have u6 : w6.cell? ⟨w.heap.size + 1, 6, none⟩ = _ := cRn (R6.out.cell 6) rfl
  have u7 : w6.cell? ⟨w.heap.size + 1, 7, none⟩ = _ := cRn (R6.out.cell 7) rfl
  have u8 : w6.cell? ⟨w.heap.size + 1, 8, none⟩ = _ := cRn (R6.out.cell 8) rfl
  have u9 : w6.cell? ⟨w.heap.size + 1, 9, none⟩ = _ := cRn (R6.out.cell 9) rfl
  have u10 : w6.cell? ⟨w.heap.size + 1, 10, none⟩ = _ := cRn (R6.out.cell 10) rfl
  have u11 : w6.cell? ⟨w.heap.size + 1, 11, none⟩ = _ := cRn (R6.out.cell 11) rfl
  have u12 : w6.cell? ⟨w.heap.size + 1, 12, none⟩ = _ := cRn (R6.out.cell 12) rfl
  have u13 : w6.cell? ⟨w.heap.size + 1, 13, none⟩ = _ := cRn (R6.out.cell 13) rfl
  have uf (j) : w6.frozen? ⟨w.heap.size + 1, j, none⟩ = false := R6.out.froz j
  have HH := hI (Blk.set (Blk.set (Blk.set (Blk.set (Blk.set (Blk.set (Blk.set (Blk.set (Blk.set (Blk.set (Blk.set (Blk.set (Blk.set (Blk.set (R6.out) 0 (.slice A5.a N5.sl.length A5.ac)) 1 (.int .i64 N5.fr)) 2 (.slice A5.c N5.ce.length A5.cc)) 3 (.slice A5.o N5.od.length A5.oc)) 4 (.int .i64 N5.mv)) 5 (.int .i64 N5.wm)) 6 (.slice A5.w N5.w.length A5.wc)) 7 (.int .i64 N5.tm)) 8 (.slice A5.t N5.t.length A5.tc)) 9 (.int .i64 N5.sm)) 10 (.slice A5.s N5.s.length A5.sc)) 11 (.slice A5.k N5.sk.length A5.kc)) 12 (.int .i64 N5.ad)) 13 (.int .i64 N5.dr))
  have OX := hI (OwnN.put14 (s := w.heap.size + 1) V6.out.own (by omega) (.slice A5.a N5.sl.length A5.ac) (.int .i64 N5.fr) (.slice A5.c N5.ce.length A5.cc) (.slice A5.o N5.od.length A5.oc) (.int .i64 N5.mv) (.int .i64 N5.wm) (.slice A5.w N5.w.length A5.wc) (.int .i64 N5.tm) (.slice A5.t N5.t.length A5.tc) (.int .i64 N5.sm) (.slice A5.s N5.s.length A5.sc) (.slice A5.k N5.sk.length A5.kc) (.int .i64 N5.ad) (.int .i64 N5.dr))
  have BX := hI (qaM (s := w.heap.size + 1) BW.out (by omega) (.slice A5.a N5.sl.length A5.ac) (.int .i64 N5.fr) (.slice A5.c N5.ce.length A5.cc) (.slice A5.o N5.od.length A5.oc) (.int .i64 N5.mv) (.int .i64 N5.wm) (.slice A5.w N5.w.length A5.wc) (.int .i64 N5.tm) (.slice A5.t N5.t.length A5.tc) (.int .i64 N5.sm) (.slice A5.s N5.s.length A5.sc) (.slice A5.k N5.sk.length A5.kc) (.int .i64 N5.ad) (.int .i64 N5.dr))
  go_wp2
  refine bodyPost_ret (qeO Tryz.results20 _ _ (w.heap.size + 1) 39 (nA A5 N5) (0, 0) _ rfl HH.out Tryz.underlying39 rfl (by kernel_rfl)) rfl ?_
  rw [HM.out]
  exact ⟨A5, vv, true, rfl, .inl ⟨HIN.out, rfl, HV.out⟩, OX.out.base (by omega), BX.out⟩
 ·have HM : Hid (M = N3) := by show M = _; rw [HW.out, if_neg (fun e => hin ((qaF _ _).1 e))]
  have C4 := hI (qfE A3.c A3.o N3.ce N3.od A3.cc A3.oc N3.mv k w3 hl3.fc hl3.fo (by have := HKq.out.2; omega) V3.out.own.rd.fc V3.out.own.rd.fo (HC.out.noSeek (by rw [HU.out.1]; exact hin)))
  have HIN := hI hin
  clear hin
  go_wp2_with fail
  refine C4.out.mono ?_
  rintro e w4 ⟨rfl, hb4⟩
  have V4 := hI (V3.out.later hb4)
  have R4 := bRn R3 hb4
  have BW := tRn B3 hb4
  clear hb4 C4 V3 R3 B3 x2 x3 x4
  obtain ⟨_, v0, v1, v2, v3, v4, v5, v6, v7, v8, v9, v10, v11, v12, v13⟩ := qcR V4.out.var
  have u0 : w4.cell? ⟨w.heap.size + 1, 0, none⟩ = _ := cRn (R4.out.cell 0) rfl
  have u1 : w4.cell? ⟨w.heap.size + 1, 1, none⟩ = _ := cRn (R4.out.cell 1) rfl
  have u2 : w4.cell? ⟨w.heap.size + 1, 2, none⟩ = _ := cRn (R4.out.cell 2) rfl
  have u3 : w4.cell? ⟨w.heap.size + 1, 3, none⟩ = _ := cRn (R4.out.cell 3) rfl
  have u4 : w4.cell? ⟨w.heap.size + 1, 4, none⟩ = _ := cRn (R4.out.cell 4) rfl
  have u5 : w4.cell? ⟨w.heap.size + 1, 5, none⟩ = _ := cRn (R4.out.cell 5) rfl
  have u6 : w4.cell? ⟨w.heap.size + 1, 6, none⟩ = _ := cRn (R4.out.cell 6) rfl
  have u7 : w4.cell? ⟨w.heap.size + 1, 7, none⟩ = _ := cRn (R4.out.cell 7) rfl
  have u8 : w4.cell? ⟨w.heap.size + 1, 8, none⟩ = _ := cRn (R4.out.cell 8) rfl
  have u9 : w4.cell? ⟨w.heap.size + 1, 9, none⟩ = _ := cRn (R4.out.cell 9) rfl
  have u10 : w4.cell? ⟨w.heap.size + 1, 10, none⟩ = _ := cRn (R4.out.cell 10) rfl
  have u11 : w4.cell? ⟨w.heap.size + 1, 11, none⟩ = _ := cRn (R4.out.cell 11) rfl
  have u12 : w4.cell? ⟨w.heap.size + 1, 12, none⟩ = _ := cRn (R4.out.cell 12) rfl
  have u13 : w4.cell? ⟨w.heap.size + 1, 13, none⟩ = _ := cRn (R4.out.cell 13) rfl
  have uf (j) : w4.frozen? ⟨w.heap.size + 1, j, none⟩ = false := R4.out.froz j
  have HH := hI (Blk.set (Blk.set (Blk.set (Blk.set (Blk.set (Blk.set (Blk.set (Blk.set (Blk.set (Blk.set (Blk.set (Blk.set (Blk.set (Blk.set (R4.out) 0 (.slice A3.a N3.sl.length A3.ac)) 1 (.int .i64 N3.fr)) 2 (.slice A3.c N3.ce.length A3.cc)) 3 (.slice A3.o N3.od.length A3.oc)) 4 (.int .i64 N3.mv)) 5 (.int .i64 N3.wm)) 6 (.slice A3.w N3.w.length A3.wc)) 7 (.int .i64 N3.tm)) 8 (.slice A3.t N3.t.length A3.tc)) 9 (.int .i64 N3.sm)) 10 (.slice A3.s N3.s.length A3.sc)) 11 (.slice A3.k N3.sk.length A3.kc)) 12 (.int .i64 N3.ad)) 13 (.int .i64 N3.dr))
  have OX := hI (OwnN.put14 (s := w.heap.size + 1) V4.out.own (by omega) (.slice A3.a N3.sl.length A3.ac) (.int .i64 N3.fr) (.slice A3.c N3.ce.length A3.cc) (.slice A3.o N3.od.length A3.oc) (.int .i64 N3.mv) (.int .i64 N3.wm) (.slice A3.w N3.w.length A3.wc) (.int .i64 N3.tm) (.slice A3.t N3.t.length A3.tc) (.int .i64 N3.sm) (.slice A3.s N3.s.length A3.sc) (.slice A3.k N3.sk.length A3.kc) (.int .i64 N3.ad) (.int .i64 N3.dr))
  have BX := hI (qaM (s := w.heap.size + 1) BW.out (by omega) (.slice A3.a N3.sl.length A3.ac) (.int .i64 N3.fr) (.slice A3.c N3.ce.length A3.cc) (.slice A3.o N3.od.length A3.oc) (.int .i64 N3.mv) (.int .i64 N3.wm) (.slice A3.w N3.w.length A3.wc) (.int .i64 N3.tm) (.slice A3.t N3.t.length A3.tc) (.int .i64 N3.sm) (.slice A3.s N3.s.length A3.sc) (.slice A3.k N3.sk.length A3.kc) (.int .i64 N3.ad) (.int .i64 N3.dr))
  go_wp2
  refine bodyPost_ret (qeO Tryz.results20 _ _ (w.heap.size + 1) 39 (nA A3 N3) (0, 0) _ rfl HH.out Tryz.underlying39 rfl (by kernel_rfl)) rfl ?_
  rw [HM.out]
  exact ⟨A3, ⟨#[]⟩, false, rfl, .inr ⟨HIN.out, rfl, rfl⟩, OX.out.base (by omega), BX.out⟩
end Go.Proofs.YtigpjmmfelndkaaGreatDoor
