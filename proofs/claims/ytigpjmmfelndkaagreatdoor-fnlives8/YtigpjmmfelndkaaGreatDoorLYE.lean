import Derived.Sort.Walk0
import Derived.Test.YtigpjmmfelndkaaGreatDoorLYC
import Derived.Test.YtigpjmmfelndkaaGreatDoorLYB
import Derived.Test.YtigpjmmfelndkaaGreatDoorLXRI
import Derived.Test.YtigpjmmfelndkaaGreatDoorLXQI
import Derived.Test.YtigpjmmfelndkaaGreatDoorLSls
namespace Go.Proofs.YtigpjmmfelndkaaGreatDoor
open Go.RowKit
set_option linter.unusedVariables false
set_option maxRecDepth 100000
set_option maxHeartbeats 4000000
structure CapN (A : NA) (N : Nr) : Prop where
 w1 : N.w.length <= A.wc
 w2 : A.wc <= maxLen
 t1 : N.t.length <= A.tc
 t2 : A.tc <= maxLen
 s1 : N.s.length <= A.sc
 s2 : A.sc <= maxLen
theorem OwnN.caps {w : World} {B : Nat} {A : NA} {N : Nr} (h : OwnN w B A N) : CapN A N := ⟨h.fw.cap.1, h.fw.cap.2, h.ft.cap.1, h.ft.cap.2, h.fs.cap.1, h.fs.cap.2⟩
theorem InN.small {N : Nr} (h : InN N) : SmN N := by
 have h1 := h.inT.ar.most
 have h2 := qsF N.sl.length
 have h6 := h.qw.small
 have h7 := h.qt.small
 have h8 := h.qs.small
 have h9 := h.len
 have h10 := h.od
 have h11 := h.sk.1
 exact ⟨by omega, by omega, by rw [h10]; simp, by omega, by omega, by omega, by omega⟩
theorem zdT {w : World} {A : NA} {N : Nr} (h : InN N) (hA : RdN w A N) (hc : CapN A N) :
  Calls Tryz.prog 48 #[neV A N] w fun e w' => e = .returned (.bool true) /\ Below w.heap.size w w' := by
 have hl := h.small
 have BX := hI (And.intro (show Blk (w.alloc (.cells (nA A N) 39)) w.heap.size 39 (neC A N) from Blk.new w 39 _) (bAl w (.cells (nA A N) 39)))
 have C0 : Hid (∀ w', Below w.heap.size w w' -> Calls Tryz.prog 102 #[.agg #[.slice A.a N.sl.length A.ac, .int .i64 N.fr]] w' fun e w'' => e = .returned (.bool true) /\ Below w'.heap.size w' w'') := by
  show ∀ w', _
  intro w' hb
  refine (qvX A.a N.sl A.ac N.fr w' hl.fa (hA.fa.later hb)).mono ?_
  rintro e w'' ⟨x, rfl, hx, hb2⟩
  exact ⟨by rw [hx.2 h.inT.ar], hb2⟩
 have C1 : Hid (∀ w', Below w.heap.size w w' -> Calls Tryz.prog 103 #[.agg #[.slice A.c N.ce.length A.cc, .slice A.o N.od.length A.oc, .int .i64 N.mv]] w' fun e w'' => e = .returned (.bool true) /\ Below w'.heap.size w' w'') := by
  show ∀ w', _
  intro w' hb
  refine (qtG A.c A.o N.ce N.od A.cc A.oc N.mv w' hl.fc hl.fo (hA.fc.later hb).toJ (hA.fo.later hb).toJ).mono ?_
  rintro e w'' ⟨x, rfl, hx, hb2⟩
  exact ⟨by rw [hx.2 (by rw [h.od, h.mv]; exact qcG.2 h.inT.tb)], hb2⟩
 have C2 : Hid (∀ w', Below w.heap.size w w' -> Calls Tryz.prog 104 #[.agg #[.int .i64 N.wm, .slice A.w N.w.length A.wc]] w' fun e w'' => e = .returned (.bool true) /\ Below w'.heap.size w' w'') := by
  show ∀ w', _
  intro w' hb
  refine (qdF A.w N.w A.wc N.wm w' hl.fw hc.w1 hc.w2 (hA.fw.later hb)).mono ?_
  rintro e w'' ⟨x, rfl, hx, hb2⟩
  exact ⟨by rw [hx.2 h.qw], hb2⟩
 have C3 : Hid (∀ w', Below w.heap.size w w' -> Calls Tryz.prog 104 #[.agg #[.int .i64 N.tm, .slice A.t N.t.length A.tc]] w' fun e w'' => e = .returned (.bool true) /\ Below w'.heap.size w' w'') := by
  show ∀ w', _
  intro w' hb
  refine (qdF A.t N.t A.tc N.tm w' hl.ft hc.t1 hc.t2 (hA.ft.later hb)).mono ?_
  rintro e w'' ⟨x, rfl, hx, hb2⟩
  exact ⟨by rw [hx.2 h.qt], hb2⟩
 have C4 : Hid (∀ w', Below w.heap.size w w' -> Calls Tryz.prog 104 #[.agg #[.int .i64 N.sm, .slice A.s N.s.length A.sc]] w' fun e w'' => e = .returned (.bool true) /\ Below w'.heap.size w' w'') := by
  show ∀ w', _
  intro w' hb
  refine (qdF A.s N.s A.sc N.sm w' hl.fs hc.s1 hc.s2 (hA.fs.later hb)).mono ?_
  rintro e w'' ⟨x, rfl, hx, hb2⟩
  exact ⟨by rw [hx.2 h.qs], hb2⟩
 have C5 : Hid (∀ w', Below w.heap.size w w' -> Calls Tryz.prog 105 #[.agg #[.slice A.k N.sk.length A.kc, .int .i64 N.ad]] w' fun e w'' => e = .returned (.bool true) /\ Below w'.heap.size w' w'') := by
  show ∀ w', _
  intro w' hb
  refine (qtI A.k N.sk A.kc N.ad w' (hA.fk.later hb)).mono ?_
  rintro e w'' ⟨x, rfl, hx, hb2⟩
  exact ⟨by rw [hx.2 h.sk], hb2⟩
 have C6 : Hid (∀ w', Calls Tryz.prog 106 #[.agg #[.int .i64 N.dr]] w' fun e w'' => e = .returned (.bool true) /\ Below w'.heap.size w' w'') := by
  show ∀ w', _
  intro w'
  refine (qeQ N.dr w').mono ?_
  rintro e w'' ⟨rfl, hb2⟩
  exact ⟨by rw [h.dr], hb2⟩
 clear hA hc hl h
 unfold neV
 go_enter Tryz.func48, Tryz.ntmps48
 go_wp2_with fail
 generalize (w.alloc (.cells (nA A N) 39)) = w0 at BX ⊢
 obtain ⟨K0, B0⟩ := BX.out
 have K0 := hI K0
 have B0 := hI B0
 clear BX
 refine (C0.out w0 B0.out).mono ?_
 rintro e w1 ⟨rfl, hb1⟩
 have K1 := bRn K0 hb1
 have B1 := tRn B0 hb1
 clear hb1 C0 K0 B0
 have x2 : w1.cell? ⟨w.heap.size, 2, none⟩ = _ := cRn (K1.out.cell 2) rfl
 have x3 : w1.cell? ⟨w.heap.size, 3, none⟩ = _ := cRn (K1.out.cell 3) rfl
 have x4 : w1.cell? ⟨w.heap.size, 4, none⟩ = _ := cRn (K1.out.cell 4) rfl
 go_wp2_with fail
 refine (C1.out w1 B1.out).mono ?_
 rintro e w2 ⟨rfl, hb2⟩
 have K2 := bRn K1 hb2
 have B2 := tRn B1 hb2
 clear hb2 C1 K1 B1 x2 x3 x4
 have x5 : w2.cell? ⟨w.heap.size, 5, none⟩ = _ := cRn (K2.out.cell 5) rfl
 have x6 : w2.cell? ⟨w.heap.size, 6, none⟩ = _ := cRn (K2.out.cell 6) rfl
 go_wp2_with fail
 refine (C2.out w2 B2.out).mono ?_
 rintro e w3 ⟨rfl, hb3⟩
 have K3 := bRn K2 hb3
 have B3 := tRn B2 hb3
 clear hb3 C2 K2 B2 x5 x6
 have x7 : w3.cell? ⟨w.heap.size, 7, none⟩ = _ := cRn (K3.out.cell 7) rfl
 have x8 : w3.cell? ⟨w.heap.size, 8, none⟩ = _ := cRn (K3.out.cell 8) rfl
 go_wp2_with fail
 refine (C3.out w3 B3.out).mono ?_
 rintro e w4 ⟨rfl, hb4⟩
 have K4 := bRn K3 hb4
 have B4 := tRn B3 hb4
 clear hb4 C3 K3 B3 x7 x8
 have x9 : w4.cell? ⟨w.heap.size, 9, none⟩ = _ := cRn (K4.out.cell 9) rfl
 have x10 : w4.cell? ⟨w.heap.size, 10, none⟩ = _ := cRn (K4.out.cell 10) rfl
 go_wp2_with fail
 refine (C4.out w4 B4.out).mono ?_
 rintro e w5 ⟨rfl, hb5⟩
 have K5 := bRn K4 hb5
 have B5 := tRn B4 hb5
 clear hb5 C4 K4 B4 x9 x10
 have x11 : w5.cell? ⟨w.heap.size, 11, none⟩ = _ := cRn (K5.out.cell 11) rfl
 have x12 : w5.cell? ⟨w.heap.size, 12, none⟩ = _ := cRn (K5.out.cell 12) rfl
 go_wp2_with fail
 refine (C5.out w5 B5.out).mono ?_
 rintro e w6 ⟨rfl, hb6⟩
 have K6 := bRn K5 hb6
 have B6 := tRn B5 hb6
 clear hb6 C5 K5 B5 x11 x12
 have x13 : w6.cell? ⟨w.heap.size, 13, none⟩ = _ := cRn (K6.out.cell 13) rfl
 go_wp2_with fail
 refine (C6.out w6).mono ?_
 rintro e w7 ⟨rfl, hb7⟩
 have K7 := bRn K6 hb7
 have B7 := tRn B6 hb7
 clear hb7 C6 K6 B6 x13
 go_wp2
 go_ret
 exact ⟨rfl, B7.out⟩
theorem zdM {w : World} {A : NA} {N : Nr} (h : InN N) :
  Calls Tryz.prog 49 #[neV A N] w fun e w' => e = .returned (.bool true) /\ Below w.heap.size w w' := by
 have hn := h.inT.ar.most
 have CS := hI (fun w' => qiB N.sl.length w' h.two hn)
 have hod : N.od.length = 0 := by rw [h.od]; rfl
 have hcl := qsF N.sl.length
 unfold neV
 rw [hod, h.len, h.wm, h.tm, h.sm]
 clear h hod
 generalize qaN N.sl.length = cn at *
 generalize qdD N.sl.length = mw at *
 generalize qeF N.sl.length = mt at *
 generalize qdO N.sl.length = ms at *
 have F0 := hI (qdI w #[.slice A.a N.sl.length A.ac, .int .i64 N.fr, .slice A.c cn A.cc, .slice A.o 0 A.oc, .int .i64 N.mv, .int .i64 (mw : Int), .slice A.w N.w.length A.wc, .int .i64 (mt : Int), .slice A.t N.t.length A.tc, .int .i64 (ms : Int), .slice A.s N.s.length A.sc, .slice A.k N.sk.length A.kc, .int .i64 N.ad, .int .i64 N.dr] #[.int .i64 (cn : Int), .int .i64 (mw : Int), .int .i64 (mt : Int), .int .i64 (ms : Int)] 39 102)
 go_enter Tryz.func49, Tryz.ntmps49
 go_wp2_with fail
 generalize ((w.alloc (.cells #[.slice A.a N.sl.length A.ac, .int .i64 N.fr, .slice A.c cn A.cc, .slice A.o 0 A.oc, .int .i64 N.mv, .int .i64 (mw : Int), .slice A.w N.w.length A.wc, .int .i64 (mt : Int), .slice A.t N.t.length A.tc, .int .i64 (ms : Int), .slice A.s N.s.length A.sc, .slice A.k N.sk.length A.kc, .int .i64 N.ad, .int .i64 N.dr] 39)).alloc (.cells #[.int .i64 (cn : Int), .int .i64 (mw : Int), .int .i64 (mt : Int), .int .i64 (ms : Int)] 102)) = w2 at F0 ⊢
 obtain ⟨K2, S2, B2⟩ := F0.out
 have K2 := hI K2
 have S2 := hI S2
 have B2 := hI B2
 clear F0
 have hs0 : w.heap.size < w2.heap.size := K2.out.lt
 have hs1 : w.heap.size + 1 < w2.heap.size := S2.out.lt
 have x0 : w2.cell? ⟨w.heap.size, 0, none⟩ = _ := cRn (K2.out.cell 0) rfl
 have x1 : w2.cell? ⟨w.heap.size, 3, none⟩ = _ := cRn (K2.out.cell 3) rfl
 have x2 : w2.cell? ⟨w.heap.size + 1, 0, none⟩ = _ := cRn (S2.out.cell 0) rfl
 have x3 : w2.cell? ⟨w.heap.size + 1, 1, none⟩ = _ := cRn (S2.out.cell 1) rfl
 have x4 : w2.cell? ⟨w.heap.size + 1, 2, none⟩ = _ := cRn (S2.out.cell 2) rfl
 have x5 : w2.cell? ⟨w.heap.size + 1, 3, none⟩ = _ := cRn (S2.out.cell 3) rfl
 go_region_held3 (fun w' => w'.cell? ⟨w.heap.size, 0, none⟩ = some (.slice A.a N.sl.length A.ac) /\ w'.cell? ⟨w.heap.size, 3, none⟩ = some (.slice A.o 0 A.oc) /\ w'.cell? ⟨w.heap.size + 1, 0, none⟩ = some (.int .i64 (cn : Int)) /\ w'.cell? ⟨w.heap.size + 1, 1, none⟩ = some (.int .i64 (mw : Int)) /\ w'.cell? ⟨w.heap.size + 1, 2, none⟩ = some (.int .i64 (mt : Int)) /\ w'.cell? ⟨w.heap.size + 1, 3, none⟩ = some (.int .i64 (ms : Int))) (first | simp only [World.cell?_drew, x0, x1, x2, x3, x4, x5, and_self] | simp only [z0, z1, z2, z3, z4, z5, and_self] | simp only [World.cell?_drew, z0, z1, z2, z3, z4, z5, and_self]) ((go_at_call 57; refine (CS.out _).mono ?_; rintro e w3 ⟨rfl, hb3⟩; have D3 : Hid (Below w2.heap.size w2 w3) := (show Below w2.heap.size w2 _ by go_grown).trans (hb3.mono (by go_size)); clear hb3; have z0 : w3.cell? ⟨w.heap.size, 0, none⟩ = some (.slice A.a N.sl.length A.ac) := (D3.out.cell hs0).trans x0; have z1 : w3.cell? ⟨w.heap.size, 3, none⟩ = some (.slice A.o 0 A.oc) := (D3.out.cell hs0).trans x1; have z2 : w3.cell? ⟨w.heap.size + 1, 0, none⟩ = some (.int .i64 (cn : Int)) := (D3.out.cell hs1).trans x2; have z3 : w3.cell? ⟨w.heap.size + 1, 1, none⟩ = some (.int .i64 (mw : Int)) := (D3.out.cell hs1).trans x3; have z4 : w3.cell? ⟨w.heap.size + 1, 2, none⟩ = some (.int .i64 (mt : Int)) := (D3.out.cell hs1).trans x4; have z5 : w3.cell? ⟨w.heap.size + 1, 3, none⟩ = some (.int .i64 (ms : Int)) := (D3.out.cell hs1).trans x5))
 all_goals go_wp2
 all_goals go_ret
 all_goals exact ⟨rfl, B2.out.trans (D3.out.mono B2.out.size)⟩
structure StpN (N P : Nr) (k gone : ByteArray) (K : List ByteArray) (f : Nat) : Prop where
 inT : InT P.sl P.fr P.ce K
 nd : K.Nodup
 mem : ∀ x, x ∈ K ↔ x ∈ qaD N /\ x ≠ gone
 od : P.od = []
 mv : P.mv = 0
 len : K.length + 2 <= P.ce.length
 fr : P.fr = (f : Int)
 lt : f < P.sl.length
 sm : SmN P
theorem InN.stp {N Q : Nr} {k gone : ByteArray} (h : InN N) (hn : ¬ k ∈ qaD N) (q : KepQ N Q k gone) : ∃ K f, StpN N (if gone = ⟨#[]⟩ then Q else qdE Q gone) k gone K f := by
 have step : ∃ (P : Nr) (K : List ByteArray), (if gone = ⟨#[]⟩ then Q else qdE Q gone) = P /\ InT P.sl P.fr P.ce K /\ K.Nodup /\ (∀ x, x ∈ K ↔ x ∈ qaD N /\ x ≠ gone) /\ P.w = Q.w /\ P.t = Q.t /\ P.s = Q.s /\ P.od = N.od /\ P.mv = N.mv /\ P.sk = N.sk /\ P.sl.length = N.sl.length /\ P.ce.length = N.ce.length := by
  by_cases hg : gone = ⟨#[]⟩
  ·rw [if_pos hg]
   have hx : ∀ x, x ∈ qaD N -> x ≠ gone := fun x hx e => qcM (h.key hx) (by rw [e, hg])
   exact ⟨Q, qaD N, rfl, by rw [q.sl, q.fr, q.ce]; exact h.inT, h.nd, fun x => ⟨fun a => ⟨a, hx x a⟩, fun a => a.1⟩, rfl, rfl, rfl, q.od, q.mv, q.sk, by rw [q.sl], by rw [q.ce]⟩
  ·rw [if_neg hg]
   have hgk : gone ∈ qaD N := by
    rcases q.was with e | e
    ·exact absurd e hg
    ·exact e
   obtain ⟨j, hj, hu, ej⟩ := h.inT.ent gone hgk
   have hQ : InT Q.sl Q.fr Q.ce (qaD N) := by rw [q.sl, q.fr, q.ce]; exact h.inT
   have hjQ : j < Q.sl.length := by rw [q.sl]; exact hj
   have huQ : Q.sl[j].used = true := by simp only [q.sl]; exact hu
   have ejQ : Q.sl[j].key = gone := by simp only [q.sl]; exact ej
   obtain ⟨L, e, hl, el⟩ := InN.liftN_eq hQ hjQ huQ
   rw [ejQ] at e el
   have hmem : ∀ x, x ∈ qaX (qaD N) gone ↔ x ∈ qaD N /\ x ≠ Q.sl[j].key := fun x => by rw [qbN, ejQ]
   rw [el]
   exact ⟨_, qaX (qaD N) gone, rfl, hQ.lift hjQ huQ (by rw [ejQ]; exact e) hmem, qgA h.nd, fun x => qbN _ _ _, rfl, rfl, rfl, q.od, q.mv, q.sk, by dsimp only; rw [List.length_set, q.sl], by dsimp only; rw [hl, q.ce]⟩
 obtain ⟨P, K, eP, hT, hKn, hKm, p1, p2, p3, p4, p5, p6, p12, p13⟩ := step
 rw [eP]
 have hkK : ¬ k ∈ K := fun e => hn ((hKm k).1 e).1
 have hsum := h.sum
 have hmQ : ∀ x, x ∈ qaD Q ↔ x = k ∨ x ∈ K := fun x => by
  rw [q.mem, hKm]
  constructor
  ·rintro ⟨rfl | a, b⟩
   ·exact .inl rfl
   ·exact .inr ⟨a, b⟩
  ·rintro (rfl | ⟨a, b⟩)
   ·exact ⟨.inl rfl, fun e => q.ne e.symm⟩
   ·exact ⟨.inr a, b⟩
 have hlen : K.length + 1 = (qaD Q).length := by
  have := qeD (List.nodup_cons.2 ⟨hkK, hKn⟩) q.nd (fun x => by rw [List.mem_cons, hmQ])
  simpa using this
 have hful : (qaD Q).length <= N.sl.length := by
  have h1 := q.qw.2.2.1
  have h2 := q.qt.2.2.1
  have h3 := q.qs.2.2.1
  unfold qaD
  rw [List.length_append, List.length_append]
  omega
 have hmost := h.inT.ar.most
 have hcells := qjC hmost
 rw [<- h.len, <- p13] at hcells
 obtain ⟨f, hf, hfl⟩ := hT.room hKn (by omega)
 have hs := h.small
 have s1 := q.qw.small
 have s2 := q.qt.small
 have s3 := q.qs.small
 have t2 := h.two
 exact ⟨K, f, hT, hKn, hKm, by rw [p4]; exact h.od, by rw [p5]; exact h.mv, by omega, hf, hfl, ⟨by have := hs.fa; omega, by have := hs.fc; omega, by rw [p4]; exact hs.fo, by rw [p1]; omega, by rw [p2]; omega, by rw [p3]; omega, by rw [p6]; exact hs.fk⟩⟩
theorem InT.cell {sl : List Sl} {fr : Int} {ce : List Ce} {K : List ByteArray} (h : InT sl fr ce K) {i : Nat} (hi : i < ce.length) (hk : ce[i].key.toList ≠ []) : ∃ (j : Nat) (hj : j < sl.length), AtA sl fr ce[i].h j /\ sl[j].key = ce[i].key /\ -9223372036854775808 <= ce[i].h /\ ce[i].h <= 9223372036854775807 := by
 have he : Ent ce [] ce[i].key ce[i].h := ⟨ce[i], .inl (List.getElem_mem hi), rfl, rfl⟩
 obtain ⟨j, hj, hu, hkj⟩ := h.ent _ (h.back _ _ hk he)
 have h1 := (h.used j hj hu).2
 rw [hkj] at h1
 have e := quT h.tb hk he h1
 have hsl := h.ar.slots j hj
 have hm := h.ar.most
 refine ⟨j, hj, ?_, hkj, ?_, ?_⟩
 ·rw [e]; exact h.at hj hu
 ·have h1 := hsl.1; omega
 ·have h2 := hsl.2.1; omega
theorem zaC {w : World} {A : NA} {N : Nr} (h : InN N) (hA : RdN w A N) :
  Calls Tryz.prog 111 #[neV A N] w fun e w' => e = .returned (.bool true) /\ Below w.heap.size w w' := by
 have hl := h.small
 have BX := hI (And.intro (show Blk (w.alloc (.cells (nA A N) 39)) w.heap.size 39 (neC A N) from Blk.new w 39 _) (bAl w (.cells (nA A N) 39)))
 have C1 := hI (fun w' (hb : Below w.heap.size w w') => qdU A.a N.sl A.ac N.fr w' hl.fa (hA.fa.later hb))
 unfold arV at C1
 have HC := hI hA.fc
 have HI := hI h
 have hcl : N.ce.length <= 1048576 := hl.fc
 have hcl' : (N.ce.length : Int) <= 1048576 := by omega
 clear hA hl h
 unfold neV
 go_enter Tryz.func111, Tryz.ntmps111
 go_wp2_with fail
 generalize (w.alloc (.cells (nA A N) 39)) = w0 at BX ⊢
 obtain ⟨K0, B0⟩ := BX.out
 have K0 := hI K0
 have B0 := hI B0
 clear BX
 refine (C1.out w0 B0.out).mono ?_
 rintro e w1 ⟨⟨r, p, V, rfl, hr, ho, hc, hR, hk⟩ | ⟨rfl, hn⟩, hb1⟩
 rotate_left
 ·exact absurd HI.out.inT.ar hn
 have HR := hI hR
 have HO := hI ho
 have K1 := bRn K0 hb1
 have B1 := tRn B0 hb1
 have hrl := hR.lt
 clear hb1 C1 K0 B0 hc hk hR ho hr
 have x2 : w1.cell? ⟨w.heap.size, 2, none⟩ = _ := cRn (K1.out.cell 2) rfl
 go_wp2
 go_loopw [21] (fun iv wr => ∃ i : Nat, i <= N.ce.length /\ iv = .int .i64 (i : Int) /\ Hid (Below w1.heap.size w1 wr)) (fun iv _ => N.ce.length - (intOf iv).toNat)
 case atStart => exact ⟨0, by omega, rfl, Below.refl _ _⟩
 case round =>
  obtain ⟨i, hi, rfl, hbel⟩ := hrel
  by_cases hlt : i < N.ce.length
  ·have k1 : (i : Int) < (N.ce.length : Int) := by omega
   have BW : Below w.heap.size w wr := B1.out.trans (hbel.out.mono B1.out.size)
   obtain ⟨g, hao, hg, y0, y1⟩ := (HC.out.later BW).at i hlt
   have HCE := hI (fun hk => HI.out.inT.cell hlt hk)
   generalize hcell : N.ce[i] = c at *
   rw [hao]
   clear hcell hao BW
   obtain ⟨ky, hd⟩ := c
   simp only at y0 y1 HCE
   have NX := hI (And.intro (Blk.new wr 132 #[.string ky, .int .i64 hd]) (bAl wr (.cells #[.string ky, .int .i64 hd] 132)))
   by_cases hk : ky.toList = []
   ·have qe : ky.toList.isEmpty = true := by rw [hk]; rfl
    have hb2 := hI (hbel.out.trans (NX.out.2.mono hbel.out.size))
    clear HCE NX hk hbel
    go_wp2
    go_roundw
    case rel => exact ⟨i + 1, by omega, by go_num, hb2⟩
    case measure => simp [intOf]; omega
   ·have qe : ky.toList.isEmpty = false := by cases e : ky.toList with | nil => exact absurd e hk | cons a b => rfl
    obtain ⟨j, hj, hat, hkj, hd1, hd2⟩ := HCE.out hk
    have HAT := hI hat
    have HKJ := hI hkj
    clear HCE hk hat hkj
    go_wp2_with fail
    generalize (wr.alloc (.cells #[.string ky, .int .i64 hd] 132)) = wn at NX ⊢
    obtain ⟨KN, BN⟩ := NX.out
    have BH := tRn hbel BN
    have HRn := hI (HR.out.below BH.out hrl)
    have KN := hI KN
    clear NX BN hbel y0 y1
    refine (qfT HRn.out HO.out hd hd1 hd2).mono ?_
    rintro e w2 ⟨⟨k, rfl, hk⟩ | ⟨rfl, hn⟩, hw⟩
    rotate_left
    ·exact absurd HAT.out (hn j)
    obtain rfl : k = j := AtA.det hk HAT.out
    have hw := hw.symm
    subst hw
    have n24 := HO.out.most
    have k24 : (k : Int) < 24 := by omega
    obtain ⟨_, _, y2, _, _⟩ := HRn.out.of n24 k hj
    rw [HKJ.out] at y2
    have yc : wn.cell? ⟨wr.heap.size, 0, none⟩ = _ := cRn (KN.out.cell 0) rfl
    have qq : (ky.toList != ky.toList) = false := by simp
    clear hk HRn KN HAT HKJ
    go_wp2_with fail
    go_quiet (fail)
    all_goals go_wp2
    all_goals go_roundw
    case rel => exact ⟨i + 1, by omega, by go_num, by have := BH.out; first | exact this | exact this.drew | exact below_drewN this _⟩
    case measure => simp [intOf]; omega
  ·obtain rfl : i = N.ce.length := by omega
   have hb2 := hI (B1.out.trans (hbel.out.mono B1.out.size))
   go_wp2
   go_ret
   exact ⟨rfl, hb2.out⟩
def unB (l : List UInt8) : ByteArray := ⟨l.toArray⟩
theorem zcX (x : ByteArray) : unB x.data.toList = x := by cases x; simp [unB]
theorem zdW (l : List UInt8) : (unB l).data.toList = l := by simp [unB]
def qtZ (L : List ByteArray) : List ByteArray := ((L.map (·.data.toList)).mergeSort (fun x y => decide (x <= y))).map unB
theorem qmP (L : List ByteArray) : (qtZ L).map (·.data.toList) = (L.map (·.data.toList)).mergeSort (fun x y => decide (x <= y)) := by
 unfold qtZ
 rw [List.map_map]
 conv => rhs; rw [<- List.map_id ((L.map (·.data.toList)).mergeSort (fun x y => decide (x <= y)))]
 exact List.map_congr_left (fun x _ => zdW x)
theorem qkU (L : List ByteArray) : (qtZ L).Perm L := by
 unfold qtZ
 have h := (List.mergeSort_perm (L.map (·.data.toList)) (fun x y => decide (x <= y))).map unB
 rw [List.map_map] at h
 have e : L.map (unB ∘ fun x => x.data.toList) = L := by
  conv => rhs; rw [<- List.map_id L]
  exact List.map_congr_left (fun x _ => zcX x)
 rw [e] at h
 exact h
theorem qgV (L : List ByteArray) : (qtZ L).length = L.length := (qkU L).length_eq
theorem qyY {L : List ByteArray} (hn : L.Nodup) : (qtZ L).Pairwise (fun x y => kLt x y = true) := by
 have h1 : ((L.map (·.data.toList)).mergeSort (fun x y => decide (x <= y))).Pairwise (fun x y => decide (x <= y) = true) :=
  List.pairwise_mergeSort (fun a b c h1 h2 => by simp only [decide_eq_true_eq] at *; exact List.le_trans h1 h2) (fun a b => by simp only [Bool.or_eq_true, decide_eq_true_eq]; exact List.le_total a b) _
 rw [<- qmP, List.pairwise_map] at h1
 have h2 : (qtZ L).Pairwise (· ≠ ·) := (qkU L).nodup_iff.2 hn
 refine (h1.and h2).imp ?_
 rintro x y ⟨h, hne⟩
 have h := of_decide_eq_true h
 have e : kLt y x = false := by
  unfold kLt
  rw [bytesLess_eq, ByteArray.toList_eq, ByteArray.toList_eq]
  exact decide_eq_false h
 cases e2 : kLt x y with
 | true => rfl
 | false => exact absurd (qhF e2 e) hne
end Go.Proofs.YtigpjmmfelndkaaGreatDoor
namespace Go.Proofs.YtigpjmmfelndkaaGreatDoor
open Go.RowKit Go.Shelf
open Go.Sort (Holds putRow)
theorem zeE {w : World} {base blk cap : Nat} {L : List ByteArray} (h : OwnQ w base (some ⟨blk, 0, none⟩) cap L) : Holds encStr w blk 0 (L.map (·.data.toList)).toArray := by
 intro j hj
 have hj' : j < L.length := by simpa using hj
 refine ⟨?_, World.ownsRow.frozenAt h _⟩
 rw [Nat.zero_add, World.ownsRow.cellAt h j (by omega), getElem!_pos _ j hj]
 simp [sc, hj']
theorem qxC (L : List ByteArray) (base blk cap : Nat) (w : World) (h : OwnQ w base (some ⟨blk, 0, none⟩) cap L) (hl : L.length <= 1048576) :
  Calls Tryz.prog 108 #[.slice (some ⟨blk, 0, none⟩) L.length cap] w fun e w' => e = .returned (.tuple #[]) /\ RdQ w' (some ⟨blk, 0, none⟩) (qtZ L) /\ Below base w w' := by
 have hb := h.lt blk rfl
 have hH := zeE h
 have hcon := Any.slices_Sort_string zdJ blk 0 cap (L.map (·.data.toList)) w hH hb.2 (by simp; omega)
 change Calls Tryz.prog 108 _ _ _ at hcon
 rw [List.length_map] at hcon
 refine hcon.mono ?_
 rintro e w' ⟨rfl, n, os, rfl⟩
 rw [<- qmP]
 have hH2 := Go.Sort.holds_putRow encStr (Go.Sort.ahead w n) blk 0 _ ((qtZ L).map (·.data.toList)).toArray hH (by simp [qgV])
 refine ⟨rfl, ?_, ?_⟩
 ·intro j hj
  refine ⟨blk, 0, rfl, ?_, ?_⟩
  ·have := Go.Sort.size_grow (putRow encStr (Go.Sort.ahead w n) blk 0 ((qtZ L).map (·.data.toList)).toArray) os
   rw [Go.Sort.size_putRow] at this
   have h2 : (Go.Sort.ahead w n).heap.size = w.heap.size := rfl
   omega
  ·have := (hH2 j (by simpa using hj)).1
   rw [getElem!_pos _ j (by simpa using hj)] at this
   rw [Go.Sort.cell?_grow _ _ _ (by rw [Go.Sort.size_putRow]; exact hb.2), this]
   simp
 ·refine ⟨rfl, rfl, rfl, ?_, fun k hk => ?_⟩
  ·have := Go.Sort.size_grow (putRow encStr (Go.Sort.ahead w n) blk 0 ((qtZ L).map (·.data.toList)).toArray) os
   rw [Go.Sort.size_putRow] at this
   have h2 : (Go.Sort.ahead w n).heap.size = w.heap.size := rfl
   omega
  ·unfold putRow Go.Sort.mapBlock Go.Sort.grow Go.Sort.ahead
   simp only []
   rw [Array.getElem?_append_left (by simp; omega), Array.getElem?_modify, if_neg (by omega)]
end Go.Proofs.YtigpjmmfelndkaaGreatDoor
namespace Go.Proofs.YtigpjmmfelndkaaGreatDoor
open Go.RowKit Go.Shelf
set_option linter.unusedVariables false
set_option maxRecDepth 100000
set_option maxHeartbeats 4000000
theorem qxZ (n : Nat) (w : World) (hn : n <= 1048576) :
  Calls Tryz.prog 156 #[.slice none 0 0, .int .i64 (n : Int)] w fun e w' => ∃ po pc, e = .returned (.slice po 0 pc) /\ w'.ownsRow w.heap.size 9 1 (.slice po 0 pc) 0 [] /\ Below w.heap.size w w' := by
 by_cases h0 : n = 0
 ·subst h0
  have hcon := Any8.slices_Grow_room zeF none 0 0 0 w (Nat.le_refl _) (by omega) (by omega) (Nat.le_refl _)
  change Calls Tryz.prog 156 _ _ _ at hcon
  refine hcon.mono ?_
  rintro e w' ⟨rfl, rfl⟩
  exact ⟨none, 0, rfl, World.ownsRow_nil _ _ _ _, Below.refl _ _⟩
 ·obtain ⟨i0, hi, hz0, hz1, hz2⟩ := info_parts Tryz.infoQ
  have hcon := Any8.slices_Grow_grow zeF i0 (.string ⟨#[]⟩) hi hz0 (by omega) none 0 0 n [] w (Nat.le_refl _) (by omega) (by rw [hz2]; omega) (by omega) (by simp) (fun _ => rfl) (fun a ha => by cases ha)
  change Calls Tryz.prog 156 _ _ _ at hcon
  refine hcon.mono ?_
  rintro e w' ⟨rfl, rfl⟩
  have hge := grownCap_ge w n 0 (qrY.t 25)
  have hle := grownCap_le_maxLen w (0 + n) 0 9 (by unfold maxLen; omega)
  refine ⟨_, _, rfl, ⟨rfl, .inr ⟨w.heap.size, _, _, rfl, Nat.le_refl _, heap_alloc_new w.drew _, Nat.zero_le _, hle, ?_, rfl⟩⟩, ?_⟩
  ·simp [Builtin.zeroCells, Value.cells]
   omega
  ·exact (Below.refl w.heap.size w).drew.alloc (Nat.le_refl _) _
def qlJ (l1 l2 l3 : List ByteArray) : Nat -> List ByteArray
 | 0 => []
 | 1 => [] ++ l1
 | 2 => [] ++ l1 ++ l2
 | _ => [] ++ l1 ++ l2 ++ l3
theorem qoB {w : World} {base n : Nat} {v : Value} {e : TypeId} {xs : List Value} (h : w.ownsRow base e 1 v n xs) : ∃ po pc, v = .slice po n pc := by
 rcases h.2 with ⟨rfl, rfl⟩ | ⟨g, cap, cur, rfl, _⟩
 ·exact ⟨none, 0, rfl⟩
 ·exact ⟨_, _, rfl⟩
theorem qtP {w : World} {P : Nat} {t : TypeId} {a1 a2 a3 : Option Addr} {c1 c2 c3 : Nat} {l1 l2 l3 : List ByteArray} (hP : Blk w P t [.slice a1 l1.length c1, .slice a2 l2.length c2, .slice a3 l3.length c3]) (h1 : RdQ w a1 l1) (h2 : RdQ w a2 l2) (h3 : RdQ w a3 l3) (n1 : l1.length <= 1000) (n2 : l2.length <= 1000) (n3 : l3.length <= 1000) :
  Calls Tryz.prog 107 #[.slice (some ⟨P, 0, none⟩) 3 3] w fun e w' => ∃ po pc, e = .returned (.slice po (l1 ++ l2 ++ l3).length pc) /\ OwnQ w' w.heap.size po pc (l1 ++ l2 ++ l3) /\ Below w.heap.size w w' := by
 have CG := hI (fun (m : Nat) (hm : m <= 1048576) => qxZ m w hm)
 have HP := hI hP
 have H1 := hI h1
 have H2 := hI h2
 have H3 := hI h3
 have hPl := hP.lt
 have x0 : w.cell? ⟨P, 0, none⟩ = _ := cRn (hP.cell 0) rfl
 have x1 : w.cell? ⟨P, 1, none⟩ = _ := cRn (hP.cell 1) rfl
 have x2 : w.cell? ⟨P, 2, none⟩ = _ := cRn (hP.cell 2) rfl
 have m1 : (l1.length : Int) <= 1000 := by omega
 have m2 : (l2.length : Int) <= 1000 := by omega
 have m3 : (l3.length : Int) <= 1000 := by omega
 clear hP h1 h2 h3
 go_enter Tryz.func107, Tryz.ntmps107
 go_wp2
 go_loop [3, 11] (fun sv iv => ∃ i s : Nat, i <= 3 /\ iv = .int .i64 (i : Int) /\ sv = .int .i64 (s : Int) /\ s <= 3000 /\ s = (if 1 <= i then l1.length else 0) + (if 2 <= i then l2.length else 0) + (if 3 <= i then l3.length else 0)) (fun _ iv => 3 - (intOf iv).toNat)
 case atStart => exact ⟨0, 0, by omega, rfl, rfl, by omega, rfl⟩
 case round =>
  obtain ⟨i, s, hi, rfl, rfl, hs3, hs⟩ := hrel
  have hc : i = 0 ∨ i = 1 ∨ i = 2 ∨ i = 3 := by omega
  rcases hc with rfl | rfl | rfl | rfl
  ·obtain rfl : s = 0 := by simpa using hs
   clear hs
   go_wp2
   go_round
   case rel => exact ⟨1, l1.length, by omega, rfl, by go_num, by omega, by simp⟩
   case measure => simp [intOf]
  ·obtain rfl : s = l1.length := by simpa using hs
   clear hs
   go_wp2
   go_round
   case rel => exact ⟨2, l1.length + l2.length, by omega, rfl, by go_num, by omega, by simp⟩
   case measure => simp [intOf]
  ·obtain rfl : s = l1.length + l2.length := by simpa using hs
   clear hs
   have mm : (0 : Int) <= (l1.length : Int) + (l2.length : Int) := by omega
   go_wp2
   go_round
   case rel => exact ⟨3, l1.length + l2.length + l3.length, by omega, rfl, by go_num, by omega, by simp⟩
   case measure => simp [intOf]
  ·have hs' : s = l1.length + l2.length + l3.length := by simpa using hs
   clear hs hs'
   go_wp2_with fail
   refine (CG.out s (by omega)).mono ?_
   rintro e w1 ⟨po, pc, rfl, ho1, hb1⟩
   have O1 := hI ho1
   have B1 := hI hb1
   clear ho1 hb1 x0 x1 x2 CG
   go_wp2
   go_loopw [6, 27] (fun nv iv wr => ∃ i : Nat, i <= 3 /\ iv = .int .i64 (i : Int) /\ Hid (wr.ownsRow w.heap.size 9 1 nv (qlJ l1 l2 l3 i).length (sc (qlJ l1 l2 l3 i))) /\ Hid (Below w.heap.size w wr)) (fun _ iv _ => 3 - (intOf iv).toNat)
   case atStart => exact ⟨0, by omega, rfl, O1, B1⟩
   case round =>
    obtain ⟨i, hi, rfl, hown, hbel⟩ := hrel
    have hc : i = 0 ∨ i = 1 ∨ i = 2 ∨ i = 3 := by omega
    have y0 : wr.cell? ⟨P, 0, none⟩ = some (.slice a1 l1.length c1) := (HP.out.below hbel.out hPl).cell 0
    have y1 : wr.cell? ⟨P, 1, none⟩ = some (.slice a2 l2.length c2) := (HP.out.below hbel.out hPl).cell 1
    have y2 : wr.cell? ⟨P, 2, none⟩ = some (.slice a3 l3.length c3) := (HP.out.below hbel.out hPl).cell 2
    rcases hc with rfl | rfl | rfl | rfl
    ·go_wp2_with (at_builtin; (refine qbV rfl _ _ 30 rfl Tryz.underlying30 w.heap.size _ (qlJ l1 l2 l3 0).length (qlJ l1 l2 l3 0) rfl hown.out a1 l1.length c1 l1 rfl rfl (H1.out.later hbel.out) (by simp only [qlJ, List.length_nil]; omega) hbel.out.size ?_; intro v2 w2 ho2 hg2))
     have hb2 := hI (Below.grown hbel.out hg2 hbel.out.size (fun k hk => (hown.out.lt k hk).1))
     have O2 : Hid (w2.ownsRow w.heap.size 9 1 v2 (qlJ l1 l2 l3 1).length (sc (qlJ l1 l2 l3 1))) := by
      show w2.ownsRow _ _ _ _ _ _
      rw [show qlJ l1 l2 l3 1 = qlJ l1 l2 l3 0 ++ l1 from rfl, List.length_append]
      exact ho2
     clear ho2 hg2 hown hbel y0 y1 y2
     go_wp2
     go_roundw
     case rel => exact ⟨1, by omega, rfl, O2, hb2⟩
     case measure => simp [intOf]
    ·go_wp2_with (at_builtin; (refine qbV rfl _ _ 30 rfl Tryz.underlying30 w.heap.size _ (qlJ l1 l2 l3 1).length (qlJ l1 l2 l3 1) rfl hown.out a2 l2.length c2 l2 rfl rfl (H2.out.later hbel.out) (by simp only [qlJ, List.length_nil, List.length_append]; omega) hbel.out.size ?_; intro v2 w2 ho2 hg2))
     have hb2 := hI (Below.grown hbel.out hg2 hbel.out.size (fun k hk => (hown.out.lt k hk).1))
     have O2 : Hid (w2.ownsRow w.heap.size 9 1 v2 (qlJ l1 l2 l3 2).length (sc (qlJ l1 l2 l3 2))) := by
      show w2.ownsRow _ _ _ _ _ _
      rw [show qlJ l1 l2 l3 2 = qlJ l1 l2 l3 1 ++ l2 from rfl, List.length_append]
      exact ho2
     clear ho2 hg2 hown hbel y0 y1 y2
     go_wp2
     go_roundw
     case rel => exact ⟨2, by omega, rfl, O2, hb2⟩
     case measure => simp [intOf]
    ·go_wp2_with (at_builtin; (refine qbV rfl _ _ 30 rfl Tryz.underlying30 w.heap.size _ (qlJ l1 l2 l3 2).length (qlJ l1 l2 l3 2) rfl hown.out a3 l3.length c3 l3 rfl rfl (H3.out.later hbel.out) (by simp only [qlJ, List.length_nil, List.length_append]; omega) hbel.out.size ?_; intro v2 w2 ho2 hg2))
     have hb2 := hI (Below.grown hbel.out hg2 hbel.out.size (fun k hk => (hown.out.lt k hk).1))
     have O2 : Hid (w2.ownsRow w.heap.size 9 1 v2 (qlJ l1 l2 l3 3).length (sc (qlJ l1 l2 l3 3))) := by
      show w2.ownsRow _ _ _ _ _ _
      rw [show qlJ l1 l2 l3 3 = qlJ l1 l2 l3 2 ++ l3 from rfl, List.length_append]
      exact ho2
     clear ho2 hg2 hown hbel y0 y1 y2
     go_wp2
     go_roundw
     case rel => exact ⟨3, by omega, rfl, O2, hb2⟩
     case measure => simp [intOf]
    ·go_wp2
     go_ret
     obtain ⟨qo, qc, hq⟩ := qoB hown.out
     rw [hq] at hown ⊢
     exact ⟨qo, qc, rfl, hown.out, hbel.out⟩
theorem qqK {w : World} {ao : Option Addr} {L : List ByteArray} (h : RdQ w ao L) (h0 : 0 < L.length) : ∃ b o, ao = some ⟨b, o, none⟩ /\ ∀ j, j < L.length -> w.cell? ⟨b, o + j, none⟩ = some (.string (L.getD j ByteArray.empty)) := by
 obtain ⟨b, o, hab, _, _⟩ := h 0 h0
 refine ⟨b, o, hab, fun j hj => ?_⟩
 obtain ⟨b', o', hab', _, hc⟩ := h j hj
 rw [hab] at hab'
 simp only [Option.some.injEq, Addr.mk.injEq] at hab'
 obtain ⟨rfl, rfl, _⟩ := hab'
 rw [hc, List.getD_eq_getElem?_getD, List.getElem?_eq_getElem hj]
 rfl
theorem qwE {w : World} {ao bo : Option Addr} {c d : Nat} {L : List ByteArray} (hA : RdQ w ao L) (hB : RdQ w bo L) (hl : L.length <= 1048576) :
  Calls Tryz.prog 109 #[.slice ao L.length c, .slice bo L.length d] w fun e w' => e = .returned (.bool true) /\ Below w.heap.size w w' := by
 by_cases h0 : L.length = 0
 ·have hcon := Any.slices_Equal_string_empty zbF ao bo c L.length d w (by omega)
  change Calls Tryz.prog 109 _ _ _ at hcon
  rw [h0] at hcon ⊢
  refine hcon.mono ?_
  rintro e w' ⟨rfl, rfl⟩
  exact ⟨rfl, Below.refl _ _⟩
 ·obtain ⟨b1, o1, rfl, hc1⟩ := qqK hA (by omega)
  obtain ⟨b2, o2, rfl, hc2⟩ := qqK hB (by omega)
  have hcon := Any.slices_Equal_string zbF b1 o1 L.length c b2 o2 L.length d L L w (Nat.le_refl _) (Nat.le_refl _) (by omega) (by omega) hc1 hc2
  change Calls Tryz.prog 109 _ _ _ at hcon
  refine hcon.mono ?_
  rintro e w' ⟨rfl, q, rfl⟩
  exact ⟨by simp, below_drewN (Below.refl _ _) q⟩
theorem qvN (L : List ByteArray) (base cap : Nat) (po : Option Addr) (w : World) (h : OwnQ w base po cap L) (hl : L.length <= 1048576) :
  Calls Tryz.prog 108 #[.slice po L.length cap] w fun e w' => e = .returned (.tuple #[]) /\ RdQ w' po (qtZ L) /\ Below base w w' := by
 rcases h.2 with ⟨hv, h0⟩ | ⟨g, c, cur, hv, _⟩
 ·have hcon := Any.slices_Sort_string_none zdJ po cap w
  change Calls Tryz.prog 108 _ _ _ at hcon
  rw [h0]
  refine hcon.mono ?_
  rintro e w' ⟨rfl, rfl⟩
  refine ⟨rfl, fun i hi => ?_, Below.refl _ _⟩
  rw [qgV, h0] at hi
  omega
 ·simp only [Value.slice.injEq] at hv
  obtain ⟨rfl, _, rfl⟩ := hv
  exact qxC L base g cap w h hl
theorem qyX {N : Nr} (h : InN N) : qtZ (N.w ++ N.t ++ N.s) = qbX (qaY (qdL N.ce N.od)) := by
 have hok : OkT N.ce N.od N.mv := by rw [h.od, h.mv]; exact qcG.2 h.inT.tb
 refine qpA _ _ (qyY h.nd) (qoH hok) (fun z => ?_)
 rw [qoG hok, (qkU _).mem_iff, h.od]
 constructor
 ·intro hz
  obtain ⟨j, hj, hu, hkj⟩ := h.inT.ent z hz
  have := (h.inT.used j hj hu).2
  rw [hkj] at this
  exact ⟨(h.inT.key hz).2, _, this⟩
 ·rintro ⟨hz, x, hx⟩
  exact h.inT.back z x hz hx
theorem keysI {w : World} {A : NA} {N : Nr} (h : InN N) (hA : RdN w A N) :
  Calls Tryz.prog 50 #[neV A N] w fun e w' => e = .returned (.bool true) /\ Below w.heap.size w w' := by
 have hl := h.small
 have hok : OkT N.ce N.od N.mv := by rw [h.od, h.mv]; exact qcG.2 h.inT.tb
 have BX := hI (qdI w (nA A N) #[.slice A.w N.w.length A.wc, .slice A.t N.t.length A.tc, .slice A.s N.s.length A.sc] 39 30)
 have CC : Hid (∀ w' P t, Below w.heap.size w w' -> Blk w' P t [.slice A.w N.w.length A.wc, .slice A.t N.t.length A.tc, .slice A.s N.s.length A.sc] -> _) := fun w' P t hb hP => qtP hP (hA.fw.later hb) (hA.ft.later hb) (hA.fs.later hb) (by have := h.qw.small; omega) (by have := h.qt.small; omega) (by have := h.qs.small; omega)
 have CK := hI (fun w' (hb : Below w.heap.size w w') => qrQ A.c A.o N.ce N.od A.cc A.oc N.mv w' hl.fc hl.fo (hA.fc.later hb).toJ (hA.fo.later hb).toJ)
 have CU := hI (fun w' (hb : Below w.heap.size w w') => qjV A.a N.sl A.ac N.fr w' hl.fa (hA.fa.later hb))
 have CH := hI (fun w' (hb : Below w.heap.size w w') => zaC h (hA.later hb))
 unfold tbV at CK
 unfold arV at CU
 unfold neV at CH
 have HK := hI (qyX h)
 have HN := hI (show OkA N.sl N.fr /\ qeN N.sl N.sl.length = (N.w ++ N.t ++ N.s).length from ⟨h.inT.ar, h.inT.count h.nd⟩)
 have HOK := hI hok
 have hsz : (N.w ++ N.t ++ N.s).length <= 1048576 := by have := h.qw.small; have := h.qt.small; have := h.qs.small; simp only [List.length_append]; omega
 generalize hL : N.w ++ N.t ++ N.s = L at *
 clear hL hA hl h hok
 unfold neV
 go_enter Tryz.func50, Tryz.ntmps50
 go_wp2_with fail
 generalize ((w.alloc (.cells (nA A N) 39)).alloc (.cells #[.slice A.w N.w.length A.wc, .slice A.t N.t.length A.tc, .slice A.s N.s.length A.sc] 30)) = w0 at BX ⊢
 obtain ⟨K0, P0, B0⟩ := BX.out
 have K0 := hI K0
 have B0 := hI B0
 clear BX
 refine (CC.out w0 _ _ B0.out P0).mono ?_
 clear P0
 rintro e w1 ⟨po, pc, rfl, ho1, hb1⟩
 have K1 := bRn K0 hb1
 have B1 := tRn B0 hb1
 have O1 := hI ho1
 have s01 : w.heap.size < w0.heap.size := K0.out.lt
 clear hb1 CC ho1
 go_wp2_with fail
 refine (qvN L w0.heap.size pc po w1 O1.out hsz).mono ?_
 rintro e w2 ⟨rfl, hr2, hb2⟩
 have K2 := hI (K1.out.below hb2 s01)
 have B2 := hI (B1.out.trans (hb2.mono B0.out.size))
 have R2 := hI hr2
 clear hb2 K1 hr2 O1 K0 B0 B1
 have x2 : w2.cell? ⟨w.heap.size, 2, none⟩ = _ := cRn (K2.out.cell 2) rfl
 have x3 : w2.cell? ⟨w.heap.size, 3, none⟩ = _ := cRn (K2.out.cell 3) rfl
 have x4 : w2.cell? ⟨w.heap.size, 4, none⟩ = _ := cRn (K2.out.cell 4) rfl
 go_wp2_with fail
 refine (CK.out w2 B2.out).mono ?_
 rintro e w3 ⟨qo, ks, qc, rfl, hks, ho3, hb3⟩
 have hks2 : qtZ L = ks := HK.out.trans (KeysA.det (.inl ⟨HOK.out, rfl⟩) hks)
 have K3 := bRn K2 hb3
 have B3 := tRn B2 hb3
 have R3 := hI (R2.out.later hb3)
 have Q3 := hI (show RdQ w3 qo ks from qeV ho3)
 have hlen : L.length = ks.length := by rw [<- hks2, qgV]
 rw [hks2] at R3
 clear hb3 ho3 hks hks2 HK CK K2 B2 R2 x2 x3 x4
 rw [hlen] at hsz HN ⊢
 have CE := hI (qwE (c := pc) (d := qc) R3.out Q3.out hsz)
 clear hlen R3 Q3
 go_wp2_with fail
 refine CE.out.mono ?_
 rintro e w4 ⟨rfl, hb4⟩
 have K4 := bRn K3 hb4
 have B4 := tRn B3 hb4
 clear hb4 CE K3 B3
 have x0 : w4.cell? ⟨w.heap.size, 0, none⟩ = _ := cRn (K4.out.cell 0) rfl
 have x1 : w4.cell? ⟨w.heap.size, 1, none⟩ = _ := cRn (K4.out.cell 1) rfl
 go_wp2_with fail
 refine (CU.out w4 B4.out).mono ?_
 rintro e w5 ⟨⟨r, rfl, hr, _⟩, hb5⟩
 obtain rfl : r = ks.length := (hr HN.out.1).trans HN.out.2
 have K5 := bRn K4 hb5
 have B5 := tRn B4 hb5
 clear hb5 hr CU K4 B4 x0 x1
 obtain ⟨_, v0, v1, v2, v3, v4, v5, v6, v7, v8, v9, v10, v11, v12, v13⟩ := qcR K5.out
 have qq : ((ks.length : Int) == (ks.length : Int)) = true := by simp
 go_wp2_with fail
 refine (CH.out w5 B5.out).mono ?_
 rintro e w6 ⟨rfl, hb6⟩
 have B6 := tRn B5 hb6
 clear hb6
 go_wp2
 go_ret
 exact ⟨rfl, B6.out⟩
theorem qsZ {w : World} {A : NA} {N : Nr} (h : InN N) (hA : RdN w A N) (hc : CapN A N) :
  Calls Tryz.prog 9 #[neV A N] w fun e w' => e = .returned (.bool true) /\ Below w.heap.size w w' := by
 have BX := hI (And.intro (show Blk (w.alloc (.cells (nA A N) 39)) w.heap.size 39 (neC A N) from Blk.new w 39 _) (bAl w (.cells (nA A N) 39)))
 have C1 := hI (fun w' (hb : Below w.heap.size w w') => zdT h (hA.later hb) hc)
 have C2 := hI (fun w' => zdM (w := w') (A := A) h)
 have C3 := hI (fun w' (hb : Below w.heap.size w w') => keysI h (hA.later hb))
 unfold neV at C1 C2 C3 ⊢
 clear h hA hc
 go_enter Tryz.func9, Tryz.ntmps9
 go_wp2_with fail
 generalize (w.alloc (.cells (nA A N) 39)) = w0 at BX ⊢
 obtain ⟨K0, B0⟩ := BX.out
 have K0 := hI K0
 have B0 := hI B0
 clear BX
 refine (C1.out w0 B0.out).mono ?_
 rintro e w1 ⟨rfl, hb1⟩
 have K1 := bRn K0 hb1
 have B1 := tRn B0 hb1
 clear hb1 C1 K0 B0
 obtain ⟨_, v0, v1, v2, v3, v4, v5, v6, v7, v8, v9, v10, v11, v12, v13⟩ := qcR K1.out
 go_wp2_with fail
 refine (C2.out w1).mono ?_
 rintro e w2 ⟨rfl, hb2⟩
 have K2 := bRn K1 hb2
 have B2 := tRn B1 hb2
 clear hb2 C2 K1 B1 v0 v1 v2 v3 v4 v5 v6 v7 v8 v9 v10 v11 v12 v13
 obtain ⟨_, v0, v1, v2, v3, v4, v5, v6, v7, v8, v9, v10, v11, v12, v13⟩ := qcR K2.out
 go_wp2_with fail
 refine (C3.out w2 B2.out).mono ?_
 rintro e w3 ⟨rfl, hb3⟩
 have B3 := tRn B2 hb3
 clear hb3 C3 K2 B2 v0 v1 v2 v3 v4 v5 v6 v7 v8 v9 v10 v11 v12 v13
 go_wp2
 go_ret
 exact ⟨rfl, B3.out⟩
theorem sizeI {w : World} {A : NA} {N : Nr} (h : InN N) (hA : RdN w A N) (hc : CapN A N) :
  Calls Tryz.prog 11 #[neV A N] w fun e w' => e = .returned (.int .i64 ((qaD N).length : Int)) /\ Below w.heap.size w w' := by
 have hl := h.small
 have BX := hI (And.intro (show Blk (w.alloc (.cells (nA A N) 39)) w.heap.size 39 (neC A N) from Blk.new w 39 _) (bAl w (.cells (nA A N) 39)))
 have C1 := hI (fun w' (hb : Below w.heap.size w w') => qsZ h (hA.later hb) hc)
 have CU := hI (fun w' (hb : Below w.heap.size w w') => qjV A.a N.sl A.ac N.fr w' hl.fa (hA.fa.later hb))
 have HN := hI (show OkA N.sl N.fr /\ qeN N.sl N.sl.length = (qaD N).length from ⟨h.inT.ar, h.inT.count h.nd⟩)
 unfold arV at CU
 unfold neV at C1 ⊢
 generalize (qaD N).length = n at *
 clear h hA hc hl
 go_enter Tryz.func11, Tryz.ntmps11
 go_wp2_with fail
 generalize (w.alloc (.cells (nA A N) 39)) = w0 at BX ⊢
 obtain ⟨K0, B0⟩ := BX.out
 have K0 := hI K0
 have B0 := hI B0
 clear BX
 refine (C1.out w0 B0.out).mono ?_
 rintro e w1 ⟨rfl, hb1⟩
 have K1 := bRn K0 hb1
 have B1 := tRn B0 hb1
 clear hb1 C1 K0 B0
 have x0 : w1.cell? ⟨w.heap.size, 0, none⟩ = _ := cRn (K1.out.cell 0) rfl
 have x1 : w1.cell? ⟨w.heap.size, 1, none⟩ = _ := cRn (K1.out.cell 1) rfl
 go_wp2_with fail
 refine (CU.out w1 B1.out).mono ?_
 rintro e w2 ⟨⟨r, rfl, hr, _⟩, hb2⟩
 obtain rfl : r = n := (hr HN.out.1).trans HN.out.2
 have B2 := tRn B1 hb2
 clear hb2 hr CU K1 B1 x0 x1
 go_wp2
 go_ret
 exact ⟨rfl, B2.out⟩
end Go.Proofs.YtigpjmmfelndkaaGreatDoor
