/- Whether the parts of near entries are right, by the program: of right ones. -/
import Derived.Test.YtenmpciimocggaaGreatXV
import Derived.Test.YtenmpciimocggaaGreatXP
import Derived.Test.YtenmpciimocggaaGreatNeI1
import Derived.Test.YtenmpciimocggaaGreatNeE
import Derived.Test.YtenmpciimocggaaGreatNeBx
import Derived.Test.YtenmpciimocggaaGreatXRI
import Derived.Test.YtenmpciimocggaaGreatXQI
import Derived.Test.YtenmpciimocggaaGreatXSK
namespace Go.Proofs.YtenmpciimocggaaGreat
open Go.RowKit
set_option linter.unusedVariables false

/-- The queues' rows have room for what they hold, and no more than there may be. -/
structure CapN (A : NA) (N : Nr) : Prop where
  w1 : N.w.length ≤ A.wc
  w2 : A.wc ≤ maxLen
  t1 : N.t.length ≤ A.tc
  t2 : A.tc ≤ maxLen
  s1 : N.s.length ≤ A.sc
  s2 : A.sc ≤ maxLen
theorem OwnN.caps {w : World} {B : Nat} {A : NA} {N : Nr} (h : OwnN w B A N) : CapN A N := ⟨h.fw.cap.1, h.fw.cap.2, h.ft.cap.1, h.ft.cap.2, h.fs.cap.1, h.fs.cap.2⟩
theorem InN.small {N : Nr} (h : InN N) : SmN N := by
  have h1 := h.inT.ar.most
  have h2 := cellsN_le N.sl.length
  have h6 := h.qw.small
  have h7 := h.qt.small
  have h8 := h.qs.small
  have h9 := h.len
  have h10 := h.od
  have h11 := h.sk.1
  exact ⟨by omega, by omega, by rw [h10]; simp, by omega, by omega, by omega, by omega⟩

set_option maxRecDepth 100000 in
set_option maxHeartbeats 4000000 in
theorem partsI {w : World} {A : NA} {N : Nr} (h : InN N) (hA : RdN w A N) (hc : CapN A N) :
    Calls Tryz.prog 22 #[neV A N] w fun e w' => e = .returned (.bool true) ∧ Below w.heap.size w w' := by
  have hl := h.small
  have BX := hide1 (And.intro (show Blk (w.alloc (.cells #[.slice A.a N.sl.length A.ac, .int .i64 N.fr, .slice A.c N.ce.length A.cc, .slice A.o N.od.length A.oc, .int .i64 N.mv, .int .i64 N.wm, .slice A.w N.w.length A.wc, .int .i64 N.tm, .slice A.t N.t.length A.tc, .int .i64 N.sm, .slice A.s N.s.length A.sc, .slice A.k N.sk.length A.kc, .int .i64 N.ad, .int .i64 N.dr] 40)) w.heap.size 40 (neC A N) from Blk.new w 40 _) ((Below.refl w.heap.size w).alloc (Nat.le_refl _) (.cells #[.slice A.a N.sl.length A.ac, .int .i64 N.fr, .slice A.c N.ce.length A.cc, .slice A.o N.od.length A.oc, .int .i64 N.mv, .int .i64 N.wm, .slice A.w N.w.length A.wc, .int .i64 N.tm, .slice A.t N.t.length A.tc, .int .i64 N.sm, .slice A.s N.s.length A.sc, .slice A.k N.sk.length A.kc, .int .i64 N.ad, .int .i64 N.dr] 40)))
  have C0 : Hid (∀ w', Below w.heap.size w w' → Calls Tryz.prog 37 #[.agg #[.slice A.a N.sl.length A.ac, .int .i64 N.fr]] w' fun e w'' => e = .returned (.bool true) ∧ Below w'.heap.size w' w'') := by
    show ∀ w', _
    intro w' hb
    refine (implOk_any A.a N.sl A.ac N.fr w' hl.fa (hA.fa.later hb)).mono ?_
    rintro e w'' ⟨x, rfl, hx, hb2⟩
    exact ⟨by rw [hx.2 h.inT.ar], hb2⟩
  have C1 : Hid (∀ w', Below w.heap.size w w' → Calls Tryz.prog 38 #[.agg #[.slice A.c N.ce.length A.cc, .slice A.o N.od.length A.oc, .int .i64 N.mv]] w' fun e w'' => e = .returned (.bool true) ∧ Below w'.heap.size w' w'') := by
    show ∀ w', _
    intro w' hb
    refine (implTOk_any A.c A.o N.ce N.od A.cc A.oc N.mv w' hl.fc hl.fo (hA.fc.later hb).toJ (hA.fo.later hb).toJ).mono ?_
    rintro e w'' ⟨x, rfl, hx, hb2⟩
    exact ⟨by rw [hx.2 (by rw [h.od, h.mv]; exact okN_iff.2 h.inT.tb)], hb2⟩
  have C2 : Hid (∀ w', Below w.heap.size w w' → Calls Tryz.prog 39 #[.agg #[.int .i64 N.wm, .slice A.w N.w.length A.wc]] w' fun e w'' => e = .returned (.bool true) ∧ Below w'.heap.size w' w'') := by
    show ∀ w', _
    intro w' hb
    refine (implQOk_any A.w N.w A.wc N.wm w' hl.fw hc.w1 hc.w2 (hA.fw.later hb)).mono ?_
    rintro e w'' ⟨x, rfl, hx, hb2⟩
    exact ⟨by rw [hx.2 h.qw], hb2⟩
  have C3 : Hid (∀ w', Below w.heap.size w w' → Calls Tryz.prog 39 #[.agg #[.int .i64 N.tm, .slice A.t N.t.length A.tc]] w' fun e w'' => e = .returned (.bool true) ∧ Below w'.heap.size w' w'') := by
    show ∀ w', _
    intro w' hb
    refine (implQOk_any A.t N.t A.tc N.tm w' hl.ft hc.t1 hc.t2 (hA.ft.later hb)).mono ?_
    rintro e w'' ⟨x, rfl, hx, hb2⟩
    exact ⟨by rw [hx.2 h.qt], hb2⟩
  have C4 : Hid (∀ w', Below w.heap.size w w' → Calls Tryz.prog 39 #[.agg #[.int .i64 N.sm, .slice A.s N.s.length A.sc]] w' fun e w'' => e = .returned (.bool true) ∧ Below w'.heap.size w' w'') := by
    show ∀ w', _
    intro w' hb
    refine (implQOk_any A.s N.s A.sc N.sm w' hl.fs hc.s1 hc.s2 (hA.fs.later hb)).mono ?_
    rintro e w'' ⟨x, rfl, hx, hb2⟩
    exact ⟨by rw [hx.2 h.qs], hb2⟩
  have C5 : Hid (∀ w', Below w.heap.size w w' → Calls Tryz.prog 40 #[.agg #[.slice A.k N.sk.length A.kc, .int .i64 N.ad]] w' fun e w'' => e = .returned (.bool true) ∧ Below w'.heap.size w' w'') := by
    show ∀ w', _
    intro w' hb
    refine (implSOk_any A.k N.sk A.kc N.ad w' (hA.fk.later hb)).mono ?_
    rintro e w'' ⟨x, rfl, hx, hb2⟩
    exact ⟨by rw [hx.2 h.sk], hb2⟩
  have C6 : Hid (∀ w', Calls Tryz.prog 41 #[.agg #[.int .i64 N.dr]] w' fun e w'' => e = .returned (.bool true) ∧ Below w'.heap.size w' w'') := by
    show ∀ w', _
    intro w'
    refine (implDoorOk_any N.dr w').mono ?_
    rintro e w'' ⟨rfl, hb2⟩
    exact ⟨by rw [h.dr], hb2⟩
  clear hA hc hl h
  unfold neV
  go_enter Tryz.func22, Tryz.ntmps22
  go_wp2_with fail
  generalize (w.alloc (.cells #[.slice A.a N.sl.length A.ac, .int .i64 N.fr, .slice A.c N.ce.length A.cc, .slice A.o N.od.length A.oc, .int .i64 N.mv, .int .i64 N.wm, .slice A.w N.w.length A.wc, .int .i64 N.tm, .slice A.t N.t.length A.tc, .int .i64 N.sm, .slice A.s N.s.length A.sc, .slice A.k N.sk.length A.kc, .int .i64 N.ad, .int .i64 N.dr] 40)) = w0 at BX ⊢
  obtain ⟨K0, B0⟩ := BX.out
  have K0 := hide1 K0
  have B0 := hide1 B0
  clear BX
  refine (C0.out w0 B0.out).mono ?_
  rintro e w1 ⟨rfl, hb1⟩
  have K1 := hide1 (K0.out.below hb1 K0.out.lt)
  have B1 := hide1 (B0.out.trans (hb1.mono B0.out.size))
  clear hb1 C0 K0 B0
  have x2 : w1.cell? ⟨w.heap.size, 2, none⟩ = some (.slice A.c N.ce.length A.cc) := K1.out.cell 2
  have x3 : w1.cell? ⟨w.heap.size, 3, none⟩ = some (.slice A.o N.od.length A.oc) := K1.out.cell 3
  have x4 : w1.cell? ⟨w.heap.size, 4, none⟩ = some (.int .i64 N.mv) := K1.out.cell 4
  go_wp2_with fail
  refine (C1.out w1 B1.out).mono ?_
  rintro e w2 ⟨rfl, hb2⟩
  have K2 := hide1 (K1.out.below hb2 K1.out.lt)
  have B2 := hide1 (B1.out.trans (hb2.mono B1.out.size))
  clear hb2 C1 K1 B1 x2 x3 x4
  have x5 : w2.cell? ⟨w.heap.size, 5, none⟩ = some (.int .i64 N.wm) := K2.out.cell 5
  have x6 : w2.cell? ⟨w.heap.size, 6, none⟩ = some (.slice A.w N.w.length A.wc) := K2.out.cell 6
  go_wp2_with fail
  refine (C2.out w2 B2.out).mono ?_
  rintro e w3 ⟨rfl, hb3⟩
  have K3 := hide1 (K2.out.below hb3 K2.out.lt)
  have B3 := hide1 (B2.out.trans (hb3.mono B2.out.size))
  clear hb3 C2 K2 B2 x5 x6
  have x7 : w3.cell? ⟨w.heap.size, 7, none⟩ = some (.int .i64 N.tm) := K3.out.cell 7
  have x8 : w3.cell? ⟨w.heap.size, 8, none⟩ = some (.slice A.t N.t.length A.tc) := K3.out.cell 8
  go_wp2_with fail
  refine (C3.out w3 B3.out).mono ?_
  rintro e w4 ⟨rfl, hb4⟩
  have K4 := hide1 (K3.out.below hb4 K3.out.lt)
  have B4 := hide1 (B3.out.trans (hb4.mono B3.out.size))
  clear hb4 C3 K3 B3 x7 x8
  have x9 : w4.cell? ⟨w.heap.size, 9, none⟩ = some (.int .i64 N.sm) := K4.out.cell 9
  have x10 : w4.cell? ⟨w.heap.size, 10, none⟩ = some (.slice A.s N.s.length A.sc) := K4.out.cell 10
  go_wp2_with fail
  refine (C4.out w4 B4.out).mono ?_
  rintro e w5 ⟨rfl, hb5⟩
  have K5 := hide1 (K4.out.below hb5 K4.out.lt)
  have B5 := hide1 (B4.out.trans (hb5.mono B4.out.size))
  clear hb5 C4 K4 B4 x9 x10
  have x11 : w5.cell? ⟨w.heap.size, 11, none⟩ = some (.slice A.k N.sk.length A.kc) := K5.out.cell 11
  have x12 : w5.cell? ⟨w.heap.size, 12, none⟩ = some (.int .i64 N.ad) := K5.out.cell 12
  go_wp2_with fail
  refine (C5.out w5 B5.out).mono ?_
  rintro e w6 ⟨rfl, hb6⟩
  have K6 := hide1 (K5.out.below hb6 K5.out.lt)
  have B6 := hide1 (B5.out.trans (hb6.mono B5.out.size))
  clear hb6 C5 K5 B5 x11 x12
  have x13 : w6.cell? ⟨w.heap.size, 13, none⟩ = some (.int .i64 N.dr) := K6.out.cell 13
  go_wp2_with fail
  refine (C6.out w6).mono ?_
  rintro e w7 ⟨rfl, hb7⟩
  have K7 := hide1 (K6.out.below hb7 K6.out.lt)
  have B7 := hide1 (B6.out.trans (hb7.mono B6.out.size))
  clear hb7 C6 K6 B6 x13
  go_wp2
  go_ret
  exact ⟨rfl, B7.out⟩

set_option maxRecDepth 100000 in
set_option maxHeartbeats 4000000 in
theorem shapeI {w : World} {A : NA} {N : Nr} (h : InN N) :
    Calls Tryz.prog 23 #[neV A N] w fun e w' => e = .returned (.bool true) ∧ Below w.heap.size w w' := by
  have hn := h.inT.ar.most
  have CS := hide1 (fun w' => implShape_any N.sl.length w' h.two hn)
  have hod : N.od.length = 0 := by rw [h.od]; rfl
  have hcl := cellsN_le N.sl.length
  unfold neV
  rw [hod, h.len, h.wm, h.tm, h.sm]
  clear h hod
  generalize cellsN N.sl.length = cn at *
  generalize mostW N.sl.length = mw at *
  generalize mostT N.sl.length = mt at *
  generalize mostS N.sl.length = ms at *
  have F0 := hide1 (blkN2 w #[.slice A.a N.sl.length A.ac, .int .i64 N.fr, .slice A.c cn A.cc, .slice A.o 0 A.oc, .int .i64 N.mv, .int .i64 (mw : Int), .slice A.w N.w.length A.wc, .int .i64 (mt : Int), .slice A.t N.t.length A.tc, .int .i64 (ms : Int), .slice A.s N.s.length A.sc, .slice A.k N.sk.length A.kc, .int .i64 N.ad, .int .i64 N.dr] #[.int .i64 (cn : Int), .int .i64 (mw : Int), .int .i64 (mt : Int), .int .i64 (ms : Int)] 40 49)
  go_enter Tryz.func23, Tryz.ntmps23
  go_wp2_with fail
  generalize ((w.alloc (.cells #[.slice A.a N.sl.length A.ac, .int .i64 N.fr, .slice A.c cn A.cc, .slice A.o 0 A.oc, .int .i64 N.mv, .int .i64 (mw : Int), .slice A.w N.w.length A.wc, .int .i64 (mt : Int), .slice A.t N.t.length A.tc, .int .i64 (ms : Int), .slice A.s N.s.length A.sc, .slice A.k N.sk.length A.kc, .int .i64 N.ad, .int .i64 N.dr] 40)).alloc (.cells #[.int .i64 (cn : Int), .int .i64 (mw : Int), .int .i64 (mt : Int), .int .i64 (ms : Int)] 49)) = w2 at F0 ⊢
  obtain ⟨K2, S2, B2⟩ := F0.out
  have K2 := hide1 K2
  have S2 := hide1 S2
  have B2 := hide1 B2
  clear F0
  have hs0 : w.heap.size < w2.heap.size := K2.out.lt
  have hs1 : w.heap.size + 1 < w2.heap.size := S2.out.lt
  have x0 : w2.cell? ⟨w.heap.size, 0, none⟩ = some (.slice A.a N.sl.length A.ac) := K2.out.cell 0
  have x1 : w2.cell? ⟨w.heap.size, 3, none⟩ = some (.slice A.o 0 A.oc) := K2.out.cell 3
  have x2 : w2.cell? ⟨w.heap.size + 1, 0, none⟩ = some (.int .i64 (cn : Int)) := S2.out.cell 0
  have x3 : w2.cell? ⟨w.heap.size + 1, 1, none⟩ = some (.int .i64 (mw : Int)) := S2.out.cell 1
  have x4 : w2.cell? ⟨w.heap.size + 1, 2, none⟩ = some (.int .i64 (mt : Int)) := S2.out.cell 2
  have x5 : w2.cell? ⟨w.heap.size + 1, 3, none⟩ = some (.int .i64 (ms : Int)) := S2.out.cell 3
  go_region_held3 (fun w' => w'.cell? ⟨w.heap.size, 0, none⟩ = some (.slice A.a N.sl.length A.ac) ∧ w'.cell? ⟨w.heap.size, 3, none⟩ = some (.slice A.o 0 A.oc) ∧ w'.cell? ⟨w.heap.size + 1, 0, none⟩ = some (.int .i64 (cn : Int)) ∧ w'.cell? ⟨w.heap.size + 1, 1, none⟩ = some (.int .i64 (mw : Int)) ∧ w'.cell? ⟨w.heap.size + 1, 2, none⟩ = some (.int .i64 (mt : Int)) ∧ w'.cell? ⟨w.heap.size + 1, 3, none⟩ = some (.int .i64 (ms : Int))) (first | simp only [World.cell?_drew, x0, x1, x2, x3, x4, x5, and_self] | simp only [z0, z1, z2, z3, z4, z5, and_self] | simp only [World.cell?_drew, z0, z1, z2, z3, z4, z5, and_self]) ((go_at_call 12; refine (CS.out _).mono ?_; rintro e w3 ⟨rfl, hb3⟩; have D3 : Hid (Below w2.heap.size w2 w3) := (show Below w2.heap.size w2 _ by go_grown).trans (hb3.mono (by go_size)); clear hb3; have z0 : w3.cell? ⟨w.heap.size, 0, none⟩ = some (.slice A.a N.sl.length A.ac) := (D3.out.cell hs0).trans x0; have z1 : w3.cell? ⟨w.heap.size, 3, none⟩ = some (.slice A.o 0 A.oc) := (D3.out.cell hs0).trans x1; have z2 : w3.cell? ⟨w.heap.size + 1, 0, none⟩ = some (.int .i64 (cn : Int)) := (D3.out.cell hs1).trans x2; have z3 : w3.cell? ⟨w.heap.size + 1, 1, none⟩ = some (.int .i64 (mw : Int)) := (D3.out.cell hs1).trans x3; have z4 : w3.cell? ⟨w.heap.size + 1, 2, none⟩ = some (.int .i64 (mt : Int)) := (D3.out.cell hs1).trans x4; have z5 : w3.cell? ⟨w.heap.size + 1, 3, none⟩ = some (.int .i64 (ms : Int)) := (D3.out.cell hs1).trans x5))
  all_goals go_wp2
  all_goals go_ret
  all_goals exact ⟨rfl, B2.out.trans (D3.out.mono B2.out.size)⟩
end Go.Proofs.YtenmpciimocggaaGreat
