import Derived.Test.YtigpjmmfelndkaaGreatDoorLYR
import Derived.Test.YtigpjmmfelndkaaGreatDoorLDec
import Derived.Test.YtigpjmmfelndkaaGreatDoorLYG
namespace Go.Proofs.YtigpjmmfelndkaaGreatDoor
open Go.RowKit
set_option linter.unusedVariables false
set_option maxRecDepth 100000
set_option maxHeartbeats 8000000
theorem zbM {B B' : Nat} {w : World} {a : Option Addr} {len : Nat} (h : Code B w a len) (hB : B <= B') : Code B' w a len :=
 ⟨h.le, fun j hj => by obtain ⟨b, o, v, h1, h2, h3, h4⟩ := h.cells j hj; exact ⟨b, o, v, h1, by omega, h3, h4⟩⟩
theorem zeJ : ∀ i : Fin 30, (Lib.itoa (i.1 : Int)).length <= 20 := by decide +kernel
theorem zcP (i : Nat) (h : i < 30) (w : World) : ∃ v : ByteArray, v.size <= 20 /\ Calls Tryz.prog 18 #[.int .i64 (i : Int)] w fun e w' => e = .returned (.string v) /\ Below w.heap.size w w' :=
 ⟨⟨(Lib.itoa (i : Int)).toArray⟩, by show (Lib.itoa (i : Int)).toArray.size <= 20; rw [List.size_toArray]; exact zeJ ⟨i, h⟩, qlA (i : Int) w (by omega) (by omega)⟩
def put14 (w : World) (s : Nat) (v0 v1 v2 v3 v4 v5 v6 v7 v8 v9 v10 v11 v12 v13 : Value) : World := ((((((((((((((w.setCell ⟨s, 0, none⟩ v0).setCell ⟨s, 1, none⟩ v1).setCell ⟨s, 2, none⟩ v2).setCell ⟨s, 3, none⟩ v3).setCell ⟨s, 4, none⟩ v4).setCell ⟨s, 5, none⟩ v5).setCell ⟨s, 6, none⟩ v6).setCell ⟨s, 7, none⟩ v7).setCell ⟨s, 8, none⟩ v8).setCell ⟨s, 9, none⟩ v9).setCell ⟨s, 10, none⟩ v10).setCell ⟨s, 11, none⟩ v11).setCell ⟨s, 12, none⟩ v12).setCell ⟨s, 13, none⟩ v13)
theorem qwC {w : World} {r s : Nat} {t : TypeId} {L : List Value} (h : Blk w r t L) (hne : r ≠ s) (v0 v1 v2 v3 v4 v5 v6 v7 v8 v9 v10 v11 v12 v13 : Value) : Blk (put14 w s v0 v1 v2 v3 v4 v5 v6 v7 v8 v9 v10 v11 v12 v13) r t L := ((((((((((((((h).far ⟨s, 0, none⟩ v0 hne).far ⟨s, 1, none⟩ v1 hne).far ⟨s, 2, none⟩ v2 hne).far ⟨s, 3, none⟩ v3 hne).far ⟨s, 4, none⟩ v4 hne).far ⟨s, 5, none⟩ v5 hne).far ⟨s, 6, none⟩ v6 hne).far ⟨s, 7, none⟩ v7 hne).far ⟨s, 8, none⟩ v8 hne).far ⟨s, 9, none⟩ v9 hne).far ⟨s, 10, none⟩ v10 hne).far ⟨s, 11, none⟩ v11 hne).far ⟨s, 12, none⟩ v12 hne).far ⟨s, 13, none⟩ v13 hne
theorem zbO {w : World} {s : Nat} {t : TypeId} {A0 A : NA} {N0 N : Nr} (h : Blk w s t (neC A0 N0)) : Blk (put14 w s (.slice A.a N.sl.length A.ac) (.int .i64 N.fr) (.slice A.c N.ce.length A.cc) (.slice A.o N.od.length A.oc) (.int .i64 N.mv) (.int .i64 N.wm) (.slice A.w N.w.length A.wc) (.int .i64 N.tm) (.slice A.t N.t.length A.tc) (.int .i64 N.sm) (.slice A.s N.s.length A.sc) (.slice A.k N.sk.length A.kc) (.int .i64 N.ad) (.int .i64 N.dr)) s t (neC A N) := Blk.set (Blk.set (Blk.set (Blk.set (Blk.set (Blk.set (Blk.set (Blk.set (Blk.set (Blk.set (Blk.set (Blk.set (Blk.set (Blk.set (h) 0 (.slice A.a N.sl.length A.ac)) 1 (.int .i64 N.fr)) 2 (.slice A.c N.ce.length A.cc)) 3 (.slice A.o N.od.length A.oc)) 4 (.int .i64 N.mv)) 5 (.int .i64 N.wm)) 6 (.slice A.w N.w.length A.wc)) 7 (.int .i64 N.tm)) 8 (.slice A.t N.t.length A.tc)) 9 (.int .i64 N.sm)) 10 (.slice A.s N.s.length A.sc)) 11 (.slice A.k N.sk.length A.kc)) 12 (.int .i64 N.ad)) 13 (.int .i64 N.dr)
structure FrN4 (w w6 : World) (S P Q P1 Q1 : Nat) (A M A0 M0 : NA) (N N0 N1 : Nr) : Prop where
 p : Blk w6 P 39 (neC A0 N0)
 q : Blk w6 Q 39 (neC M0 N1)
 p1 : Blk w6 P1 39 (neC A N)
 q1 : Blk w6 Q1 39 (neC M N)
 oa : OwnN w6 S A N
 om : OwnN w6 S M N
 hP : P < S
 hQ : Q < S
 hP1 : S <= P1
 hQ1 : S <= Q1
 ne : P ≠ Q
 bel : Below w.heap.size w w6
theorem FrN4.putP {w w6 : World} {S P Q P1 Q1 : Nat} {A M A0 M0 : NA} {N N0 N1 : Nr} (h : FrN4 w w6 S P Q P1 Q1 A M A0 M0 N N0 N1) (hw : w.heap.size <= P) : FrN4 w (put14 w6 P (.slice A.a N.sl.length A.ac) (.int .i64 N.fr) (.slice A.c N.ce.length A.cc) (.slice A.o N.od.length A.oc) (.int .i64 N.mv) (.int .i64 N.wm) (.slice A.w N.w.length A.wc) (.int .i64 N.tm) (.slice A.t N.t.length A.tc) (.int .i64 N.sm) (.slice A.s N.s.length A.sc) (.slice A.k N.sk.length A.kc) (.int .i64 N.ad) (.int .i64 N.dr)) S P Q P1 Q1 A M A M0 N N N1 := by
 have := h.hP
 have := h.hP1
 have := h.hQ1
 exact ⟨zbO h.p, qwC h.q h.ne.symm (.slice A.a N.sl.length A.ac) (.int .i64 N.fr) (.slice A.c N.ce.length A.cc) (.slice A.o N.od.length A.oc) (.int .i64 N.mv) (.int .i64 N.wm) (.slice A.w N.w.length A.wc) (.int .i64 N.tm) (.slice A.t N.t.length A.tc) (.int .i64 N.sm) (.slice A.s N.s.length A.sc) (.slice A.k N.sk.length A.kc) (.int .i64 N.ad) (.int .i64 N.dr), qwC h.p1 (by omega) (.slice A.a N.sl.length A.ac) (.int .i64 N.fr) (.slice A.c N.ce.length A.cc) (.slice A.o N.od.length A.oc) (.int .i64 N.mv) (.int .i64 N.wm) (.slice A.w N.w.length A.wc) (.int .i64 N.tm) (.slice A.t N.t.length A.tc) (.int .i64 N.sm) (.slice A.s N.s.length A.sc) (.slice A.k N.sk.length A.kc) (.int .i64 N.ad) (.int .i64 N.dr), qwC h.q1 (by omega) (.slice A.a N.sl.length A.ac) (.int .i64 N.fr) (.slice A.c N.ce.length A.cc) (.slice A.o N.od.length A.oc) (.int .i64 N.mv) (.int .i64 N.wm) (.slice A.w N.w.length A.wc) (.int .i64 N.tm) (.slice A.t N.t.length A.tc) (.int .i64 N.sm) (.slice A.s N.s.length A.sc) (.slice A.k N.sk.length A.kc) (.int .i64 N.ad) (.int .i64 N.dr), h.oa.put14 h.hP (.slice A.a N.sl.length A.ac) (.int .i64 N.fr) (.slice A.c N.ce.length A.cc) (.slice A.o N.od.length A.oc) (.int .i64 N.mv) (.int .i64 N.wm) (.slice A.w N.w.length A.wc) (.int .i64 N.tm) (.slice A.t N.t.length A.tc) (.int .i64 N.sm) (.slice A.s N.s.length A.sc) (.slice A.k N.sk.length A.kc) (.int .i64 N.ad) (.int .i64 N.dr), h.om.put14 h.hP (.slice A.a N.sl.length A.ac) (.int .i64 N.fr) (.slice A.c N.ce.length A.cc) (.slice A.o N.od.length A.oc) (.int .i64 N.mv) (.int .i64 N.wm) (.slice A.w N.w.length A.wc) (.int .i64 N.tm) (.slice A.t N.t.length A.tc) (.int .i64 N.sm) (.slice A.s N.s.length A.sc) (.slice A.k N.sk.length A.kc) (.int .i64 N.ad) (.int .i64 N.dr), h.hP, h.hQ, h.hP1, h.hQ1, h.ne, qaM h.bel hw (.slice A.a N.sl.length A.ac) (.int .i64 N.fr) (.slice A.c N.ce.length A.cc) (.slice A.o N.od.length A.oc) (.int .i64 N.mv) (.int .i64 N.wm) (.slice A.w N.w.length A.wc) (.int .i64 N.tm) (.slice A.t N.t.length A.tc) (.int .i64 N.sm) (.slice A.s N.s.length A.sc) (.slice A.k N.sk.length A.kc) (.int .i64 N.ad) (.int .i64 N.dr)⟩
theorem FrN4.putQ {w w6 : World} {S P Q P1 Q1 : Nat} {A M A0 M0 : NA} {N N0 N1 : Nr} (h : FrN4 w w6 S P Q P1 Q1 A M A0 M0 N N0 N1) (hw : w.heap.size <= Q) : FrN4 w (put14 w6 Q (.slice M.a N.sl.length M.ac) (.int .i64 N.fr) (.slice M.c N.ce.length M.cc) (.slice M.o N.od.length M.oc) (.int .i64 N.mv) (.int .i64 N.wm) (.slice M.w N.w.length M.wc) (.int .i64 N.tm) (.slice M.t N.t.length M.tc) (.int .i64 N.sm) (.slice M.s N.s.length M.sc) (.slice M.k N.sk.length M.kc) (.int .i64 N.ad) (.int .i64 N.dr)) S P Q P1 Q1 A M A0 M N N0 N := by
 have := h.hQ
 have := h.hP1
 have := h.hQ1
 exact ⟨qwC h.p h.ne (.slice M.a N.sl.length M.ac) (.int .i64 N.fr) (.slice M.c N.ce.length M.cc) (.slice M.o N.od.length M.oc) (.int .i64 N.mv) (.int .i64 N.wm) (.slice M.w N.w.length M.wc) (.int .i64 N.tm) (.slice M.t N.t.length M.tc) (.int .i64 N.sm) (.slice M.s N.s.length M.sc) (.slice M.k N.sk.length M.kc) (.int .i64 N.ad) (.int .i64 N.dr), zbO h.q, qwC h.p1 (by omega) (.slice M.a N.sl.length M.ac) (.int .i64 N.fr) (.slice M.c N.ce.length M.cc) (.slice M.o N.od.length M.oc) (.int .i64 N.mv) (.int .i64 N.wm) (.slice M.w N.w.length M.wc) (.int .i64 N.tm) (.slice M.t N.t.length M.tc) (.int .i64 N.sm) (.slice M.s N.s.length M.sc) (.slice M.k N.sk.length M.kc) (.int .i64 N.ad) (.int .i64 N.dr), qwC h.q1 (by omega) (.slice M.a N.sl.length M.ac) (.int .i64 N.fr) (.slice M.c N.ce.length M.cc) (.slice M.o N.od.length M.oc) (.int .i64 N.mv) (.int .i64 N.wm) (.slice M.w N.w.length M.wc) (.int .i64 N.tm) (.slice M.t N.t.length M.tc) (.int .i64 N.sm) (.slice M.s N.s.length M.sc) (.slice M.k N.sk.length M.kc) (.int .i64 N.ad) (.int .i64 N.dr), h.oa.put14 h.hQ (.slice M.a N.sl.length M.ac) (.int .i64 N.fr) (.slice M.c N.ce.length M.cc) (.slice M.o N.od.length M.oc) (.int .i64 N.mv) (.int .i64 N.wm) (.slice M.w N.w.length M.wc) (.int .i64 N.tm) (.slice M.t N.t.length M.tc) (.int .i64 N.sm) (.slice M.s N.s.length M.sc) (.slice M.k N.sk.length M.kc) (.int .i64 N.ad) (.int .i64 N.dr), h.om.put14 h.hQ (.slice M.a N.sl.length M.ac) (.int .i64 N.fr) (.slice M.c N.ce.length M.cc) (.slice M.o N.od.length M.oc) (.int .i64 N.mv) (.int .i64 N.wm) (.slice M.w N.w.length M.wc) (.int .i64 N.tm) (.slice M.t N.t.length M.tc) (.int .i64 N.sm) (.slice M.s N.s.length M.sc) (.slice M.k N.sk.length M.kc) (.int .i64 N.ad) (.int .i64 N.dr), h.hP, h.hQ, h.hP1, h.hQ1, h.ne, qaM h.bel hw (.slice M.a N.sl.length M.ac) (.int .i64 N.fr) (.slice M.c N.ce.length M.cc) (.slice M.o N.od.length M.oc) (.int .i64 N.mv) (.int .i64 N.wm) (.slice M.w N.w.length M.wc) (.int .i64 N.tm) (.slice M.t N.t.length M.tc) (.int .i64 N.sm) (.slice M.s N.s.length M.sc) (.slice M.k N.sk.length M.kc) (.int .i64 N.ad) (.int .i64 N.dr)⟩
theorem FrN4.tw {w w6 : World} {S P Q P1 Q1 : Nat} {A M : NA} {N : Nr} (h : FrN4 w w6 S P Q P1 Q1 A M A M N N N) (hS : w.heap.size <= S) : TwN w w6 P Q A M N N :=
 ⟨h.p, h.q, h.oa.base hS, h.om.base hS, h.bel⟩
def qwP (u w : World) (X : Nat) (A : NA) (N : Nr) : Prop := u.heap.size <= X /\ Blk w X 39 (neC A N) /\ OwnN w u.heap.size A N /\ Below u.heap.size u w
theorem boxA {u w : World} {B : Nat} {A : NA} {N : Nr} (ho : OwnN w B A N) (hB : u.heap.size < B) (hb : Below u.heap.size u w) (hz : Blk w u.heap.size 39 (neC noA zeN)) : qwP u (put14 w u.heap.size (.slice A.a N.sl.length A.ac) (.int .i64 N.fr) (.slice A.c N.ce.length A.cc) (.slice A.o N.od.length A.oc) (.int .i64 N.mv) (.int .i64 N.wm) (.slice A.w N.w.length A.wc) (.int .i64 N.tm) (.slice A.t N.t.length A.tc) (.int .i64 N.sm) (.slice A.s N.s.length A.sc) (.slice A.k N.sk.length A.kc) (.int .i64 N.ad) (.int .i64 N.dr)) u.heap.size A N :=
 ⟨Nat.le_refl _, zbO hz, (ho.put14 hB (.slice A.a N.sl.length A.ac) (.int .i64 N.fr) (.slice A.c N.ce.length A.cc) (.slice A.o N.od.length A.oc) (.int .i64 N.mv) (.int .i64 N.wm) (.slice A.w N.w.length A.wc) (.int .i64 N.tm) (.slice A.t N.t.length A.tc) (.int .i64 N.sm) (.slice A.s N.s.length A.sc) (.slice A.k N.sk.length A.kc) (.int .i64 N.ad) (.int .i64 N.dr)).base (Nat.le_of_lt hB), qaM hb (Nat.le_refl _) (.slice A.a N.sl.length A.ac) (.int .i64 N.fr) (.slice A.c N.ce.length A.cc) (.slice A.o N.od.length A.oc) (.int .i64 N.mv) (.int .i64 N.wm) (.slice A.w N.w.length A.wc) (.int .i64 N.tm) (.slice A.t N.t.length A.tc) (.int .i64 N.sm) (.slice A.s N.s.length A.sc) (.slice A.k N.sk.length A.kc) (.int .i64 N.ad) (.int .i64 N.dr)⟩
theorem boxB {u w : World} {B : Nat} {A : NA} {N : Nr} (ho : OwnN w B A N) (hB : u.heap.size <= B) (hb : Below u.heap.size u w) : qwP u (w.alloc (.cells (nA A N) 39)) w.heap.size A N :=
 ⟨hb.size, Blk.new w 39 _, (ho.later (bAl _ _)).base hB, hb.alloc hb.size _⟩
theorem zbox {u w7 : World} (hb : Below (u.alloc (.cells nZ 39)).heap.size (u.alloc (.cells nZ 39)) w7) : Blk w7 u.heap.size 39 (neC noA zeN) :=
 Blk.below (Blk.new u 39 nZ) hb (by rw [World.size_alloc]; omega)
theorem qyU {u w7 : World} (hb : Below (u.alloc (.cells nZ 39)).drew.heap.size (u.alloc (.cells nZ 39)).drew w7) : Blk w7 u.heap.size 39 (neC noA zeN) :=
 Blk.below (w := (u.alloc (.cells nZ 39)).drew) (Blk.new u 39 nZ) hb (show u.heap.size < (u.alloc (.cells nZ 39)).heap.size by rw [World.size_alloc]; omega)
theorem qyT {u w7 : World} (hb : Below (u.drew.alloc (.cells nZ 39)).heap.size (u.drew.alloc (.cells nZ 39)) w7) : Blk w7 u.heap.size 39 (neC noA zeN) :=
 Blk.below (Blk.new u.drew 39 nZ) hb (show u.drew.heap.size < _ by rw [World.size_alloc]; omega)
theorem qyA {w u u2 u3 : World} {P Q P1 Q1 : Nat} {A M A1 M1 : NA} {N K : Nr} (h : TwN w u P Q A M N N) (hPQ : P < Q) (h1 : qwP u u2 P1 A1 K) (h2 : qwP u2 u3 Q1 M1 K) : FrN4 w u3 u.heap.size P Q P1 Q1 A1 M1 A M K N N := by
 have t1 := h.later h1.2.2.2
 have t2 := t1.later h2.2.2.2
 have := h1.2.2.2.size
 exact ⟨t2.p, t2.q, h1.2.1.below h2.2.2.2 h1.2.1.lt, h2.2.1, h1.2.2.1.later h2.2.2.2, h2.2.2.1.base this, h.p.lt, h.q.lt, h1.1, Nat.le_trans this h2.1, by omega, t2.bel⟩
theorem ValA.spec {N : Nr} (hN : InN N) {k v y : ByteArray} {t s : Bool} (h : ValA N k v t) (h2 : (k ∈ qaD N /\ s = true /\ qkI N.sl k y) ∨ (¬ k ∈ qaD N /\ s = false /\ y = ⟨#[]⟩)) : v = y /\ t = s := by
 rcases h with ⟨rfl, h⟩ | ⟨rfl, rfl, h⟩ <;> rcases h2 with ⟨hk, rfl, h2⟩ | ⟨hk, rfl, rfl⟩
 ·exact ⟨hN.one h h2, rfl⟩
 ·exact absurd (hN.hasV.1 ⟨_, h⟩) hk
 ·exact absurd h2 (h _)
 ·exact ⟨rfl, rfl⟩
theorem sizeS {w : World} {A : NA} {N : Nr} (h : InN N) (hA : RdN w A N) :
  Calls Tryz.prog 21 #[neV A N] w fun e w' => e = .returned (.int .i64 ((qaD N).length : Int)) /\ Below w.heap.size w w' := by
 have hl := h.small
 have BX := hI (And.intro (show Blk (w.alloc (.cells (nA A N) 39)) w.heap.size 39 (neC A N) from Blk.new w 39 _) (bAl w (.cells (nA A N) 39)))
 have C1 := hI (fun w' (hb : Below w.heap.size w w') => qiP h (hA.later hb))
 have CU := hI (fun w' (hb : Below w.heap.size w w') => qhP (hA.later hb) h.qw.small h.qt.small h.qs.small)
 rw [qcS] at CU
 unfold neV at C1 CU ⊢
 generalize (qaD N).length = n at *
 clear h hA hl
 go_enter Tryz.func21, Tryz.ntmps21
 go_wp2_with fail
 generalize (w.alloc (.cells (nA A N) 39)) = w0 at BX ⊢
 obtain ⟨K0, B0⟩ := BX.out
 have K0 := hI K0
 have B0 := hI B0
 clear BX
 refine (C1.out w0 B0.out).mono ?_
 rintro e w1 ⟨rfl, hb1⟩
 have K1 := bRn K0 hb1
 have B1 := tRn B0 hb1
 clear hb1 C1 K0 B0
 obtain ⟨_, x0, x1, x2, x3, x4, x5, x6, x7, x8, x9, x10, x11, x12, x13⟩ := qcR K1.out
 go_wp2_with fail
 refine (CU.out w1 B1.out).mono ?_
 rintro e w2 ⟨po, pc, rfl, _, hb2⟩
 have B2 := tRn B1 hb2
 clear hb2 CU K1 B1 x0 x1 x2 x3 x4 x5 x6 x7 x8 x9 x10 x11 x12 x13
 go_wp2
 go_ret
 exact ⟨rfl, B2.out⟩
theorem kE {u : World} {X : Nat} (h : X < u.heap.size) (o : Obj) (j : Nat) : (u.alloc o).cell? ⟨X, j, none⟩ = u.cell? ⟨X, j, none⟩ := ((Below.refl _ u).alloc (Nat.le_refl _) o).cell (p := ⟨X, j, none⟩) h
theorem kS {s X : Nat} (h : X < s) (w : World) (i j : Nat) (v : Value) : (w.setCell ⟨s, i, none⟩ v).cell? ⟨X, j, none⟩ = w.cell? ⟨X, j, none⟩ := World.cell?_setCell_other _ _ _ _ (by intro e; injection e; omega)
def qhW (n : Nat) : Go.Code -> Option Go.Code
 | .region m o d => if m = n then some (.region m o d) else none
 | .seq a b => match qhW n a with
  | some c => some c
  | none => qhW n b
 | .cond _ a b => match qhW n a with
  | some c => some c
  | none => qhW n b
 | .block _ a => qhW n a
 | .loop a => qhW n a
 | _ => none
theorem reg12 {c : Go.Code} {Q : Exit -> Act -> World -> Prop} {u : World} {X g i m wcp : Nat} {A : NA} {N K : Nr} {z : ByteArray} {R : ByteArray -> Bool -> Prop} {y0 y1 y2 y4 y6 y7 y8 ya yb yc yd ye yf yg yh yi yj yk yl ym yn yo yp yq yr ys yt yu yv yw yx yy yz yA yB yC yD yE yF yG yH yI yJ yK yL yM yN yO yP yQ yR yS yT yU yV yW yX yY yZ Y0 Y1 Y2 Y3 Y4 Y5 Y6 Y7 Y8 Y9 Ya Yb Yc Yd Ye Yf Yg Yh Yi Yj Yk Yl Ym Yn Yo Yp Yq Yr Ys Yt Yu Yv Yw Yx Yy Yz YA YB YC YD YE YF YG YH YI YJ YK YL YM YN YO YP YQ YR YS YT YU YV YW YX YY YZ J0 J1 J2 J3 J4 J5 J6 J7 J8 J9 Ja Jb Jc Jd Je Jf Jg Jh Ji Jj Jk Jl Jm Jn Jo Jp : Value} (hc : qhW 12 (Tryz.f4.body.getD .skip) = some c) (hX : Blk u X 39 (neC A N)) (hgu : g < u.heap.size) (n0 : u.cell? ⟨g, i, none⟩ = some (.string z)) (hlt : (i : Int) < (m : Int))
  (C : ∀ w', Below u.heap.size u w' -> Calls Tryz.prog 19 #[.agg (nA A N), .string z] w' fun e w'' => ∃ A' v7 t7, e = .returned (.tuple #[neV A' K, .string v7, .bool t7]) /\ R v7 t7 /\ OwnN w'' w'.heap.size A' K /\ Below w'.heap.size w' w'')
  (hQ : ∀ X1 A1 v7 t7 w', qwP u w' X1 A1 K -> R v7 t7 -> Q .normal { tmps := #[y0, y1, y2, .slice (some ⟨g, 0, none⟩) m wcp, y4, .pointer (some ⟨X, 0, none⟩), y6, y7, y8, .int .i64 (i : Int), ya, .pointer (some ⟨X1, 0, none⟩), .string v7, .bool t7, ye, yf, yg, yh, yi, yj, yk, yl, ym, yn, yo, yp, yq, yr, ys, yt, yu, yv, yw, yx, yy, yz, yA, yB, yC, yD, yE, yF, yG, yH, yI, yJ, yK, yL, yM, yN, yO, yP, yQ, yR, yS, yT, yU, yV, yW, yX, yY, yZ, Y0, Y1, .tuple #[.agg (nA A1 K), .string v7, .bool t7], .agg (nA A N), .slice (some ⟨g, 0, none⟩) m wcp, .int .i64 (i : Int), .pointer (some ⟨g, i, none⟩), .string z, .tuple #[.agg (nA A1 K), .string v7, .bool t7], .agg (nA A1 K), .string v7, .bool t7, Yc, Yd, Ye, Yf, Yg, Yh, Yi, Yj, Yk, Yl, Ym, Yn, Yo, Yp, Yq, Yr, Ys, Yt, Yu, Yv, Yw, Yx, Yy, Yz, YA, YB, YC, YD, YE, YF, YG, YH, YI, YJ, YK, YL, YM, YN, YO, YP, YQ, YR, YS, YT, YU, YV, YW, YX, YY, YZ, J0, J1, J2, J3, J4, J5, J6, J7, J8, J9, Ja, Jb, Jc, Jd, Je, Jf, Jg, Jh, Ji, Jj, Jk, Jl, Jm, Jn, Jo, Jp], defers := [] } w') :
  Go.Code.wp Tryz.prog c Q { tmps := #[y0, y1, y2, .slice (some ⟨g, 0, none⟩) m wcp, y4, .pointer (some ⟨X, 0, none⟩), y6, y7, y8, .int .i64 (i : Int), ya, yb, yc, yd, ye, yf, yg, yh, yi, yj, yk, yl, ym, yn, yo, yp, yq, yr, ys, yt, yu, yv, yw, yx, yy, yz, yA, yB, yC, yD, yE, yF, yG, yH, yI, yJ, yK, yL, yM, yN, yO, yP, yQ, yR, yS, yT, yU, yV, yW, yX, yY, yZ, Y0, Y1, Y2, Y3, Y4, Y5, Y6, Y7, Y8, Y9, Ya, Yb, Yc, Yd, Ye, Yf, Yg, Yh, Yi, Yj, Yk, Yl, Ym, Yn, Yo, Yp, Yq, Yr, Ys, Yt, Yu, Yv, Yw, Yx, Yy, Yz, YA, YB, YC, YD, YE, YF, YG, YH, YI, YJ, YK, YL, YM, YN, YO, YP, YQ, YR, YS, YT, YU, YV, YW, YX, YY, YZ, J0, J1, J2, J3, J4, J5, J6, J7, J8, J9, Ja, Jb, Jc, Jd, Je, Jf, Jg, Jh, Ji, Jj, Jk, Jl, Jm, Jn, Jo, Jp], defers := [] } u := by
 have ec : some c = some _ := hc.symm.trans (show qhW 12 (Tryz.f4.body.getD .skip) = some _ from rfl)
 injection ec with ec
 subst ec
 have CW := hI C
 have HQ := hI hQ
 have HX := hI hX
 have HG := hI n0
 clear C hQ hc
 unfold neV at CW
 obtain ⟨hXu, a0, a1, a2, a3, a4, a5, a6, a7, a8, a9, a10, a11, a12, a13⟩ := qcR hX
 clear hX
 have fE := kE hXu
 have fG := kE hgu
 have tE := kS hXu
 have tG := kS hgu
 go_region_held3 (fun w' => w'.cell? ⟨X, 0, none⟩ = some (.slice A.a N.sl.length A.ac) /\ w'.cell? ⟨X, 1, none⟩ = some (.int .i64 N.fr) /\ w'.cell? ⟨X, 2, none⟩ = some (.slice A.c N.ce.length A.cc) /\ w'.cell? ⟨X, 3, none⟩ = some (.slice A.o N.od.length A.oc) /\ w'.cell? ⟨X, 4, none⟩ = some (.int .i64 N.mv) /\ w'.cell? ⟨X, 5, none⟩ = some (.int .i64 N.wm) /\ w'.cell? ⟨X, 6, none⟩ = some (.slice A.w N.w.length A.wc) /\ w'.cell? ⟨X, 7, none⟩ = some (.int .i64 N.tm) /\ w'.cell? ⟨X, 8, none⟩ = some (.slice A.t N.t.length A.tc) /\ w'.cell? ⟨X, 9, none⟩ = some (.int .i64 N.sm) /\ w'.cell? ⟨X, 10, none⟩ = some (.slice A.s N.s.length A.sc) /\ w'.cell? ⟨X, 11, none⟩ = some (.slice A.k N.sk.length A.kc) /\ w'.cell? ⟨X, 12, none⟩ = some (.int .i64 N.ad) /\ w'.cell? ⟨X, 13, none⟩ = some (.int .i64 N.dr) /\ w'.cell? ⟨g, i, none⟩ = some (.string z)) (first | simp only [eE, eG, a0, a1, a2, a3, a4, a5, a6, a7, a8, a9, a10, a11, a12, a13, n0, and_self] | simp only [World.cell?_drew, fE, fG, tE, tG, a0, a1, a2, a3, a4, a5, a6, a7, a8, a9, a10, a11, a12, a13, n0, and_self] | simp only [fE, fG, tE, tG, a0, a1, a2, a3, a4, a5, a6, a7, a8, a9, a10, a11, a12, a13, n0, and_self]) ((first | (go_at_call 19; refine (CW.out _ (show Below u.heap.size u _ by go_grown)).mono ?_; rintro e w7 ⟨A1, v7, t7, rfl, h7, ho7, hb7⟩; have b7 : Hid (Below u.heap.size u w7) := (show Below u.heap.size u _ by go_grown).trans (hb7.mono (by go_size)); have O7 : Hid (OwnN w7 u.heap.size A1 K) := ho7.base (by go_size); have H7 := hI h7; (try (have O7a : Hid (OwnN w7 (u.heap.size + 1) A1 K) := ho7.base (by go_size); have ZB := hI (show Blk w7 u.heap.size 39 (neC noA zeN) by first | exact zbox hb7 | exact qyU hb7 | exact qyT hb7); obtain ⟨_, z0, z1, z2, z3, z4, z5, z6, z7, z8, z9, z10, z11, z12, z13⟩ := qcR ZB.out; have zf : ∀ j, w7.frozen? ⟨u.heap.size, j, none⟩ = false := fun j => ZB.out.froz j)); clear hb7 h7 ho7 n0 a0 a1 a2 a3 a4 a5 a6 a7 a8 a9 a10 a11 a12 a13; have n0 := (b7.out.cell (p := ⟨g, i, none⟩) hgu).trans HG.out; have X7 := hI (HX.out.below b7.out HX.out.lt); obtain ⟨hXw, a0, a1, a2, a3, a4, a5, a6, a7, a8, a9, a10, a11, a12, a13⟩ := qcR X7.out; have hgw : g < w7.heap.size := Nat.lt_of_lt_of_le hgu b7.out.size; have eE := kE hXw; have eG := kE hgw)))
 all_goals
  first | (have := ZB.out; exact HQ.out _ A1 v7 t7 _ (boxA O7a.out (Nat.lt_succ_self _) b7.out ZB.out) H7.out) | exact HQ.out _ A1 v7 t7 _ (boxB O7.out (Nat.le_refl _) b7.out) H7.out
theorem reg13 {c : Go.Code} {Q : Exit -> Act -> World -> Prop} {u : World} {X g i m wcp : Nat} {A : NA} {N K : Nr} {z : ByteArray} {R : ByteArray -> Bool -> Prop} {y0 y1 y2 y4 y5 y6 y8 ya yb yc yd ye yf yg yh yi yj yk yl ym yn yo yp yq yr ys yt yu yv yw yx yy yz yA yB yC yD yE yF yG yH yI yJ yK yL yM yN yO yP yQ yR yS yT yU yV yW yX yY yZ Y0 Y1 Y2 Y3 Y4 Y5 Y6 Y7 Y8 Y9 Ya Yb Yc Yd Ye Yf Yg Yh Yi Yj Yk Yl Ym Yn Yo Yp Yq Yr Ys Yt Yu Yv Yw Yx Yy Yz YA YB YC YD YE YF YG YH YI YJ YK YL YM YN YO YP YQ YR YS YT YU YV YW YX YY YZ J0 J1 J2 J3 J4 J5 J6 J7 J8 J9 Ja Jb Jc Jd Je Jf Jg Jh Ji Jj Jk Jl Jm Jn Jo Jp : Value} (hc : qhW 13 (Tryz.f4.body.getD .skip) = some c) (hX : Blk u X 39 (neC A N)) (hgu : g < u.heap.size) (n0 : u.cell? ⟨g, i, none⟩ = some (.string z)) (hlt : (i : Int) < (m : Int))
  (C : ∀ w', Below u.heap.size u w' -> Calls Tryz.prog 20 #[.agg (nA A N), .string z] w' fun e w'' => ∃ A' v7 t7, e = .returned (.tuple #[neV A' K, .string v7, .bool t7]) /\ R v7 t7 /\ OwnN w'' w'.heap.size A' K /\ Below w'.heap.size w' w'')
  (hQ : ∀ X1 A1 v7 t7 w', qwP u w' X1 A1 K -> R v7 t7 -> Q .normal { tmps := #[y0, y1, y2, .slice (some ⟨g, 0, none⟩) m wcp, y4, y5, y6, .pointer (some ⟨X, 0, none⟩), y8, .int .i64 (i : Int), ya, yb, yc, yd, .pointer (some ⟨X1, 0, none⟩), .string v7, .bool t7, yh, yi, yj, yk, yl, ym, yn, yo, yp, yq, yr, ys, yt, yu, yv, yw, yx, yy, yz, yA, yB, yC, yD, yE, yF, yG, yH, yI, yJ, yK, yL, yM, yN, yO, yP, yQ, yR, yS, yT, yU, yV, yW, yX, yY, yZ, Y0, Y1, Y2, Y3, Y4, Y5, Y6, Y7, Y8, Y9, Ya, Yb, .tuple #[.agg (nA A1 K), .string v7, .bool t7], .agg (nA A N), .slice (some ⟨g, 0, none⟩) m wcp, .int .i64 (i : Int), .pointer (some ⟨g, i, none⟩), .string z, .tuple #[.agg (nA A1 K), .string v7, .bool t7], .agg (nA A1 K), .string v7, .bool t7, Ym, Yn, Yo, Yp, Yq, Yr, Ys, Yt, Yu, Yv, Yw, Yx, Yy, Yz, YA, YB, YC, YD, YE, YF, YG, YH, YI, YJ, YK, YL, YM, YN, YO, YP, YQ, YR, YS, YT, YU, YV, YW, YX, YY, YZ, J0, J1, J2, J3, J4, J5, J6, J7, J8, J9, Ja, Jb, Jc, Jd, Je, Jf, Jg, Jh, Ji, Jj, Jk, Jl, Jm, Jn, Jo, Jp], defers := [] } w') :
  Go.Code.wp Tryz.prog c Q { tmps := #[y0, y1, y2, .slice (some ⟨g, 0, none⟩) m wcp, y4, y5, y6, .pointer (some ⟨X, 0, none⟩), y8, .int .i64 (i : Int), ya, yb, yc, yd, ye, yf, yg, yh, yi, yj, yk, yl, ym, yn, yo, yp, yq, yr, ys, yt, yu, yv, yw, yx, yy, yz, yA, yB, yC, yD, yE, yF, yG, yH, yI, yJ, yK, yL, yM, yN, yO, yP, yQ, yR, yS, yT, yU, yV, yW, yX, yY, yZ, Y0, Y1, Y2, Y3, Y4, Y5, Y6, Y7, Y8, Y9, Ya, Yb, Yc, Yd, Ye, Yf, Yg, Yh, Yi, Yj, Yk, Yl, Ym, Yn, Yo, Yp, Yq, Yr, Ys, Yt, Yu, Yv, Yw, Yx, Yy, Yz, YA, YB, YC, YD, YE, YF, YG, YH, YI, YJ, YK, YL, YM, YN, YO, YP, YQ, YR, YS, YT, YU, YV, YW, YX, YY, YZ, J0, J1, J2, J3, J4, J5, J6, J7, J8, J9, Ja, Jb, Jc, Jd, Je, Jf, Jg, Jh, Ji, Jj, Jk, Jl, Jm, Jn, Jo, Jp], defers := [] } u := by
 have ec : some c = some _ := hc.symm.trans (show qhW 13 (Tryz.f4.body.getD .skip) = some _ from rfl)
 injection ec with ec
 subst ec
 have CW := hI C
 have HQ := hI hQ
 have HX := hI hX
 have HG := hI n0
 clear C hQ hc
 unfold neV at CW
 obtain ⟨hXu, a0, a1, a2, a3, a4, a5, a6, a7, a8, a9, a10, a11, a12, a13⟩ := qcR hX
 clear hX
 have fE := kE hXu
 have fG := kE hgu
 have tE := kS hXu
 have tG := kS hgu
 go_region_held3 (fun w' => w'.cell? ⟨X, 0, none⟩ = some (.slice A.a N.sl.length A.ac) /\ w'.cell? ⟨X, 1, none⟩ = some (.int .i64 N.fr) /\ w'.cell? ⟨X, 2, none⟩ = some (.slice A.c N.ce.length A.cc) /\ w'.cell? ⟨X, 3, none⟩ = some (.slice A.o N.od.length A.oc) /\ w'.cell? ⟨X, 4, none⟩ = some (.int .i64 N.mv) /\ w'.cell? ⟨X, 5, none⟩ = some (.int .i64 N.wm) /\ w'.cell? ⟨X, 6, none⟩ = some (.slice A.w N.w.length A.wc) /\ w'.cell? ⟨X, 7, none⟩ = some (.int .i64 N.tm) /\ w'.cell? ⟨X, 8, none⟩ = some (.slice A.t N.t.length A.tc) /\ w'.cell? ⟨X, 9, none⟩ = some (.int .i64 N.sm) /\ w'.cell? ⟨X, 10, none⟩ = some (.slice A.s N.s.length A.sc) /\ w'.cell? ⟨X, 11, none⟩ = some (.slice A.k N.sk.length A.kc) /\ w'.cell? ⟨X, 12, none⟩ = some (.int .i64 N.ad) /\ w'.cell? ⟨X, 13, none⟩ = some (.int .i64 N.dr) /\ w'.cell? ⟨g, i, none⟩ = some (.string z)) (first | simp only [eE, eG, a0, a1, a2, a3, a4, a5, a6, a7, a8, a9, a10, a11, a12, a13, n0, and_self] | simp only [World.cell?_drew, fE, fG, tE, tG, a0, a1, a2, a3, a4, a5, a6, a7, a8, a9, a10, a11, a12, a13, n0, and_self] | simp only [fE, fG, tE, tG, a0, a1, a2, a3, a4, a5, a6, a7, a8, a9, a10, a11, a12, a13, n0, and_self]) ((first | (go_at_call 20; refine (CW.out _ (show Below u.heap.size u _ by go_grown)).mono ?_; rintro e w7 ⟨A1, v7, t7, rfl, h7, ho7, hb7⟩; have b7 : Hid (Below u.heap.size u w7) := (show Below u.heap.size u _ by go_grown).trans (hb7.mono (by go_size)); have O7 : Hid (OwnN w7 u.heap.size A1 K) := ho7.base (by go_size); have H7 := hI h7; (try (have O7a : Hid (OwnN w7 (u.heap.size + 1) A1 K) := ho7.base (by go_size); have ZB := hI (show Blk w7 u.heap.size 39 (neC noA zeN) by first | exact zbox hb7 | exact qyU hb7 | exact qyT hb7); obtain ⟨_, z0, z1, z2, z3, z4, z5, z6, z7, z8, z9, z10, z11, z12, z13⟩ := qcR ZB.out; have zf : ∀ j, w7.frozen? ⟨u.heap.size, j, none⟩ = false := fun j => ZB.out.froz j)); clear hb7 h7 ho7 n0 a0 a1 a2 a3 a4 a5 a6 a7 a8 a9 a10 a11 a12 a13; have n0 := (b7.out.cell (p := ⟨g, i, none⟩) hgu).trans HG.out; have X7 := hI (HX.out.below b7.out HX.out.lt); obtain ⟨hXw, a0, a1, a2, a3, a4, a5, a6, a7, a8, a9, a10, a11, a12, a13⟩ := qcR X7.out; have hgw : g < w7.heap.size := Nat.lt_of_lt_of_le hgu b7.out.size; have eE := kE hXw; have eG := kE hgw)))
 all_goals
  first | (have := ZB.out; exact HQ.out _ A1 v7 t7 _ (boxA O7a.out (Nat.lt_succ_self _) b7.out ZB.out) H7.out) | exact HQ.out _ A1 v7 t7 _ (boxB O7.out (Nat.le_refl _) b7.out) H7.out
theorem reg18 {c : Go.Code} {Q : Exit -> Act -> World -> Prop} {u : World} {X g i m wcp : Nat} {A : NA} {N K : Nr} {z v : ByteArray} {R : ByteArray -> Bool -> Prop} {y0 y1 y2 y4 y6 y7 y8 yb yc yd ye yf yg yh yi yj yk yl ym yn yo yp yq yr ys yt yu yv yw yx yy yz yA yB yC yD yE yF yG yH yI yJ yK yL yM yN yO yP yQ yR yS yT yU yV yW yX yY yZ Y0 Y1 Y2 Y3 Y4 Y5 Y6 Y7 Y8 Y9 Ya Yb Yc Yd Ye Yf Yg Yh Yi Yj Yk Yl Ym Yn Yo Yp Yq Yr Ys Yt Yu Yv Yw Yx Yy Yz YA YB YC YD YE YF YG YH YI YJ YK YL YM YN YO YP YQ YR YS YT YU YV YW YX YY YZ J0 J1 J2 J3 J4 J5 J6 J7 J8 J9 Ja Jb Jc Jd Je Jf Jg Jh Ji Jj Jk Jl Jm Jn Jo Jp : Value} (hc : qhW 18 (Tryz.f4.body.getD .skip) = some c) (hX : Blk u X 39 (neC A N)) (hgu : g < u.heap.size) (n0 : u.cell? ⟨g, i, none⟩ = some (.string z)) (hlt : (i : Int) < (m : Int))
  (C : ∀ w', Below u.heap.size u w' -> Calls Tryz.prog 7 #[.agg (nA A N), .string z, .string v] w' fun e w'' => ∃ A' v7 t7, e = .returned (.tuple #[neV A' K, .string v7, .bool t7]) /\ R v7 t7 /\ OwnN w'' w'.heap.size A' K /\ Below w'.heap.size w' w'')
  (hQ : ∀ X1 A1 v7 t7 w', qwP u w' X1 A1 K -> R v7 t7 -> Q .normal { tmps := #[y0, y1, y2, .slice (some ⟨g, 0, none⟩) m wcp, y4, .pointer (some ⟨X, 0, none⟩), y6, y7, y8, .int .i64 (i : Int), .string v, yb, yc, yd, ye, yf, yg, .pointer (some ⟨X1, 0, none⟩), .string v7, .bool t7, yk, yl, ym, yn, yo, yp, yq, yr, ys, yt, yu, yv, yw, yx, yy, yz, yA, yB, yC, yD, yE, yF, yG, yH, yI, yJ, yK, yL, yM, yN, yO, yP, yQ, yR, yS, yT, yU, yV, yW, yX, yY, yZ, Y0, Y1, Y2, Y3, Y4, Y5, Y6, Y7, Y8, Y9, Ya, Yb, Yc, Yd, Ye, Yf, Yg, Yh, Yi, Yj, Yk, Yl, Ym, Yn, Yo, Yp, Yq, Yr, Ys, Yt, Yu, Yv, .tuple #[.agg (nA A1 K), .string v7, .bool t7], .agg (nA A N), .slice (some ⟨g, 0, none⟩) m wcp, .int .i64 (i : Int), .pointer (some ⟨g, i, none⟩), .string z, .string v, .tuple #[.agg (nA A1 K), .string v7, .bool t7], .agg (nA A1 K), .string v7, .bool t7, YH, YI, YJ, YK, YL, YM, YN, YO, YP, YQ, YR, YS, YT, YU, YV, YW, YX, YY, YZ, J0, J1, J2, J3, J4, J5, J6, J7, J8, J9, Ja, Jb, Jc, Jd, Je, Jf, Jg, Jh, Ji, Jj, Jk, Jl, Jm, Jn, Jo, Jp], defers := [] } w') :
  Go.Code.wp Tryz.prog c Q { tmps := #[y0, y1, y2, .slice (some ⟨g, 0, none⟩) m wcp, y4, .pointer (some ⟨X, 0, none⟩), y6, y7, y8, .int .i64 (i : Int), .string v, yb, yc, yd, ye, yf, yg, yh, yi, yj, yk, yl, ym, yn, yo, yp, yq, yr, ys, yt, yu, yv, yw, yx, yy, yz, yA, yB, yC, yD, yE, yF, yG, yH, yI, yJ, yK, yL, yM, yN, yO, yP, yQ, yR, yS, yT, yU, yV, yW, yX, yY, yZ, Y0, Y1, Y2, Y3, Y4, Y5, Y6, Y7, Y8, Y9, Ya, Yb, Yc, Yd, Ye, Yf, Yg, Yh, Yi, Yj, Yk, Yl, Ym, Yn, Yo, Yp, Yq, Yr, Ys, Yt, Yu, Yv, Yw, Yx, Yy, Yz, YA, YB, YC, YD, YE, YF, YG, YH, YI, YJ, YK, YL, YM, YN, YO, YP, YQ, YR, YS, YT, YU, YV, YW, YX, YY, YZ, J0, J1, J2, J3, J4, J5, J6, J7, J8, J9, Ja, Jb, Jc, Jd, Je, Jf, Jg, Jh, Ji, Jj, Jk, Jl, Jm, Jn, Jo, Jp], defers := [] } u := by
 have ec : some c = some _ := hc.symm.trans (show qhW 18 (Tryz.f4.body.getD .skip) = some _ from rfl)
 injection ec with ec
 subst ec
 have CW := hI C
 have HQ := hI hQ
 have HX := hI hX
 have HG := hI n0
 clear C hQ hc
 unfold neV at CW
 obtain ⟨hXu, a0, a1, a2, a3, a4, a5, a6, a7, a8, a9, a10, a11, a12, a13⟩ := qcR hX
 clear hX
 have fE := kE hXu
 have fG := kE hgu
 have tE := kS hXu
 have tG := kS hgu
 go_region_held3 (fun w' => w'.cell? ⟨X, 0, none⟩ = some (.slice A.a N.sl.length A.ac) /\ w'.cell? ⟨X, 1, none⟩ = some (.int .i64 N.fr) /\ w'.cell? ⟨X, 2, none⟩ = some (.slice A.c N.ce.length A.cc) /\ w'.cell? ⟨X, 3, none⟩ = some (.slice A.o N.od.length A.oc) /\ w'.cell? ⟨X, 4, none⟩ = some (.int .i64 N.mv) /\ w'.cell? ⟨X, 5, none⟩ = some (.int .i64 N.wm) /\ w'.cell? ⟨X, 6, none⟩ = some (.slice A.w N.w.length A.wc) /\ w'.cell? ⟨X, 7, none⟩ = some (.int .i64 N.tm) /\ w'.cell? ⟨X, 8, none⟩ = some (.slice A.t N.t.length A.tc) /\ w'.cell? ⟨X, 9, none⟩ = some (.int .i64 N.sm) /\ w'.cell? ⟨X, 10, none⟩ = some (.slice A.s N.s.length A.sc) /\ w'.cell? ⟨X, 11, none⟩ = some (.slice A.k N.sk.length A.kc) /\ w'.cell? ⟨X, 12, none⟩ = some (.int .i64 N.ad) /\ w'.cell? ⟨X, 13, none⟩ = some (.int .i64 N.dr) /\ w'.cell? ⟨g, i, none⟩ = some (.string z)) (first | simp only [eE, eG, a0, a1, a2, a3, a4, a5, a6, a7, a8, a9, a10, a11, a12, a13, n0, and_self] | simp only [World.cell?_drew, fE, fG, tE, tG, a0, a1, a2, a3, a4, a5, a6, a7, a8, a9, a10, a11, a12, a13, n0, and_self] | simp only [fE, fG, tE, tG, a0, a1, a2, a3, a4, a5, a6, a7, a8, a9, a10, a11, a12, a13, n0, and_self]) ((first | (go_at_call 7; refine (CW.out _ (show Below u.heap.size u _ by go_grown)).mono ?_; rintro e w7 ⟨A1, v7, t7, rfl, h7, ho7, hb7⟩; have b7 : Hid (Below u.heap.size u w7) := (show Below u.heap.size u _ by go_grown).trans (hb7.mono (by go_size)); have O7 : Hid (OwnN w7 u.heap.size A1 K) := ho7.base (by go_size); have H7 := hI h7; (try (have O7a : Hid (OwnN w7 (u.heap.size + 1) A1 K) := ho7.base (by go_size); have ZB := hI (show Blk w7 u.heap.size 39 (neC noA zeN) by first | exact zbox hb7 | exact qyU hb7 | exact qyT hb7); obtain ⟨_, z0, z1, z2, z3, z4, z5, z6, z7, z8, z9, z10, z11, z12, z13⟩ := qcR ZB.out; have zf : ∀ j, w7.frozen? ⟨u.heap.size, j, none⟩ = false := fun j => ZB.out.froz j)); clear hb7 h7 ho7 n0 a0 a1 a2 a3 a4 a5 a6 a7 a8 a9 a10 a11 a12 a13; have n0 := (b7.out.cell (p := ⟨g, i, none⟩) hgu).trans HG.out; have X7 := hI (HX.out.below b7.out HX.out.lt); obtain ⟨hXw, a0, a1, a2, a3, a4, a5, a6, a7, a8, a9, a10, a11, a12, a13⟩ := qcR X7.out; have hgw : g < w7.heap.size := Nat.lt_of_lt_of_le hgu b7.out.size; have eE := kE hXw; have eG := kE hgw)))
 all_goals
  first | (have := ZB.out; exact HQ.out _ A1 v7 t7 _ (boxA O7a.out (Nat.lt_succ_self _) b7.out ZB.out) H7.out) | exact HQ.out _ A1 v7 t7 _ (boxB O7.out (Nat.le_refl _) b7.out) H7.out
theorem reg19 {c : Go.Code} {Q : Exit -> Act -> World -> Prop} {u : World} {X g i m wcp : Nat} {A : NA} {N K : Nr} {z v : ByteArray} {R : ByteArray -> Bool -> Prop} {y0 y1 y2 y4 y5 y6 y8 yb yc yd ye yf yg yh yi yj yk yl ym yn yo yp yq yr ys yt yu yv yw yx yy yz yA yB yC yD yE yF yG yH yI yJ yK yL yM yN yO yP yQ yR yS yT yU yV yW yX yY yZ Y0 Y1 Y2 Y3 Y4 Y5 Y6 Y7 Y8 Y9 Ya Yb Yc Yd Ye Yf Yg Yh Yi Yj Yk Yl Ym Yn Yo Yp Yq Yr Ys Yt Yu Yv Yw Yx Yy Yz YA YB YC YD YE YF YG YH YI YJ YK YL YM YN YO YP YQ YR YS YT YU YV YW YX YY YZ J0 J1 J2 J3 J4 J5 J6 J7 J8 J9 Ja Jb Jc Jd Je Jf Jg Jh Ji Jj Jk Jl Jm Jn Jo Jp : Value} (hc : qhW 19 (Tryz.f4.body.getD .skip) = some c) (hX : Blk u X 39 (neC A N)) (hgu : g < u.heap.size) (n0 : u.cell? ⟨g, i, none⟩ = some (.string z)) (hlt : (i : Int) < (m : Int))
  (C : ∀ w', Below u.heap.size u w' -> Calls Tryz.prog 8 #[.agg (nA A N), .string z, .string v] w' fun e w'' => ∃ A' v7 t7, e = .returned (.tuple #[neV A' K, .string v7, .bool t7]) /\ R v7 t7 /\ OwnN w'' w'.heap.size A' K /\ Below w'.heap.size w' w'')
  (hQ : ∀ X1 A1 v7 t7 w', qwP u w' X1 A1 K -> R v7 t7 -> Q .normal { tmps := #[y0, y1, y2, .slice (some ⟨g, 0, none⟩) m wcp, y4, y5, y6, .pointer (some ⟨X, 0, none⟩), y8, .int .i64 (i : Int), .string v, yb, yc, yd, ye, yf, yg, yh, yi, yj, .pointer (some ⟨X1, 0, none⟩), .string v7, .bool t7, yn, yo, yp, yq, yr, ys, yt, yu, yv, yw, yx, yy, yz, yA, yB, yC, yD, yE, yF, yG, yH, yI, yJ, yK, yL, yM, yN, yO, yP, yQ, yR, yS, yT, yU, yV, yW, yX, yY, yZ, Y0, Y1, Y2, Y3, Y4, Y5, Y6, Y7, Y8, Y9, Ya, Yb, Yc, Yd, Ye, Yf, Yg, Yh, Yi, Yj, Yk, Yl, Ym, Yn, Yo, Yp, Yq, Yr, Ys, Yt, Yu, Yv, Yw, Yx, Yy, Yz, YA, YB, YC, YD, YE, YF, YG, .tuple #[.agg (nA A1 K), .string v7, .bool t7], .agg (nA A N), .slice (some ⟨g, 0, none⟩) m wcp, .int .i64 (i : Int), .pointer (some ⟨g, i, none⟩), .string z, .string v, .tuple #[.agg (nA A1 K), .string v7, .bool t7], .agg (nA A1 K), .string v7, .bool t7, YS, YT, YU, YV, YW, YX, YY, YZ, J0, J1, J2, J3, J4, J5, J6, J7, J8, J9, Ja, Jb, Jc, Jd, Je, Jf, Jg, Jh, Ji, Jj, Jk, Jl, Jm, Jn, Jo, Jp], defers := [] } w') :
  Go.Code.wp Tryz.prog c Q { tmps := #[y0, y1, y2, .slice (some ⟨g, 0, none⟩) m wcp, y4, y5, y6, .pointer (some ⟨X, 0, none⟩), y8, .int .i64 (i : Int), .string v, yb, yc, yd, ye, yf, yg, yh, yi, yj, yk, yl, ym, yn, yo, yp, yq, yr, ys, yt, yu, yv, yw, yx, yy, yz, yA, yB, yC, yD, yE, yF, yG, yH, yI, yJ, yK, yL, yM, yN, yO, yP, yQ, yR, yS, yT, yU, yV, yW, yX, yY, yZ, Y0, Y1, Y2, Y3, Y4, Y5, Y6, Y7, Y8, Y9, Ya, Yb, Yc, Yd, Ye, Yf, Yg, Yh, Yi, Yj, Yk, Yl, Ym, Yn, Yo, Yp, Yq, Yr, Ys, Yt, Yu, Yv, Yw, Yx, Yy, Yz, YA, YB, YC, YD, YE, YF, YG, YH, YI, YJ, YK, YL, YM, YN, YO, YP, YQ, YR, YS, YT, YU, YV, YW, YX, YY, YZ, J0, J1, J2, J3, J4, J5, J6, J7, J8, J9, Ja, Jb, Jc, Jd, Je, Jf, Jg, Jh, Ji, Jj, Jk, Jl, Jm, Jn, Jo, Jp], defers := [] } u := by
 have ec : some c = some _ := hc.symm.trans (show qhW 19 (Tryz.f4.body.getD .skip) = some _ from rfl)
 injection ec with ec
 subst ec
 have CW := hI C
 have HQ := hI hQ
 have HX := hI hX
 have HG := hI n0
 clear C hQ hc
 unfold neV at CW
 obtain ⟨hXu, a0, a1, a2, a3, a4, a5, a6, a7, a8, a9, a10, a11, a12, a13⟩ := qcR hX
 clear hX
 have fE := kE hXu
 have fG := kE hgu
 have tE := kS hXu
 have tG := kS hgu
 go_region_held3 (fun w' => w'.cell? ⟨X, 0, none⟩ = some (.slice A.a N.sl.length A.ac) /\ w'.cell? ⟨X, 1, none⟩ = some (.int .i64 N.fr) /\ w'.cell? ⟨X, 2, none⟩ = some (.slice A.c N.ce.length A.cc) /\ w'.cell? ⟨X, 3, none⟩ = some (.slice A.o N.od.length A.oc) /\ w'.cell? ⟨X, 4, none⟩ = some (.int .i64 N.mv) /\ w'.cell? ⟨X, 5, none⟩ = some (.int .i64 N.wm) /\ w'.cell? ⟨X, 6, none⟩ = some (.slice A.w N.w.length A.wc) /\ w'.cell? ⟨X, 7, none⟩ = some (.int .i64 N.tm) /\ w'.cell? ⟨X, 8, none⟩ = some (.slice A.t N.t.length A.tc) /\ w'.cell? ⟨X, 9, none⟩ = some (.int .i64 N.sm) /\ w'.cell? ⟨X, 10, none⟩ = some (.slice A.s N.s.length A.sc) /\ w'.cell? ⟨X, 11, none⟩ = some (.slice A.k N.sk.length A.kc) /\ w'.cell? ⟨X, 12, none⟩ = some (.int .i64 N.ad) /\ w'.cell? ⟨X, 13, none⟩ = some (.int .i64 N.dr) /\ w'.cell? ⟨g, i, none⟩ = some (.string z)) (first | simp only [eE, eG, a0, a1, a2, a3, a4, a5, a6, a7, a8, a9, a10, a11, a12, a13, n0, and_self] | simp only [World.cell?_drew, fE, fG, tE, tG, a0, a1, a2, a3, a4, a5, a6, a7, a8, a9, a10, a11, a12, a13, n0, and_self] | simp only [fE, fG, tE, tG, a0, a1, a2, a3, a4, a5, a6, a7, a8, a9, a10, a11, a12, a13, n0, and_self]) ((first | (go_at_call 8; refine (CW.out _ (show Below u.heap.size u _ by go_grown)).mono ?_; rintro e w7 ⟨A1, v7, t7, rfl, h7, ho7, hb7⟩; have b7 : Hid (Below u.heap.size u w7) := (show Below u.heap.size u _ by go_grown).trans (hb7.mono (by go_size)); have O7 : Hid (OwnN w7 u.heap.size A1 K) := ho7.base (by go_size); have H7 := hI h7; (try (have O7a : Hid (OwnN w7 (u.heap.size + 1) A1 K) := ho7.base (by go_size); have ZB := hI (show Blk w7 u.heap.size 39 (neC noA zeN) by first | exact zbox hb7 | exact qyU hb7 | exact qyT hb7); obtain ⟨_, z0, z1, z2, z3, z4, z5, z6, z7, z8, z9, z10, z11, z12, z13⟩ := qcR ZB.out; have zf : ∀ j, w7.frozen? ⟨u.heap.size, j, none⟩ = false := fun j => ZB.out.froz j)); clear hb7 h7 ho7 n0 a0 a1 a2 a3 a4 a5 a6 a7 a8 a9 a10 a11 a12 a13; have n0 := (b7.out.cell (p := ⟨g, i, none⟩) hgu).trans HG.out; have X7 := hI (HX.out.below b7.out HX.out.lt); obtain ⟨hXw, a0, a1, a2, a3, a4, a5, a6, a7, a8, a9, a10, a11, a12, a13⟩ := qcR X7.out; have hgw : g < w7.heap.size := Nat.lt_of_lt_of_le hgu b7.out.size; have eE := kE hXw; have eG := kE hgw)))
 all_goals
  first | (have := ZB.out; exact HQ.out _ A1 v7 t7 _ (boxA O7a.out (Nat.lt_succ_self _) b7.out ZB.out) H7.out) | exact HQ.out _ A1 v7 t7 _ (boxB O7.out (Nat.le_refl _) b7.out) H7.out
end Go.Proofs.YtigpjmmfelndkaaGreatDoor
