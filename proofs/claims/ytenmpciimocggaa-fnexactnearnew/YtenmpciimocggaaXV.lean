/- Near entries as values; comparing, copying, marking and holding them, by the statements' functions. -/
import Derived.Test.YtenmpciimocggaaNeN
import Derived.Test.YtenmpciimocggaaArenaI
import Derived.Test.YtenmpciimocggaaXK
import Derived.Test.YtenmpciimocggaaXSM
import Derived.Test.YtenmpciimocggaaXQ
import Derived.Test.YtenmpciimocggaaXTD
namespace Go.Proofs.Ytenmpciimocggaa
open Go.RowKit

/-- Where the rows of near entries lie, and their capacities. -/
structure NA where
  a : Option Addr
  ac : Nat
  c : Option Addr
  cc : Nat
  o : Option Addr
  oc : Nat
  w : Option Addr
  wc : Nat
  t : Option Addr
  tc : Nat
  s : Option Addr
  sc : Nat
  k : Option Addr
  kc : Nat
def neC (A : NA) (N : Nr) : List Value := [.slice A.a N.sl.length A.ac, .int .i64 N.fr, .slice A.c N.ce.length A.cc, .slice A.o N.od.length A.oc, .int .i64 N.mv, .int .i64 N.wm, .slice A.w N.w.length A.wc, .int .i64 N.tm, .slice A.t N.t.length A.tc, .int .i64 N.sm, .slice A.s N.s.length A.sc, .slice A.k N.sk.length A.kc, .int .i64 N.ad, .int .i64 N.dr]
def neV (A : NA) (N : Nr) : Value := .agg #[.slice A.a N.sl.length A.ac, .int .i64 N.fr, .slice A.c N.ce.length A.cc, .slice A.o N.od.length A.oc, .int .i64 N.mv, .int .i64 N.wm, .slice A.w N.w.length A.wc, .int .i64 N.tm, .slice A.t N.t.length A.tc, .int .i64 N.sm, .slice A.s N.s.length A.sc, .slice A.k N.sk.length A.kc, .int .i64 N.ad, .int .i64 N.dr]
/-- The rows read as these. -/
structure RdN (w : World) (A : NA) (N : Nr) : Prop where
  fa : RdA w A.a N.sl
  fc : RdC w A.c N.ce
  fo : RdC w A.o N.od
  fw : RdQ w A.w N.w
  ft : RdQ w A.t N.t
  fs : RdQ w A.s N.s
  fk : RdZ w A.k N.sk
theorem RdN.later {w w' : World} {A : NA} {N : Nr} (h : RdN w A N) (hb : Below w.heap.size w w') : RdN w' A N := ⟨h.fa.later hb, h.fc.later hb, h.fo.later hb, h.fw.later hb, h.ft.later hb, h.fs.later hb, h.fk.later hb⟩
/-- The rows that came in read as these. -/
structure RdM (w : World) (A : NA) (N : Nr) : Prop where
  fa : RdI w A.a N.sl
  fc : RdJ w A.c N.ce
  fo : RdJ w A.o N.od
  fw : RdQ w A.w N.w
  ft : RdQ w A.t N.t
  fs : RdQ w A.s N.s
  fk : RdZ w A.k N.sk
theorem RdM.later {w w' : World} {A : NA} {N : Nr} (h : RdM w A N) (hb : Below w.heap.size w w') : RdM w' A N := ⟨h.fa.later hb, h.fc.later hb, h.fo.later hb, h.fw.later hb, h.ft.later hb, h.fs.later hb, h.fk.later hb⟩
structure SmN (N : Nr) : Prop where
  fa : N.sl.length ≤ 1048576
  fc : N.ce.length ≤ 1048576
  fo : N.od.length ≤ 1048576
  fw : N.w.length ≤ 1048576
  ft : N.t.length ≤ 1048576
  fs : N.s.length ≤ 1048576
  fk : N.sk.length ≤ 1048576
/-- The rows, as values. -/
def vlN (A : NA) (N : Nr) : List Value := [.slice A.a N.sl.length A.ac, .slice A.c N.ce.length A.cc, .slice A.o N.od.length A.oc, .slice A.w N.w.length A.wc, .slice A.t N.t.length A.tc, .slice A.s N.s.length A.sc, .slice A.k N.sk.length A.kc]
/-- The rows are the call's own, behind a bound, each apart. -/
structure OwnN (w : World) (B : Nat) (A : NA) (N : Nr) : Prop where
  fa : w.ownsRow B 65 5 (.slice A.a N.sl.length A.ac) N.sl.length (sls N.sl)
  fc : w.ownsRow B 93 2 (.slice A.c N.ce.length A.cc) N.ce.length (ces N.ce)
  fo : w.ownsRow B 93 2 (.slice A.o N.od.length A.oc) N.od.length (ces N.od)
  fw : OwnQ w B A.w A.wc N.w
  ft : OwnQ w B A.t A.tc N.t
  fs : OwnQ w B A.s A.sc N.s
  fk : OwnK w B A.k A.kc N.sk
  ap : (vlN A N).Pairwise (fun u v => ∀ g, u.ownBlock = some g → v.ownBlock ≠ some g)
theorem OwnN.rd {w : World} {B : Nat} {A : NA} {N : Nr} (h : OwnN w B A N) : RdN w A N := ⟨rdA_of_own h.fa, rdC_of_own h.fc, rdC_of_own h.fo, h.fw.rd, h.ft.rd, h.fs.rd, h.fk.rd⟩
theorem OwnN.later {w w' : World} {B : Nat} {A : NA} {N : Nr} (h : OwnN w B A N) (hb : Below w.heap.size w w') : OwnN w' B A N := ⟨own_kept h.fa hb, own_kept h.fc hb, own_kept h.fo hb, h.fw.later hb, h.ft.later hb, h.fs.later hb, h.fk.later hb, h.ap⟩
theorem OwnN.base {w : World} {B B' : Nat} {A : NA} {N : Nr} (h : OwnN w B A N) (hB : B' ≤ B) : OwnN w B' A N := ⟨own_base h.fa hB, own_base h.fc hB, own_base h.fo hB, h.fw.base hB, h.ft.base hB, h.fs.base hB, h.fk.base hB, h.ap⟩
theorem OwnN.lt {w : World} {B : Nat} {A : NA} {N : Nr} (h : OwnN w B A N) : ∀ v ∈ vlN A N, ∀ g, v.ownBlock = some g → B ≤ g ∧ g < w.heap.size := by
  intro v hv g hg
  simp only [vlN, List.mem_cons, List.not_mem_nil, or_false] at hv
  rcases hv with rfl | rfl | rfl | rfl | rfl | rfl | rfl
  · exact h.fa.lt g hg
  · exact h.fc.lt g hg
  · exact h.fo.lt g hg
  · exact h.fw.lt g hg
  · exact h.ft.lt g hg
  · exact h.fs.lt g hg
  · exact h.fk.lt g hg
theorem OwnN.grown {w w' : World} {B : Nat} {A : NA} {N : Nr} {r : Option Nat} (h : OwnN w B A N) (hg : w.grownBy w' r) (hne : ∀ v ∈ vlN A N, ∀ g, v.ownBlock = some g → r ≠ some g) : OwnN w' B A N :=
  ⟨gown hg h.fa (fun k hk => hne _ (by simp [vlN]) k hk), gown hg h.fc (fun k hk => hne _ (by simp [vlN]) k hk), gown hg h.fo (fun k hk => hne _ (by simp [vlN]) k hk), gown hg h.fw (fun k hk => hne _ (by simp [vlN]) k hk), gown hg h.ft (fun k hk => hne _ (by simp [vlN]) k hk), gown hg h.fs (fun k hk => hne _ (by simp [vlN]) k hk), gown hg h.fk (fun k hk => hne _ (by simp [vlN]) k hk), h.ap⟩
theorem OwnN.far {w : World} {B : Nat} {A : NA} {N : Nr} (h : OwnN w B A N) (a : Addr) (u : Value) (hne : a.block < B) : OwnN (w.setCell a u) B A N := by
  have hb : ∀ v ∈ vlN A N, ∀ k, v.ownBlock = some k → k ≠ a.block := fun v hv k hk e => by have := (h.lt v hv k hk).1; omega
  exact ⟨own_far h.fa _ _ (hb _ (by simp [vlN])), own_far h.fc _ _ (hb _ (by simp [vlN])), own_far h.fo _ _ (hb _ (by simp [vlN])), own_far h.fw _ _ (hb _ (by simp [vlN])), own_far h.ft _ _ (hb _ (by simp [vlN])), own_far h.fs _ _ (hb _ (by simp [vlN])), own_far h.fk _ _ (hb _ (by simp [vlN])), h.ap⟩

set_option maxRecDepth 100000 in
set_option maxHeartbeats 4000000 in
theorem eqNear_same (A B : NA) (N : Nr) (w : World) (hl : SmN N) (hA : RdN w A N) (hB : RdN w B N) :
    Calls Try.prog 6 #[neV A N, neV B N] w fun e w' => e = .returned (.bool true) ∧ Below w.heap.size w w' := by
  have F0 := hide1 (blkN2 w #[.slice A.a N.sl.length A.ac, .int .i64 N.fr, .slice A.c N.ce.length A.cc, .slice A.o N.od.length A.oc, .int .i64 N.mv, .int .i64 N.wm, .slice A.w N.w.length A.wc, .int .i64 N.tm, .slice A.t N.t.length A.tc, .int .i64 N.sm, .slice A.s N.s.length A.sc, .slice A.k N.sk.length A.kc, .int .i64 N.ad, .int .i64 N.dr] #[.slice B.a N.sl.length B.ac, .int .i64 N.fr, .slice B.c N.ce.length B.cc, .slice B.o N.od.length B.oc, .int .i64 N.mv, .int .i64 N.wm, .slice B.w N.w.length B.wc, .int .i64 N.tm, .slice B.t N.t.length B.tc, .int .i64 N.sm, .slice B.s N.s.length B.sc, .slice B.k N.sk.length B.kc, .int .i64 N.ad, .int .i64 N.dr] 37 37)
  have C0 := hide1 (fun w' (hb : Below w.heap.size w w') => eqArena_same A.a B.a N.sl A.ac B.ac N.fr w' hl.fa (hA.fa.later hb) (hB.fa.later hb))
  unfold arV at C0
  have C1 := hide1 (fun w' (hb : Below w.heap.size w w') => eqTable_same A.c B.c A.o B.o N.ce N.od A.cc B.cc A.oc B.oc N.mv w' hl.fc hl.fo (hA.fc.later hb) (hB.fc.later hb) (hA.fo.later hb) (hB.fo.later hb))
  unfold tbV at C1
  have C2 := hide1 (fun w' (hb : Below w.heap.size w w') => eqQueue_same A.w B.w N.w A.wc B.wc N.wm w' hl.fw (hA.fw.later hb) (hB.fw.later hb))
  unfold quV at C2
  have C3 := hide1 (fun w' (hb : Below w.heap.size w w') => eqQueue_same A.t B.t N.t A.tc B.tc N.tm w' hl.ft (hA.ft.later hb) (hB.ft.later hb))
  unfold quV at C3
  have C4 := hide1 (fun w' (hb : Below w.heap.size w w') => eqQueue_same A.s B.s N.s A.sc B.sc N.sm w' hl.fs (hA.fs.later hb) (hB.fs.later hb))
  unfold quV at C4
  have C5 := hide1 (fun w' (hb : Below w.heap.size w w') => eqSketch_same A.k B.k N.sk A.kc B.kc N.ad w' hl.fk (hA.fk.later hb) (hB.fk.later hb))
  unfold skV at C5
  have C6 := hide1 (fun w' (_ : Below w.heap.size w w') => eqDoor_any N.dr w')
  clear hA hB
  unfold neV
  go_enter Try.func6, Try.ntmps6
  go_wp2_with fail
  generalize ((w.alloc (.cells #[.slice A.a N.sl.length A.ac, .int .i64 N.fr, .slice A.c N.ce.length A.cc, .slice A.o N.od.length A.oc, .int .i64 N.mv, .int .i64 N.wm, .slice A.w N.w.length A.wc, .int .i64 N.tm, .slice A.t N.t.length A.tc, .int .i64 N.sm, .slice A.s N.s.length A.sc, .slice A.k N.sk.length A.kc, .int .i64 N.ad, .int .i64 N.dr] 37)).alloc (.cells #[.slice B.a N.sl.length B.ac, .int .i64 N.fr, .slice B.c N.ce.length B.cc, .slice B.o N.od.length B.oc, .int .i64 N.mv, .int .i64 N.wm, .slice B.w N.w.length B.wc, .int .i64 N.tm, .slice B.t N.t.length B.tc, .int .i64 N.sm, .slice B.s N.s.length B.sc, .slice B.k N.sk.length B.kc, .int .i64 N.ad, .int .i64 N.dr] 37)) = w0 at F0 ⊢
  obtain ⟨K, R, B0⟩ := F0.out
  have K0 := hide1 K
  have R0 := hide1 R
  have B0 := hide1 B0
  clear F0 K R
  refine (C0.out w0 B0.out).mono ?_
  rintro e w1 ⟨rfl, hb1⟩
  have K1 := hide1 (K0.out.below hb1 K0.out.lt)
  have R1 := hide1 (R0.out.below hb1 R0.out.lt)
  have B1 := hide1 (B0.out.trans (hb1.mono B0.out.size))
  clear hb1 C0 K0 R0 B0
  have x2 : w1.cell? ⟨w.heap.size, 2, none⟩ = some (.slice A.c N.ce.length A.cc) := K1.out.cell 2
  have y2 : w1.cell? ⟨w.heap.size + 1, 2, none⟩ = some (.slice B.c N.ce.length B.cc) := R1.out.cell 2
  have x3 : w1.cell? ⟨w.heap.size, 3, none⟩ = some (.slice A.o N.od.length A.oc) := K1.out.cell 3
  have y3 : w1.cell? ⟨w.heap.size + 1, 3, none⟩ = some (.slice B.o N.od.length B.oc) := R1.out.cell 3
  have x4 : w1.cell? ⟨w.heap.size, 4, none⟩ = some (.int .i64 N.mv) := K1.out.cell 4
  have y4 : w1.cell? ⟨w.heap.size + 1, 4, none⟩ = some (.int .i64 N.mv) := R1.out.cell 4
  go_wp2_with fail
  refine (C1.out w1 B1.out).mono ?_
  rintro e w2 ⟨rfl, hb2⟩
  have K2 := hide1 (K1.out.below hb2 K1.out.lt)
  have R2 := hide1 (R1.out.below hb2 R1.out.lt)
  have B2 := hide1 (B1.out.trans (hb2.mono B1.out.size))
  clear hb2 C1 K1 R1 B1 x2 y2 x3 y3 x4 y4
  have x5 : w2.cell? ⟨w.heap.size, 5, none⟩ = some (.int .i64 N.wm) := K2.out.cell 5
  have y5 : w2.cell? ⟨w.heap.size + 1, 5, none⟩ = some (.int .i64 N.wm) := R2.out.cell 5
  have x6 : w2.cell? ⟨w.heap.size, 6, none⟩ = some (.slice A.w N.w.length A.wc) := K2.out.cell 6
  have y6 : w2.cell? ⟨w.heap.size + 1, 6, none⟩ = some (.slice B.w N.w.length B.wc) := R2.out.cell 6
  go_wp2_with fail
  refine (C2.out w2 B2.out).mono ?_
  rintro e w3 ⟨rfl, hb3⟩
  have K3 := hide1 (K2.out.below hb3 K2.out.lt)
  have R3 := hide1 (R2.out.below hb3 R2.out.lt)
  have B3 := hide1 (B2.out.trans (hb3.mono B2.out.size))
  clear hb3 C2 K2 R2 B2 x5 y5 x6 y6
  have x7 : w3.cell? ⟨w.heap.size, 7, none⟩ = some (.int .i64 N.tm) := K3.out.cell 7
  have y7 : w3.cell? ⟨w.heap.size + 1, 7, none⟩ = some (.int .i64 N.tm) := R3.out.cell 7
  have x8 : w3.cell? ⟨w.heap.size, 8, none⟩ = some (.slice A.t N.t.length A.tc) := K3.out.cell 8
  have y8 : w3.cell? ⟨w.heap.size + 1, 8, none⟩ = some (.slice B.t N.t.length B.tc) := R3.out.cell 8
  go_wp2_with fail
  refine (C3.out w3 B3.out).mono ?_
  rintro e w4 ⟨rfl, hb4⟩
  have K4 := hide1 (K3.out.below hb4 K3.out.lt)
  have R4 := hide1 (R3.out.below hb4 R3.out.lt)
  have B4 := hide1 (B3.out.trans (hb4.mono B3.out.size))
  clear hb4 C3 K3 R3 B3 x7 y7 x8 y8
  have x9 : w4.cell? ⟨w.heap.size, 9, none⟩ = some (.int .i64 N.sm) := K4.out.cell 9
  have y9 : w4.cell? ⟨w.heap.size + 1, 9, none⟩ = some (.int .i64 N.sm) := R4.out.cell 9
  have x10 : w4.cell? ⟨w.heap.size, 10, none⟩ = some (.slice A.s N.s.length A.sc) := K4.out.cell 10
  have y10 : w4.cell? ⟨w.heap.size + 1, 10, none⟩ = some (.slice B.s N.s.length B.sc) := R4.out.cell 10
  go_wp2_with fail
  refine (C4.out w4 B4.out).mono ?_
  rintro e w5 ⟨rfl, hb5⟩
  have K5 := hide1 (K4.out.below hb5 K4.out.lt)
  have R5 := hide1 (R4.out.below hb5 R4.out.lt)
  have B5 := hide1 (B4.out.trans (hb5.mono B4.out.size))
  clear hb5 C4 K4 R4 B4 x9 y9 x10 y10
  have x11 : w5.cell? ⟨w.heap.size, 11, none⟩ = some (.slice A.k N.sk.length A.kc) := K5.out.cell 11
  have y11 : w5.cell? ⟨w.heap.size + 1, 11, none⟩ = some (.slice B.k N.sk.length B.kc) := R5.out.cell 11
  have x12 : w5.cell? ⟨w.heap.size, 12, none⟩ = some (.int .i64 N.ad) := K5.out.cell 12
  have y12 : w5.cell? ⟨w.heap.size + 1, 12, none⟩ = some (.int .i64 N.ad) := R5.out.cell 12
  go_wp2_with fail
  refine (C5.out w5 B5.out).mono ?_
  rintro e w6 ⟨rfl, hb6⟩
  have K6 := hide1 (K5.out.below hb6 K5.out.lt)
  have R6 := hide1 (R5.out.below hb6 R5.out.lt)
  have B6 := hide1 (B5.out.trans (hb6.mono B5.out.size))
  clear hb6 C5 K5 R5 B5 x11 y11 x12 y12
  have x13 : w6.cell? ⟨w.heap.size, 13, none⟩ = some (.int .i64 N.dr) := K6.out.cell 13
  have y13 : w6.cell? ⟨w.heap.size + 1, 13, none⟩ = some (.int .i64 N.dr) := R6.out.cell 13
  go_wp2_with fail
  refine (C6.out w6 B6.out).mono ?_
  rintro e w7 ⟨rfl, hb7⟩
  have K7 := hide1 (K6.out.below hb7 K6.out.lt)
  have R7 := hide1 (R6.out.below hb7 R6.out.lt)
  have B7 := hide1 (B6.out.trans (hb7.mono B6.out.size))
  clear hb7 C6 K6 R6 B6 x13 y13
  go_wp2
  go_ret
  exact ⟨rfl, B7.out⟩

end Go.Proofs.Ytenmpciimocggaa
namespace Go.Proofs.Ytenmpciimocggaa
open Go.RowKit

theorem apart7 {v0 v1 v2 v3 v4 v5 v6 : Value} {b0 b1 b2 b3 b4 b5 b6 : Nat} (h0 : ∀ g, v0.ownBlock = some g → b0 ≤ g ∧ g < b1) (h1 : ∀ g, v1.ownBlock = some g → b1 ≤ g ∧ g < b2) (h2 : ∀ g, v2.ownBlock = some g → b1 ≤ g ∧ g < b2) (h12 : apart2 v1 v2) (h3 : ∀ g, v3.ownBlock = some g → b2 ≤ g ∧ g < b3) (h4 : ∀ g, v4.ownBlock = some g → b3 ≤ g ∧ g < b4) (h5 : ∀ g, v5.ownBlock = some g → b4 ≤ g ∧ g < b5) (h6 : ∀ g, v6.ownBlock = some g → b5 ≤ g ∧ g < b6) (l1 : b1 ≤ b2) (l2 : b2 ≤ b3) (l3 : b3 ≤ b4) (l4 : b4 ≤ b5) :
    [v0, v1, v2, v3, v4, v5, v6].Pairwise (fun u v => ∀ g, u.ownBlock = some g → v.ownBlock ≠ some g) := by
  simp only [List.pairwise_cons, List.mem_cons, List.not_mem_nil, or_false, List.Pairwise.nil, and_true, forall_eq_or_imp, forall_eq, false_imp_iff, imp_true_iff]
  refine ⟨⟨?_, ?_, ?_, ?_, ?_, ?_⟩, ⟨h12, ?_, ?_, ?_, ?_⟩, ⟨?_, ?_, ?_, ?_⟩, ⟨?_, ?_, ?_⟩, ⟨?_, ?_⟩, ?_⟩
  all_goals
    intro g hg e
    (try have := h0 g hg)
    (try have := h1 g hg)
    (try have := h2 g hg)
    (try have := h3 g hg)
    (try have := h4 g hg)
    (try have := h5 g hg)
    (try have := h1 g e)
    (try have := h2 g e)
    (try have := h3 g e)
    (try have := h4 g e)
    (try have := h5 g e)
    (try have := h6 g e)
    omega
end Go.Proofs.Ytenmpciimocggaa
namespace Go.Proofs.Ytenmpciimocggaa
open Go.RowKit

def ka (N : Nr) : Nat := 1 + 5 * N.sl.length
def kb (N : Nr) : Nat := ka N + 2 * N.ce.length
def kc (N : Nr) : Nat := kb N + 2 * N.od.length
def kd (N : Nr) : Nat := kc N + N.w.length
def ke (N : Nr) : Nat := kd N + N.t.length
def kf (N : Nr) : Nat := ke N + N.s.length
def kg (N : Nr) : Nat := kf N + N.sk.length
/-- The rows read as marks. -/
structure RdP (w : World) (A : NA) (N : Nr) : Prop where
  fa : RdA w A.a (patL 1 N.sl.length)
  fc : RdC w A.c (patCs (ka N) N.ce.length)
  fo : RdC w A.o (patCs (kb N) N.od.length)
  fw : RdQ w A.w (patQ (kc N) N.w.length)
  ft : RdQ w A.t (patQ (kd N) N.t.length)
  fs : RdQ w A.s (patQ (ke N) N.s.length)
  fk : RdZ w A.k (patZ (kf N) N.sk.length)
theorem RdP.later {w w' : World} {A : NA} {N : Nr} (h : RdP w A N) (hb : Below w.heap.size w w') : RdP w' A N := ⟨h.fa.later hb, h.fc.later hb, h.fo.later hb, h.fw.later hb, h.ft.later hb, h.fs.later hb, h.fk.later hb⟩
/-- What marking leaves as it was: all but some rows. -/
structure FrN (w w' : World) (L : List Value) : Prop where
  block : ∀ j, j < w.heap.size → (∀ v ∈ L, v.ownBlock ≠ some j) → w'.heap[j]? = w.heap[j]?
  os : w'.os = w.os
  tape : w'.tape = w.tape
  output : w'.output = w.output
  size : w.heap.size ≤ w'.heap.size
theorem FrN.start {w w' : World} {L : List Value} (h : Below w.heap.size w w') : FrN w w' L := ⟨fun j hj _ => h.block j hj, h.os, h.tape, h.output, h.size⟩
theorem FrN.step {w w1 w2 : World} {L : List Value} {v : Value} (h : FrN w w1 L) (hg : w1.grownBy w2 v.ownBlock) (hv : v ∈ L) : FrN w w2 L :=
  ⟨fun j hj hL => (hg.block j (Nat.lt_of_lt_of_le hj h.size) (fun e => hL v hv e.symm)).trans (h.block j hj hL), hg.os.trans h.os, hg.tape.trans h.tape, hg.output.trans h.output, Nat.le_trans h.size hg.size⟩
theorem FrN.two {w w1 w2 : World} {L : List Value} {u v : Value} (h : FrN w w1 L) (hg : Mk2 w1 w2 u v) (hu : u ∈ L) (hv : v ∈ L) : FrN w w2 L :=
  ⟨fun j hj hL => (hg.block j (Nat.lt_of_lt_of_le hj h.size) (hL u hu) (hL v hv)).trans (h.block j hj hL), hg.os.trans h.os, hg.tape.trans h.tape, hg.output.trans h.output, Nat.le_trans h.size hg.size⟩
theorem FrN.below {w w' : World} {L : List Value} {B : Nat} (h : FrN w w' L) (hB : ∀ v ∈ L, ∀ g, v.ownBlock = some g → B ≤ g) (hs : B ≤ w.heap.size) : Below B w w' :=
  ⟨h.os, h.tape, h.output, h.size, fun j hj => h.block j (by omega) (fun v hv e => by have := hB v hv j e; omega)⟩
theorem FrN.blk {w w' : World} {L : List Value} {r : Nat} {t : TypeId} {cs : List Value} (h : FrN w w' L) (hB : Blk w r t cs) (hr : ∀ v ∈ L, v.ownBlock ≠ some r) : Blk w' r t cs := (h.block r hB.lt hr).trans hB
theorem Mk2.ownX {w w' : World} {u v x : Value} {base n size : Nat} {e : TypeId} {xs : List Value} (h : Mk2 w w' u v) (hO : w.ownsRow base e size x n xs) (h1 : ∀ k, x.ownBlock = some k → u.ownBlock ≠ some k) (h2 : ∀ k, x.ownBlock = some k → v.ownBlock ≠ some k) : w'.ownsRow base e size x n xs := by
  refine ⟨hO.1, ?_⟩
  rcases hO.2 with ⟨hv, hn⟩ | ⟨g, cap, cur, hv, hb, hh, r⟩
  · exact .inl ⟨hv, hn⟩
  · have e : x.ownBlock = some g := by rw [hv]; rfl
    exact .inr ⟨g, cap, cur, hv, hb, (h.block g (Array.getElem?_eq_some_iff.1 hh).1 (h1 g e) (h2 g e)).trans hh, r⟩
theorem FrN.own {w w' : World} {L : List Value} {x : Value} {base n size : Nat} {e : TypeId} {xs : List Value} (h : FrN w w' L) (hO : w.ownsRow base e size x n xs) (h1 : ∀ v ∈ L, ∀ k, x.ownBlock = some k → v.ownBlock ≠ some k) : w'.ownsRow base e size x n xs := by
  refine ⟨hO.1, ?_⟩
  rcases hO.2 with ⟨hv, hn⟩ | ⟨g, cap, cur, hv, hb, hh, r⟩
  · exact .inl ⟨hv, hn⟩
  · have e : x.ownBlock = some g := by rw [hv]; rfl
    exact .inr ⟨g, cap, cur, hv, hb, (h.block g (Array.getElem?_eq_some_iff.1 hh).1 (fun v hv => h1 v hv g e)).trans hh, r⟩
theorem markArena_one (ao : Option Addr) (l : List Sl) (ca : Nat) (f : Int) (base : Nat) (w : World) (hn : l.length ≤ 1048576) (hown : w.ownsRow base 65 5 (.slice ao l.length ca) l.length (sls l)) :
    Calls Try.prog 24 #[.agg #[.slice ao l.length ca, .int .i64 f], .int .i64 1] w fun e w' => e = .returned (.int .i64 (1 + 5 * (l.length : Int))) ∧ w'.ownsRow base 65 5 (.slice ao l.length ca) l.length (sls (patL 1 l.length)) ∧ w.grownBy w' (Value.slice ao l.length ca).ownBlock := markArena_any ao l.length ca 1 f (sls l) base w hn (by omega) (by omega) hown
theorem heldArena_one (ao : Option Addr) (n ca : Nat) (f : Int) (w : World) (hn : n ≤ 1048576) (hA : RdA w ao (patL 1 n)) :
    Calls Try.prog 28 #[.agg #[.slice ao n ca, .int .i64 f], .int .i64 1] w fun e w' => e = .returned (.int .i64 (1 + 5 * (n : Int))) ∧ Below w.heap.size w w' := heldArena_any ao n ca 1 f w hn (by omega) (by omega) hA
theorem markTable_two (ao a' : Option Addr) (L O : List Ce) (c c' k B : Nat) (M : Int) (w : World) (hn : L.length ≤ 1048576) (hm : O.length ≤ 1048576) (hk : k ≤ 16777216) (hk0 : 0 < k) (h : Own2 w B ao c L a' c' O) :
    Calls Try.prog 25 #[.agg #[.slice ao L.length c, .slice a' O.length c', .int .i64 M], .int .i64 (k : Int)] w fun e w' => e = .returned (.int .i64 ((k : Int) + 2 * (L.length : Int) + 2 * (O.length : Int))) ∧ w'.ownsRow B 93 2 (.slice ao L.length c) L.length (ces (patCs k L.length)) ∧ w'.ownsRow B 93 2 (.slice a' O.length c') O.length (ces (patCs (k + 2 * L.length) O.length)) ∧ Mk2 w w' (.slice ao L.length c) (.slice a' O.length c') := by
  refine (markTable_any ao a' L.length O.length c c' k M (ces L) (ces O) B B w hn hm hk hk0 h.1 h.2.1 h.2.2).mono ?_
  rintro e w' ⟨rfl, h1, h2, h3, h4, h5, h6, h7⟩
  exact ⟨rfl, h1, h2, ⟨h3, h4, h5, h6, h7⟩⟩

theorem OwnN.apart {w : World} {B : Nat} {A : NA} {N : Nr} (h : OwnN w B A N) : ∀ i j (hi : i < 7) (hj : j < 7), i ≠ j → ∀ g, ((vlN A N)[i]'hi).ownBlock = some g → ((vlN A N)[j]'hj).ownBlock ≠ some g := by
  intro i j hi hj hne g hg e
  rcases Nat.lt_or_gt_of_ne hne with hlt | hlt
  · exact List.pairwise_iff_getElem.1 h.ap i j hi hj hlt g hg e
  · exact List.pairwise_iff_getElem.1 h.ap j i hj hi hlt g e hg

set_option maxRecDepth 100000 in
set_option maxHeartbeats 8000000 in
theorem markNear_own (A : NA) (N : Nr) (B : Nat) (w : World) (hl : SmN N) (h : OwnN w B A N) :
    Calls Try.prog 7 #[neV A N, .int .i64 1] w fun e w' => e = .returned (.int .i64 (kg N : Int)) ∧ RdP w' A N ∧ FrN w w' (vlN A N) := by
  have B0 := fun o => (Below.refl w.heap.size w).alloc (Nat.le_refl _) o
  have APac : Hid (∀ g, (Value.slice A.a N.sl.length A.ac).ownBlock = some g → (Value.slice A.c N.ce.length A.cc).ownBlock ≠ some g) := h.apart 0 1 (by decide) (by decide) (by decide)
  have APao : Hid (∀ g, (Value.slice A.a N.sl.length A.ac).ownBlock = some g → (Value.slice A.o N.od.length A.oc).ownBlock ≠ some g) := h.apart 0 2 (by decide) (by decide) (by decide)
  have APaw : Hid (∀ g, (Value.slice A.a N.sl.length A.ac).ownBlock = some g → (Value.slice A.w N.w.length A.wc).ownBlock ≠ some g) := h.apart 0 3 (by decide) (by decide) (by decide)
  have APat : Hid (∀ g, (Value.slice A.a N.sl.length A.ac).ownBlock = some g → (Value.slice A.t N.t.length A.tc).ownBlock ≠ some g) := h.apart 0 4 (by decide) (by decide) (by decide)
  have APas : Hid (∀ g, (Value.slice A.a N.sl.length A.ac).ownBlock = some g → (Value.slice A.s N.s.length A.sc).ownBlock ≠ some g) := h.apart 0 5 (by decide) (by decide) (by decide)
  have APak : Hid (∀ g, (Value.slice A.a N.sl.length A.ac).ownBlock = some g → (Value.slice A.k N.sk.length A.kc).ownBlock ≠ some g) := h.apart 0 6 (by decide) (by decide) (by decide)
  have APca : Hid (∀ g, (Value.slice A.c N.ce.length A.cc).ownBlock = some g → (Value.slice A.a N.sl.length A.ac).ownBlock ≠ some g) := h.apart 1 0 (by decide) (by decide) (by decide)
  have APco : Hid (∀ g, (Value.slice A.c N.ce.length A.cc).ownBlock = some g → (Value.slice A.o N.od.length A.oc).ownBlock ≠ some g) := h.apart 1 2 (by decide) (by decide) (by decide)
  have APcw : Hid (∀ g, (Value.slice A.c N.ce.length A.cc).ownBlock = some g → (Value.slice A.w N.w.length A.wc).ownBlock ≠ some g) := h.apart 1 3 (by decide) (by decide) (by decide)
  have APct : Hid (∀ g, (Value.slice A.c N.ce.length A.cc).ownBlock = some g → (Value.slice A.t N.t.length A.tc).ownBlock ≠ some g) := h.apart 1 4 (by decide) (by decide) (by decide)
  have APcs : Hid (∀ g, (Value.slice A.c N.ce.length A.cc).ownBlock = some g → (Value.slice A.s N.s.length A.sc).ownBlock ≠ some g) := h.apart 1 5 (by decide) (by decide) (by decide)
  have APck : Hid (∀ g, (Value.slice A.c N.ce.length A.cc).ownBlock = some g → (Value.slice A.k N.sk.length A.kc).ownBlock ≠ some g) := h.apart 1 6 (by decide) (by decide) (by decide)
  have APoa : Hid (∀ g, (Value.slice A.o N.od.length A.oc).ownBlock = some g → (Value.slice A.a N.sl.length A.ac).ownBlock ≠ some g) := h.apart 2 0 (by decide) (by decide) (by decide)
  have APoc : Hid (∀ g, (Value.slice A.o N.od.length A.oc).ownBlock = some g → (Value.slice A.c N.ce.length A.cc).ownBlock ≠ some g) := h.apart 2 1 (by decide) (by decide) (by decide)
  have APow : Hid (∀ g, (Value.slice A.o N.od.length A.oc).ownBlock = some g → (Value.slice A.w N.w.length A.wc).ownBlock ≠ some g) := h.apart 2 3 (by decide) (by decide) (by decide)
  have APot : Hid (∀ g, (Value.slice A.o N.od.length A.oc).ownBlock = some g → (Value.slice A.t N.t.length A.tc).ownBlock ≠ some g) := h.apart 2 4 (by decide) (by decide) (by decide)
  have APos : Hid (∀ g, (Value.slice A.o N.od.length A.oc).ownBlock = some g → (Value.slice A.s N.s.length A.sc).ownBlock ≠ some g) := h.apart 2 5 (by decide) (by decide) (by decide)
  have APok : Hid (∀ g, (Value.slice A.o N.od.length A.oc).ownBlock = some g → (Value.slice A.k N.sk.length A.kc).ownBlock ≠ some g) := h.apart 2 6 (by decide) (by decide) (by decide)
  have APwa : Hid (∀ g, (Value.slice A.w N.w.length A.wc).ownBlock = some g → (Value.slice A.a N.sl.length A.ac).ownBlock ≠ some g) := h.apart 3 0 (by decide) (by decide) (by decide)
  have APwc : Hid (∀ g, (Value.slice A.w N.w.length A.wc).ownBlock = some g → (Value.slice A.c N.ce.length A.cc).ownBlock ≠ some g) := h.apart 3 1 (by decide) (by decide) (by decide)
  have APwo : Hid (∀ g, (Value.slice A.w N.w.length A.wc).ownBlock = some g → (Value.slice A.o N.od.length A.oc).ownBlock ≠ some g) := h.apart 3 2 (by decide) (by decide) (by decide)
  have APwt : Hid (∀ g, (Value.slice A.w N.w.length A.wc).ownBlock = some g → (Value.slice A.t N.t.length A.tc).ownBlock ≠ some g) := h.apart 3 4 (by decide) (by decide) (by decide)
  have APws : Hid (∀ g, (Value.slice A.w N.w.length A.wc).ownBlock = some g → (Value.slice A.s N.s.length A.sc).ownBlock ≠ some g) := h.apart 3 5 (by decide) (by decide) (by decide)
  have APwk : Hid (∀ g, (Value.slice A.w N.w.length A.wc).ownBlock = some g → (Value.slice A.k N.sk.length A.kc).ownBlock ≠ some g) := h.apart 3 6 (by decide) (by decide) (by decide)
  have APta : Hid (∀ g, (Value.slice A.t N.t.length A.tc).ownBlock = some g → (Value.slice A.a N.sl.length A.ac).ownBlock ≠ some g) := h.apart 4 0 (by decide) (by decide) (by decide)
  have APtc : Hid (∀ g, (Value.slice A.t N.t.length A.tc).ownBlock = some g → (Value.slice A.c N.ce.length A.cc).ownBlock ≠ some g) := h.apart 4 1 (by decide) (by decide) (by decide)
  have APto : Hid (∀ g, (Value.slice A.t N.t.length A.tc).ownBlock = some g → (Value.slice A.o N.od.length A.oc).ownBlock ≠ some g) := h.apart 4 2 (by decide) (by decide) (by decide)
  have APtw : Hid (∀ g, (Value.slice A.t N.t.length A.tc).ownBlock = some g → (Value.slice A.w N.w.length A.wc).ownBlock ≠ some g) := h.apart 4 3 (by decide) (by decide) (by decide)
  have APts : Hid (∀ g, (Value.slice A.t N.t.length A.tc).ownBlock = some g → (Value.slice A.s N.s.length A.sc).ownBlock ≠ some g) := h.apart 4 5 (by decide) (by decide) (by decide)
  have APtk : Hid (∀ g, (Value.slice A.t N.t.length A.tc).ownBlock = some g → (Value.slice A.k N.sk.length A.kc).ownBlock ≠ some g) := h.apart 4 6 (by decide) (by decide) (by decide)
  have APsa : Hid (∀ g, (Value.slice A.s N.s.length A.sc).ownBlock = some g → (Value.slice A.a N.sl.length A.ac).ownBlock ≠ some g) := h.apart 5 0 (by decide) (by decide) (by decide)
  have APsc : Hid (∀ g, (Value.slice A.s N.s.length A.sc).ownBlock = some g → (Value.slice A.c N.ce.length A.cc).ownBlock ≠ some g) := h.apart 5 1 (by decide) (by decide) (by decide)
  have APso : Hid (∀ g, (Value.slice A.s N.s.length A.sc).ownBlock = some g → (Value.slice A.o N.od.length A.oc).ownBlock ≠ some g) := h.apart 5 2 (by decide) (by decide) (by decide)
  have APsw : Hid (∀ g, (Value.slice A.s N.s.length A.sc).ownBlock = some g → (Value.slice A.w N.w.length A.wc).ownBlock ≠ some g) := h.apart 5 3 (by decide) (by decide) (by decide)
  have APst : Hid (∀ g, (Value.slice A.s N.s.length A.sc).ownBlock = some g → (Value.slice A.t N.t.length A.tc).ownBlock ≠ some g) := h.apart 5 4 (by decide) (by decide) (by decide)
  have APsk : Hid (∀ g, (Value.slice A.s N.s.length A.sc).ownBlock = some g → (Value.slice A.k N.sk.length A.kc).ownBlock ≠ some g) := h.apart 5 6 (by decide) (by decide) (by decide)
  have APka : Hid (∀ g, (Value.slice A.k N.sk.length A.kc).ownBlock = some g → (Value.slice A.a N.sl.length A.ac).ownBlock ≠ some g) := h.apart 6 0 (by decide) (by decide) (by decide)
  have APkc : Hid (∀ g, (Value.slice A.k N.sk.length A.kc).ownBlock = some g → (Value.slice A.c N.ce.length A.cc).ownBlock ≠ some g) := h.apart 6 1 (by decide) (by decide) (by decide)
  have APko : Hid (∀ g, (Value.slice A.k N.sk.length A.kc).ownBlock = some g → (Value.slice A.o N.od.length A.oc).ownBlock ≠ some g) := h.apart 6 2 (by decide) (by decide) (by decide)
  have APkw : Hid (∀ g, (Value.slice A.k N.sk.length A.kc).ownBlock = some g → (Value.slice A.w N.w.length A.wc).ownBlock ≠ some g) := h.apart 6 3 (by decide) (by decide) (by decide)
  have APkt : Hid (∀ g, (Value.slice A.k N.sk.length A.kc).ownBlock = some g → (Value.slice A.t N.t.length A.tc).ownBlock ≠ some g) := h.apart 6 4 (by decide) (by decide) (by decide)
  have APks : Hid (∀ g, (Value.slice A.k N.sk.length A.kc).ownBlock = some g → (Value.slice A.s N.s.length A.sc).ownBlock ≠ some g) := h.apart 6 5 (by decide) (by decide) (by decide)
  have LT := hide1 h.lt
  have BX := hide1 (Blk.new w 37 #[.slice A.a N.sl.length A.ac, .int .i64 N.fr, .slice A.c N.ce.length A.cc, .slice A.o N.od.length A.oc, .int .i64 N.mv, .int .i64 N.wm, .slice A.w N.w.length A.wc, .int .i64 N.tm, .slice A.t N.t.length A.tc, .int .i64 N.sm, .slice A.s N.s.length A.sc, .slice A.k N.sk.length A.kc, .int .i64 N.ad, .int .i64 N.dr])
  have FR := hide1 (FrN.start (L := vlN A N) (B0 (.cells #[.slice A.a N.sl.length A.ac, .int .i64 N.fr, .slice A.c N.ce.length A.cc, .slice A.o N.od.length A.oc, .int .i64 N.mv, .int .i64 N.wm, .slice A.w N.w.length A.wc, .int .i64 N.tm, .slice A.t N.t.length A.tc, .int .i64 N.sm, .slice A.s N.s.length A.sc, .slice A.k N.sk.length A.kc, .int .i64 N.ad, .int .i64 N.dr] 37)))
  have Ra : Hid ((w.alloc (.cells #[.slice A.a N.sl.length A.ac, .int .i64 N.fr, .slice A.c N.ce.length A.cc, .slice A.o N.od.length A.oc, .int .i64 N.mv, .int .i64 N.wm, .slice A.w N.w.length A.wc, .int .i64 N.tm, .slice A.t N.t.length A.tc, .int .i64 N.sm, .slice A.s N.s.length A.sc, .slice A.k N.sk.length A.kc, .int .i64 N.ad, .int .i64 N.dr] 37)).ownsRow B 65 5 (.slice A.a N.sl.length A.ac) N.sl.length (sls N.sl)) := World.ownsRow.alloc h.fa _
  have Rc : Hid ((w.alloc (.cells #[.slice A.a N.sl.length A.ac, .int .i64 N.fr, .slice A.c N.ce.length A.cc, .slice A.o N.od.length A.oc, .int .i64 N.mv, .int .i64 N.wm, .slice A.w N.w.length A.wc, .int .i64 N.tm, .slice A.t N.t.length A.tc, .int .i64 N.sm, .slice A.s N.s.length A.sc, .slice A.k N.sk.length A.kc, .int .i64 N.ad, .int .i64 N.dr] 37)).ownsRow B 93 2 (.slice A.c N.ce.length A.cc) N.ce.length (ces N.ce)) := World.ownsRow.alloc h.fc _
  have Ro : Hid ((w.alloc (.cells #[.slice A.a N.sl.length A.ac, .int .i64 N.fr, .slice A.c N.ce.length A.cc, .slice A.o N.od.length A.oc, .int .i64 N.mv, .int .i64 N.wm, .slice A.w N.w.length A.wc, .int .i64 N.tm, .slice A.t N.t.length A.tc, .int .i64 N.sm, .slice A.s N.s.length A.sc, .slice A.k N.sk.length A.kc, .int .i64 N.ad, .int .i64 N.dr] 37)).ownsRow B 93 2 (.slice A.o N.od.length A.oc) N.od.length (ces N.od)) := World.ownsRow.alloc h.fo _
  have Rw : Hid ((w.alloc (.cells #[.slice A.a N.sl.length A.ac, .int .i64 N.fr, .slice A.c N.ce.length A.cc, .slice A.o N.od.length A.oc, .int .i64 N.mv, .int .i64 N.wm, .slice A.w N.w.length A.wc, .int .i64 N.tm, .slice A.t N.t.length A.tc, .int .i64 N.sm, .slice A.s N.s.length A.sc, .slice A.k N.sk.length A.kc, .int .i64 N.ad, .int .i64 N.dr] 37)).ownsRow B 9 1 (.slice A.w N.w.length A.wc) N.w.length (sc N.w)) := World.ownsRow.alloc h.fw _
  have Rt : Hid ((w.alloc (.cells #[.slice A.a N.sl.length A.ac, .int .i64 N.fr, .slice A.c N.ce.length A.cc, .slice A.o N.od.length A.oc, .int .i64 N.mv, .int .i64 N.wm, .slice A.w N.w.length A.wc, .int .i64 N.tm, .slice A.t N.t.length A.tc, .int .i64 N.sm, .slice A.s N.s.length A.sc, .slice A.k N.sk.length A.kc, .int .i64 N.ad, .int .i64 N.dr] 37)).ownsRow B 9 1 (.slice A.t N.t.length A.tc) N.t.length (sc N.t)) := World.ownsRow.alloc h.ft _
  have Rs : Hid ((w.alloc (.cells #[.slice A.a N.sl.length A.ac, .int .i64 N.fr, .slice A.c N.ce.length A.cc, .slice A.o N.od.length A.oc, .int .i64 N.mv, .int .i64 N.wm, .slice A.w N.w.length A.wc, .int .i64 N.tm, .slice A.t N.t.length A.tc, .int .i64 N.sm, .slice A.s N.s.length A.sc, .slice A.k N.sk.length A.kc, .int .i64 N.ad, .int .i64 N.dr] 37)).ownsRow B 9 1 (.slice A.s N.s.length A.sc) N.s.length (sc N.s)) := World.ownsRow.alloc h.fs _
  have Rk : Hid ((w.alloc (.cells #[.slice A.a N.sl.length A.ac, .int .i64 N.fr, .slice A.c N.ce.length A.cc, .slice A.o N.od.length A.oc, .int .i64 N.mv, .int .i64 N.wm, .slice A.w N.w.length A.wc, .int .i64 N.tm, .slice A.t N.t.length A.tc, .int .i64 N.sm, .slice A.s N.s.length A.sc, .slice A.k N.sk.length A.kc, .int .i64 N.ad, .int .i64 N.dr] 37)).ownsRow B 3 1 (.slice A.k N.sk.length A.kc) N.sk.length (iz N.sk)) := World.ownsRow.alloc h.fk _
  have NE : Hid (∀ v ∈ vlN A N, v.ownBlock ≠ some w.heap.size) := fun v hv e => by have := (h.lt v hv _ e).2; omega
  have s1 := hl.fa
  have s2 := hl.fc
  have s3 := hl.fo
  have s4 := hl.fw
  have s5 := hl.ft
  have s6 := hl.fs
  have s7 := hl.fk
  clear h hl B0
  unfold neV
  go_enter Try.func7, Try.ntmps7
  go_wp2_with fail
  generalize w.alloc (.cells #[.slice A.a N.sl.length A.ac, .int .i64 N.fr, .slice A.c N.ce.length A.cc, .slice A.o N.od.length A.oc, .int .i64 N.mv, .int .i64 N.wm, .slice A.w N.w.length A.wc, .int .i64 N.tm, .slice A.t N.t.length A.tc, .int .i64 N.sm, .slice A.s N.s.length A.sc, .slice A.k N.sk.length A.kc, .int .i64 N.ad, .int .i64 N.dr] 37) = w0 at BX FR Ra Rc Ro Rw Rt Rs Rk ⊢
  have C0 := hide1 (markArena_one A.a N.sl A.ac N.fr B w0 s1 Ra.out)
  refine C0.out.mono ?_
  rintro e w1 ⟨rfl, n0, hg⟩
  obtain ⟨k0, hk0⟩ : ∃ k0 : Nat, (k0 : Int) = 1 + 5 * (N.sl.length : Int) := ⟨ka N, by unfold ka; omega⟩
  rw [← hk0]
  have e0 : Hid (k0 = ka N) := by show k0 = ka N; unfold ka; omega
  have Ra := hide1 n0
  have Rc := hide1 (gown hg Rc.out (fun k hk e => APca.out k hk e))
  have Ro := hide1 (gown hg Ro.out (fun k hk e => APoa.out k hk e))
  have Rw := hide1 (gown hg Rw.out (fun k hk e => APwa.out k hk e))
  have Rt := hide1 (gown hg Rt.out (fun k hk e => APta.out k hk e))
  have Rs := hide1 (gown hg Rs.out (fun k hk e => APsa.out k hk e))
  have Rk := hide1 (gown hg Rk.out (fun k hk e => APka.out k hk e))
  have BX := hide1 (gblk hg BX.out (fun e => NE.out _ (by simp [vlN]) e))
  have FR := hide1 (FR.out.step hg (by simp [vlN]))
  clear n0 hg
  clear C0 hk0
  have C1 := hide1 (markTable_two A.c A.o N.ce N.od A.cc A.oc k0 B N.mv w1 s2 s3 (by have := e0.out; unfold ka at this; omega) (by have := e0.out; unfold ka at this; omega) ⟨Rc.out, Ro.out, APco.out⟩)
  have x2 : w1.cell? ⟨w.heap.size, 2, none⟩ = some (.slice A.c N.ce.length A.cc) := BX.out.cell 2
  have x3 : w1.cell? ⟨w.heap.size, 3, none⟩ = some (.slice A.o N.od.length A.oc) := BX.out.cell 3
  have x4 : w1.cell? ⟨w.heap.size, 4, none⟩ = some (.int .i64 N.mv) := BX.out.cell 4
  go_wp2_with fail
  refine C1.out.mono ?_
  rintro e w2 ⟨rfl, n1, n2, hg⟩
  obtain ⟨k1, hk1⟩ : ∃ k1 : Nat, (k1 : Int) = (k0 : Int) + 2 * (N.ce.length : Int) + 2 * (N.od.length : Int) := ⟨kc N, by have := e0.out; unfold kc kb; omega⟩
  rw [← hk1]
  have e1 : Hid (k1 = kc N) := by show k1 = kc N; have := e0.out; unfold kc kb; omega
  have Ra := hide1 (hg.ownX Ra.out APac.out APao.out)
  have Rc : Hid (w2.ownsRow B 93 2 (.slice A.c N.ce.length A.cc) N.ce.length (ces (patCs (ka N) N.ce.length))) := by rw [← e0.out]; exact n1
  have Ro : Hid (w2.ownsRow B 93 2 (.slice A.o N.od.length A.oc) N.od.length (ces (patCs (kb N) N.od.length))) := by show World.ownsRow _ _ _ _ _ _ _; unfold kb; rw [← e0.out]; exact n2
  have Rw := hide1 (hg.ownX Rw.out APwc.out APwo.out)
  have Rt := hide1 (hg.ownX Rt.out APtc.out APto.out)
  have Rs := hide1 (hg.ownX Rs.out APsc.out APso.out)
  have Rk := hide1 (hg.ownX Rk.out APkc.out APko.out)
  have BX := hide1 (hg.blk BX.out (fun e => NE.out _ (by simp [vlN]) e) (fun e => NE.out _ (by simp [vlN]) e))
  have FR := hide1 (FR.out.two hg (by simp [vlN]) (by simp [vlN]))
  clear n1 n2 hg
  clear C1 hk1 x2 x3 x4
  have C2 := hide1 (markQueue_any A.w A.wc k1 B N.w N.wm w2 s4 (by have := e1.out; unfold kc kb ka at this; omega) (by have := e1.out; unfold kc kb ka at this; omega) Rw.out)
  unfold quV at C2
  have x5 : w2.cell? ⟨w.heap.size, 5, none⟩ = some (.int .i64 N.wm) := BX.out.cell 5
  have x6 : w2.cell? ⟨w.heap.size, 6, none⟩ = some (.slice A.w N.w.length A.wc) := BX.out.cell 6
  go_wp2_with fail
  refine C2.out.mono ?_
  rintro e w3 ⟨rfl, n3, hg⟩
  obtain ⟨k2, hk2⟩ : ∃ k2 : Nat, (k2 : Int) = (k1 : Int) + (N.w.length : Int) := ⟨kd N, by have := e1.out; unfold kd; omega⟩
  rw [← hk2]
  have e2 : Hid (k2 = kd N) := by show k2 = kd N; have := e1.out; unfold kd; omega
  have Ra := hide1 (gown hg Ra.out (fun k hk e => APaw.out k hk e))
  have Rc := hide1 (gown hg Rc.out (fun k hk e => APcw.out k hk e))
  have Ro := hide1 (gown hg Ro.out (fun k hk e => APow.out k hk e))
  have Rw : Hid (w3.ownsRow B 9 1 (.slice A.w N.w.length A.wc) N.w.length (sc (patQ (kc N) N.w.length))) := by rw [← e1.out]; exact n3
  have Rt := hide1 (gown hg Rt.out (fun k hk e => APtw.out k hk e))
  have Rs := hide1 (gown hg Rs.out (fun k hk e => APsw.out k hk e))
  have Rk := hide1 (gown hg Rk.out (fun k hk e => APkw.out k hk e))
  have BX := hide1 (gblk hg BX.out (fun e => NE.out _ (by simp [vlN]) e))
  have FR := hide1 (FR.out.step hg (by simp [vlN]))
  clear n3 hg
  clear C2 hk2 x5 x6
  have C3 := hide1 (markQueue_any A.t A.tc k2 B N.t N.tm w3 s5 (by have := e2.out; unfold kd kc kb ka at this; omega) (by have := e2.out; unfold kd kc kb ka at this; omega) Rt.out)
  unfold quV at C3
  have x7 : w3.cell? ⟨w.heap.size, 7, none⟩ = some (.int .i64 N.tm) := BX.out.cell 7
  have x8 : w3.cell? ⟨w.heap.size, 8, none⟩ = some (.slice A.t N.t.length A.tc) := BX.out.cell 8
  go_wp2_with fail
  refine C3.out.mono ?_
  rintro e w4 ⟨rfl, n3, hg⟩
  obtain ⟨k3, hk3⟩ : ∃ k3 : Nat, (k3 : Int) = (k2 : Int) + (N.t.length : Int) := ⟨ke N, by have := e2.out; unfold ke; omega⟩
  rw [← hk3]
  have e3 : Hid (k3 = ke N) := by show k3 = ke N; have := e2.out; unfold ke; omega
  have Ra := hide1 (gown hg Ra.out (fun k hk e => APat.out k hk e))
  have Rc := hide1 (gown hg Rc.out (fun k hk e => APct.out k hk e))
  have Ro := hide1 (gown hg Ro.out (fun k hk e => APot.out k hk e))
  have Rw := hide1 (gown hg Rw.out (fun k hk e => APwt.out k hk e))
  have Rt : Hid (w4.ownsRow B 9 1 (.slice A.t N.t.length A.tc) N.t.length (sc (patQ (kd N) N.t.length))) := by rw [← e2.out]; exact n3
  have Rs := hide1 (gown hg Rs.out (fun k hk e => APst.out k hk e))
  have Rk := hide1 (gown hg Rk.out (fun k hk e => APkt.out k hk e))
  have BX := hide1 (gblk hg BX.out (fun e => NE.out _ (by simp [vlN]) e))
  have FR := hide1 (FR.out.step hg (by simp [vlN]))
  clear n3 hg
  clear C3 hk3 x7 x8
  have C4 := hide1 (markQueue_any A.s A.sc k3 B N.s N.sm w4 s6 (by have := e3.out; unfold ke kd kc kb ka at this; omega) (by have := e3.out; unfold ke kd kc kb ka at this; omega) Rs.out)
  unfold quV at C4
  have x9 : w4.cell? ⟨w.heap.size, 9, none⟩ = some (.int .i64 N.sm) := BX.out.cell 9
  have x10 : w4.cell? ⟨w.heap.size, 10, none⟩ = some (.slice A.s N.s.length A.sc) := BX.out.cell 10
  go_wp2_with fail
  refine C4.out.mono ?_
  rintro e w5 ⟨rfl, n3, hg⟩
  obtain ⟨k4, hk4⟩ : ∃ k4 : Nat, (k4 : Int) = (k3 : Int) + (N.s.length : Int) := ⟨kf N, by have := e3.out; unfold kf; omega⟩
  rw [← hk4]
  have e4 : Hid (k4 = kf N) := by show k4 = kf N; have := e3.out; unfold kf; omega
  have Ra := hide1 (gown hg Ra.out (fun k hk e => APas.out k hk e))
  have Rc := hide1 (gown hg Rc.out (fun k hk e => APcs.out k hk e))
  have Ro := hide1 (gown hg Ro.out (fun k hk e => APos.out k hk e))
  have Rw := hide1 (gown hg Rw.out (fun k hk e => APws.out k hk e))
  have Rt := hide1 (gown hg Rt.out (fun k hk e => APts.out k hk e))
  have Rs : Hid (w5.ownsRow B 9 1 (.slice A.s N.s.length A.sc) N.s.length (sc (patQ (ke N) N.s.length))) := by rw [← e3.out]; exact n3
  have Rk := hide1 (gown hg Rk.out (fun k hk e => APks.out k hk e))
  have BX := hide1 (gblk hg BX.out (fun e => NE.out _ (by simp [vlN]) e))
  have FR := hide1 (FR.out.step hg (by simp [vlN]))
  clear n3 hg
  clear C4 hk4 x9 x10
  have C5 := hide1 (markSketch_any A.k A.kc k4 B N.sk N.ad w5 s7 (by have := e4.out; unfold kf ke kd kc kb ka at this; omega) Rk.out)
  unfold skV at C5
  have x11 : w5.cell? ⟨w.heap.size, 11, none⟩ = some (.slice A.k N.sk.length A.kc) := BX.out.cell 11
  have x12 : w5.cell? ⟨w.heap.size, 12, none⟩ = some (.int .i64 N.ad) := BX.out.cell 12
  go_wp2_with fail
  refine C5.out.mono ?_
  rintro e w6 ⟨rfl, n3, hg⟩
  obtain ⟨k5, hk5⟩ : ∃ k5 : Nat, (k5 : Int) = (k4 : Int) + (N.sk.length : Int) := ⟨kg N, by have := e4.out; unfold kg; omega⟩
  rw [← hk5]
  have e5 : Hid (k5 = kg N) := by show k5 = kg N; have := e4.out; unfold kg; omega
  have Ra := hide1 (gown hg Ra.out (fun k hk e => APak.out k hk e))
  have Rc := hide1 (gown hg Rc.out (fun k hk e => APck.out k hk e))
  have Ro := hide1 (gown hg Ro.out (fun k hk e => APok.out k hk e))
  have Rw := hide1 (gown hg Rw.out (fun k hk e => APwk.out k hk e))
  have Rt := hide1 (gown hg Rt.out (fun k hk e => APtk.out k hk e))
  have Rs := hide1 (gown hg Rs.out (fun k hk e => APsk.out k hk e))
  have Rk : Hid (w6.ownsRow B 3 1 (.slice A.k N.sk.length A.kc) N.sk.length (iz (patZ (kf N) N.sk.length))) := by rw [← e4.out]; exact n3
  have BX := hide1 (gblk hg BX.out (fun e => NE.out _ (by simp [vlN]) e))
  have FR := hide1 (FR.out.step hg (by simp [vlN]))
  clear n3 hg
  clear C5 hk5 x11 x12
  go_wp2
  go_ret
  refine ⟨by rw [e5.out]; rfl, ⟨?_, ?_, ?_, ?_, ?_, ?_, ?_⟩, FR.out⟩
  · exact rdA_of_own (l := patL 1 N.sl.length) (by rw [patL_length]; exact Ra.out)
  · exact rdC_of_own (l := patCs (ka N) N.ce.length) (by rw [patCs_length]; exact Rc.out)
  · exact rdC_of_own (l := patCs (kb N) N.od.length) (by rw [patCs_length]; exact Ro.out)
  · exact rdQ_of_own Rw.out
  · exact rdQ_of_own Rt.out
  · exact rdQ_of_own Rs.out
  · exact rdZ_of_own Rk.out

set_option maxRecDepth 100000 in
set_option maxHeartbeats 8000000 in
theorem heldNear_own (A : NA) (N : Nr) (w : World) (hl : SmN N) (h : RdP w A N) :
    Calls Try.prog 8 #[neV A N, .int .i64 1] w fun e w' => e = .returned (.int .i64 (kg N : Int)) ∧ Below w.heap.size w w' := by
  have BX := hide1 (Blk.new w 37 #[.slice A.a N.sl.length A.ac, .int .i64 N.fr, .slice A.c N.ce.length A.cc, .slice A.o N.od.length A.oc, .int .i64 N.mv, .int .i64 N.wm, .slice A.w N.w.length A.wc, .int .i64 N.tm, .slice A.t N.t.length A.tc, .int .i64 N.sm, .slice A.s N.s.length A.sc, .slice A.k N.sk.length A.kc, .int .i64 N.ad, .int .i64 N.dr])
  have BB := hide1 ((Below.refl w.heap.size w).alloc (Nat.le_refl _) (.cells #[.slice A.a N.sl.length A.ac, .int .i64 N.fr, .slice A.c N.ce.length A.cc, .slice A.o N.od.length A.oc, .int .i64 N.mv, .int .i64 N.wm, .slice A.w N.w.length A.wc, .int .i64 N.tm, .slice A.t N.t.length A.tc, .int .i64 N.sm, .slice A.s N.s.length A.sc, .slice A.k N.sk.length A.kc, .int .i64 N.ad, .int .i64 N.dr] 37))
  have HP := hide1 (h.later BB.out)
  have s1 := hl.fa
  have s2 := hl.fc
  have s3 := hl.fo
  have s4 := hl.fw
  have s5 := hl.ft
  have s6 := hl.fs
  have s7 := hl.fk
  clear h hl
  unfold neV
  go_enter Try.func8, Try.ntmps8
  go_wp2_with fail
  generalize w.alloc (.cells #[.slice A.a N.sl.length A.ac, .int .i64 N.fr, .slice A.c N.ce.length A.cc, .slice A.o N.od.length A.oc, .int .i64 N.mv, .int .i64 N.wm, .slice A.w N.w.length A.wc, .int .i64 N.tm, .slice A.t N.t.length A.tc, .int .i64 N.sm, .slice A.s N.s.length A.sc, .slice A.k N.sk.length A.kc, .int .i64 N.ad, .int .i64 N.dr] 37) = w0 at BX BB HP ⊢
  have C0 := hide1 (heldArena_one A.a N.sl.length A.ac N.fr w0 s1 HP.out.fa)
  refine C0.out.mono ?_
  rintro e w1 ⟨rfl, hb⟩
  obtain ⟨k0, hk0⟩ : ∃ k0 : Nat, (k0 : Int) = 1 + 5 * (N.sl.length : Int) := ⟨ka N, by unfold ka; omega⟩
  rw [← hk0]
  have e0 : Hid (k0 = ka N) := by show k0 = ka N; unfold ka; omega
  have q0 : decide ((k0 : Int) < 0) = false := by simp
  have BX := hide1 (BX.out.below hb BX.out.lt)
  have HP := hide1 (HP.out.later hb)
  have BB := hide1 (BB.out.trans (hb.mono BB.out.size))
  clear hb C0 hk0
  have C1 := hide1 (heldTable_any A.c A.o N.ce.length N.od.length A.cc A.oc k0 N.mv w1 s2 s3 (by have := e0.out; unfold ka at this; omega) (by have := e0.out; unfold ka at this; omega) (by rw [e0.out]; exact HP.out.fc) (by rw [e0.out]; exact HP.out.fo))
  unfold tbV at C1
  have x2 : w1.cell? ⟨w.heap.size, 2, none⟩ = some (.slice A.c N.ce.length A.cc) := BX.out.cell 2
  have x3 : w1.cell? ⟨w.heap.size, 3, none⟩ = some (.slice A.o N.od.length A.oc) := BX.out.cell 3
  have x4 : w1.cell? ⟨w.heap.size, 4, none⟩ = some (.int .i64 N.mv) := BX.out.cell 4
  go_wp2_with fail
  refine C1.out.mono ?_
  rintro e w2 ⟨rfl, hb⟩
  obtain ⟨k1, hk1⟩ : ∃ k1 : Nat, (k1 : Int) = (k0 : Int) + 2 * (N.ce.length : Int) + 2 * (N.od.length : Int) := ⟨kc N, by have := e0.out; unfold kc kb; omega⟩
  rw [← hk1]
  have e1 : Hid (k1 = kc N) := by show k1 = kc N; have := e0.out; unfold kc kb; omega
  have q1 : decide ((k1 : Int) < 0) = false := by simp
  have BX := hide1 (BX.out.below hb BX.out.lt)
  have HP := hide1 (HP.out.later hb)
  have BB := hide1 (BB.out.trans (hb.mono BB.out.size))
  clear hb C1 hk1 x2 x3 x4
  have C2 := hide1 (heldQueue_any A.w N.w.length A.wc k1 N.wm w2 s4 (by have := e1.out; unfold kc kb ka at this; omega) (by have := e1.out; unfold kc kb ka at this; omega) (by rw [e1.out]; exact HP.out.fw))
  unfold quV at C2
  have x5 : w2.cell? ⟨w.heap.size, 5, none⟩ = some (.int .i64 N.wm) := BX.out.cell 5
  have x6 : w2.cell? ⟨w.heap.size, 6, none⟩ = some (.slice A.w N.w.length A.wc) := BX.out.cell 6
  go_wp2_with fail
  refine C2.out.mono ?_
  rintro e w3 ⟨rfl, hb⟩
  obtain ⟨k2, hk2⟩ : ∃ k2 : Nat, (k2 : Int) = (k1 : Int) + (N.w.length : Int) := ⟨kd N, by have := e1.out; unfold kd; omega⟩
  rw [← hk2]
  have e2 : Hid (k2 = kd N) := by show k2 = kd N; have := e1.out; unfold kd; omega
  have q2 : decide ((k2 : Int) < 0) = false := by simp
  have BX := hide1 (BX.out.below hb BX.out.lt)
  have HP := hide1 (HP.out.later hb)
  have BB := hide1 (BB.out.trans (hb.mono BB.out.size))
  clear hb C2 hk2 x5 x6
  have C3 := hide1 (heldQueue_any A.t N.t.length A.tc k2 N.tm w3 s5 (by have := e2.out; unfold kd kc kb ka at this; omega) (by have := e2.out; unfold kd kc kb ka at this; omega) (by rw [e2.out]; exact HP.out.ft))
  unfold quV at C3
  have x7 : w3.cell? ⟨w.heap.size, 7, none⟩ = some (.int .i64 N.tm) := BX.out.cell 7
  have x8 : w3.cell? ⟨w.heap.size, 8, none⟩ = some (.slice A.t N.t.length A.tc) := BX.out.cell 8
  go_wp2_with fail
  refine C3.out.mono ?_
  rintro e w4 ⟨rfl, hb⟩
  obtain ⟨k3, hk3⟩ : ∃ k3 : Nat, (k3 : Int) = (k2 : Int) + (N.t.length : Int) := ⟨ke N, by have := e2.out; unfold ke; omega⟩
  rw [← hk3]
  have e3 : Hid (k3 = ke N) := by show k3 = ke N; have := e2.out; unfold ke; omega
  have q3 : decide ((k3 : Int) < 0) = false := by simp
  have BX := hide1 (BX.out.below hb BX.out.lt)
  have HP := hide1 (HP.out.later hb)
  have BB := hide1 (BB.out.trans (hb.mono BB.out.size))
  clear hb C3 hk3 x7 x8
  have C4 := hide1 (heldQueue_any A.s N.s.length A.sc k3 N.sm w4 s6 (by have := e3.out; unfold ke kd kc kb ka at this; omega) (by have := e3.out; unfold ke kd kc kb ka at this; omega) (by rw [e3.out]; exact HP.out.fs))
  unfold quV at C4
  have x9 : w4.cell? ⟨w.heap.size, 9, none⟩ = some (.int .i64 N.sm) := BX.out.cell 9
  have x10 : w4.cell? ⟨w.heap.size, 10, none⟩ = some (.slice A.s N.s.length A.sc) := BX.out.cell 10
  go_wp2_with fail
  refine C4.out.mono ?_
  rintro e w5 ⟨rfl, hb⟩
  obtain ⟨k4, hk4⟩ : ∃ k4 : Nat, (k4 : Int) = (k3 : Int) + (N.s.length : Int) := ⟨kf N, by have := e3.out; unfold kf; omega⟩
  rw [← hk4]
  have e4 : Hid (k4 = kf N) := by show k4 = kf N; have := e3.out; unfold kf; omega
  have q4 : decide ((k4 : Int) < 0) = false := by simp
  have BX := hide1 (BX.out.below hb BX.out.lt)
  have HP := hide1 (HP.out.later hb)
  have BB := hide1 (BB.out.trans (hb.mono BB.out.size))
  clear hb C4 hk4 x9 x10
  have C5 := hide1 (heldSketch_any A.k N.sk.length A.kc k4 N.ad w5 s7 (by have := e4.out; unfold kf ke kd kc kb ka at this; omega) (by rw [e4.out]; exact HP.out.fk))
  unfold skV at C5
  have x11 : w5.cell? ⟨w.heap.size, 11, none⟩ = some (.slice A.k N.sk.length A.kc) := BX.out.cell 11
  have x12 : w5.cell? ⟨w.heap.size, 12, none⟩ = some (.int .i64 N.ad) := BX.out.cell 12
  go_wp2_with fail
  refine C5.out.mono ?_
  rintro e w6 ⟨rfl, hb⟩
  obtain ⟨k5, hk5⟩ : ∃ k5 : Nat, (k5 : Int) = (k4 : Int) + (N.sk.length : Int) := ⟨kg N, by have := e4.out; unfold kg; omega⟩
  rw [← hk5]
  have e5 : Hid (k5 = kg N) := by show k5 = kg N; have := e4.out; unfold kg; omega
  have q5 : decide ((k5 : Int) < 0) = false := by simp
  have BX := hide1 (BX.out.below hb BX.out.lt)
  have HP := hide1 (HP.out.later hb)
  have BB := hide1 (BB.out.trans (hb.mono BB.out.size))
  clear hb C5 hk5 x11 x12
  go_wp2
  go_ret
  exact ⟨by rw [e5.out]; rfl, BB.out⟩

end Go.Proofs.Ytenmpciimocggaa
