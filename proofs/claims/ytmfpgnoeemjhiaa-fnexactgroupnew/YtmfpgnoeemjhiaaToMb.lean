/- Members in the statements' words: copied, compared, sized, opened. -/
import Derived.Test.YtmfpgnoeemjhiaaMbM
import Derived.Test.YtmfpgnoeemjhiaaToI
import Derived.Test.YtmfpgnoeemjhiaaImO
import Derived.Deep.DeepCutAuto
namespace Go.Proofs.Ytmfpgnoeemjhiaa
open Go.ChangeShapes Go.WideShapes Go.ChangeAt Go.RowKit Go.Deep Go.Joins
set_option linter.unusedVariables false

/-- A variable, a result, a box: what the copying of a struct holds. -/
structure To3 (w wr : World) (tb tq : TypeId) (bx rs cs : List Value) : Prop where
  box : Blk wr w.heap.size tb bx
  res : Blk wr (w.heap.size + 1) tq rs
  out : Blk wr (w.heap.size + 1 + 1) tq cs
  bel : Below w.heap.size w wr
theorem To3.later {w wr w2 : World} {tb tq : TypeId} {bx rs cs : List Value} (h : To3 w wr tb tq bx rs cs) (hb : Below wr.heap.size wr w2) : To3 w w2 tb tq bx rs cs :=
  ⟨h.box.below hb h.box.lt, h.res.below hb h.res.lt, h.out.below hb h.out.lt, h.bel.trans (hb.mono h.bel.size)⟩
theorem To3.set {w wr : World} {tb tq : TypeId} {bx rs cs : List Value} (h : To3 w wr tb tq bx rs cs) (j : Nat) (u : Value) : To3 w (wr.setCell ⟨w.heap.size + 1 + 1, j, none⟩ u) tb tq bx rs (cs.set j u) :=
  ⟨h.box.far _ _ (by dsimp only; omega), h.res.far _ _ (by dsimp only; omega), h.out.set j u, h.bel.setCell (p := ⟨w.heap.size + 1 + 1, j, none⟩) (by dsimp only; omega) _⟩
theorem To3.size {w wr : World} {tb tq : TypeId} {bx rs cs : List Value} (h : To3 w wr tb tq bx rs cs) : w.heap.size + 1 + 1 + 1 ≤ wr.heap.size := h.out.lt
theorem own_farB (g : Nat) {w : World} {base n k : Nat} {e : TypeId} {v : Value} {xs : List Value} (h : w.ownsRow base e k v n xs) (hg : g < base) (j : Nat) (u : Value) : (w.setCell ⟨g, j, none⟩ u).ownsRow base e k v n xs := own_far h ⟨g, j, none⟩ u (fun q hq => by have := (h.lt q hq).1; dsimp only; omega)
/-- A member's three rows are its own, and apart. -/
structure OwnMb (w : World) (B : Nat) (m : Mb) (A : MA) : Prop where
  wo : w.ownsRow B 3 1 (.slice A.wa m.wa.length A.wc) m.wa.length (iz m.wa)
  io : w.ownsRow B 47 3 (.slice A.ia m.is.length A.ic) m.is.length (rowG imC m.is)
  lo : w.ownsRow B 3 1 (.slice A.la m.tk.lf.length A.lc) m.tk.lf.length (iz m.tk.lf)
  wi : ∀ g, (Value.slice A.wa m.wa.length A.wc).ownBlock = some g → (Value.slice A.ia m.is.length A.ic).ownBlock ≠ some g
  wl : ∀ g, (Value.slice A.wa m.wa.length A.wc).ownBlock = some g → (Value.slice A.la m.tk.lf.length A.lc).ownBlock ≠ some g
  il : ∀ g, (Value.slice A.ia m.is.length A.ic).ownBlock = some g → (Value.slice A.la m.tk.lf.length A.lc).ownBlock ≠ some g
theorem OwnMb.rd {w : World} {B : Nat} {m : Mb} {A : MA} (h : OwnMb w B m A) : RdMb w m A := ⟨rdZ_of_own h.wo, rdG_of_own encIm.1 h.io rfl, rdZ_of_own h.lo⟩
theorem OwnMb.later {w w' : World} {B : Nat} {m : Mb} {A : MA} (h : OwnMb w B m A) (hb : Below w.heap.size w w') : OwnMb w' B m A := ⟨own_kept h.wo hb, own_kept h.io hb, own_kept h.lo hb, h.wi, h.wl, h.il⟩
theorem OwnMb.base {w : World} {B B' : Nat} {m : Mb} {A : MA} (h : OwnMb w B m A) (hB : B' ≤ B) : OwnMb w B' m A := ⟨own_base h.wo hB, own_base h.io hB, own_base h.lo hB, h.wi, h.wl, h.il⟩
set_option maxRecDepth 100000 in
set_option maxHeartbeats 2000000 in
theorem eqTask_same (t : Tk) (a b : Option Addr) (ca cb : Nat) (w : World) (hl : t.lf.length ≤ 1048576) (hA : RdZ w a t.lf) (hB : RdZ w b t.lf) :
    Calls Try.prog 58 #[.agg #[.int .i64 t.op, .int .i64 t.cl, .int .i64 t.nu, .string t.it.k, .string t.it.v, .int .i64 t.it.n, .slice a t.lf.length ca], .agg #[.int .i64 t.op, .int .i64 t.cl, .int .i64 t.nu, .string t.it.k, .string t.it.v, .int .i64 t.it.n, .slice b t.lf.length cb]] w fun r w' => r = .returned (.bool true) ∧ Below w.heap.size w w' := by
  have F0 := hide1 (blkN2 w #[.int .i64 t.op, .int .i64 t.cl, .int .i64 t.nu, .string t.it.k, .string t.it.v, .int .i64 t.it.n, .slice a t.lf.length ca] #[.int .i64 t.op, .int .i64 t.cl, .int .i64 t.nu, .string t.it.k, .string t.it.v, .int .i64 t.it.n, .slice b t.lf.length cb] 50 50)
  have C0 := hide1 (fun w' => eqItem_same t.it w')
  have C1 := hide1 (fun w' (h : Below w.heap.size w w') => eqIntS_own a b t.lf ca cb w' hl (hA.later h) (hB.later h))
  clear hA hB
  have q0 : (t.op != t.op) = false := by simp
  have q1 : (t.cl != t.cl) = false := by simp
  have q2 : (t.nu != t.nu) = false := by simp
  go_enter Try.func58, Try.ntmps58
  go_wp2_with fail
  generalize ((w.alloc (.cells #[.int .i64 t.op, .int .i64 t.cl, .int .i64 t.nu, .string t.it.k, .string t.it.v, .int .i64 t.it.n, .slice a t.lf.length ca] 50)).alloc (.cells #[.int .i64 t.op, .int .i64 t.cl, .int .i64 t.nu, .string t.it.k, .string t.it.v, .int .i64 t.it.n, .slice b t.lf.length cb] 50)) = u at F0 ⊢
  refine (C0.out u).mono ?_
  rintro r w1 ⟨rfl, hb1⟩
  have B1 := hide1 (F0.out.2.2.trans (hb1.mono F0.out.2.2.size))
  have x6 : w1.cell? ⟨w.heap.size, 6, none⟩ = some (.slice a t.lf.length ca) := (F0.out.1.below hb1 F0.out.1.lt).cell 6
  have y6 : w1.cell? ⟨w.heap.size + 1, 6, none⟩ = some (.slice b t.lf.length cb) := (F0.out.2.1.below hb1 F0.out.2.1.lt).cell 6
  clear hb1 F0
  go_wp2_with fail
  refine (C1.out w1 B1.out).mono ?_
  rintro r w2 ⟨rfl, hb2⟩
  have B2 := hide1 (B1.out.trans (hb2.mono B1.out.size))
  clear hb2 x6 y6
  go_wp2
  go_ret
  exact ⟨rfl, B2.out⟩
set_option maxRecDepth 100000 in
set_option maxHeartbeats 2000000 in
theorem eqMember_same (m : Mb) (A B : MA) (w : World) (hl : SzMb m) (hA : RdMb w m A) (hB : RdMb w m B) :
    Calls Try.prog 48 #[.agg #[.int .i64 m.id, .int .i64 m.ep, .bool m.fe, .bool m.ba, .bool m.le, .bool m.se, .slice A.wa m.wa.length A.wc, .slice A.ia m.is.length A.ic, .int .i64 m.cn, .int .i64 m.tk.op, .int .i64 m.tk.cl, .int .i64 m.tk.nu, .string m.tk.it.k, .string m.tk.it.v, .int .i64 m.tk.it.n, .slice A.la m.tk.lf.length A.lc], .agg #[.int .i64 m.id, .int .i64 m.ep, .bool m.fe, .bool m.ba, .bool m.le, .bool m.se, .slice B.wa m.wa.length B.wc, .slice B.ia m.is.length B.ic, .int .i64 m.cn, .int .i64 m.tk.op, .int .i64 m.tk.cl, .int .i64 m.tk.nu, .string m.tk.it.k, .string m.tk.it.v, .int .i64 m.tk.it.n, .slice B.la m.tk.lf.length B.lc]] w fun r w' => r = .returned (.bool true) ∧ Below w.heap.size w w' := by
  have F0 := hide1 (blkN2 w #[.int .i64 m.id, .int .i64 m.ep, .bool m.fe, .bool m.ba, .bool m.le, .bool m.se, .slice A.wa m.wa.length A.wc, .slice A.ia m.is.length A.ic, .int .i64 m.cn, .int .i64 m.tk.op, .int .i64 m.tk.cl, .int .i64 m.tk.nu, .string m.tk.it.k, .string m.tk.it.v, .int .i64 m.tk.it.n, .slice A.la m.tk.lf.length A.lc] #[.int .i64 m.id, .int .i64 m.ep, .bool m.fe, .bool m.ba, .bool m.le, .bool m.se, .slice B.wa m.wa.length B.wc, .slice B.ia m.is.length B.ic, .int .i64 m.cn, .int .i64 m.tk.op, .int .i64 m.tk.cl, .int .i64 m.tk.nu, .string m.tk.it.k, .string m.tk.it.v, .int .i64 m.tk.it.n, .slice B.la m.tk.lf.length B.lc] 54 54)
  have C0 := hide1 (fun w' (h : Below w.heap.size w w') => eqIntS_own A.wa B.wa m.wa A.wc B.wc w' hl.wl (hA.wr.later h) (hB.wr.later h))
  have C1 := hide1 (fun w' (h : Below w.heap.size w w') => eqItemS_same A.ia B.ia m.is A.ic B.ic w' hl.il (hA.ir.later h) (hB.ir.later h))
  have C2 := hide1 (fun w' (h : Below w.heap.size w w') => eqTask_same m.tk A.la B.la A.lc B.lc w' hl.ll (hA.lr.later h) (hB.lr.later h))
  clear hA hB hl
  have q0 : (m.id != m.id) = false := by simp
  have q1 : (m.ep != m.ep) = false := by simp
  have q2 : (m.fe != m.fe) = false := by simp
  have q3 : (m.ba != m.ba) = false := by simp
  have q4 : (m.le != m.le) = false := by simp
  have q5 : (m.se != m.se) = false := by simp
  have q8 : (m.cn != m.cn) = false := by simp
  go_enter Try.func48, Try.ntmps48
  go_wp2_with fail
  generalize ((w.alloc (.cells #[.int .i64 m.id, .int .i64 m.ep, .bool m.fe, .bool m.ba, .bool m.le, .bool m.se, .slice A.wa m.wa.length A.wc, .slice A.ia m.is.length A.ic, .int .i64 m.cn, .int .i64 m.tk.op, .int .i64 m.tk.cl, .int .i64 m.tk.nu, .string m.tk.it.k, .string m.tk.it.v, .int .i64 m.tk.it.n, .slice A.la m.tk.lf.length A.lc] 54)).alloc (.cells #[.int .i64 m.id, .int .i64 m.ep, .bool m.fe, .bool m.ba, .bool m.le, .bool m.se, .slice B.wa m.wa.length B.wc, .slice B.ia m.is.length B.ic, .int .i64 m.cn, .int .i64 m.tk.op, .int .i64 m.tk.cl, .int .i64 m.tk.nu, .string m.tk.it.k, .string m.tk.it.v, .int .i64 m.tk.it.n, .slice B.la m.tk.lf.length B.lc] 54)) = u at F0 ⊢
  refine (C0.out u F0.out.2.2).mono ?_
  rintro r w1 ⟨rfl, hb1⟩
  have X1 := hide1 (F0.out.1.below hb1 F0.out.1.lt)
  have Y1 := hide1 (F0.out.2.1.below hb1 F0.out.2.1.lt)
  have B1 := hide1 (F0.out.2.2.trans (hb1.mono F0.out.2.2.size))
  have x7 : w1.cell? ⟨w.heap.size, 7, none⟩ = some (.slice A.ia m.is.length A.ic) := X1.out.cell 7
  have y7 : w1.cell? ⟨w.heap.size + 1, 7, none⟩ = some (.slice B.ia m.is.length B.ic) := Y1.out.cell 7
  clear hb1 F0
  go_wp2_with fail
  refine (C1.out w1 B1.out).mono ?_
  rintro r w2 ⟨rfl, hb2⟩
  have X2 := hide1 (X1.out.below hb2 X1.out.lt)
  have Y2 := hide1 (Y1.out.below hb2 Y1.out.lt)
  have B2 := hide1 (B1.out.trans (hb2.mono B1.out.size))
  clear hb2 x7 y7 X1 Y1 B1
  have x8 : w2.cell? ⟨w.heap.size, 8, none⟩ = some (.int .i64 m.cn) := X2.out.cell 8
  have y8 : w2.cell? ⟨w.heap.size + 1, 8, none⟩ = some (.int .i64 m.cn) := Y2.out.cell 8
  have x9 : w2.cell? ⟨w.heap.size, 9, none⟩ = some (.int .i64 m.tk.op) := X2.out.cell 9
  have y9 : w2.cell? ⟨w.heap.size + 1, 9, none⟩ = some (.int .i64 m.tk.op) := Y2.out.cell 9
  have x10 : w2.cell? ⟨w.heap.size, 10, none⟩ = some (.int .i64 m.tk.cl) := X2.out.cell 10
  have y10 : w2.cell? ⟨w.heap.size + 1, 10, none⟩ = some (.int .i64 m.tk.cl) := Y2.out.cell 10
  have x11 : w2.cell? ⟨w.heap.size, 11, none⟩ = some (.int .i64 m.tk.nu) := X2.out.cell 11
  have y11 : w2.cell? ⟨w.heap.size + 1, 11, none⟩ = some (.int .i64 m.tk.nu) := Y2.out.cell 11
  have x12 : w2.cell? ⟨w.heap.size, 12, none⟩ = some (.string m.tk.it.k) := X2.out.cell 12
  have y12 : w2.cell? ⟨w.heap.size + 1, 12, none⟩ = some (.string m.tk.it.k) := Y2.out.cell 12
  have x13 : w2.cell? ⟨w.heap.size, 13, none⟩ = some (.string m.tk.it.v) := X2.out.cell 13
  have y13 : w2.cell? ⟨w.heap.size + 1, 13, none⟩ = some (.string m.tk.it.v) := Y2.out.cell 13
  have x14 : w2.cell? ⟨w.heap.size, 14, none⟩ = some (.int .i64 m.tk.it.n) := X2.out.cell 14
  have y14 : w2.cell? ⟨w.heap.size + 1, 14, none⟩ = some (.int .i64 m.tk.it.n) := Y2.out.cell 14
  have x15 : w2.cell? ⟨w.heap.size, 15, none⟩ = some (.slice A.la m.tk.lf.length A.lc) := X2.out.cell 15
  have y15 : w2.cell? ⟨w.heap.size + 1, 15, none⟩ = some (.slice B.la m.tk.lf.length B.lc) := Y2.out.cell 15
  go_wp2_with fail
  refine (C2.out w2 B2.out).mono ?_
  rintro r w3 ⟨rfl, hb3⟩
  have B3 := hide1 (B2.out.trans (hb3.mono B2.out.size))
  clear hb3 x8 y8 x9 y9 x10 y10 x11 y11 x12 y12 x13 y13 x14 y14 x15 y15
  go_wp2
  go_ret
  exact ⟨rfl, B3.out⟩
def inI (x : Int) : Prop := -9223372036854775808 ≤ x ∧ x ≤ 9223372036854775807
structure WfMb (m : Mb) : Prop where
  wl : m.wa.length ≤ maxLen
  il : m.is.length ≤ maxLen
  ll : m.tk.lf.length ≤ maxLen
  is : ∀ s ∈ m.is, wfItem s
  it : wfItem m.tk.it
  id : inI m.id
  ep : inI m.ep
  cn : inI m.cn
  op : inI m.tk.op
  cl : inI m.tk.cl
  nu : inI m.tk.nu
end Go.Proofs.Ytmfpgnoeemjhiaa
