/- Members in the statements' words: copied, compared, sized, opened. -/
import Derived.Test.YtpjgplohlchpoaaGreatDoorUAH
import Derived.Test.YtpjgplohlchpoaaGreatDoorUAI
import Derived.Deep.DeepCutAuto
namespace Go.Proofs.YtpjgplohlchpoaaGreatDoor
open Go.ChangeShapes Go.WideShapes Go.ChangeAt Go.RowKit Go.Deep Go.Joins
set_option linter.unusedVariables false

/-- A variable, a result, a box: what the copying of a struct holds. -/
structure To3 (w wr : World) (tb tq : TypeId) (bx rs cs : List Value) : Prop where
  box : Blk wr w.heap.size tb bx
  res : Blk wr (w.heap.size + 1) tq rs
  out : Blk wr (w.heap.size + 1 + 1) tq cs
  bel : Below w.heap.size w wr
theorem To3.later {w wr w2 : World} {tb tq : TypeId} {bx rs cs : List Value} (h : To3 w wr tb tq bx rs cs) (hb : Below wr.heap.size wr w2) : To3 w w2 tb tq bx rs cs :=
  ⟨h.box.below hb h.box.lt, h.res.below hb h.res.lt, h.out.below hb h.out.lt, h.bel.trans (hb.mono h.bel.size)⟩
theorem To3.set {w wr : World} {tb tq : TypeId} {bx rs cs : List Value} (h : To3 w wr tb tq bx rs cs) (j : Nat) (u : Value) : To3 w (wr.setCell ⟨w.heap.size + 1 + 1, j, none⟩ u) tb tq bx rs (cs.set j u) :=
  ⟨h.box.far _ _ (by dsimp only; omega), h.res.far _ _ (by dsimp only; omega), h.out.set j u, h.bel.setCell (p := ⟨w.heap.size + 1 + 1, j, none⟩) (by dsimp only; omega) _⟩
theorem To3.size {w wr : World} {tb tq : TypeId} {bx rs cs : List Value} (h : To3 w wr tb tq bx rs cs) : w.heap.size + 1 + 1 + 1 ≤ wr.heap.size := h.out.lt
theorem own_farB (g : Nat) {w : World} {base n k : Nat} {e : TypeId} {v : Value} {xs : List Value} (h : w.ownsRow base e k v n xs) (hg : g < base) (j : Nat) (u : Value) : (w.setCell ⟨g, j, none⟩ u).ownsRow base e k v n xs := own_far h ⟨g, j, none⟩ u (fun q hq => by have := (h.lt q hq).1; dsimp only; omega)
/-- A member's three rows are its own, and apart. -/
structure OwnMb (w : World) (B : Nat) (m : Mb) (A : MA) : Prop where
  wo : w.ownsRow B 3 1 (.slice A.wa m.wa.length A.wc) m.wa.length (iz m.wa)
  io : w.ownsRow B 34 3 (.slice A.ia m.is.length A.ic) m.is.length (rowG imC m.is)
  lo : w.ownsRow B 3 1 (.slice A.la m.tk.lf.length A.lc) m.tk.lf.length (iz m.tk.lf)
  wi : ∀ g, (Value.slice A.wa m.wa.length A.wc).ownBlock = some g → (Value.slice A.ia m.is.length A.ic).ownBlock ≠ some g
  wl : ∀ g, (Value.slice A.wa m.wa.length A.wc).ownBlock = some g → (Value.slice A.la m.tk.lf.length A.lc).ownBlock ≠ some g
  il : ∀ g, (Value.slice A.ia m.is.length A.ic).ownBlock = some g → (Value.slice A.la m.tk.lf.length A.lc).ownBlock ≠ some g
theorem OwnMb.rd {w : World} {B : Nat} {m : Mb} {A : MA} (h : OwnMb w B m A) : RdMb w m A := ⟨rdZ_of_own h.wo, rdG_of_own encIm.1 h.io rfl, rdZ_of_own h.lo⟩
theorem OwnMb.later {w w' : World} {B : Nat} {m : Mb} {A : MA} (h : OwnMb w B m A) (hb : Below w.heap.size w w') : OwnMb w' B m A := ⟨own_kept h.wo hb, own_kept h.io hb, own_kept h.lo hb, h.wi, h.wl, h.il⟩
theorem OwnMb.base {w : World} {B B' : Nat} {m : Mb} {A : MA} (h : OwnMb w B m A) (hB : B' ≤ B) : OwnMb w B' m A := ⟨own_base h.wo hB, own_base h.io hB, own_base h.lo hB, h.wi, h.wl, h.il⟩
set_option maxRecDepth 100000 in
set_option maxHeartbeats 2000000 in
theorem toTask_any (t : Tk) (a : Option Addr) (ca : Nat) (w : World) (hl : t.lf.length ≤ 1048576) (hA : RdZ w a t.lf) :
    Calls Tryz.prog 29 #[.agg #[.int .i64 t.op, .int .i64 t.cl, .int .i64 t.nu, .string t.it.k, .string t.it.v, .int .i64 t.it.n, .slice a t.lf.length ca]] w fun r w' => (∃ b c, r = .returned (.agg #[.int .i64 t.op, .int .i64 t.cl, .int .i64 t.nu, .string t.it.k, .string t.it.v, .int .i64 t.it.n, .slice b t.lf.length c]) ∧ w'.ownsRow w.heap.size 3 1 (.slice b t.lf.length c) t.lf.length (iz t.lf)) ∧ Below w.heap.size w w' := by
  have F := hide1 (blkN3 w #[.int .i64 t.op, .int .i64 t.cl, .int .i64 t.nu, .string t.it.k, .string t.it.v, .int .i64 t.it.n, .slice a t.lf.length ca] #[.int .i64 0, .int .i64 0, .int .i64 0, .string ⟨#[]⟩, .string ⟨#[]⟩, .int .i64 0, .slice none 0 0] #[.int .i64 t.op, .int .i64 t.cl, .int .i64 t.nu, .string ⟨#[]⟩, .string ⟨#[]⟩, .int .i64 0, .slice none 0 0] 27 36 36)
  have C0 := hide1 (fun w' => toItem_any t.it w')
  have C1 := hide1 (fun w' (hb : Below w.heap.size w w') => toIntS_any a t.lf ca w' hl (hA.later hb))
  clear hA
  go_enter Tryz.func29, Tryz.ntmps29
  go_wp2_with fail
  generalize (((w.alloc (.cells #[.int .i64 t.op, .int .i64 t.cl, .int .i64 t.nu, .string t.it.k, .string t.it.v, .int .i64 t.it.n, .slice a t.lf.length ca] 27)).alloc (.cells #[.int .i64 0, .int .i64 0, .int .i64 0, .string ⟨#[]⟩, .string ⟨#[]⟩, .int .i64 0, .slice none 0 0] 36)).alloc (.cells #[.int .i64 t.op, .int .i64 t.cl, .int .i64 t.nu, .string ⟨#[]⟩, .string ⟨#[]⟩, .int .i64 0, .slice none 0 0] 36)) = w0 at F ⊢
  have T0 : Hid (To3 w w0 27 36 [.int .i64 t.op, .int .i64 t.cl, .int .i64 t.nu, .string t.it.k, .string t.it.v, .int .i64 t.it.n, .slice a t.lf.length ca] [.int .i64 0, .int .i64 0, .int .i64 0, .string ⟨#[]⟩, .string ⟨#[]⟩, .int .i64 0, .slice none 0 0] [.int .i64 t.op, .int .i64 t.cl, .int .i64 t.nu, .string ⟨#[]⟩, .string ⟨#[]⟩, .int .i64 0, .slice none 0 0]) := ⟨F.out.1, F.out.2.1, F.out.2.2.1, F.out.2.2.2⟩
  clear F
  refine (C0.out w0).mono ?_
  rintro r v0 ⟨rfl, hb0⟩
  have U0 := hide1 (T0.out.later hb0)
  have y3 : v0.cell? ⟨w.heap.size + 1 + 1, 3, none⟩ = some (.string ⟨#[]⟩) := U0.out.out.cell 3
  have y4 : v0.cell? ⟨w.heap.size + 1 + 1, 4, none⟩ = some (.string ⟨#[]⟩) := U0.out.out.cell 4
  have y5 : v0.cell? ⟨w.heap.size + 1 + 1, 5, none⟩ = some (.int .i64 0) := U0.out.out.cell 5
  have x6 : v0.cell? ⟨w.heap.size, 6, none⟩ = some (.slice a t.lf.length ca) := U0.out.box.cell 6
  have yf : ∀ j, v0.frozen? ⟨w.heap.size + 1 + 1, j, none⟩ = false := fun j => U0.out.out.froz j
  have T1 := hide1 (((U0.out.set 3 (.string t.it.k)).set 4 (.string t.it.v)).set 5 (.int .i64 t.it.n))
  clear hb0 C0 T0
  go_upto_region 6 with fail
  generalize (((v0.setCell ⟨w.heap.size + 1 + 1, 3, none⟩ (.string t.it.k)).setCell ⟨w.heap.size + 1 + 1, 4, none⟩ (.string t.it.v)).setCell ⟨w.heap.size + 1 + 1, 5, none⟩ (.int .i64 t.it.n)) = w1 at T1 ⊢
  clear yf U0 y3 y4 y5 x6
  dsimp only [List.set_cons_zero, List.set_cons_succ] at T1
  have x6 : w1.cell? ⟨w.heap.size, 6, none⟩ = some (.slice a t.lf.length ca) := T1.out.box.cell 6
  go_wp2_with fail
  refine (C1.out w1 T1.out.bel).mono ?_
  rintro r v1 ⟨b, c, rfl, ho1, hb1⟩
  have U1 := hide1 (T1.out.later hb1)
  have s1 := T1.out.size
  have O1 := hide1 (own_base ho1 T1.out.size)
  have s2 : w1.heap.size ≤ v1.heap.size := hb1.size
  have y0 : v1.cell? ⟨w.heap.size + 1 + 1, 0, none⟩ = some (.int .i64 t.op) := U1.out.out.cell 0
  have y1 : v1.cell? ⟨w.heap.size + 1 + 1, 1, none⟩ = some (.int .i64 t.cl) := U1.out.out.cell 1
  have y2 : v1.cell? ⟨w.heap.size + 1 + 1, 2, none⟩ = some (.int .i64 t.nu) := U1.out.out.cell 2
  have y3 : v1.cell? ⟨w.heap.size + 1 + 1, 3, none⟩ = some (.string t.it.k) := U1.out.out.cell 3
  have y4 : v1.cell? ⟨w.heap.size + 1 + 1, 4, none⟩ = some (.string t.it.v) := U1.out.out.cell 4
  have y5 : v1.cell? ⟨w.heap.size + 1 + 1, 5, none⟩ = some (.int .i64 t.it.n) := U1.out.out.cell 5
  have y6 : v1.cell? ⟨w.heap.size + 1 + 1, 6, none⟩ = some (.slice none 0 0) := U1.out.out.cell 6
  have z0 : v1.cell? ⟨w.heap.size + 1, 0, none⟩ = some (.int .i64 0) := U1.out.res.cell 0
  have z1 : v1.cell? ⟨w.heap.size + 1, 1, none⟩ = some (.int .i64 0) := U1.out.res.cell 1
  have z2 : v1.cell? ⟨w.heap.size + 1, 2, none⟩ = some (.int .i64 0) := U1.out.res.cell 2
  have z3 : v1.cell? ⟨w.heap.size + 1, 3, none⟩ = some (.string ⟨#[]⟩) := U1.out.res.cell 3
  have z4 : v1.cell? ⟨w.heap.size + 1, 4, none⟩ = some (.string ⟨#[]⟩) := U1.out.res.cell 4
  have z5 : v1.cell? ⟨w.heap.size + 1, 5, none⟩ = some (.int .i64 0) := U1.out.res.cell 5
  have z6 : v1.cell? ⟨w.heap.size + 1, 6, none⟩ = some (.slice none 0 0) := U1.out.res.cell 6
  have yf : ∀ j, v1.frozen? ⟨w.heap.size + 1 + 1, j, none⟩ = false := fun j => U1.out.out.froz j
  have zf : ∀ j, v1.frozen? ⟨w.heap.size + 1, j, none⟩ = false := fun j => U1.out.res.froz j
  have T2 := hide1 (U1.out.set 6 (.slice b t.lf.length c))
  have O2 := hide1 (own_farB (w.heap.size + 1 + 1) O1.out (by omega) 6 (.slice b t.lf.length c))
  clear hb1 C1 T1 ho1 x6 O1 U1
  go_wp2
  refine bodyPost_ret (results_cell_row Tryz.results29 _ _ (w.heap.size + 1) 36 #[.int .i64 t.op, .int .i64 t.cl, .int .i64 t.nu, .string t.it.k, .string t.it.v, .int .i64 t.it.n, .slice b t.lf.length c] (0, 0) _ rfl (Blk.set (Blk.set (Blk.set (Blk.set (Blk.set (Blk.set (Blk.set T2.out.res 0 _) 1 _) 2 _) 3 _) 4 _) 5 _) 6 _) Tryz.underlying36 rfl (by kernel_rfl)) rfl ?_
  exact ⟨⟨b, c, rfl, own_base (own_farB (w.heap.size + 1) (own_farB (w.heap.size + 1) (own_farB (w.heap.size + 1) (own_farB (w.heap.size + 1) (own_farB (w.heap.size + 1) (own_farB (w.heap.size + 1) (own_farB (w.heap.size + 1) O2.out (by omega) 0 (.int .i64 t.op)) (by omega) 1 (.int .i64 t.cl)) (by omega) 2 (.int .i64 t.nu)) (by omega) 3 (.string t.it.k)) (by omega) 4 (.string t.it.v)) (by omega) 5 (.int .i64 t.it.n)) (by omega) 6 (.slice b t.lf.length c)) (by omega)⟩, (((((((T2.out.bel.setCell (p := ⟨w.heap.size + 1, 0, none⟩) (by dsimp only; omega) _).setCell (p := ⟨w.heap.size + 1, 1, none⟩) (by dsimp only; omega) _).setCell (p := ⟨w.heap.size + 1, 2, none⟩) (by dsimp only; omega) _).setCell (p := ⟨w.heap.size + 1, 3, none⟩) (by dsimp only; omega) _).setCell (p := ⟨w.heap.size + 1, 4, none⟩) (by dsimp only; omega) _).setCell (p := ⟨w.heap.size + 1, 5, none⟩) (by dsimp only; omega) _).setCell (p := ⟨w.heap.size + 1, 6, none⟩) (by dsimp only; omega) _)⟩
set_option maxRecDepth 100000 in
set_option maxHeartbeats 4000000 in
theorem toMember_any (m : Mb) (A : MA) (w : World) (hl : SzMb m) (hA : RdMb w m A) :
    Calls Tryz.prog 7 #[.agg #[.int .i64 m.id, .int .i64 m.ep, .bool m.fe, .bool m.ba, .bool m.le, .bool m.se, .slice A.wa m.wa.length A.wc, .slice A.ia m.is.length A.ic, .int .i64 m.cn, .int .i64 m.tk.op, .int .i64 m.tk.cl, .int .i64 m.tk.nu, .string m.tk.it.k, .string m.tk.it.v, .int .i64 m.tk.it.n, .slice A.la m.tk.lf.length A.lc]] w fun r w' => ∃ B : MA, r = .returned (mbV m B) ∧ OwnMb w' w.heap.size m B ∧ Below w.heap.size w w' := by
  have F := hide1 (blkN3 w #[.int .i64 m.id, .int .i64 m.ep, .bool m.fe, .bool m.ba, .bool m.le, .bool m.se, .slice A.wa m.wa.length A.wc, .slice A.ia m.is.length A.ic, .int .i64 m.cn, .int .i64 m.tk.op, .int .i64 m.tk.cl, .int .i64 m.tk.nu, .string m.tk.it.k, .string m.tk.it.v, .int .i64 m.tk.it.n, .slice A.la m.tk.lf.length A.lc] #[.int .i64 0, .int .i64 0, .bool false, .bool false, .bool false, .bool false, .slice none 0 0, .slice none 0 0, .int .i64 0, .int .i64 0, .int .i64 0, .int .i64 0, .string ⟨#[]⟩, .string ⟨#[]⟩, .int .i64 0, .slice none 0 0] #[.int .i64 m.id, .int .i64 m.ep, .bool m.fe, .bool m.ba, .bool m.le, .bool m.se, .slice none 0 0, .slice none 0 0, .int .i64 0, .int .i64 0, .int .i64 0, .int .i64 0, .string ⟨#[]⟩, .string ⟨#[]⟩, .int .i64 0, .slice none 0 0] 29 38 38)
  have C0 := hide1 (fun w' (hb : Below w.heap.size w w') => toIntS_any A.wa m.wa A.wc w' hl.wl (hA.wr.later hb))
  have C1 := hide1 (fun w' (hb : Below w.heap.size w w') => toItemS_any A.ia m.is A.ic w' hl.il (hA.ir.later hb))
  have C2 := hide1 (fun w' (hb : Below w.heap.size w w') => toTask_any m.tk A.la A.lc w' hl.ll (hA.lr.later hb))
  clear hA hl
  go_enter Tryz.func7, Tryz.ntmps7
  go_wp2_with fail
  generalize (((w.alloc (.cells #[.int .i64 m.id, .int .i64 m.ep, .bool m.fe, .bool m.ba, .bool m.le, .bool m.se, .slice A.wa m.wa.length A.wc, .slice A.ia m.is.length A.ic, .int .i64 m.cn, .int .i64 m.tk.op, .int .i64 m.tk.cl, .int .i64 m.tk.nu, .string m.tk.it.k, .string m.tk.it.v, .int .i64 m.tk.it.n, .slice A.la m.tk.lf.length A.lc] 29)).alloc (.cells #[.int .i64 0, .int .i64 0, .bool false, .bool false, .bool false, .bool false, .slice none 0 0, .slice none 0 0, .int .i64 0, .int .i64 0, .int .i64 0, .int .i64 0, .string ⟨#[]⟩, .string ⟨#[]⟩, .int .i64 0, .slice none 0 0] 38)).alloc (.cells #[.int .i64 m.id, .int .i64 m.ep, .bool m.fe, .bool m.ba, .bool m.le, .bool m.se, .slice none 0 0, .slice none 0 0, .int .i64 0, .int .i64 0, .int .i64 0, .int .i64 0, .string ⟨#[]⟩, .string ⟨#[]⟩, .int .i64 0, .slice none 0 0] 38)) = w0 at F ⊢
  have T0 : Hid (To3 w w0 29 38 [.int .i64 m.id, .int .i64 m.ep, .bool m.fe, .bool m.ba, .bool m.le, .bool m.se, .slice A.wa m.wa.length A.wc, .slice A.ia m.is.length A.ic, .int .i64 m.cn, .int .i64 m.tk.op, .int .i64 m.tk.cl, .int .i64 m.tk.nu, .string m.tk.it.k, .string m.tk.it.v, .int .i64 m.tk.it.n, .slice A.la m.tk.lf.length A.lc] [.int .i64 0, .int .i64 0, .bool false, .bool false, .bool false, .bool false, .slice none 0 0, .slice none 0 0, .int .i64 0, .int .i64 0, .int .i64 0, .int .i64 0, .string ⟨#[]⟩, .string ⟨#[]⟩, .int .i64 0, .slice none 0 0] [.int .i64 m.id, .int .i64 m.ep, .bool m.fe, .bool m.ba, .bool m.le, .bool m.se, .slice none 0 0, .slice none 0 0, .int .i64 0, .int .i64 0, .int .i64 0, .int .i64 0, .string ⟨#[]⟩, .string ⟨#[]⟩, .int .i64 0, .slice none 0 0]) := ⟨F.out.1, F.out.2.1, F.out.2.2.1, F.out.2.2.2⟩
  clear F
  refine (C0.out w0 T0.out.bel).mono ?_
  rintro r v0 ⟨b0, c0, rfl, ho0, hb0⟩
  have U0 := hide1 (T0.out.later hb0)
  have sA := T0.out.size
  have s0 : w0.heap.size ≤ v0.heap.size := hb0.size
  have L0 := hide1 (fun g hg => World.ownsRow.lt ho0 g hg)
  have O0 := hide1 (own_base ho0 T0.out.size)
  have y6 : v0.cell? ⟨w.heap.size + 1 + 1, 6, none⟩ = some (.slice none 0 0) := U0.out.out.cell 6
  have yf : ∀ j, v0.frozen? ⟨w.heap.size + 1 + 1, j, none⟩ = false := fun j => U0.out.out.froz j
  have T1 := hide1 (U0.out.set 6 (.slice b0 m.wa.length c0))
  have P0 := hide1 (own_farB (w.heap.size + 1 + 1) O0.out (by omega) 6 (.slice b0 m.wa.length c0))
  have z0 : v0.heap.size = (v0.setCell ⟨w.heap.size + 1 + 1, 6, none⟩ (.slice b0 m.wa.length c0)).heap.size := by simp
  clear hb0 C0 T0 ho0 O0
  go_upto_region 9 with fail
  generalize (v0.setCell ⟨w.heap.size + 1 + 1, 6, none⟩ (.slice b0 m.wa.length c0)) = w1 at T1 P0 z0 ⊢
  clear yf U0 y6
  dsimp only [List.set_cons_zero, List.set_cons_succ] at T1
  have x7 : w1.cell? ⟨w.heap.size, 7, none⟩ = some (.slice A.ia m.is.length A.ic) := T1.out.box.cell 7
  go_wp2_with fail
  refine (C1.out w1 T1.out.bel).mono ?_
  rintro r v1 ⟨b1, c1, rfl, ho1, hb1⟩
  have U1 := hide1 (T1.out.later hb1)
  have s1 : w1.heap.size ≤ v1.heap.size := hb1.size
  have L1 := hide1 (fun g hg => World.ownsRow.lt ho1 g hg)
  have O0 := hide1 (own_kept P0.out hb1)
  have O1 := hide1 (own_base ho1 T1.out.size)
  have y7 : v1.cell? ⟨w.heap.size + 1 + 1, 7, none⟩ = some (.slice none 0 0) := U1.out.out.cell 7
  have y8 : v1.cell? ⟨w.heap.size + 1 + 1, 8, none⟩ = some (.int .i64 0) := U1.out.out.cell 8
  have xx8 : v1.cell? ⟨w.heap.size, 8, none⟩ = some (.int .i64 m.cn) := U1.out.box.cell 8
  have yf : ∀ j, v1.frozen? ⟨w.heap.size + 1 + 1, j, none⟩ = false := fun j => U1.out.out.froz j
  have T2 := hide1 ((U1.out.set 7 (.slice b1 m.is.length c1)).set 8 (.int .i64 m.cn))
  have P0 := hide1 (own_farB (w.heap.size + 1 + 1) (own_farB (w.heap.size + 1 + 1) O0.out (by omega) 7 (.slice b1 m.is.length c1)) (by omega) 8 (.int .i64 m.cn))
  have P1 := hide1 (own_farB (w.heap.size + 1 + 1) (own_farB (w.heap.size + 1 + 1) O1.out (by omega) 7 (.slice b1 m.is.length c1)) (by omega) 8 (.int .i64 m.cn))
  have z1 : v1.heap.size = ((v1.setCell ⟨w.heap.size + 1 + 1, 7, none⟩ (.slice b1 m.is.length c1)).setCell ⟨w.heap.size + 1 + 1, 8, none⟩ (.int .i64 m.cn)).heap.size := by simp
  clear hb1 C1 T1 ho1 O0 O1 x7
  go_upto_region 11 with fail
  generalize ((v1.setCell ⟨w.heap.size + 1 + 1, 7, none⟩ (.slice b1 m.is.length c1)).setCell ⟨w.heap.size + 1 + 1, 8, none⟩ (.int .i64 m.cn)) = w2 at T2 P0 P1 z1 ⊢
  clear yf U1 y7 y8 xx8
  dsimp only [List.set_cons_zero, List.set_cons_succ] at T2
  have x9 : w2.cell? ⟨w.heap.size, 9, none⟩ = some (.int .i64 m.tk.op) := T2.out.box.cell 9
  have x10 : w2.cell? ⟨w.heap.size, 10, none⟩ = some (.int .i64 m.tk.cl) := T2.out.box.cell 10
  have x11 : w2.cell? ⟨w.heap.size, 11, none⟩ = some (.int .i64 m.tk.nu) := T2.out.box.cell 11
  have x12 : w2.cell? ⟨w.heap.size, 12, none⟩ = some (.string m.tk.it.k) := T2.out.box.cell 12
  have x13 : w2.cell? ⟨w.heap.size, 13, none⟩ = some (.string m.tk.it.v) := T2.out.box.cell 13
  have x14 : w2.cell? ⟨w.heap.size, 14, none⟩ = some (.int .i64 m.tk.it.n) := T2.out.box.cell 14
  have x15 : w2.cell? ⟨w.heap.size, 15, none⟩ = some (.slice A.la m.tk.lf.length A.lc) := T2.out.box.cell 15
  go_wp2_with fail
  refine (C2.out w2 T2.out.bel).mono ?_
  rintro r v2 ⟨⟨b2, c2, rfl, ho2⟩, hb2⟩
  have U2 := hide1 (T2.out.later hb2)
  have s2 : w2.heap.size ≤ v2.heap.size := hb2.size
  have L2 := hide1 (fun g hg => World.ownsRow.lt ho2 g hg)
  have O0 := hide1 (own_kept P0.out hb2)
  have O1 := hide1 (own_kept P1.out hb2)
  have O2 := hide1 (own_base ho2 T2.out.size)
  have y9 : v2.cell? ⟨w.heap.size + 1 + 1, 9, none⟩ = some (.int .i64 0) := U2.out.out.cell 9
  have y10 : v2.cell? ⟨w.heap.size + 1 + 1, 10, none⟩ = some (.int .i64 0) := U2.out.out.cell 10
  have y11 : v2.cell? ⟨w.heap.size + 1 + 1, 11, none⟩ = some (.int .i64 0) := U2.out.out.cell 11
  have y12 : v2.cell? ⟨w.heap.size + 1 + 1, 12, none⟩ = some (.string ⟨#[]⟩) := U2.out.out.cell 12
  have y13 : v2.cell? ⟨w.heap.size + 1 + 1, 13, none⟩ = some (.string ⟨#[]⟩) := U2.out.out.cell 13
  have y14 : v2.cell? ⟨w.heap.size + 1 + 1, 14, none⟩ = some (.int .i64 0) := U2.out.out.cell 14
  have y15 : v2.cell? ⟨w.heap.size + 1 + 1, 15, none⟩ = some (.slice none 0 0) := U2.out.out.cell 15
  have yf : ∀ j, v2.frozen? ⟨w.heap.size + 1 + 1, j, none⟩ = false := fun j => U2.out.out.froz j
  have T3 := hide1 (((((((U2.out.set 9 (.int .i64 m.tk.op)).set 10 (.int .i64 m.tk.cl)).set 11 (.int .i64 m.tk.nu)).set 12 (.string m.tk.it.k)).set 13 (.string m.tk.it.v)).set 14 (.int .i64 m.tk.it.n)).set 15 (.slice b2 m.tk.lf.length c2))
  have P0 := hide1 (own_farB (w.heap.size + 1 + 1) (own_farB (w.heap.size + 1 + 1) (own_farB (w.heap.size + 1 + 1) (own_farB (w.heap.size + 1 + 1) (own_farB (w.heap.size + 1 + 1) (own_farB (w.heap.size + 1 + 1) (own_farB (w.heap.size + 1 + 1) O0.out (by omega) 9 (.int .i64 m.tk.op)) (by omega) 10 (.int .i64 m.tk.cl)) (by omega) 11 (.int .i64 m.tk.nu)) (by omega) 12 (.string m.tk.it.k)) (by omega) 13 (.string m.tk.it.v)) (by omega) 14 (.int .i64 m.tk.it.n)) (by omega) 15 (.slice b2 m.tk.lf.length c2))
  have P1 := hide1 (own_farB (w.heap.size + 1 + 1) (own_farB (w.heap.size + 1 + 1) (own_farB (w.heap.size + 1 + 1) (own_farB (w.heap.size + 1 + 1) (own_farB (w.heap.size + 1 + 1) (own_farB (w.heap.size + 1 + 1) (own_farB (w.heap.size + 1 + 1) O1.out (by omega) 9 (.int .i64 m.tk.op)) (by omega) 10 (.int .i64 m.tk.cl)) (by omega) 11 (.int .i64 m.tk.nu)) (by omega) 12 (.string m.tk.it.k)) (by omega) 13 (.string m.tk.it.v)) (by omega) 14 (.int .i64 m.tk.it.n)) (by omega) 15 (.slice b2 m.tk.lf.length c2))
  have P2 := hide1 (own_farB (w.heap.size + 1 + 1) (own_farB (w.heap.size + 1 + 1) (own_farB (w.heap.size + 1 + 1) (own_farB (w.heap.size + 1 + 1) (own_farB (w.heap.size + 1 + 1) (own_farB (w.heap.size + 1 + 1) (own_farB (w.heap.size + 1 + 1) O2.out (by omega) 9 (.int .i64 m.tk.op)) (by omega) 10 (.int .i64 m.tk.cl)) (by omega) 11 (.int .i64 m.tk.nu)) (by omega) 12 (.string m.tk.it.k)) (by omega) 13 (.string m.tk.it.v)) (by omega) 14 (.int .i64 m.tk.it.n)) (by omega) 15 (.slice b2 m.tk.lf.length c2))
  have z2 : v2.heap.size = (((((((v2.setCell ⟨w.heap.size + 1 + 1, 9, none⟩ (.int .i64 m.tk.op)).setCell ⟨w.heap.size + 1 + 1, 10, none⟩ (.int .i64 m.tk.cl)).setCell ⟨w.heap.size + 1 + 1, 11, none⟩ (.int .i64 m.tk.nu)).setCell ⟨w.heap.size + 1 + 1, 12, none⟩ (.string m.tk.it.k)).setCell ⟨w.heap.size + 1 + 1, 13, none⟩ (.string m.tk.it.v)).setCell ⟨w.heap.size + 1 + 1, 14, none⟩ (.int .i64 m.tk.it.n)).setCell ⟨w.heap.size + 1 + 1, 15, none⟩ (.slice b2 m.tk.lf.length c2)).heap.size := by simp
  clear hb2 C2 T2 ho2 O0 O1 O2 x9 x10 x11 x12 x13 x14 x15
  go_upto_region 12 with fail
  generalize (((((((v2.setCell ⟨w.heap.size + 1 + 1, 9, none⟩ (.int .i64 m.tk.op)).setCell ⟨w.heap.size + 1 + 1, 10, none⟩ (.int .i64 m.tk.cl)).setCell ⟨w.heap.size + 1 + 1, 11, none⟩ (.int .i64 m.tk.nu)).setCell ⟨w.heap.size + 1 + 1, 12, none⟩ (.string m.tk.it.k)).setCell ⟨w.heap.size + 1 + 1, 13, none⟩ (.string m.tk.it.v)).setCell ⟨w.heap.size + 1 + 1, 14, none⟩ (.int .i64 m.tk.it.n)).setCell ⟨w.heap.size + 1 + 1, 15, none⟩ (.slice b2 m.tk.lf.length c2)) = w3 at T3 P0 P1 P2 z2 ⊢
  clear yf U2 y9 y10 y11 y12 y13 y14 y15
  dsimp only [List.set_cons_zero, List.set_cons_succ] at T3
  have y0 : w3.cell? ⟨w.heap.size + 1 + 1, 0, none⟩ = some (.int .i64 m.id) := T3.out.out.cell 0
  have y1 : w3.cell? ⟨w.heap.size + 1 + 1, 1, none⟩ = some (.int .i64 m.ep) := T3.out.out.cell 1
  have y2 : w3.cell? ⟨w.heap.size + 1 + 1, 2, none⟩ = some (.bool m.fe) := T3.out.out.cell 2
  have y3 : w3.cell? ⟨w.heap.size + 1 + 1, 3, none⟩ = some (.bool m.ba) := T3.out.out.cell 3
  have y4 : w3.cell? ⟨w.heap.size + 1 + 1, 4, none⟩ = some (.bool m.le) := T3.out.out.cell 4
  have y5 : w3.cell? ⟨w.heap.size + 1 + 1, 5, none⟩ = some (.bool m.se) := T3.out.out.cell 5
  have y6 : w3.cell? ⟨w.heap.size + 1 + 1, 6, none⟩ = some (.slice b0 m.wa.length c0) := T3.out.out.cell 6
  have y7 : w3.cell? ⟨w.heap.size + 1 + 1, 7, none⟩ = some (.slice b1 m.is.length c1) := T3.out.out.cell 7
  have y8 : w3.cell? ⟨w.heap.size + 1 + 1, 8, none⟩ = some (.int .i64 m.cn) := T3.out.out.cell 8
  have y9 : w3.cell? ⟨w.heap.size + 1 + 1, 9, none⟩ = some (.int .i64 m.tk.op) := T3.out.out.cell 9
  have y10 : w3.cell? ⟨w.heap.size + 1 + 1, 10, none⟩ = some (.int .i64 m.tk.cl) := T3.out.out.cell 10
  have y11 : w3.cell? ⟨w.heap.size + 1 + 1, 11, none⟩ = some (.int .i64 m.tk.nu) := T3.out.out.cell 11
  have y12 : w3.cell? ⟨w.heap.size + 1 + 1, 12, none⟩ = some (.string m.tk.it.k) := T3.out.out.cell 12
  have y13 : w3.cell? ⟨w.heap.size + 1 + 1, 13, none⟩ = some (.string m.tk.it.v) := T3.out.out.cell 13
  have y14 : w3.cell? ⟨w.heap.size + 1 + 1, 14, none⟩ = some (.int .i64 m.tk.it.n) := T3.out.out.cell 14
  have y15 : w3.cell? ⟨w.heap.size + 1 + 1, 15, none⟩ = some (.slice b2 m.tk.lf.length c2) := T3.out.out.cell 15
  have z0 : w3.cell? ⟨w.heap.size + 1, 0, none⟩ = some (.int .i64 0) := T3.out.res.cell 0
  have z1 : w3.cell? ⟨w.heap.size + 1, 1, none⟩ = some (.int .i64 0) := T3.out.res.cell 1
  have z2 : w3.cell? ⟨w.heap.size + 1, 2, none⟩ = some (.bool false) := T3.out.res.cell 2
  have z3 : w3.cell? ⟨w.heap.size + 1, 3, none⟩ = some (.bool false) := T3.out.res.cell 3
  have z4 : w3.cell? ⟨w.heap.size + 1, 4, none⟩ = some (.bool false) := T3.out.res.cell 4
  have z5 : w3.cell? ⟨w.heap.size + 1, 5, none⟩ = some (.bool false) := T3.out.res.cell 5
  have z6 : w3.cell? ⟨w.heap.size + 1, 6, none⟩ = some (.slice none 0 0) := T3.out.res.cell 6
  have z7 : w3.cell? ⟨w.heap.size + 1, 7, none⟩ = some (.slice none 0 0) := T3.out.res.cell 7
  have z8 : w3.cell? ⟨w.heap.size + 1, 8, none⟩ = some (.int .i64 0) := T3.out.res.cell 8
  have z9 : w3.cell? ⟨w.heap.size + 1, 9, none⟩ = some (.int .i64 0) := T3.out.res.cell 9
  have z10 : w3.cell? ⟨w.heap.size + 1, 10, none⟩ = some (.int .i64 0) := T3.out.res.cell 10
  have z11 : w3.cell? ⟨w.heap.size + 1, 11, none⟩ = some (.int .i64 0) := T3.out.res.cell 11
  have z12 : w3.cell? ⟨w.heap.size + 1, 12, none⟩ = some (.string ⟨#[]⟩) := T3.out.res.cell 12
  have z13 : w3.cell? ⟨w.heap.size + 1, 13, none⟩ = some (.string ⟨#[]⟩) := T3.out.res.cell 13
  have z14 : w3.cell? ⟨w.heap.size + 1, 14, none⟩ = some (.int .i64 0) := T3.out.res.cell 14
  have z15 : w3.cell? ⟨w.heap.size + 1, 15, none⟩ = some (.slice none 0 0) := T3.out.res.cell 15
  have zf : ∀ j, w3.frozen? ⟨w.heap.size + 1, j, none⟩ = false := fun j => T3.out.res.froz j
  have HH := hide1 (Blk.set (Blk.set (Blk.set (Blk.set (Blk.set (Blk.set (Blk.set (Blk.set (Blk.set (Blk.set (Blk.set (Blk.set (Blk.set (Blk.set (Blk.set (Blk.set T3.out.res 0 (.int .i64 m.id)) 1 (.int .i64 m.ep)) 2 (.bool m.fe)) 3 (.bool m.ba)) 4 (.bool m.le)) 5 (.bool m.se)) 6 (.slice b0 m.wa.length c0)) 7 (.slice b1 m.is.length c1)) 8 (.int .i64 m.cn)) 9 (.int .i64 m.tk.op)) 10 (.int .i64 m.tk.cl)) 11 (.int .i64 m.tk.nu)) 12 (.string m.tk.it.k)) 13 (.string m.tk.it.v)) 14 (.int .i64 m.tk.it.n)) 15 (.slice b2 m.tk.lf.length c2))
  dsimp only [List.set_cons_zero, List.set_cons_succ] at HH
  have HB := hide1 ((((((((((((((((T3.out.bel.setCell (p := ⟨w.heap.size + 1, 0, none⟩) (by dsimp only; omega) (.int .i64 m.id)).setCell (p := ⟨w.heap.size + 1, 1, none⟩) (by dsimp only; omega) (.int .i64 m.ep)).setCell (p := ⟨w.heap.size + 1, 2, none⟩) (by dsimp only; omega) (.bool m.fe)).setCell (p := ⟨w.heap.size + 1, 3, none⟩) (by dsimp only; omega) (.bool m.ba)).setCell (p := ⟨w.heap.size + 1, 4, none⟩) (by dsimp only; omega) (.bool m.le)).setCell (p := ⟨w.heap.size + 1, 5, none⟩) (by dsimp only; omega) (.bool m.se)).setCell (p := ⟨w.heap.size + 1, 6, none⟩) (by dsimp only; omega) (.slice b0 m.wa.length c0)).setCell (p := ⟨w.heap.size + 1, 7, none⟩) (by dsimp only; omega) (.slice b1 m.is.length c1)).setCell (p := ⟨w.heap.size + 1, 8, none⟩) (by dsimp only; omega) (.int .i64 m.cn)).setCell (p := ⟨w.heap.size + 1, 9, none⟩) (by dsimp only; omega) (.int .i64 m.tk.op)).setCell (p := ⟨w.heap.size + 1, 10, none⟩) (by dsimp only; omega) (.int .i64 m.tk.cl)).setCell (p := ⟨w.heap.size + 1, 11, none⟩) (by dsimp only; omega) (.int .i64 m.tk.nu)).setCell (p := ⟨w.heap.size + 1, 12, none⟩) (by dsimp only; omega) (.string m.tk.it.k)).setCell (p := ⟨w.heap.size + 1, 13, none⟩) (by dsimp only; omega) (.string m.tk.it.v)).setCell (p := ⟨w.heap.size + 1, 14, none⟩) (by dsimp only; omega) (.int .i64 m.tk.it.n)).setCell (p := ⟨w.heap.size + 1, 15, none⟩) (by dsimp only; omega) (.slice b2 m.tk.lf.length c2))
  have Q0 := hide1 (own_base (own_farB (w.heap.size + 1) (own_farB (w.heap.size + 1) (own_farB (w.heap.size + 1) (own_farB (w.heap.size + 1) (own_farB (w.heap.size + 1) (own_farB (w.heap.size + 1) (own_farB (w.heap.size + 1) (own_farB (w.heap.size + 1) (own_farB (w.heap.size + 1) (own_farB (w.heap.size + 1) (own_farB (w.heap.size + 1) (own_farB (w.heap.size + 1) (own_farB (w.heap.size + 1) (own_farB (w.heap.size + 1) (own_farB (w.heap.size + 1) (own_farB (w.heap.size + 1) P0.out (by omega) 0 (.int .i64 m.id)) (by omega) 1 (.int .i64 m.ep)) (by omega) 2 (.bool m.fe)) (by omega) 3 (.bool m.ba)) (by omega) 4 (.bool m.le)) (by omega) 5 (.bool m.se)) (by omega) 6 (.slice b0 m.wa.length c0)) (by omega) 7 (.slice b1 m.is.length c1)) (by omega) 8 (.int .i64 m.cn)) (by omega) 9 (.int .i64 m.tk.op)) (by omega) 10 (.int .i64 m.tk.cl)) (by omega) 11 (.int .i64 m.tk.nu)) (by omega) 12 (.string m.tk.it.k)) (by omega) 13 (.string m.tk.it.v)) (by omega) 14 (.int .i64 m.tk.it.n)) (by omega) 15 (.slice b2 m.tk.lf.length c2)) (show w.heap.size ≤ w.heap.size + 1 + 1 + 1 by omega))
  have Q1 := hide1 (own_base (own_farB (w.heap.size + 1) (own_farB (w.heap.size + 1) (own_farB (w.heap.size + 1) (own_farB (w.heap.size + 1) (own_farB (w.heap.size + 1) (own_farB (w.heap.size + 1) (own_farB (w.heap.size + 1) (own_farB (w.heap.size + 1) (own_farB (w.heap.size + 1) (own_farB (w.heap.size + 1) (own_farB (w.heap.size + 1) (own_farB (w.heap.size + 1) (own_farB (w.heap.size + 1) (own_farB (w.heap.size + 1) (own_farB (w.heap.size + 1) (own_farB (w.heap.size + 1) P1.out (by omega) 0 (.int .i64 m.id)) (by omega) 1 (.int .i64 m.ep)) (by omega) 2 (.bool m.fe)) (by omega) 3 (.bool m.ba)) (by omega) 4 (.bool m.le)) (by omega) 5 (.bool m.se)) (by omega) 6 (.slice b0 m.wa.length c0)) (by omega) 7 (.slice b1 m.is.length c1)) (by omega) 8 (.int .i64 m.cn)) (by omega) 9 (.int .i64 m.tk.op)) (by omega) 10 (.int .i64 m.tk.cl)) (by omega) 11 (.int .i64 m.tk.nu)) (by omega) 12 (.string m.tk.it.k)) (by omega) 13 (.string m.tk.it.v)) (by omega) 14 (.int .i64 m.tk.it.n)) (by omega) 15 (.slice b2 m.tk.lf.length c2)) (show w.heap.size ≤ w.heap.size + 1 + 1 + 1 by omega))
  have Q2 := hide1 (own_base (own_farB (w.heap.size + 1) (own_farB (w.heap.size + 1) (own_farB (w.heap.size + 1) (own_farB (w.heap.size + 1) (own_farB (w.heap.size + 1) (own_farB (w.heap.size + 1) (own_farB (w.heap.size + 1) (own_farB (w.heap.size + 1) (own_farB (w.heap.size + 1) (own_farB (w.heap.size + 1) (own_farB (w.heap.size + 1) (own_farB (w.heap.size + 1) (own_farB (w.heap.size + 1) (own_farB (w.heap.size + 1) (own_farB (w.heap.size + 1) (own_farB (w.heap.size + 1) P2.out (by omega) 0 (.int .i64 m.id)) (by omega) 1 (.int .i64 m.ep)) (by omega) 2 (.bool m.fe)) (by omega) 3 (.bool m.ba)) (by omega) 4 (.bool m.le)) (by omega) 5 (.bool m.se)) (by omega) 6 (.slice b0 m.wa.length c0)) (by omega) 7 (.slice b1 m.is.length c1)) (by omega) 8 (.int .i64 m.cn)) (by omega) 9 (.int .i64 m.tk.op)) (by omega) 10 (.int .i64 m.tk.cl)) (by omega) 11 (.int .i64 m.tk.nu)) (by omega) 12 (.string m.tk.it.k)) (by omega) 13 (.string m.tk.it.v)) (by omega) 14 (.int .i64 m.tk.it.n)) (by omega) 15 (.slice b2 m.tk.lf.length c2)) (show w.heap.size ≤ w.heap.size + 1 + 1 + 1 by omega))
  clear T3 P0 P1 P2
  go_wp2
  refine bodyPost_ret (results_cell_row Tryz.results7 _ _ (w.heap.size + 1) 38 #[.int .i64 m.id, .int .i64 m.ep, .bool m.fe, .bool m.ba, .bool m.le, .bool m.se, .slice b0 m.wa.length c0, .slice b1 m.is.length c1, .int .i64 m.cn, .int .i64 m.tk.op, .int .i64 m.tk.cl, .int .i64 m.tk.nu, .string m.tk.it.k, .string m.tk.it.v, .int .i64 m.tk.it.n, .slice b2 m.tk.lf.length c2] (0, 0) _ rfl HH.out Tryz.underlying38 rfl (by kernel_rfl)) rfl ?_
  refine ⟨⟨b0, c0, b1, c1, b2, c2⟩, rfl, ⟨Q0.out, Q1.out, Q2.out, fun g hg e => ?_, fun g hg e => ?_, fun g hg e => ?_⟩, HB.out⟩
  · have := L0.out g hg; have := L1.out g e; omega
  · have := L0.out g hg; have := L2.out g e; omega
  · have := L1.out g hg; have := L2.out g e; omega
set_option maxRecDepth 100000 in
set_option maxHeartbeats 2000000 in
theorem eqTask_same (t : Tk) (a b : Option Addr) (ca cb : Nat) (w : World) (hl : t.lf.length ≤ 1048576) (hA : RdZ w a t.lf) (hB : RdZ w b t.lf) :
    Calls Tryz.prog 36 #[.agg #[.int .i64 t.op, .int .i64 t.cl, .int .i64 t.nu, .string t.it.k, .string t.it.v, .int .i64 t.it.n, .slice a t.lf.length ca], .agg #[.int .i64 t.op, .int .i64 t.cl, .int .i64 t.nu, .string t.it.k, .string t.it.v, .int .i64 t.it.n, .slice b t.lf.length cb]] w fun r w' => r = .returned (.bool true) ∧ Below w.heap.size w w' := by
  have F0 := hide1 (blkN2 w #[.int .i64 t.op, .int .i64 t.cl, .int .i64 t.nu, .string t.it.k, .string t.it.v, .int .i64 t.it.n, .slice a t.lf.length ca] #[.int .i64 t.op, .int .i64 t.cl, .int .i64 t.nu, .string t.it.k, .string t.it.v, .int .i64 t.it.n, .slice b t.lf.length cb] 36 36)
  have C0 := hide1 (fun w' => eqItem_same t.it w')
  have C1 := hide1 (fun w' (h : Below w.heap.size w w') => eqIntS_own a b t.lf ca cb w' hl (hA.later h) (hB.later h))
  clear hA hB
  have q0 : (t.op != t.op) = false := by simp
  have q1 : (t.cl != t.cl) = false := by simp
  have q2 : (t.nu != t.nu) = false := by simp
  go_enter Tryz.func36, Tryz.ntmps36
  go_wp2_with fail
  generalize ((w.alloc (.cells #[.int .i64 t.op, .int .i64 t.cl, .int .i64 t.nu, .string t.it.k, .string t.it.v, .int .i64 t.it.n, .slice a t.lf.length ca] 36)).alloc (.cells #[.int .i64 t.op, .int .i64 t.cl, .int .i64 t.nu, .string t.it.k, .string t.it.v, .int .i64 t.it.n, .slice b t.lf.length cb] 36)) = u at F0 ⊢
  refine (C0.out u).mono ?_
  rintro r w1 ⟨rfl, hb1⟩
  have B1 := hide1 (F0.out.2.2.trans (hb1.mono F0.out.2.2.size))
  have x6 : w1.cell? ⟨w.heap.size, 6, none⟩ = some (.slice a t.lf.length ca) := (F0.out.1.below hb1 F0.out.1.lt).cell 6
  have y6 : w1.cell? ⟨w.heap.size + 1, 6, none⟩ = some (.slice b t.lf.length cb) := (F0.out.2.1.below hb1 F0.out.2.1.lt).cell 6
  clear hb1 F0
  go_wp2_with fail
  refine (C1.out w1 B1.out).mono ?_
  rintro r w2 ⟨rfl, hb2⟩
  have B2 := hide1 (B1.out.trans (hb2.mono B1.out.size))
  clear hb2 x6 y6
  go_wp2
  go_ret
  exact ⟨rfl, B2.out⟩
set_option maxRecDepth 100000 in
set_option maxHeartbeats 2000000 in
theorem eqMember_same (m : Mb) (A B : MA) (w : World) (hl : SzMb m) (hA : RdMb w m A) (hB : RdMb w m B) :
    Calls Tryz.prog 10 #[.agg #[.int .i64 m.id, .int .i64 m.ep, .bool m.fe, .bool m.ba, .bool m.le, .bool m.se, .slice A.wa m.wa.length A.wc, .slice A.ia m.is.length A.ic, .int .i64 m.cn, .int .i64 m.tk.op, .int .i64 m.tk.cl, .int .i64 m.tk.nu, .string m.tk.it.k, .string m.tk.it.v, .int .i64 m.tk.it.n, .slice A.la m.tk.lf.length A.lc], .agg #[.int .i64 m.id, .int .i64 m.ep, .bool m.fe, .bool m.ba, .bool m.le, .bool m.se, .slice B.wa m.wa.length B.wc, .slice B.ia m.is.length B.ic, .int .i64 m.cn, .int .i64 m.tk.op, .int .i64 m.tk.cl, .int .i64 m.tk.nu, .string m.tk.it.k, .string m.tk.it.v, .int .i64 m.tk.it.n, .slice B.la m.tk.lf.length B.lc]] w fun r w' => r = .returned (.bool true) ∧ Below w.heap.size w w' := by
  have F0 := hide1 (blkN2 w #[.int .i64 m.id, .int .i64 m.ep, .bool m.fe, .bool m.ba, .bool m.le, .bool m.se, .slice A.wa m.wa.length A.wc, .slice A.ia m.is.length A.ic, .int .i64 m.cn, .int .i64 m.tk.op, .int .i64 m.tk.cl, .int .i64 m.tk.nu, .string m.tk.it.k, .string m.tk.it.v, .int .i64 m.tk.it.n, .slice A.la m.tk.lf.length A.lc] #[.int .i64 m.id, .int .i64 m.ep, .bool m.fe, .bool m.ba, .bool m.le, .bool m.se, .slice B.wa m.wa.length B.wc, .slice B.ia m.is.length B.ic, .int .i64 m.cn, .int .i64 m.tk.op, .int .i64 m.tk.cl, .int .i64 m.tk.nu, .string m.tk.it.k, .string m.tk.it.v, .int .i64 m.tk.it.n, .slice B.la m.tk.lf.length B.lc] 38 38)
  have C0 := hide1 (fun w' (h : Below w.heap.size w w') => eqIntS_own A.wa B.wa m.wa A.wc B.wc w' hl.wl (hA.wr.later h) (hB.wr.later h))
  have C1 := hide1 (fun w' (h : Below w.heap.size w w') => eqItemS_same A.ia B.ia m.is A.ic B.ic w' hl.il (hA.ir.later h) (hB.ir.later h))
  have C2 := hide1 (fun w' (h : Below w.heap.size w w') => eqTask_same m.tk A.la B.la A.lc B.lc w' hl.ll (hA.lr.later h) (hB.lr.later h))
  clear hA hB hl
  have q0 : (m.id != m.id) = false := by simp
  have q1 : (m.ep != m.ep) = false := by simp
  have q2 : (m.fe != m.fe) = false := by simp
  have q3 : (m.ba != m.ba) = false := by simp
  have q4 : (m.le != m.le) = false := by simp
  have q5 : (m.se != m.se) = false := by simp
  have q8 : (m.cn != m.cn) = false := by simp
  go_enter Tryz.func10, Tryz.ntmps10
  go_wp2_with fail
  generalize ((w.alloc (.cells #[.int .i64 m.id, .int .i64 m.ep, .bool m.fe, .bool m.ba, .bool m.le, .bool m.se, .slice A.wa m.wa.length A.wc, .slice A.ia m.is.length A.ic, .int .i64 m.cn, .int .i64 m.tk.op, .int .i64 m.tk.cl, .int .i64 m.tk.nu, .string m.tk.it.k, .string m.tk.it.v, .int .i64 m.tk.it.n, .slice A.la m.tk.lf.length A.lc] 38)).alloc (.cells #[.int .i64 m.id, .int .i64 m.ep, .bool m.fe, .bool m.ba, .bool m.le, .bool m.se, .slice B.wa m.wa.length B.wc, .slice B.ia m.is.length B.ic, .int .i64 m.cn, .int .i64 m.tk.op, .int .i64 m.tk.cl, .int .i64 m.tk.nu, .string m.tk.it.k, .string m.tk.it.v, .int .i64 m.tk.it.n, .slice B.la m.tk.lf.length B.lc] 38)) = u at F0 ⊢
  refine (C0.out u F0.out.2.2).mono ?_
  rintro r w1 ⟨rfl, hb1⟩
  have X1 := hide1 (F0.out.1.below hb1 F0.out.1.lt)
  have Y1 := hide1 (F0.out.2.1.below hb1 F0.out.2.1.lt)
  have B1 := hide1 (F0.out.2.2.trans (hb1.mono F0.out.2.2.size))
  have x7 : w1.cell? ⟨w.heap.size, 7, none⟩ = some (.slice A.ia m.is.length A.ic) := X1.out.cell 7
  have y7 : w1.cell? ⟨w.heap.size + 1, 7, none⟩ = some (.slice B.ia m.is.length B.ic) := Y1.out.cell 7
  clear hb1 F0
  go_wp2_with fail
  refine (C1.out w1 B1.out).mono ?_
  rintro r w2 ⟨rfl, hb2⟩
  have X2 := hide1 (X1.out.below hb2 X1.out.lt)
  have Y2 := hide1 (Y1.out.below hb2 Y1.out.lt)
  have B2 := hide1 (B1.out.trans (hb2.mono B1.out.size))
  clear hb2 x7 y7 X1 Y1 B1
  have x8 : w2.cell? ⟨w.heap.size, 8, none⟩ = some (.int .i64 m.cn) := X2.out.cell 8
  have y8 : w2.cell? ⟨w.heap.size + 1, 8, none⟩ = some (.int .i64 m.cn) := Y2.out.cell 8
  have x9 : w2.cell? ⟨w.heap.size, 9, none⟩ = some (.int .i64 m.tk.op) := X2.out.cell 9
  have y9 : w2.cell? ⟨w.heap.size + 1, 9, none⟩ = some (.int .i64 m.tk.op) := Y2.out.cell 9
  have x10 : w2.cell? ⟨w.heap.size, 10, none⟩ = some (.int .i64 m.tk.cl) := X2.out.cell 10
  have y10 : w2.cell? ⟨w.heap.size + 1, 10, none⟩ = some (.int .i64 m.tk.cl) := Y2.out.cell 10
  have x11 : w2.cell? ⟨w.heap.size, 11, none⟩ = some (.int .i64 m.tk.nu) := X2.out.cell 11
  have y11 : w2.cell? ⟨w.heap.size + 1, 11, none⟩ = some (.int .i64 m.tk.nu) := Y2.out.cell 11
  have x12 : w2.cell? ⟨w.heap.size, 12, none⟩ = some (.string m.tk.it.k) := X2.out.cell 12
  have y12 : w2.cell? ⟨w.heap.size + 1, 12, none⟩ = some (.string m.tk.it.k) := Y2.out.cell 12
  have x13 : w2.cell? ⟨w.heap.size, 13, none⟩ = some (.string m.tk.it.v) := X2.out.cell 13
  have y13 : w2.cell? ⟨w.heap.size + 1, 13, none⟩ = some (.string m.tk.it.v) := Y2.out.cell 13
  have x14 : w2.cell? ⟨w.heap.size, 14, none⟩ = some (.int .i64 m.tk.it.n) := X2.out.cell 14
  have y14 : w2.cell? ⟨w.heap.size + 1, 14, none⟩ = some (.int .i64 m.tk.it.n) := Y2.out.cell 14
  have x15 : w2.cell? ⟨w.heap.size, 15, none⟩ = some (.slice A.la m.tk.lf.length A.lc) := X2.out.cell 15
  have y15 : w2.cell? ⟨w.heap.size + 1, 15, none⟩ = some (.slice B.la m.tk.lf.length B.lc) := Y2.out.cell 15
  go_wp2_with fail
  refine (C2.out w2 B2.out).mono ?_
  rintro r w3 ⟨rfl, hb3⟩
  have B3 := hide1 (B2.out.trans (hb3.mono B2.out.size))
  clear hb3 x8 y8 x9 y9 x10 y10 x11 y11 x12 y12 x13 y13 x14 y14 x15 y15
  go_wp2
  go_ret
  exact ⟨rfl, B3.out⟩
set_option maxRecDepth 100000 in
set_option maxHeartbeats 2000000 in
theorem szTask_any (t : Tk) (a : Option Addr) (ca left : Nat) (w : World) (hl0 : left ≤ 1048576) (hl : t.lf.length ≤ 9223372036854775807) (hk : t.it.k.size ≤ 9223372036854775807 ∧ t.it.v.size ≤ 9223372036854775807) :
    Calls Tryz.prog 20 #[.agg #[.int .i64 t.op, .int .i64 t.cl, .int .i64 t.nu, .string t.it.k, .string t.it.v, .int .i64 t.it.n, .slice a t.lf.length ca], .int .i64 (left : Int)] w fun r w' => (r = .returned (.int .i64 (-1)) ∨ ∃ q : Nat, r = .returned (.int .i64 (q : Int)) ∧ q ≤ left ∧ t.lf.length ≤ left ∧ t.it.k.size ≤ left ∧ t.it.v.size ≤ left) ∧ Below w.heap.size w w' := by
  have F0 := hide1 (And.intro (Blk.new w 27 #[.int .i64 t.op, .int .i64 t.cl, .int .i64 t.nu, .string t.it.k, .string t.it.v, .int .i64 t.it.n, .slice a t.lf.length ca]) ((Below.refl w.heap.size w).alloc (Nat.le_refl _) (.cells #[.int .i64 t.op, .int .i64 t.cl, .int .i64 t.nu, .string t.it.k, .string t.it.v, .int .i64 t.it.n, .slice a t.lf.length ca] 27)))
  have C0 := hide1 (fun w' => szItem_any t.it left w' hk hl0)
  have C1 := hide1 (fun (q : Nat) (hq : q ≤ 1048576) w' => szIntS_any a t.lf.length ca q w' hl hq)
  go_enter Tryz.func20, Tryz.ntmps20
  go_wp2_with fail
  generalize (w.alloc (.cells #[.int .i64 t.op, .int .i64 t.cl, .int .i64 t.nu, .string t.it.k, .string t.it.v, .int .i64 t.it.n, .slice a t.lf.length ca] 27)) = u at F0 ⊢
  refine (C0.out u).mono ?_
  rintro r w1 ⟨hr, hb1⟩
  have B1 := hide1 (F0.out.2.trans (hb1.mono F0.out.2.size))
  have x6 : w1.cell? ⟨w.heap.size, 6, none⟩ = some (.slice a t.lf.length ca) := (F0.out.1.below hb1 F0.out.1.lt).cell 6
  clear hb1 F0
  rcases hr with rfl | ⟨q, rfl, h1⟩
  · go_wp2
    go_ret
    exact ⟨.inl rfl, B1.out⟩
  · have qq : decide ((q : Int) < 0) = false := by simp
    have H1 := hide1 h1
    have hq : q ≤ 1048576 := by omega
    clear h1
    go_wp2_with fail
    refine (C1.out q hq w1).mono ?_
    rintro r w2 ⟨hr, rfl⟩
    rcases hr with ⟨rfl, _⟩ | ⟨q2, rfl, h2⟩
    · go_wp2
      go_ret
      exact ⟨.inl rfl, B1.out⟩
    · have qq2 : decide ((q2 : Int) < 0) = false := by simp
      have H2 := hide1 h2
      clear h2
      go_wp2
      go_ret
      have h1 := H1.out
      have h2 := H2.out
      exact ⟨.inr ⟨q2, rfl, by omega, by omega, by omega, by omega⟩, B1.out⟩
set_option maxRecDepth 100000 in
set_option maxHeartbeats 2000000 in
theorem szMember_any (m : Mb) (A : MA) (left : Nat) (w : World) (hl0 : left ≤ 1048576) (hw : m.wa.length ≤ 9223372036854775807) (hi : m.is.length ≤ 9223372036854775807) (hf : m.tk.lf.length ≤ 9223372036854775807) (hk : m.tk.it.k.size ≤ 9223372036854775807 ∧ m.tk.it.v.size ≤ 9223372036854775807) (hA : RdMb w m A) (hS : ∀ i (h : i < m.is.length), m.is[i].k.size ≤ 9223372036854775807 ∧ m.is[i].v.size ≤ 9223372036854775807) :
    Calls Tryz.prog 4 #[.agg #[.int .i64 m.id, .int .i64 m.ep, .bool m.fe, .bool m.ba, .bool m.le, .bool m.se, .slice A.wa m.wa.length A.wc, .slice A.ia m.is.length A.ic, .int .i64 m.cn, .int .i64 m.tk.op, .int .i64 m.tk.cl, .int .i64 m.tk.nu, .string m.tk.it.k, .string m.tk.it.v, .int .i64 m.tk.it.n, .slice A.la m.tk.lf.length A.lc], .int .i64 (left : Int)] w fun r w' => (r = .returned (.int .i64 (-1)) ∨ ∃ q : Nat, r = .returned (.int .i64 (q : Int)) ∧ q ≤ left ∧ SzMb m ∧ (∀ i (h : i < m.is.length), m.is[i].k.size ≤ 1048576 ∧ m.is[i].v.size ≤ 1048576) ∧ m.tk.it.k.size ≤ 1048576 ∧ m.tk.it.v.size ≤ 1048576) ∧ Below w.heap.size w w' := by
  have F0 := hide1 (And.intro (Blk.new w 29 #[.int .i64 m.id, .int .i64 m.ep, .bool m.fe, .bool m.ba, .bool m.le, .bool m.se, .slice A.wa m.wa.length A.wc, .slice A.ia m.is.length A.ic, .int .i64 m.cn, .int .i64 m.tk.op, .int .i64 m.tk.cl, .int .i64 m.tk.nu, .string m.tk.it.k, .string m.tk.it.v, .int .i64 m.tk.it.n, .slice A.la m.tk.lf.length A.lc]) ((Below.refl w.heap.size w).alloc (Nat.le_refl _) (.cells #[.int .i64 m.id, .int .i64 m.ep, .bool m.fe, .bool m.ba, .bool m.le, .bool m.se, .slice A.wa m.wa.length A.wc, .slice A.ia m.is.length A.ic, .int .i64 m.cn, .int .i64 m.tk.op, .int .i64 m.tk.cl, .int .i64 m.tk.nu, .string m.tk.it.k, .string m.tk.it.v, .int .i64 m.tk.it.n, .slice A.la m.tk.lf.length A.lc] 29)))
  have C0 := hide1 (fun w' => szIntS_any A.wa m.wa.length A.wc left w' hw hl0)
  have C1 := hide1 (fun (q : Nat) (hq : q ≤ 1048576) w' (h : Below w.heap.size w w') => szItemS_any A.ia m.is A.ic q w' hq hi (hA.ir.later h) hS)
  have C2 := hide1 (fun (q : Nat) (hq : q ≤ 1048576) w' => szTask_any m.tk A.la A.lc q w' hq hf hk)
  clear hA hS hw hi hf hk
  go_enter Tryz.func4, Tryz.ntmps4
  go_wp2_with fail
  generalize (w.alloc (.cells #[.int .i64 m.id, .int .i64 m.ep, .bool m.fe, .bool m.ba, .bool m.le, .bool m.se, .slice A.wa m.wa.length A.wc, .slice A.ia m.is.length A.ic, .int .i64 m.cn, .int .i64 m.tk.op, .int .i64 m.tk.cl, .int .i64 m.tk.nu, .string m.tk.it.k, .string m.tk.it.v, .int .i64 m.tk.it.n, .slice A.la m.tk.lf.length A.lc] 29)) = u at F0 ⊢
  refine (C0.out u).mono ?_
  rintro r w1 ⟨hr, rfl⟩
  have B1 := hide1 F0.out.2
  have X1 := hide1 F0.out.1
  clear F0
  rcases hr with ⟨rfl, _⟩ | ⟨q, rfl, h1⟩
  · go_wp2
    go_ret
    exact ⟨.inl rfl, B1.out⟩
  · have qq : decide ((q : Int) < 0) = false := by simp
    have H1 := hide1 h1
    have hq : q ≤ 1048576 := by omega
    have x7 : w1.cell? ⟨w.heap.size, 7, none⟩ = some (.slice A.ia m.is.length A.ic) := X1.out.cell 7
    clear h1
    go_wp2_with fail
    refine (C1.out q hq w1 B1.out).mono ?_
    rintro r w2 ⟨hr, hb2⟩
    have B2 := hide1 (B1.out.trans (hb2.mono B1.out.size))
    have X2 := hide1 (X1.out.below hb2 X1.out.lt)
    clear hb2 x7
    rcases hr with rfl | ⟨q2, rfl, h2, h3, h4⟩
    · go_wp2
      go_ret
      exact ⟨.inl rfl, B2.out⟩
    · have qq2 : decide ((q2 : Int) < 0) = false := by simp
      have H2 := hide1 (And.intro h2 (And.intro h3 h4))
      have hq2 : q2 ≤ 1048576 := by omega
      clear h2 h3 h4
      have x9 : w2.cell? ⟨w.heap.size, 9, none⟩ = some (.int .i64 m.tk.op) := X2.out.cell 9
      have x10 : w2.cell? ⟨w.heap.size, 10, none⟩ = some (.int .i64 m.tk.cl) := X2.out.cell 10
      have x11 : w2.cell? ⟨w.heap.size, 11, none⟩ = some (.int .i64 m.tk.nu) := X2.out.cell 11
      have x12 : w2.cell? ⟨w.heap.size, 12, none⟩ = some (.string m.tk.it.k) := X2.out.cell 12
      have x13 : w2.cell? ⟨w.heap.size, 13, none⟩ = some (.string m.tk.it.v) := X2.out.cell 13
      have x14 : w2.cell? ⟨w.heap.size, 14, none⟩ = some (.int .i64 m.tk.it.n) := X2.out.cell 14
      have x15 : w2.cell? ⟨w.heap.size, 15, none⟩ = some (.slice A.la m.tk.lf.length A.lc) := X2.out.cell 15
      go_wp2_with fail
      refine (C2.out q2 hq2 w2).mono ?_
      rintro r w3 ⟨hr, hb3⟩
      have B3 := hide1 (B2.out.trans (hb3.mono B2.out.size))
      clear hb3 x9 x10 x11 x12 x13 x14 x15
      rcases hr with rfl | ⟨q3, rfl, h5, h6, h7, h8⟩
      · go_wp2
        go_ret
        exact ⟨.inl rfl, B3.out⟩
      · have qq3 : decide ((q3 : Int) < 0) = false := by simp
        have H3 := hide1 (And.intro h5 (And.intro h6 (And.intro h7 h8)))
        clear h5 h6 h7 h8
        go_wp2
        go_ret
        have h1 := H1.out
        obtain ⟨h2, h3, h4⟩ := H2.out
        obtain ⟨h5, h6, h7, h8⟩ := H3.out
        exact ⟨.inr ⟨q3, rfl, by omega, ⟨by omega, by omega, by omega⟩, h4, by omega, by omega⟩, B3.out⟩
def inI (x : Int) : Prop := -9223372036854775808 ≤ x ∧ x ≤ 9223372036854775807
structure WfMb (m : Mb) : Prop where
  wl : m.wa.length ≤ maxLen
  il : m.is.length ≤ maxLen
  ll : m.tk.lf.length ≤ maxLen
  is : ∀ s ∈ m.is, wfItem s
  it : wfItem m.tk.it
  id : inI m.id
  ep : inI m.ep
  cn : inI m.cn
  op : inI m.tk.op
  cl : inI m.tk.cl
  nu : inI m.tk.nu
set_option maxRecDepth 100000 in
theorem open_taskE {H : Type} {enc : TypeId × Value → H} {w : World} {base fuel : Nat} {sp : Nat → Bool} {held : Bool} {cs : List Value} {x : DataW H × List MemPlace} (h : DataW.trod enc Tryz.prog w base sp held fuel 27 cs = some x) :
    ∃ (t : Tk) (a : Option Addr) (ca : Nat), cs = [.int .i64 t.op, .int .i64 t.cl, .int .i64 t.nu, .string t.it.k, .string t.it.v, .int .i64 t.it.n, .slice a t.lf.length ca] ∧ RdZ w a t.lf ∧ t.lf.length ≤ maxLen ∧ wfItem t.it ∧ inI t.op ∧ inI t.cl ∧ inI t.nu := by
  obtain ⟨xs, n, _, _, hlen, hxl, hf⟩ := DataW.trod_struct Tryz.underlying27 h
  have hc : Tryz.prog.cellsOf 27 = 7 := by kernel_rfl
  rw [hc] at hlen
  match xs, hxl, cs, hlen with
  | [q0, q1, q2, q3, q4], _, [u0, u1, u2, u3, u4, u5, u6], _ =>
    have g0 := hf 0 _ rfl
    have g1 := hf 1 _ rfl
    have g2 := hf 2 _ rfl
    have g3 := hf 3 _ rfl
    have g4 := hf 4 _ rfl
    have ci : Tryz.prog.cellsOf 3 = 1 := by kernel_rfl
    have c3 : Tryz.prog.cellsOf 25 = 3 := by kernel_rfl
    have c4 : Tryz.prog.cellsOf 22 = 1 := by kernel_rfl
    simp [ci, c3, c4] at g0 g1 g2 g3 g4
    obtain ⟨n0, e0, _, w0⟩ := DataW.trod_int Tryz.underlying3 g0
    obtain ⟨n1, e1, _, w1⟩ := DataW.trod_int Tryz.underlying3 g1
    obtain ⟨n2, e2, _, w2⟩ := DataW.trod_int Tryz.underlying3 g2
    obtain ⟨s3, e3, f3⟩ := open_itemE g3
    obtain ⟨a4, l4, k4, e4, r4, m4⟩ := open_ints g4
    simp [imC] at e0 e1 e2 e3 e4
    obtain ⟨rfl, rfl, rfl⟩ := e3
    subst e0 e1 e2 e4
    exact ⟨⟨n0, n1, n2, s3, l4⟩, a4, k4, rfl, r4, m4, f3, bounds_i64 w0, bounds_i64 w1, bounds_i64 w2⟩
set_option maxRecDepth 100000 in
/-- A member that came in. -/
theorem open_member {H : Type} {enc : TypeId × Value → H} {w : World} {r : Reach} {b0 base : Nat} {sp : Nat → Bool} {held : Bool} {v : Value} {d : DataW H} {p : List MemPlace} (hv : Value.okWide Tryz.prog w r b0 29 v) (h : DataW.Trod enc Tryz.prog w base sp held 29 v d p) :
    ∃ (m : Mb) (A : MA), v = mbV m A ∧ RdMb w m A ∧ WfMb m := by
  obtain ⟨cs, rfl, hsz⟩ := okWide_struct Tryz.underlying29 hv
  have hc : Tryz.prog.cellsOf 29 = 16 := by kernel_rfl
  rw [hc] at hsz
  obtain ⟨fuel, hf0⟩ := h
  obtain ⟨xs, n, _, _, hlen, hxl, hf⟩ := DataW.trod_struct Tryz.underlying29 hf0
  obtain ⟨cl⟩ := cs
  match xs, hxl, cl, hsz with
  | [q0, q1, q2, q3, q4, q5, q6, q7, q8, q9], _, [u0, u1, u2, u3, u4, u5, u6, u7, u8, u9, u10, u11, u12, u13, u14, u15], _ =>
    have g0 := hf 0 _ rfl
    have g1 := hf 1 _ rfl
    have g2 := hf 2 _ rfl
    have g3 := hf 3 _ rfl
    have g4 := hf 4 _ rfl
    have g5 := hf 5 _ rfl
    have g6 := hf 6 _ rfl
    have g7 := hf 7 _ rfl
    have g8 := hf 8 _ rfl
    have g9 := hf 9 _ rfl
    have ci : Tryz.prog.cellsOf 3 = 1 := by kernel_rfl
    have cb : Tryz.prog.cellsOf 4 = 1 := by kernel_rfl
    have c6 : Tryz.prog.cellsOf 22 = 1 := by kernel_rfl
    have c7 : Tryz.prog.cellsOf 23 = 1 := by kernel_rfl
    have c9 : Tryz.prog.cellsOf 27 = 7 := by kernel_rfl
    simp [ci, cb, c6, c7, c9, Value.cells] at g0 g1 g2 g3 g4 g5 g6 g7 g8 g9
    obtain ⟨n0, e0, _, w0⟩ := DataW.trod_int Tryz.underlying3 g0
    obtain ⟨n1, e1, _, w1⟩ := DataW.trod_int Tryz.underlying3 g1
    obtain ⟨f2, e2, _⟩ := DataW.trod_bool Tryz.underlying4 g2
    obtain ⟨f3, e3, _⟩ := DataW.trod_bool Tryz.underlying4 g3
    obtain ⟨f4, e4, _⟩ := DataW.trod_bool Tryz.underlying4 g4
    obtain ⟨f5, e5, _⟩ := DataW.trod_bool Tryz.underlying4 g5
    obtain ⟨a6, l6, k6, e6, r6, m6⟩ := open_ints g6
    obtain ⟨a7, l7, k7, e7, r7, m7, h7⟩ := open_itemsE g7
    obtain ⟨n8, e8, _, w8⟩ := DataW.trod_int Tryz.underlying3 g8
    obtain ⟨t9, a9, k9, e9, r9, m9, i9, o9, p9, q9⟩ := open_taskE g9
    simp at e0 e1 e2 e3 e4 e5 e6 e7 e8 e9
    obtain ⟨rfl, rfl, rfl, rfl, rfl, rfl, rfl⟩ := e9
    subst e0 e1 e2 e3 e4 e5 e6 e7 e8
    exact ⟨⟨n0, n1, f2, f3, f4, f5, l6, l7, n8, t9⟩, ⟨a6, k6, a7, k7, a9, k9⟩, rfl, ⟨r6, r7, r9⟩, ⟨m6, m7, m9, h7, i9, bounds_i64 w0, bounds_i64 w1, bounds_i64 w8, o9, p9, q9⟩⟩
end Go.Proofs.YtpjgplohlchpoaaGreatDoor
