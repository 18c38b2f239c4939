/- Messages in the statements' words: copied, sized, compared, marked, opened. -/
import Derived.Test.YtcahaimefgkmiaaTG
import Derived.Test.YtcahaimefgkmiaaMkI
import Derived.Deep.DeepCutAuto
namespace Go.Proofs.Ytcahaimefgkmiaa
open Go.ChangeShapes Go.WideShapes Go.ChangeAt Go.RowKit Go.Deep Go.Joins
set_option linter.unusedVariables false

set_option maxRecDepth 100000 in
set_option maxHeartbeats 1000000 in
theorem toMsg_any (k f o e n : Int) (l : List Im) (a : Option Addr) (ca : Nat) (w : World) (hl : l.length ≤ 1048576) (hA : RdG imC 3 w a l) :
    Calls Try.prog 66 #[.agg #[.int .i64 k, .int .i64 f, .int .i64 o, .int .i64 e, .int .i64 n, .slice a l.length ca]] w fun r w' => (∃ b c, r = .returned (.agg #[.int .i64 k, .int .i64 f, .int .i64 o, .int .i64 e, .int .i64 n, .slice b l.length c]) ∧ w'.ownsRow w.heap.size 65 3 (.slice b l.length c) l.length (rowG imC l)) ∧ Below w.heap.size w w' := by
  have CT := hide1 (fun w' (hb : Below w.heap.size w w') => toItemS_any a l ca w' hl (hA.later hb))
  have F := hide1 (blkN3 w #[.int .i64 k, .int .i64 f, .int .i64 o, .int .i64 e, .int .i64 n, .slice a l.length ca] #[.int .i64 0, .int .i64 0, .int .i64 0, .int .i64 0, .int .i64 0, .slice none 0 0] #[.int .i64 k, .int .i64 f, .int .i64 o, .int .i64 e, .int .i64 n, .slice none 0 0] 99 103 103)
  clear hA
  go_enter Try.func66, Try.ntmps66
  go_wp2_with fail
  generalize (((w.alloc (.cells #[.int .i64 k, .int .i64 f, .int .i64 o, .int .i64 e, .int .i64 n, .slice a l.length ca] 99)).alloc (.cells #[.int .i64 0, .int .i64 0, .int .i64 0, .int .i64 0, .int .i64 0, .slice none 0 0] 103)).alloc (.cells #[.int .i64 k, .int .i64 f, .int .i64 o, .int .i64 e, .int .i64 n, .slice none 0 0] 103)) = u at F ⊢
  obtain ⟨F0, F1, F2, F3⟩ := F.out
  refine (CT.out u F3).mono ?_
  rintro r w2 ⟨b, c, rfl, hO, hb2⟩
  obtain ⟨RB, hRB⟩ : ∃ G, G = w.heap.size + 1 := ⟨_, rfl⟩
  obtain ⟨OB, hOB⟩ : ∃ G, G = w.heap.size + 1 + 1 := ⟨_, rfl⟩
  have KR := hide1 (show Blk w2 RB 103 [.int .i64 0, .int .i64 0, .int .i64 0, .int .i64 0, .int .i64 0, .slice none 0 0] by rw [hRB]; exact F1.below hb2 F1.lt)
  have KO := hide1 (show Blk w2 OB 103 [.int .i64 k, .int .i64 f, .int .i64 o, .int .i64 e, .int .i64 n, .slice none 0 0] by rw [hOB]; exact F2.below hb2 F2.lt)
  have lO2 : w.heap.size + 1 + 1 < u.heap.size := F2.lt
  have OW := hide1 hO
  have BW := hide1 (F3.trans (hb2.mono F3.size))
  rw [← hOB, ← hRB]
  have hRO : RB ≠ OB := by omega
  have hRw : w.heap.size ≤ RB := by omega
  have hOw : w.heap.size ≤ OB := by omega
  have lRu : RB < u.heap.size := by omega
  have lOu : OB < u.heap.size := by omega
  have lwu : w.heap.size ≤ u.heap.size := by omega
  have r0 : w2.cell? ⟨RB, 0, none⟩ = some (.int .i64 0) := KR.out.cell 0
  have r1 : w2.cell? ⟨RB, 1, none⟩ = some (.int .i64 0) := KR.out.cell 1
  have r2 : w2.cell? ⟨RB, 2, none⟩ = some (.int .i64 0) := KR.out.cell 2
  have r3 : w2.cell? ⟨RB, 3, none⟩ = some (.int .i64 0) := KR.out.cell 3
  have r4 : w2.cell? ⟨RB, 4, none⟩ = some (.int .i64 0) := KR.out.cell 4
  have r5 : w2.cell? ⟨RB, 5, none⟩ = some (.slice none 0 0) := KR.out.cell 5
  have y0 : w2.cell? ⟨OB, 0, none⟩ = some (.int .i64 k) := KO.out.cell 0
  have y1 : w2.cell? ⟨OB, 1, none⟩ = some (.int .i64 f) := KO.out.cell 1
  have y2 : w2.cell? ⟨OB, 2, none⟩ = some (.int .i64 o) := KO.out.cell 2
  have y3 : w2.cell? ⟨OB, 3, none⟩ = some (.int .i64 e) := KO.out.cell 3
  have y4 : w2.cell? ⟨OB, 4, none⟩ = some (.int .i64 n) := KO.out.cell 4
  have y5 : w2.cell? ⟨OB, 5, none⟩ = some (.slice none 0 0) := KO.out.cell 5
  have rf : ∀ j, w2.frozen? ⟨RB, j, none⟩ = false := fun j => KR.out.froz j
  have yf : ∀ j, w2.frozen? ⟨OB, j, none⟩ = false := fun j => KO.out.froz j
  clear hO hb2 F F0 F1 F2 F3 CT hRB hOB
  go_wp2
  have hg9 : ∀ (z p q r s t v : Value), Below w.heap.size w (((((((w2.setCell ⟨OB, 5, none⟩ z).setCell ⟨RB, 0, none⟩ p).setCell ⟨RB, 1, none⟩ q).setCell ⟨RB, 2, none⟩ r).setCell ⟨RB, 3, none⟩ s).setCell ⟨RB, 4, none⟩ t).setCell ⟨RB, 5, none⟩ v) := fun z p q r s t v => ((((((BW.out.setCell (p := ⟨OB, 5, none⟩) hOw z).setCell (p := ⟨RB, 0, none⟩) hRw p).setCell (p := ⟨RB, 1, none⟩) hRw q).setCell (p := ⟨RB, 2, none⟩) hRw r).setCell (p := ⟨RB, 3, none⟩) hRw s).setCell (p := ⟨RB, 4, none⟩) hRw t).setCell (p := ⟨RB, 5, none⟩) hRw v
  refine bodyPost_ret (results_cell_row Try.results66 _ _ RB 103 #[.int .i64 k, .int .i64 f, .int .i64 o, .int .i64 e, .int .i64 n, .slice b l.length c] (0, 0) _ rfl (Blk.set (Blk.set (Blk.set (Blk.set (Blk.set (Blk.set (gblk (gset (World.grownBy.refl w2 (some OB)) 5 _) KR.out (by intro e; injection e; omega)) 0 _) 1 _) 2 _) 3 _) 4 _) 5 _) Try.underlying103 rfl (by kernel_rfl)) rfl ?_
  refine ⟨⟨b, c, rfl, ?_⟩, hg9 _ _ _ _ _ _ _⟩
  have gO := gset (World.grownBy.refl w2 (some OB)) 5 (.slice b l.length c)
  have o1 := gown gO OW.out (fun q hq e => by injection e with e; have := (OW.out.lt q hq).1; omega)
  have gR : ∀ (W : World) (p q r s t v : Value), W.grownBy ((((((W.setCell ⟨RB, 0, none⟩ p).setCell ⟨RB, 1, none⟩ q).setCell ⟨RB, 2, none⟩ r).setCell ⟨RB, 3, none⟩ s).setCell ⟨RB, 4, none⟩ t).setCell ⟨RB, 5, none⟩ v) (some RB) := fun W p q r s t v => gset (gset (gset (gset (gset (gset (World.grownBy.refl _ _) 0 p) 1 q) 2 r) 3 s) 4 t) 5 v
  exact own_base (gown (gR _ _ _ _ _ _ _) o1 (fun q hq e => by injection e with e; have := (o1.lt q hq).1; omega)) lwu

set_option maxRecDepth 100000 in
set_option maxHeartbeats 1000000 in
theorem eqMsg_same (k f o e n : Int) (l : List Im) (a b : Option Addr) (ca cb : Nat) (w : World) (hl : l.length ≤ 1048576) (hA : RdG imC 3 w a l) (hB : RdG imC 3 w b l) :
    Calls Try.prog 71 #[.agg #[.int .i64 k, .int .i64 f, .int .i64 o, .int .i64 e, .int .i64 n, .slice a l.length ca], .agg #[.int .i64 k, .int .i64 f, .int .i64 o, .int .i64 e, .int .i64 n, .slice b l.length cb]] w fun r w' => r = .returned (.bool true) ∧ Below w.heap.size w w' := by
  have F0 := hide1 (blkN2 w #[.int .i64 k, .int .i64 f, .int .i64 o, .int .i64 e, .int .i64 n, .slice a l.length ca] #[.int .i64 k, .int .i64 f, .int .i64 o, .int .i64 e, .int .i64 n, .slice b l.length cb] 103 103)
  have CN := hide1 (fun w' (h : Below w.heap.size w w') => eqItemS_same a b l ca cb w' hl (hA.later h) (hB.later h))
  clear hA hB
  have q0 : (k != k) = false := by simp
  have q1 : (f != f) = false := by simp
  have q2 : (o != o) = false := by simp
  have q3 : (e != e) = false := by simp
  have q4 : (n != n) = false := by simp
  go_enter Try.func71, Try.ntmps71
  go_wp2_with fail
  generalize ((w.alloc (.cells #[.int .i64 k, .int .i64 f, .int .i64 o, .int .i64 e, .int .i64 n, .slice a l.length ca] 103)).alloc (.cells #[.int .i64 k, .int .i64 f, .int .i64 o, .int .i64 e, .int .i64 n, .slice b l.length cb] 103)) = u at F0 ⊢
  refine (CN.out u F0.out.2.2).mono ?_
  rintro r w1 ⟨rfl, hb1⟩
  go_wp2
  go_ret
  exact ⟨rfl, F0.out.2.2.trans (hb1.mono F0.out.2.2.size)⟩
set_option maxRecDepth 100000 in
set_option maxHeartbeats 1000000 in
theorem szMsg_any (k f o e n : Int) (l : List Im) (a : Option Addr) (ca left : Nat) (w : World) (hl0 : left ≤ 1048576) (hl : l.length ≤ 9223372036854775807) (hA : RdG imC 3 w a l) (hS : ∀ i (h : i < l.length), l[i].k.size ≤ 9223372036854775807 ∧ l[i].v.size ≤ 9223372036854775807) :
    Calls Try.prog 63 #[.agg #[.int .i64 k, .int .i64 f, .int .i64 o, .int .i64 e, .int .i64 n, .slice a l.length ca], .int .i64 (left : Int)] w fun r w' => (r = .returned (.int .i64 (-1)) ∨ ∃ q : Nat, r = .returned (.int .i64 (q : Int)) ∧ q ≤ left ∧ l.length ≤ left ∧ ∀ i (h : i < l.length), l[i].k.size ≤ 1048576 ∧ l[i].v.size ≤ 1048576) ∧ Below w.heap.size w w' := by
  have F0 := hide1 ((Below.refl w.heap.size w).alloc (Nat.le_refl _) (.cells #[.int .i64 k, .int .i64 f, .int .i64 o, .int .i64 e, .int .i64 n, .slice a l.length ca] 99))
  have CN := hide1 (fun w' (h : Below w.heap.size w w') => szItemS_any a l ca left w' hl0 hl (hA.later h) hS)
  clear hA hS
  go_enter Try.func63, Try.ntmps63
  go_wp2_with fail
  generalize (w.alloc (.cells #[.int .i64 k, .int .i64 f, .int .i64 o, .int .i64 e, .int .i64 n, .slice a l.length ca] 99)) = u at F0 ⊢
  refine (CN.out u F0.out).mono ?_
  rintro r w1 ⟨hr, hb1⟩
  have B1 := hide1 (F0.out.trans (hb1.mono F0.out.size))
  clear hb1
  rcases hr with rfl | ⟨q, rfl, h1, h2, h3⟩
  · go_wp2
    go_ret
    exact ⟨.inl rfl, B1.out⟩
  · have qq : decide ((q : Int) < 0) = false := by simp
    have H3 := hide1 (And.intro h1 (And.intro h2 h3))
    clear h1 h2 h3
    go_wp2
    go_ret
    exact ⟨.inr ⟨q, rfl, H3.out⟩, B1.out⟩
set_option maxRecDepth 100000 in
/-- A message that came in. -/
theorem open_msg {H : Type} {enc : TypeId × Value → H} {w : World} {r : Reach} {b0 base : Nat} {sp : Nat → Bool} {held : Bool} {v : Value} {d : DataW H} {p : List MemPlace} (hv : Value.okWide Try.prog w r b0 99 v) (h : DataW.Trod enc Try.prog w base sp held 99 v d p) :
    ∃ (k f o e n : Int) (l : List Im) (a : Option Addr) (ca : Nat), v = .agg #[.int .i64 k, .int .i64 f, .int .i64 o, .int .i64 e, .int .i64 n, .slice a l.length ca] ∧ RdG imC 3 w a l ∧ l.length ≤ maxLen ∧ (∀ s ∈ l, wfItem s) ∧ (-9223372036854775808 ≤ k ∧ k ≤ 9223372036854775807) ∧ (-9223372036854775808 ≤ f ∧ f ≤ 9223372036854775807) ∧ (-9223372036854775808 ≤ o ∧ o ≤ 9223372036854775807) ∧ (-9223372036854775808 ≤ e ∧ e ≤ 9223372036854775807) ∧ (-9223372036854775808 ≤ n ∧ n ≤ 9223372036854775807) := by
  obtain ⟨cs, rfl, hsz⟩ := okWide_struct Try.underlying99 hv
  have hc : Try.prog.cellsOf 99 = 6 := by kernel_rfl
  rw [hc] at hsz
  obtain ⟨fuel, hf0⟩ := h
  obtain ⟨xs, n, _, _, hlen, hxl, hf⟩ := DataW.trod_struct Try.underlying99 hf0
  obtain ⟨cl⟩ := cs
  match xs, hxl, cl, hsz with
  | [q0, q1, q2, q3, q4, q5], _, [u0, u1, u2, u3, u4, u5], _ =>
    have g0 := hf 0 _ rfl
    have g1 := hf 1 _ rfl
    have g2 := hf 2 _ rfl
    have g3 := hf 3 _ rfl
    have g4 := hf 4 _ rfl
    have g5 := hf 5 _ rfl
    have ci : Try.prog.cellsOf 3 = 1 := by kernel_rfl
    have c5 : Try.prog.cellsOf 91 = 1 := by kernel_rfl
    simp [ci, c5, Value.cells] at g0 g1 g2 g3 g4 g5
    obtain ⟨n0, e0, _, w0⟩ := DataW.trod_int Try.underlying3 g0
    obtain ⟨n1, e1, _, w1⟩ := DataW.trod_int Try.underlying3 g1
    obtain ⟨n2, e2, _, w2⟩ := DataW.trod_int Try.underlying3 g2
    obtain ⟨n3, e3, _, w3⟩ := DataW.trod_int Try.underlying3 g3
    obtain ⟨n4, e4, _, w4⟩ := DataW.trod_int Try.underlying3 g4
    obtain ⟨a5, l5, k5, e5, r5, m5, f5⟩ := open_itemsE g5
    simp at e0 e1 e2 e3 e4 e5
    subst e0 e1 e2 e3 e4 e5
    exact ⟨n0, n1, n2, n3, n4, l5, a5, k5, rfl, r5, m5, f5, bounds_i64 w0, bounds_i64 w1, bounds_i64 w2, bounds_i64 w3, bounds_i64 w4⟩
end Go.Proofs.Ytcahaimefgkmiaa
