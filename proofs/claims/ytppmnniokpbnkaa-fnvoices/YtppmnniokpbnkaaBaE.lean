/- A drawn note. -/
import Derived.Test.YtppmnniokpbnkaaBaD
namespace Go.Proofs.Ytppmnniokpbnkaa
open Go.RowKit
set_option linter.unusedVariables false

/-- What the draw of a note holds: the answer's box, the note in block A, the cursor. -/
structure StM (B g A : Nat) (w wr : World) (a : Option Addr) (len cap : Nat) (m : Nt) : Prop where
  sz : m.v.size ≤ 41
  var : Blk wr A 29 (ntC m)
  res : Blk wr w.heap.size 29 (ntC zN)
  drw : Drw B wr a len cap g
  grown : w.grownBy wr (some g)
  hg : g < w.heap.size
  hA : w.heap.size < A
theorem growM {w w1 w2 : World} {r : Option Nat} (h : w.grownBy w1 r) (k : w1.grownBy w2 r) : w.grownBy w2 r := h.trans k
theorem blkM {w w' : World} {r g : Nat} {t : TypeId} {cs : List Value} (h : Blk w r t cs) (hg : w.grownBy w' (some g)) (hne : r ≠ g) : Blk w' r t cs := (hg.block r h.lt (fun e => hne (by simpa using e))).trans h
theorem StM.draw {B g A : Nat} {w wr w2 : World} {a : Option Addr} {len cap : Nat} {m : Nt} (h : StM B g A w wr a len cap m) (hd : Drw B w2 a len cap g) (hg : wr.grownBy w2 (some g)) : StM B g A w w2 a len cap m :=
  ⟨h.sz, blkM h.var hg (by have := h.hg; have := h.hA; omega), blkM h.res hg (by have := h.hg; omega), hd, growM h.grown hg, h.hg, h.hA⟩
theorem StM.later {B g A : Nat} {w wr w2 : World} {a : Option Addr} {len cap : Nat} {m : Nt} (h : StM B g A w wr a len cap m) (hb : Below wr.heap.size wr w2) : StM B g A w w2 a len cap m :=
  ⟨h.sz, h.var.below hb h.var.lt, h.res.below hb h.res.lt, h.drw.later hb, growM h.grown (grow_new hb), h.hg, h.hA⟩
/-- A field is set. -/
theorem StM.put {B g A : Nat} {w wr : World} {a : Option Addr} {len cap : Nat} {m m' : Nt} (h : StM B g A w wr a len cap m) (j : Nat) (v : Value) (he : (ntC m).set j v = ntC m') (hs : m'.v.size ≤ 41) : StM B g A w (wr.setCell ⟨A, j, none⟩ v) a len cap m' := by
  have hgA : g < A := Nat.lt_trans h.hg h.hA
  have hA := h.hA
  have hb : Below A wr (wr.setCell ⟨A, j, none⟩ v) := (Below.refl _ _).setCell (p := ⟨A, j, none⟩) (Nat.le_refl _) _
  refine ⟨hs, by rw [← he]; exact h.var.set j v, h.res.far _ _ (by dsimp only; omega), h.drw.keep hb (Nat.le_trans h.drw.cur.1 (Nat.le_of_lt hgA)) hgA, ?_, h.hg, h.hA⟩
  have g1 := h.grown
  refine ⟨g1.os, g1.tape, g1.output, by have := g1.size; simpa [World.setCell] using this, fun k hk hne => ?_⟩
  rw [Below.heap_setCell _ _ _ _ (by dsimp only; omega)]
  exact g1.block k hk hne
theorem StM.cells {B g A : Nat} {w wr : World} {a : Option Addr} {len cap : Nat} {m : Nt} (h : StM B g A w wr a len cap m) :
    (wr.cell? ⟨A, 0, none⟩ = some (.int .i64 m.k) ∧ wr.cell? ⟨A, 1, none⟩ = some (.int .i64 m.f) ∧ wr.cell? ⟨A, 2, none⟩ = some (.int .i64 m.o) ∧ wr.cell? ⟨A, 3, none⟩ = some (.int .i64 m.b) ∧ wr.cell? ⟨A, 4, none⟩ = some (.int .i64 m.t) ∧ wr.cell? ⟨A, 5, none⟩ = some (.string m.v)) ∧ ∀ j, wr.frozen? ⟨A, j, none⟩ = false :=
  ⟨⟨h.var.cell 0, h.var.cell 1, h.var.cell 2, h.var.cell 3, h.var.cell 4, h.var.cell 5⟩, fun j => h.var.froz j⟩
theorem StM.zeros {B g A : Nat} {w wr : World} {a : Option Addr} {len cap : Nat} {m : Nt} (h : StM B g A w wr a len cap m) :
    (wr.cell? ⟨w.heap.size, 0, none⟩ = some (.int .i64 0) ∧ wr.cell? ⟨w.heap.size, 1, none⟩ = some (.int .i64 0) ∧ wr.cell? ⟨w.heap.size, 2, none⟩ = some (.int .i64 0) ∧ wr.cell? ⟨w.heap.size, 3, none⟩ = some (.int .i64 0) ∧ wr.cell? ⟨w.heap.size, 4, none⟩ = some (.int .i64 0) ∧ wr.cell? ⟨w.heap.size, 5, none⟩ = some (.string ⟨#[]⟩)) ∧ ∀ j, wr.frozen? ⟨w.heap.size, j, none⟩ = false :=
  ⟨⟨h.res.cell 0, h.res.cell 1, h.res.cell 2, h.res.cell 3, h.res.cell 4, h.res.cell 5⟩, fun j => h.res.froz j⟩

/-- The note is copied to the answer's box. -/
theorem StM.done {B g A : Nat} {w wr : World} {a : Option Addr} {len cap : Nat} {m : Nt} (h : StM B g A w wr a len cap m) :
    (putG wr w.heap.size 0 (ntC m)).heap[w.heap.size]? = some (.cells (ntC m).toArray 29 (0, 0)) ∧ Drw B (putG wr w.heap.size 0 (ntC m)) a len cap g ∧ w.grownBy (putG wr w.heap.size 0 (ntC m)) (some g) := by
  have hb : Below w.heap.size wr (putG wr w.heap.size 0 (ntC m)) := below_putG (ntC m) 0 (Below.refl _ _) (Nat.le_refl _)
  refine ⟨?_, h.drw.keep hb (Nat.le_trans h.drw.cur.1 (Nat.le_of_lt h.hg)) h.hg, ?_⟩
  · exact (((((h.res.set 0 (.int .i64 m.k)).set 1 (.int .i64 m.f)).set 2 (.int .i64 m.o)).set 3 (.int .i64 m.b)).set 4 (.int .i64 m.t)).set 5 (.string m.v)
  · have g1 := h.grown
    exact ⟨hb.os.trans g1.os, hb.tape.trans g1.tape, hb.output.trans g1.output, Nat.le_trans g1.size hb.size, fun k hk hne => (hb.block k hk).trans (g1.block k hk hne)⟩
def kL0 : List Int := [0, 5]
def kL1 : List Int := [0, -1, 10000, 10001]
theorem longB_any (u : Nat) (hu : u < 2) (w : World) : Calls Try.prog 46 #[.int .i64 (40 + (u : Int)), .int .u8 65] w fun e w' => ∃ z : ByteArray, e = .returned (.string z) ∧ z.size ≤ 41 ∧ Below w.heap.size w w' := by
  have := long_any (40 + u) 65 w (by omega)
  rw [show ((40 + u : Nat) : Int) = 40 + (u : Int) by omega] at this
  refine this.mono ?_
  rintro e w' ⟨l, rfl, hl, hb⟩
  exact ⟨_, rfl, by show l.toArray.size ≤ 41; rw [List.size_toArray, hl]; omega, hb⟩
-- NOTE
set_option maxRecDepth 100000 in
set_option maxHeartbeats 8000000 in
theorem noteD_any {B : Nat} {w : World} {a : Option Addr} {len cap g : Nat} (h : Drw B w a len cap g) :
    Calls Try.prog 33 #[.pointer (some ⟨g, 0, none⟩)] w fun e w' => ∃ m : Nt, e = .returned (ntV m) ∧ (m.v.size ≤ 41) ∧ Drw B w' a len cap g ∧ w.grownBy w' (some g) := by
  have hglt := h.lt
  have N0 := hide1 (Blk.new w 29 #[.int .i64 0, .int .i64 0, .int .i64 0, .int .i64 0, .int .i64 0, .string ⟨#[]⟩])
  have D0 := hide1 (fun o => h.later ((Below.refl _ _).alloc (Nat.le_refl _) o))
  clear h
  go_enter Try.func33, Try.ntmps33
  go_wp2_with fail
  refine (below_any (D0.out _) 4 (by omega)).mono ?_
  rintro e w1 ⟨x1, rfl, hx1, _, h1, g1⟩
  have c1 : x1 < 4 := by have := hx1 (by omega); omega
  clear hx1
  go_wp2_with fail
  refine (below_any h1 3 (by omega)).mono ?_
  rintro e w2 ⟨x2, rfl, hx2, _, h2, g2⟩
  have c2 : x2 < 3 := by have := hx2 (by omega); omega
  clear hx2
  go_wp2_with fail
  refine (below_any h2 3 (by omega)).mono ?_
  rintro e w3 ⟨x3, rfl, hx3, _, h3, g3⟩
  have c3 : x3 < 3 := by have := hx3 (by omega); omega
  clear hx3
  go_wp2_with fail
  refine (below_any h3 40 (by omega)).mono ?_
  rintro e w4 ⟨x4, rfl, hx4, _, h4, g4⟩
  have c4 : x4 < 40 := by have := hx4 (by omega); omega
  clear hx4
  have G4 := hide1 (g1.trans (g2.trans (g3.trans g4)))
  have N4 := hide1 (blkM N0.out G4.out (by omega))
  have hAA : w.heap.size < w4.heap.size := N4.out.lt
  have S0 : Hid (∀ k : Int, StM B g w4.heap.size w (w4.alloc (.cells #[.int .i64 k, .int .i64 (1 + (x2 : Int)), .int .i64 (1 + (x3 : Int)), .int .i64 (1 + (x4 : Int)), .int .i64 0, .string ⟨#[]⟩] 29)) a len cap ⟨k, 1 + (x2 : Int), 1 + (x3 : Int), 1 + (x4 : Int), 0, ⟨#[]⟩⟩) :=
    hide1 (fun k => ⟨by show (0 : Nat) ≤ 41; omega, Blk.new w4 _ _, N4.out.more _, h4.later ((Below.refl _ _).alloc (Nat.le_refl _) _), ((World.grownBy_alloc w _ _).trans G4.out).trans (World.grownBy_alloc w4 _ _), hglt, hAA⟩)
  clear h1 h2 h3 h4 g1 g2 g3 g4 N0 D0 G4 N4
  by_cases e0 : x1 = 0
  · subst e0
    have S := hide1 (S0.out 1)
    clear S0
    go_wp2_with fail
    refine (below_any S.out.drw 20 (by omega)).mono ?_
    rintro e w7 ⟨y, rfl, hy, _, h7, g7⟩
    have S7 := hide1 (S.out.draw h7 g7)
    clear S hy h7 g7
    by_cases y0 : y = 0
    · subst y0
      go_wp2_with fail
      have hlt := S7.out.drw.lt
      refine (pickInt_any (S7.out.drw.later ((Below.refl _ _).alloc (Nat.le_refl _) _)) w7.heap.size 2 2 (by omega) (by omega) (by omega) (fun j => kL0.getD j 0) (fun j hj => ?_) (by rw [World.size_alloc]; omega)).mono ?_
      · rw [World.cell?_alloc_at _ _ _ _ rfl]
        match j, hj with
        | 0, _ => rfl
        | 1, _ => rfl
      · rintro e w8 ⟨j, rfl, h8, g8⟩
        have S8 := hide1 ((S7.out.later ((Below.refl _ _).alloc (Nat.le_refl _) _)).draw h8 g8)
        generalize kL0.getD j 0 = q at *
        clear S7 h8 g8
        obtain ⟨⟨p0, p1, p2, p3, p4, p5⟩, fx⟩ := S8.out.cells
        obtain ⟨⟨z0, z1, z2, z3, z4, z5⟩, fz⟩ := S8.out.zeros
        dsimp only at p0 p1 p2 p3 p4 p5
        have S9 := hide1 (S8.out.put (m' := ⟨q, 1 + (x2 : Int), 1 + (x3 : Int), 1 + (x4 : Int), 0, ⟨#[]⟩⟩) 0 (.int .i64 q) rfl S8.out.sz)
        clear S8
        have SF := hide1 S9.out.done
        have SZ := hide1 S9.out.sz
        go_wp2
        refine bodyPost_ret (results_cell_row Try.results33 _ _ w.heap.size 29 (ntC ⟨q, 1 + (x2 : Int), 1 + (x3 : Int), 1 + (x4 : Int), 0, ⟨#[]⟩⟩).toArray (0, 0) _ rfl SF.out.1 Try.underlying29 rfl (by kernel_rfl)) rfl ?_
        exact ⟨⟨q, 1 + (x2 : Int), 1 + (x3 : Int), 1 + (x4 : Int), 0, ⟨#[]⟩⟩, rfl, SZ.out, SF.out.2.1, SF.out.2.2⟩
    by_cases y1 : y = 1
    · subst y1
      go_wp2_with fail
      have hlt := S7.out.drw.lt
      refine (pickInt_any (S7.out.drw.later ((Below.refl _ _).alloc (Nat.le_refl _) _)) w7.heap.size 4 4 (by omega) (by omega) (by omega) (fun j => kL1.getD j 0) (fun j hj => ?_) (by rw [World.size_alloc]; omega)).mono ?_
      · rw [World.cell?_alloc_at _ _ _ _ rfl]
        match j, hj with
        | 0, _ => rfl
        | 1, _ => rfl
        | 2, _ => rfl
        | 3, _ => rfl
      · rintro e w8 ⟨j, rfl, h8, g8⟩
        have S8 := hide1 ((S7.out.later ((Below.refl _ _).alloc (Nat.le_refl _) _)).draw h8 g8)
        generalize kL1.getD j 0 = q at *
        clear S7 h8 g8
        obtain ⟨⟨p0, p1, p2, p3, p4, p5⟩, fx⟩ := S8.out.cells
        obtain ⟨⟨z0, z1, z2, z3, z4, z5⟩, fz⟩ := S8.out.zeros
        dsimp only at p0 p1 p2 p3 p4 p5
        have S9 := hide1 (S8.out.put (m' := ⟨1, 1 + (x2 : Int), 1 + (x3 : Int), q, 0, ⟨#[]⟩⟩) 3 (.int .i64 q) rfl S8.out.sz)
        clear S8
        have SF := hide1 S9.out.done
        have SZ := hide1 S9.out.sz
        go_wp2
        refine bodyPost_ret (results_cell_row Try.results33 _ _ w.heap.size 29 (ntC ⟨1, 1 + (x2 : Int), 1 + (x3 : Int), q, 0, ⟨#[]⟩⟩).toArray (0, 0) _ rfl SF.out.1 Try.underlying29 rfl (by kernel_rfl)) rfl ?_
        exact ⟨⟨1, 1 + (x2 : Int), 1 + (x3 : Int), q, 0, ⟨#[]⟩⟩, rfl, SZ.out, SF.out.2.1, SF.out.2.2⟩
    by_cases y2 : y = 2
    · subst y2
      go_wp2_with fail
      refine (below_any S7.out.drw 2 (by omega)).mono ?_
      rintro e w8 ⟨u, rfl, hu, _, h8, g8⟩
      have hu2 : u < 2 := by have := hu (by omega); omega
      have S8 := hide1 (S7.out.draw h8 g8)
      clear S7 hu h8 g8
      go_wp2_with fail
      refine (longB_any u hu2 w8).mono ?_
      rintro e w9 ⟨z, rfl, hz, hb9⟩
      have S9 := hide1 (S8.out.later hb9)
      clear S8 hb9
      obtain ⟨⟨p0, p1, p2, p3, p4, p5⟩, fx⟩ := S9.out.cells
      obtain ⟨⟨z0, z1, z2, z3, z4, z5⟩, fz⟩ := S9.out.zeros
      dsimp only at p0 p1 p2 p3 p4 p5
      have SX := hide1 (S9.out.put (m' := ⟨1, 1 + (x2 : Int), 1 + (x3 : Int), 1 + (x4 : Int), 0, z⟩) 5 (.string z) rfl hz)
      clear S9
      have SF := hide1 SX.out.done
      have SZ := hide1 SX.out.sz
      go_wp2
      refine bodyPost_ret (results_cell_row Try.results33 _ _ w.heap.size 29 (ntC ⟨1, 1 + (x2 : Int), 1 + (x3 : Int), 1 + (x4 : Int), 0, z⟩).toArray (0, 0) _ rfl SF.out.1 Try.underlying29 rfl (by kernel_rfl)) rfl ?_
      exact ⟨⟨1, 1 + (x2 : Int), 1 + (x3 : Int), 1 + (x4 : Int), 0, z⟩, rfl, SZ.out, SF.out.2.1, SF.out.2.2⟩
    have q0 : ((y : Int) == 0) = false := by rw [beq_eq_false_iff_ne]; omega
    have q1 : ((y : Int) == 1) = false := by rw [beq_eq_false_iff_ne]; omega
    have q2 : ((y : Int) == 2) = false := by rw [beq_eq_false_iff_ne]; omega
    obtain ⟨⟨p0, p1, p2, p3, p4, p5⟩, fx⟩ := S7.out.cells
    obtain ⟨⟨z0, z1, z2, z3, z4, z5⟩, fz⟩ := S7.out.zeros
    dsimp only at p0 p1 p2 p3 p4 p5
    have SF := hide1 S7.out.done
    have SZ := hide1 S7.out.sz
    go_wp2
    refine bodyPost_ret (results_cell_row Try.results33 _ _ w.heap.size 29 (ntC ⟨1, 1 + (x2 : Int), 1 + (x3 : Int), 1 + (x4 : Int), 0, ⟨#[]⟩⟩).toArray (0, 0) _ rfl SF.out.1 Try.underlying29 rfl (by kernel_rfl)) rfl ?_
    exact ⟨⟨1, 1 + (x2 : Int), 1 + (x3 : Int), 1 + (x4 : Int), 0, ⟨#[]⟩⟩, rfl, SZ.out, SF.out.2.1, SF.out.2.2⟩
  by_cases e1 : x1 = 1
  · subst e1
    have S := hide1 (S0.out 2)
    clear S0
    go_wp2_with fail
    refine (once_any S.out.drw 2 (by omega)).mono ?_
    rintro e w5 ⟨b5, rfl, h5, g5⟩
    have S5 := hide1 (S.out.draw h5 g5)
    clear S h5 g5
    cases b5 with
    | false =>
      go_wp2_with fail
      refine (below_any S5.out.drw 20 (by omega)).mono ?_
      rintro e w7 ⟨y, rfl, hy, _, h7, g7⟩
      have S7 := hide1 (S5.out.draw h7 g7)
      clear S5 hy h7 g7
      by_cases y0 : y = 0
      · subst y0
        go_wp2_with fail
        have hlt := S7.out.drw.lt
        refine (pickInt_any (S7.out.drw.later ((Below.refl _ _).alloc (Nat.le_refl _) _)) w7.heap.size 2 2 (by omega) (by omega) (by omega) (fun j => kL0.getD j 0) (fun j hj => ?_) (by rw [World.size_alloc]; omega)).mono ?_
        · rw [World.cell?_alloc_at _ _ _ _ rfl]
          match j, hj with
          | 0, _ => rfl
          | 1, _ => rfl
        · rintro e w8 ⟨j, rfl, h8, g8⟩
          have S8 := hide1 ((S7.out.later ((Below.refl _ _).alloc (Nat.le_refl _) _)).draw h8 g8)
          generalize kL0.getD j 0 = q at *
          clear S7 h8 g8
          obtain ⟨⟨p0, p1, p2, p3, p4, p5⟩, fx⟩ := S8.out.cells
          obtain ⟨⟨z0, z1, z2, z3, z4, z5⟩, fz⟩ := S8.out.zeros
          dsimp only at p0 p1 p2 p3 p4 p5
          have S9 := hide1 (S8.out.put (m' := ⟨q, 1 + (x2 : Int), 1 + (x3 : Int), 1 + (x4 : Int), 0, ⟨#[]⟩⟩) 0 (.int .i64 q) rfl S8.out.sz)
          clear S8
          have SF := hide1 S9.out.done
          have SZ := hide1 S9.out.sz
          go_wp2
          refine bodyPost_ret (results_cell_row Try.results33 _ _ w.heap.size 29 (ntC ⟨q, 1 + (x2 : Int), 1 + (x3 : Int), 1 + (x4 : Int), 0, ⟨#[]⟩⟩).toArray (0, 0) _ rfl SF.out.1 Try.underlying29 rfl (by kernel_rfl)) rfl ?_
          exact ⟨⟨q, 1 + (x2 : Int), 1 + (x3 : Int), 1 + (x4 : Int), 0, ⟨#[]⟩⟩, rfl, SZ.out, SF.out.2.1, SF.out.2.2⟩
      by_cases y1 : y = 1
      · subst y1
        go_wp2_with fail
        have hlt := S7.out.drw.lt
        refine (pickInt_any (S7.out.drw.later ((Below.refl _ _).alloc (Nat.le_refl _) _)) w7.heap.size 4 4 (by omega) (by omega) (by omega) (fun j => kL1.getD j 0) (fun j hj => ?_) (by rw [World.size_alloc]; omega)).mono ?_
        · rw [World.cell?_alloc_at _ _ _ _ rfl]
          match j, hj with
          | 0, _ => rfl
          | 1, _ => rfl
          | 2, _ => rfl
          | 3, _ => rfl
        · rintro e w8 ⟨j, rfl, h8, g8⟩
          have S8 := hide1 ((S7.out.later ((Below.refl _ _).alloc (Nat.le_refl _) _)).draw h8 g8)
          generalize kL1.getD j 0 = q at *
          clear S7 h8 g8
          obtain ⟨⟨p0, p1, p2, p3, p4, p5⟩, fx⟩ := S8.out.cells
          obtain ⟨⟨z0, z1, z2, z3, z4, z5⟩, fz⟩ := S8.out.zeros
          dsimp only at p0 p1 p2 p3 p4 p5
          have S9 := hide1 (S8.out.put (m' := ⟨2, 1 + (x2 : Int), 1 + (x3 : Int), q, 0, ⟨#[]⟩⟩) 3 (.int .i64 q) rfl S8.out.sz)
          clear S8
          have SF := hide1 S9.out.done
          have SZ := hide1 S9.out.sz
          go_wp2
          refine bodyPost_ret (results_cell_row Try.results33 _ _ w.heap.size 29 (ntC ⟨2, 1 + (x2 : Int), 1 + (x3 : Int), q, 0, ⟨#[]⟩⟩).toArray (0, 0) _ rfl SF.out.1 Try.underlying29 rfl (by kernel_rfl)) rfl ?_
          exact ⟨⟨2, 1 + (x2 : Int), 1 + (x3 : Int), q, 0, ⟨#[]⟩⟩, rfl, SZ.out, SF.out.2.1, SF.out.2.2⟩
      by_cases y2 : y = 2
      · subst y2
        go_wp2_with fail
        refine (below_any S7.out.drw 2 (by omega)).mono ?_
        rintro e w8 ⟨u, rfl, hu, _, h8, g8⟩
        have hu2 : u < 2 := by have := hu (by omega); omega
        have S8 := hide1 (S7.out.draw h8 g8)
        clear S7 hu h8 g8
        go_wp2_with fail
        refine (longB_any u hu2 w8).mono ?_
        rintro e w9 ⟨z, rfl, hz, hb9⟩
        have S9 := hide1 (S8.out.later hb9)
        clear S8 hb9
        obtain ⟨⟨p0, p1, p2, p3, p4, p5⟩, fx⟩ := S9.out.cells
        obtain ⟨⟨z0, z1, z2, z3, z4, z5⟩, fz⟩ := S9.out.zeros
        dsimp only at p0 p1 p2 p3 p4 p5
        have SX := hide1 (S9.out.put (m' := ⟨2, 1 + (x2 : Int), 1 + (x3 : Int), 1 + (x4 : Int), 0, z⟩) 5 (.string z) rfl hz)
        clear S9
        have SF := hide1 SX.out.done
        have SZ := hide1 SX.out.sz
        go_wp2
        refine bodyPost_ret (results_cell_row Try.results33 _ _ w.heap.size 29 (ntC ⟨2, 1 + (x2 : Int), 1 + (x3 : Int), 1 + (x4 : Int), 0, z⟩).toArray (0, 0) _ rfl SF.out.1 Try.underlying29 rfl (by kernel_rfl)) rfl ?_
        exact ⟨⟨2, 1 + (x2 : Int), 1 + (x3 : Int), 1 + (x4 : Int), 0, z⟩, rfl, SZ.out, SF.out.2.1, SF.out.2.2⟩
      have q0 : ((y : Int) == 0) = false := by rw [beq_eq_false_iff_ne]; omega
      have q1 : ((y : Int) == 1) = false := by rw [beq_eq_false_iff_ne]; omega
      have q2 : ((y : Int) == 2) = false := by rw [beq_eq_false_iff_ne]; omega
      obtain ⟨⟨p0, p1, p2, p3, p4, p5⟩, fx⟩ := S7.out.cells
      obtain ⟨⟨z0, z1, z2, z3, z4, z5⟩, fz⟩ := S7.out.zeros
      dsimp only at p0 p1 p2 p3 p4 p5
      have SF := hide1 S7.out.done
      have SZ := hide1 S7.out.sz
      go_wp2
      refine bodyPost_ret (results_cell_row Try.results33 _ _ w.heap.size 29 (ntC ⟨2, 1 + (x2 : Int), 1 + (x3 : Int), 1 + (x4 : Int), 0, ⟨#[]⟩⟩).toArray (0, 0) _ rfl SF.out.1 Try.underlying29 rfl (by kernel_rfl)) rfl ?_
      exact ⟨⟨2, 1 + (x2 : Int), 1 + (x3 : Int), 1 + (x4 : Int), 0, ⟨#[]⟩⟩, rfl, SZ.out, SF.out.2.1, SF.out.2.2⟩
    | true =>
      go_wp2_with fail
      refine (below_any S5.out.drw 20 (by omega)).mono ?_
      rintro e w6 ⟨t, rfl, ht, _, h6, g6⟩
      have ht2 : t < 20 := by have := ht (by omega); omega
      have S6 := hide1 (S5.out.draw h6 g6)
      clear S5 ht h6 g6
      obtain ⟨⟨p0, p1, p2, p3, p4, p5⟩, fx⟩ := S6.out.cells
      obtain ⟨⟨z0, z1, z2, z3, z4, z5⟩, fz⟩ := S6.out.zeros
      dsimp only at p0 p1 p2 p3 p4 p5
      have S6b := hide1 (S6.out.put (m' := ⟨2, 1 + (x2 : Int), 1 + (x3 : Int), 1 + (x4 : Int), 1 + (t : Int), ⟨#[]⟩⟩) 4 (.int .i64 (1 + (t : Int))) rfl S6.out.sz)
      clear S6
      go_wp2_with fail
      refine (valueB_any S6b.out.drw).mono ?_
      rintro e w6c ⟨v, rfl, hv, h6c, g6c⟩
      have S6c := hide1 (S6b.out.draw h6c g6c)
      clear S6b h6c g6c p0 p1 p2 p3 p4 p5 fx z0 z1 z2 z3 z4 z5 fz
      obtain ⟨⟨p0, p1, p2, p3, p4, p5⟩, fx⟩ := S6c.out.cells
      obtain ⟨⟨z0, z1, z2, z3, z4, z5⟩, fz⟩ := S6c.out.zeros
      dsimp only at p0 p1 p2 p3 p4 p5
      have S := hide1 (S6c.out.put (m' := ⟨2, 1 + (x2 : Int), 1 + (x3 : Int), 1 + (x4 : Int), 1 + (t : Int), v⟩) 5 (.string v) rfl hv)
      clear S6c
      go_wp2_with fail
      refine (below_any S.out.drw 20 (by omega)).mono ?_
      rintro e w7 ⟨y, rfl, hy, _, h7, g7⟩
      have S7 := hide1 (S.out.draw h7 g7)
      clear S hy h7 g7
      by_cases y0 : y = 0
      · subst y0
        go_wp2_with fail
        have hlt := S7.out.drw.lt
        refine (pickInt_any (S7.out.drw.later ((Below.refl _ _).alloc (Nat.le_refl _) _)) w7.heap.size 2 2 (by omega) (by omega) (by omega) (fun j => kL0.getD j 0) (fun j hj => ?_) (by rw [World.size_alloc]; omega)).mono ?_
        · rw [World.cell?_alloc_at _ _ _ _ rfl]
          match j, hj with
          | 0, _ => rfl
          | 1, _ => rfl
        · rintro e w8 ⟨j, rfl, h8, g8⟩
          have S8 := hide1 ((S7.out.later ((Below.refl _ _).alloc (Nat.le_refl _) _)).draw h8 g8)
          generalize kL0.getD j 0 = q at *
          clear S7 h8 g8
          obtain ⟨⟨p0, p1, p2, p3, p4, p5⟩, fx⟩ := S8.out.cells
          obtain ⟨⟨z0, z1, z2, z3, z4, z5⟩, fz⟩ := S8.out.zeros
          dsimp only at p0 p1 p2 p3 p4 p5
          have S9 := hide1 (S8.out.put (m' := ⟨q, 1 + (x2 : Int), 1 + (x3 : Int), 1 + (x4 : Int), 1 + (t : Int), v⟩) 0 (.int .i64 q) rfl S8.out.sz)
          clear S8
          have SF := hide1 S9.out.done
          have SZ := hide1 S9.out.sz
          go_wp2
          refine bodyPost_ret (results_cell_row Try.results33 _ _ w.heap.size 29 (ntC ⟨q, 1 + (x2 : Int), 1 + (x3 : Int), 1 + (x4 : Int), 1 + (t : Int), v⟩).toArray (0, 0) _ rfl SF.out.1 Try.underlying29 rfl (by kernel_rfl)) rfl ?_
          exact ⟨⟨q, 1 + (x2 : Int), 1 + (x3 : Int), 1 + (x4 : Int), 1 + (t : Int), v⟩, rfl, SZ.out, SF.out.2.1, SF.out.2.2⟩
      by_cases y1 : y = 1
      · subst y1
        go_wp2_with fail
        have hlt := S7.out.drw.lt
        refine (pickInt_any (S7.out.drw.later ((Below.refl _ _).alloc (Nat.le_refl _) _)) w7.heap.size 4 4 (by omega) (by omega) (by omega) (fun j => kL1.getD j 0) (fun j hj => ?_) (by rw [World.size_alloc]; omega)).mono ?_
        · rw [World.cell?_alloc_at _ _ _ _ rfl]
          match j, hj with
          | 0, _ => rfl
          | 1, _ => rfl
          | 2, _ => rfl
          | 3, _ => rfl
        · rintro e w8 ⟨j, rfl, h8, g8⟩
          have S8 := hide1 ((S7.out.later ((Below.refl _ _).alloc (Nat.le_refl _) _)).draw h8 g8)
          generalize kL1.getD j 0 = q at *
          clear S7 h8 g8
          obtain ⟨⟨p0, p1, p2, p3, p4, p5⟩, fx⟩ := S8.out.cells
          obtain ⟨⟨z0, z1, z2, z3, z4, z5⟩, fz⟩ := S8.out.zeros
          dsimp only at p0 p1 p2 p3 p4 p5
          have S9 := hide1 (S8.out.put (m' := ⟨2, 1 + (x2 : Int), 1 + (x3 : Int), q, 1 + (t : Int), v⟩) 3 (.int .i64 q) rfl S8.out.sz)
          clear S8
          have SF := hide1 S9.out.done
          have SZ := hide1 S9.out.sz
          go_wp2
          refine bodyPost_ret (results_cell_row Try.results33 _ _ w.heap.size 29 (ntC ⟨2, 1 + (x2 : Int), 1 + (x3 : Int), q, 1 + (t : Int), v⟩).toArray (0, 0) _ rfl SF.out.1 Try.underlying29 rfl (by kernel_rfl)) rfl ?_
          exact ⟨⟨2, 1 + (x2 : Int), 1 + (x3 : Int), q, 1 + (t : Int), v⟩, rfl, SZ.out, SF.out.2.1, SF.out.2.2⟩
      by_cases y2 : y = 2
      · subst y2
        go_wp2_with fail
        refine (below_any S7.out.drw 2 (by omega)).mono ?_
        rintro e w8 ⟨u, rfl, hu, _, h8, g8⟩
        have hu2 : u < 2 := by have := hu (by omega); omega
        have S8 := hide1 (S7.out.draw h8 g8)
        clear S7 hu h8 g8
        go_wp2_with fail
        refine (longB_any u hu2 w8).mono ?_
        rintro e w9 ⟨z, rfl, hz, hb9⟩
        have S9 := hide1 (S8.out.later hb9)
        clear S8 hb9
        obtain ⟨⟨p0, p1, p2, p3, p4, p5⟩, fx⟩ := S9.out.cells
        obtain ⟨⟨z0, z1, z2, z3, z4, z5⟩, fz⟩ := S9.out.zeros
        dsimp only at p0 p1 p2 p3 p4 p5
        have SX := hide1 (S9.out.put (m' := ⟨2, 1 + (x2 : Int), 1 + (x3 : Int), 1 + (x4 : Int), 1 + (t : Int), z⟩) 5 (.string z) rfl hz)
        clear S9
        have SF := hide1 SX.out.done
        have SZ := hide1 SX.out.sz
        go_wp2
        refine bodyPost_ret (results_cell_row Try.results33 _ _ w.heap.size 29 (ntC ⟨2, 1 + (x2 : Int), 1 + (x3 : Int), 1 + (x4 : Int), 1 + (t : Int), z⟩).toArray (0, 0) _ rfl SF.out.1 Try.underlying29 rfl (by kernel_rfl)) rfl ?_
        exact ⟨⟨2, 1 + (x2 : Int), 1 + (x3 : Int), 1 + (x4 : Int), 1 + (t : Int), z⟩, rfl, SZ.out, SF.out.2.1, SF.out.2.2⟩
      have q0 : ((y : Int) == 0) = false := by rw [beq_eq_false_iff_ne]; omega
      have q1 : ((y : Int) == 1) = false := by rw [beq_eq_false_iff_ne]; omega
      have q2 : ((y : Int) == 2) = false := by rw [beq_eq_false_iff_ne]; omega
      obtain ⟨⟨p0, p1, p2, p3, p4, p5⟩, fx⟩ := S7.out.cells
      obtain ⟨⟨z0, z1, z2, z3, z4, z5⟩, fz⟩ := S7.out.zeros
      dsimp only at p0 p1 p2 p3 p4 p5
      have SF := hide1 S7.out.done
      have SZ := hide1 S7.out.sz
      go_wp2
      refine bodyPost_ret (results_cell_row Try.results33 _ _ w.heap.size 29 (ntC ⟨2, 1 + (x2 : Int), 1 + (x3 : Int), 1 + (x4 : Int), 1 + (t : Int), v⟩).toArray (0, 0) _ rfl SF.out.1 Try.underlying29 rfl (by kernel_rfl)) rfl ?_
      exact ⟨⟨2, 1 + (x2 : Int), 1 + (x3 : Int), 1 + (x4 : Int), 1 + (t : Int), v⟩, rfl, SZ.out, SF.out.2.1, SF.out.2.2⟩
  have k1 : ((1 + (x1 : Int)) == 2) = false := by rw [beq_eq_false_iff_ne]; omega
  have k2 : decide ((3 : Int) ≤ 1 + (x1 : Int)) = true := by simp; omega
  have S4 := hide1 (S0.out (1 + (x1 : Int)))
  clear S0
  go_wp2_with fail
  refine (valueB_any S4.out.drw).mono ?_
  rintro e w5 ⟨v, rfl, hv, h5, g5⟩
  have S5 := hide1 (S4.out.draw h5 g5)
  clear S4 h5 g5
  obtain ⟨⟨p0, p1, p2, p3, p4, p5⟩, fx⟩ := S5.out.cells
  obtain ⟨⟨z0, z1, z2, z3, z4, z5⟩, fz⟩ := S5.out.zeros
  dsimp only at p0 p1 p2 p3 p4 p5
  have S := hide1 (S5.out.put (m' := ⟨1 + (x1 : Int), 1 + (x2 : Int), 1 + (x3 : Int), 1 + (x4 : Int), 0, v⟩) 5 (.string v) rfl hv)
  clear S5
  go_wp2_with fail
  refine (below_any S.out.drw 20 (by omega)).mono ?_
  rintro e w7 ⟨y, rfl, hy, _, h7, g7⟩
  have S7 := hide1 (S.out.draw h7 g7)
  clear S hy h7 g7
  by_cases y0 : y = 0
  · subst y0
    go_wp2_with fail
    have hlt := S7.out.drw.lt
    refine (pickInt_any (S7.out.drw.later ((Below.refl _ _).alloc (Nat.le_refl _) _)) w7.heap.size 2 2 (by omega) (by omega) (by omega) (fun j => kL0.getD j 0) (fun j hj => ?_) (by rw [World.size_alloc]; omega)).mono ?_
    · rw [World.cell?_alloc_at _ _ _ _ rfl]
      match j, hj with
      | 0, _ => rfl
      | 1, _ => rfl
    · rintro e w8 ⟨j, rfl, h8, g8⟩
      have S8 := hide1 ((S7.out.later ((Below.refl _ _).alloc (Nat.le_refl _) _)).draw h8 g8)
      generalize kL0.getD j 0 = q at *
      clear S7 h8 g8
      obtain ⟨⟨p0, p1, p2, p3, p4, p5⟩, fx⟩ := S8.out.cells
      obtain ⟨⟨z0, z1, z2, z3, z4, z5⟩, fz⟩ := S8.out.zeros
      dsimp only at p0 p1 p2 p3 p4 p5
      have S9 := hide1 (S8.out.put (m' := ⟨q, 1 + (x2 : Int), 1 + (x3 : Int), 1 + (x4 : Int), 0, v⟩) 0 (.int .i64 q) rfl S8.out.sz)
      clear S8
      have SF := hide1 S9.out.done
      have SZ := hide1 S9.out.sz
      go_wp2
      refine bodyPost_ret (results_cell_row Try.results33 _ _ w.heap.size 29 (ntC ⟨q, 1 + (x2 : Int), 1 + (x3 : Int), 1 + (x4 : Int), 0, v⟩).toArray (0, 0) _ rfl SF.out.1 Try.underlying29 rfl (by kernel_rfl)) rfl ?_
      exact ⟨⟨q, 1 + (x2 : Int), 1 + (x3 : Int), 1 + (x4 : Int), 0, v⟩, rfl, SZ.out, SF.out.2.1, SF.out.2.2⟩
  by_cases y1 : y = 1
  · subst y1
    go_wp2_with fail
    have hlt := S7.out.drw.lt
    refine (pickInt_any (S7.out.drw.later ((Below.refl _ _).alloc (Nat.le_refl _) _)) w7.heap.size 4 4 (by omega) (by omega) (by omega) (fun j => kL1.getD j 0) (fun j hj => ?_) (by rw [World.size_alloc]; omega)).mono ?_
    · rw [World.cell?_alloc_at _ _ _ _ rfl]
      match j, hj with
      | 0, _ => rfl
      | 1, _ => rfl
      | 2, _ => rfl
      | 3, _ => rfl
    · rintro e w8 ⟨j, rfl, h8, g8⟩
      have S8 := hide1 ((S7.out.later ((Below.refl _ _).alloc (Nat.le_refl _) _)).draw h8 g8)
      generalize kL1.getD j 0 = q at *
      clear S7 h8 g8
      obtain ⟨⟨p0, p1, p2, p3, p4, p5⟩, fx⟩ := S8.out.cells
      obtain ⟨⟨z0, z1, z2, z3, z4, z5⟩, fz⟩ := S8.out.zeros
      dsimp only at p0 p1 p2 p3 p4 p5
      have S9 := hide1 (S8.out.put (m' := ⟨1 + (x1 : Int), 1 + (x2 : Int), 1 + (x3 : Int), q, 0, v⟩) 3 (.int .i64 q) rfl S8.out.sz)
      clear S8
      have SF := hide1 S9.out.done
      have SZ := hide1 S9.out.sz
      go_wp2
      refine bodyPost_ret (results_cell_row Try.results33 _ _ w.heap.size 29 (ntC ⟨1 + (x1 : Int), 1 + (x2 : Int), 1 + (x3 : Int), q, 0, v⟩).toArray (0, 0) _ rfl SF.out.1 Try.underlying29 rfl (by kernel_rfl)) rfl ?_
      exact ⟨⟨1 + (x1 : Int), 1 + (x2 : Int), 1 + (x3 : Int), q, 0, v⟩, rfl, SZ.out, SF.out.2.1, SF.out.2.2⟩
  by_cases y2 : y = 2
  · subst y2
    go_wp2_with fail
    refine (below_any S7.out.drw 2 (by omega)).mono ?_
    rintro e w8 ⟨u, rfl, hu, _, h8, g8⟩
    have hu2 : u < 2 := by have := hu (by omega); omega
    have S8 := hide1 (S7.out.draw h8 g8)
    clear S7 hu h8 g8
    go_wp2_with fail
    refine (longB_any u hu2 w8).mono ?_
    rintro e w9 ⟨z, rfl, hz, hb9⟩
    have S9 := hide1 (S8.out.later hb9)
    clear S8 hb9
    obtain ⟨⟨p0, p1, p2, p3, p4, p5⟩, fx⟩ := S9.out.cells
    obtain ⟨⟨z0, z1, z2, z3, z4, z5⟩, fz⟩ := S9.out.zeros
    dsimp only at p0 p1 p2 p3 p4 p5
    have SX := hide1 (S9.out.put (m' := ⟨1 + (x1 : Int), 1 + (x2 : Int), 1 + (x3 : Int), 1 + (x4 : Int), 0, z⟩) 5 (.string z) rfl hz)
    clear S9
    have SF := hide1 SX.out.done
    have SZ := hide1 SX.out.sz
    go_wp2
    refine bodyPost_ret (results_cell_row Try.results33 _ _ w.heap.size 29 (ntC ⟨1 + (x1 : Int), 1 + (x2 : Int), 1 + (x3 : Int), 1 + (x4 : Int), 0, z⟩).toArray (0, 0) _ rfl SF.out.1 Try.underlying29 rfl (by kernel_rfl)) rfl ?_
    exact ⟨⟨1 + (x1 : Int), 1 + (x2 : Int), 1 + (x3 : Int), 1 + (x4 : Int), 0, z⟩, rfl, SZ.out, SF.out.2.1, SF.out.2.2⟩
  have q0 : ((y : Int) == 0) = false := by rw [beq_eq_false_iff_ne]; omega
  have q1 : ((y : Int) == 1) = false := by rw [beq_eq_false_iff_ne]; omega
  have q2 : ((y : Int) == 2) = false := by rw [beq_eq_false_iff_ne]; omega
  obtain ⟨⟨p0, p1, p2, p3, p4, p5⟩, fx⟩ := S7.out.cells
  obtain ⟨⟨z0, z1, z2, z3, z4, z5⟩, fz⟩ := S7.out.zeros
  dsimp only at p0 p1 p2 p3 p4 p5
  have SF := hide1 S7.out.done
  have SZ := hide1 S7.out.sz
  go_wp2
  refine bodyPost_ret (results_cell_row Try.results33 _ _ w.heap.size 29 (ntC ⟨1 + (x1 : Int), 1 + (x2 : Int), 1 + (x3 : Int), 1 + (x4 : Int), 0, v⟩).toArray (0, 0) _ rfl SF.out.1 Try.underlying29 rfl (by kernel_rfl)) rfl ?_
  exact ⟨⟨1 + (x1 : Int), 1 + (x2 : Int), 1 + (x3 : Int), 1 + (x4 : Int), 0, v⟩, rfl, SZ.out, SF.out.2.1, SF.out.2.2⟩
end Go.Proofs.Ytppmnniokpbnkaa
