/- A drawn note. -/
import Derived.Test.YtgehdgmllilmgaaBaD
namespace Go.Proofs.Ytgehdgmllilmgaa
open Go.RowKit
set_option linter.unusedVariables false

/-- What the draw of a note holds: the answer's box, the note in block A, the cursor. -/
structure StM (B g A : Nat) (w wr : World) (a : Option Addr) (len cap : Nat) (m : Nt) : Prop where
  sz : m.v.size ≤ 41
  var : Blk wr A 111 (ntC m)
  res : Blk wr w.heap.size 111 (ntC zN)
  drw : Drw B wr a len cap g
  grown : w.grownBy wr (some g)
  hg : g < w.heap.size
  hA : w.heap.size < A
theorem growM {w w1 w2 : World} {r : Option Nat} (h : w.grownBy w1 r) (k : w1.grownBy w2 r) : w.grownBy w2 r := h.trans k
theorem blkM {w w' : World} {r g : Nat} {t : TypeId} {cs : List Value} (h : Blk w r t cs) (hg : w.grownBy w' (some g)) (hne : r ≠ g) : Blk w' r t cs := (hg.block r h.lt (fun e => hne (by simpa using e))).trans h
theorem StM.draw {B g A : Nat} {w wr w2 : World} {a : Option Addr} {len cap : Nat} {m : Nt} (h : StM B g A w wr a len cap m) (hd : Drw B w2 a len cap g) (hg : wr.grownBy w2 (some g)) : StM B g A w w2 a len cap m :=
  ⟨h.sz, blkM h.var hg (by have := h.hg; have := h.hA; omega), blkM h.res hg (by have := h.hg; omega), hd, growM h.grown hg, h.hg, h.hA⟩
theorem StM.later {B g A : Nat} {w wr w2 : World} {a : Option Addr} {len cap : Nat} {m : Nt} (h : StM B g A w wr a len cap m) (hb : Below wr.heap.size wr w2) : StM B g A w w2 a len cap m :=
  ⟨h.sz, h.var.below hb h.var.lt, h.res.below hb h.res.lt, h.drw.later hb, growM h.grown (grow_new hb), h.hg, h.hA⟩
/-- A field is set. -/
theorem StM.put {B g A : Nat} {w wr : World} {a : Option Addr} {len cap : Nat} {m m' : Nt} (h : StM B g A w wr a len cap m) (j : Nat) (v : Value) (he : (ntC m).set j v = ntC m') (hs : m'.v.size ≤ 41) : StM B g A w (wr.setCell ⟨A, j, none⟩ v) a len cap m' := by
  have hgA : g < A := Nat.lt_trans h.hg h.hA
  have hA := h.hA
  have hb : Below A wr (wr.setCell ⟨A, j, none⟩ v) := (Below.refl _ _).setCell (p := ⟨A, j, none⟩) (Nat.le_refl _) _
  refine ⟨hs, by rw [← he]; exact h.var.set j v, h.res.far _ _ (by dsimp only; omega), h.drw.keep hb (Nat.le_trans h.drw.cur.1 (Nat.le_of_lt hgA)) hgA, ?_, h.hg, h.hA⟩
  have g1 := h.grown
  refine ⟨g1.os, g1.tape, g1.output, by have := g1.size; simpa [World.setCell] using this, fun k hk hne => ?_⟩
  rw [Below.heap_setCell _ _ _ _ (by dsimp only; omega)]
  exact g1.block k hk hne
theorem StM.cells {B g A : Nat} {w wr : World} {a : Option Addr} {len cap : Nat} {m : Nt} (h : StM B g A w wr a len cap m) :
    (wr.cell? ⟨A, 0, none⟩ = some (.int .i64 m.k) ∧ wr.cell? ⟨A, 1, none⟩ = some (.int .i64 m.f) ∧ wr.cell? ⟨A, 2, none⟩ = some (.int .i64 m.o) ∧ wr.cell? ⟨A, 3, none⟩ = some (.int .i64 m.b) ∧ wr.cell? ⟨A, 4, none⟩ = some (.int .i64 m.t) ∧ wr.cell? ⟨A, 5, none⟩ = some (.string m.v)) ∧ ∀ j, wr.frozen? ⟨A, j, none⟩ = false :=
  ⟨⟨h.var.cell 0, h.var.cell 1, h.var.cell 2, h.var.cell 3, h.var.cell 4, h.var.cell 5⟩, fun j => h.var.froz j⟩
theorem StM.zeros {B g A : Nat} {w wr : World} {a : Option Addr} {len cap : Nat} {m : Nt} (h : StM B g A w wr a len cap m) :
    (wr.cell? ⟨w.heap.size, 0, none⟩ = some (.int .i64 0) ∧ wr.cell? ⟨w.heap.size, 1, none⟩ = some (.int .i64 0) ∧ wr.cell? ⟨w.heap.size, 2, none⟩ = some (.int .i64 0) ∧ wr.cell? ⟨w.heap.size, 3, none⟩ = some (.int .i64 0) ∧ wr.cell? ⟨w.heap.size, 4, none⟩ = some (.int .i64 0) ∧ wr.cell? ⟨w.heap.size, 5, none⟩ = some (.string ⟨#[]⟩)) ∧ ∀ j, wr.frozen? ⟨w.heap.size, j, none⟩ = false :=
  ⟨⟨h.res.cell 0, h.res.cell 1, h.res.cell 2, h.res.cell 3, h.res.cell 4, h.res.cell 5⟩, fun j => h.res.froz j⟩

/-- The note is copied to the answer's box. -/
theorem StM.done {B g A : Nat} {w wr : World} {a : Option Addr} {len cap : Nat} {m : Nt} (h : StM B g A w wr a len cap m) :
    (putG wr w.heap.size 0 (ntC m)).heap[w.heap.size]? = some (.cells (ntC m).toArray 111 (0, 0)) ∧ Drw B (putG wr w.heap.size 0 (ntC m)) a len cap g ∧ w.grownBy (putG wr w.heap.size 0 (ntC m)) (some g) := by
  have hb : Below w.heap.size wr (putG wr w.heap.size 0 (ntC m)) := below_putG (ntC m) 0 (Below.refl _ _) (Nat.le_refl _)
  refine ⟨?_, h.drw.keep hb (Nat.le_trans h.drw.cur.1 (Nat.le_of_lt h.hg)) h.hg, ?_⟩
  · exact (((((h.res.set 0 (.int .i64 m.k)).set 1 (.int .i64 m.f)).set 2 (.int .i64 m.o)).set 3 (.int .i64 m.b)).set 4 (.int .i64 m.t)).set 5 (.string m.v)
  · have g1 := h.grown
    exact ⟨hb.os.trans g1.os, hb.tape.trans g1.tape, hb.output.trans g1.output, Nat.le_trans g1.size hb.size, fun k hk hne => (hb.block k hk).trans (g1.block k hk hne)⟩
def kL0 : List Int := [0, 5]
def kL1 : List Int := [0, -1, 10000, 10001]
-- NOTE
end Go.Proofs.Ytgehdgmllilmgaa
