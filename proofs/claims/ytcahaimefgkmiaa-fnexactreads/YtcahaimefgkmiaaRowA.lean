/- Structs of many cells, loaded and stored as a whole: their cells as one letter. -/
import Derived.Test.YtcahaimefgkmiaaRowG
import Derived.Laws.Rows
import Derived.Laws.Tables
import Derived.Deep.RegionHeld3
namespace Go.Proofs.Ytcahaimefgkmiaa
open Go.RowKit
set_option linter.unusedVariables false

/-- A block that holds these cells. -/
def BlkA (w : World) (g : Nat) (t : TypeId) (cs : Array Value) : Prop := w.heap[g]? = some (.cells cs t (0, 0))
theorem BlkA.lt {w : World} {g : Nat} {t : TypeId} {cs : Array Value} (h : BlkA w g t cs) : g < w.heap.size := by
  by_cases c : g < w.heap.size
  · exact c
  · unfold BlkA at h
    rw [Array.getElem?_eq_none (by omega)] at h
    simp at h
theorem BlkA.below {w w' : World} {g B : Nat} {t : TypeId} {cs : Array Value} (h : BlkA w g t cs) (hb : Below B w w') (hB : g < B) : BlkA w' g t cs := (hb.block g hB).trans h
theorem BlkA.new (w : World) (t : TypeId) (cs : Array Value) : BlkA (w.alloc (.cells cs t)) w.heap.size t cs := heap_alloc_last _ _
theorem BlkA.blk {w : World} {g : Nat} {t : TypeId} {cs : Array Value} (h : BlkA w g t cs) : Blk w g t cs.toList := by unfold Blk; simpa [BlkA] using h
theorem Blk.arr {w : World} {g : Nat} {t : TypeId} {cs : List Value} (h : Blk w g t cs) : BlkA w g t cs.toArray := h
theorem BlkA.cell {w : World} {g : Nat} {t : TypeId} {cs : Array Value} (h : BlkA w g t cs) (j : Nat) {v : Value} (hj : cs.toList[j]? = some v) : w.cell? ⟨g, j, none⟩ = some v := by
  have := (Blk.cell h.blk j)
  rw [hj] at this
  exact this
theorem BlkA.froz {w : World} {g : Nat} {t : TypeId} {cs : Array Value} (h : BlkA w g t cs) (j : Nat) : w.frozen? ⟨g, j, none⟩ = false := h.blk.froz j
theorem BlkA.setc {w : World} {g : Nat} {t : TypeId} {cs : Array Value} (h : BlkA w g t cs) (j : Nat) (u : Value) : BlkA (w.setCell ⟨g, j, none⟩ u) g t (cs.toList.set j u).toArray := (Blk.set h.blk j u).arr
theorem BlkA.far {w : World} {g g' : Nat} {t : TypeId} {cs : Array Value} (h : BlkA w g t cs) (j : Nat) (u : Value) (hn : g' ≠ g) : BlkA (w.setCell ⟨g', j, none⟩ u) g t cs := by
  have := (Blk.far h.blk ⟨g', j, none⟩ u (by dsimp only; omega)).arr
  simpa using this
theorem heap_alloc_two (w : World) (o p : Obj) : ((w.alloc o).alloc p).heap[w.heap.size + 1]? = some p := by
  have := heap_alloc_last (w.alloc o) p
  rwa [World.size_alloc] at this
theorem setRow_alloc_two (w : World) (o : Obj) (c c' : Array Value) (t : TypeId) : ((w.alloc o).alloc (.cells c t)).setRow (w.heap.size + 1) c' = (w.alloc o).alloc (.cells c' t) := by
  have := World.setRow_alloc_new (w.alloc o) c c' t
  rwa [World.size_alloc] at this
theorem two_newT (w : World) (t : TypeId) (cx cy : Array Value) : BlkA ((w.alloc (.cells cx t)).alloc (.cells cy t)) w.heap.size t cx ∧ BlkA ((w.alloc (.cells cx t)).alloc (.cells cy t)) (w.heap.size + 1) t cy ∧ Below w.heap.size w ((w.alloc (.cells cx t)).alloc (.cells cy t)) := by
  have b1 := (Below.refl w.heap.size w).alloc (Nat.le_refl _) (.cells cx t)
  have b2 := (Below.refl (w.alloc (.cells cx t)).heap.size (w.alloc (.cells cx t))).alloc (Nat.le_refl _) (.cells cy t)
  have k1 := BlkA.new w t cx
  have k2 := BlkA.new (w.alloc (.cells cx t)) t cy
  rw [World.size_alloc] at k2
  exact ⟨k1.below b2 k1.lt, k2, b1.trans (b2.mono b1.size)⟩
theorem step_loadR {P : Program} {ops : Array Oper} {o : Oper} {a : Act} {w : World} {K : Act → World → Prop} {Q : Exit → Act → World → Prop} {D : Prop} (hgd : o.guard = none) (ty : TypeId) (x : Operand) (ho : o.op = .load ty x)
    (g : Nat) (hx : a.eval x = .pointer (some ⟨g, 0, none⟩)) (t : TypeId) (cs : Array Value) (d : TypeDesc) (hg : BlkA w g t cs)
    (hu : P.underlying ty = some d) (hd : (match d with | .struct _ | .array _ _ => true | _ => false) = true) (hi : (P.info? ty).map (·.size) = some cs.size)
    (h : K (a.put o.dst (.agg cs)) w) : if Region.wanted o (yielded ops a.tmps) = true then Oper.wp P o a w K Q else D := by
  rw [if_pos (by unfold Region.wanted; rw [hgd])]
  exact wp_load_row ty x ho g hx t cs (0, 0) d hg hu hd hi h
/-- A whole struct is loaded. -/
theorem BlkA.load {P : Program} {w : World} {g : Nat} {t ty : TypeId} {cs : Array Value} {d : TypeDesc} (h : BlkA w g t cs) (hu : P.underlying ty = some d) (hd : (match d with | .struct _ | .array _ _ => true | _ => false) = true) (hi : (P.info? ty).map (·.size) = some cs.size) :
    (Instr.loadAt ty (.pointer (some ⟨g, 0, none⟩))).run P w = .ok (.agg cs) w := by
  simp only [Instr.loadAt, Instr.sureAddr, Sem.run_bind, Sem.run_pure, Result.andThen_ok, run_loadVar_row w g t ty cs (0, 0) d h hu hd hi]
theorem yieldsIf_loadA {P : Program} {ops : Array Oper} {S : World → Prop} {op : Oper} {a : Act} (hw : Region.wanted op (yielded ops a.tmps) = true) (ty : TypeId) (x : Operand) (ho : op.op = .load ty x)
    (g : Nat) (hx : a.eval x = .pointer (some ⟨g, 0, none⟩)) (cs : Array Value) (hS : ∀ w, S w → (Instr.loadAt ty (.pointer (some ⟨g, 0, none⟩))).run P w = .ok (.agg cs) w) : YieldsIf P ops S op (.agg cs) a :=
  .inl ⟨hw, fun w h => by
    unfold execOp
    simp only [ho, hx, Sem.run_bind, Sem.run_pure, Result.andThen_ok, hS w h]⟩
theorem wpList_load_rowG {P : Program} {ops : Array Oper} {rest : List Oper} {o : Oper} {a : Act} {w : World} {Q : Exit → Act → World → Prop} (hgd : Region.wanted o (yielded ops a.tmps) = true) (ty : TypeId) (x : Operand) (ho : o.op = .load ty x)
    (g : Nat) (hx : a.eval x = .pointer (some ⟨g, 0, none⟩)) (t : TypeId) (cs : Array Value) (d : TypeDesc) (hg : BlkA w g t cs)
    (hu : P.underlying ty = some d) (hd : (match d with | .struct _ | .array _ _ => true | _ => false) = true) (hi : (P.info? ty).map (·.size) = some cs.size)
    (h : wpList P ops Q rest (a.put o.dst (.agg cs)) w) : wpList P ops Q (o :: rest) a w :=
  wpList_step fun K hK => by rw [if_pos hgd]; exact wp_load_row ty x ho g hx t cs (0, 0) d hg hu hd hi (hK _ _ h)
end Go.Proofs.Ytcahaimefgkmiaa
