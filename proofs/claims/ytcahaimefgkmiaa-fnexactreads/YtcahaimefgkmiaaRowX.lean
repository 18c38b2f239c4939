/- Structs of many cells, anywhere in a row: loaded, stored and laid as a literal, their cells as one letter. -/
import Derived.Test.YtcahaimefgkmiaaRowA
import Derived.Test.YtcahaimefgkmiaaRowI
namespace Go.Proofs.Ytcahaimefgkmiaa
open Go.RowKit
set_option linter.unusedVariables false

theorem add_at (b o j : Nat) : (⟨b, o, none⟩ : Addr).add j = ⟨b, o + j, none⟩ := by unfold Addr.add; split <;> simp_all
/-- These cells stand from a place on. -/
def CsAt (w : World) (b o : Nat) (cs : Array Value) : Prop := ∀ j (h : j < cs.size), w.cell? ⟨b, o + j, none⟩ = some cs[j]
theorem CsAt.later {w w' : World} {b o : Nat} {cs : Array Value} (h : CsAt w b o cs) (hb : Below w.heap.size w w') (hl : b < w.heap.size) : CsAt w' b o cs := fun j hj => (hb.cell (p := ⟨b, o + j, none⟩) hl).trans (h j hj)
theorem BlkA.at {w : World} {g : Nat} {t : TypeId} {cs : Array Value} (h : BlkA w g t cs) : CsAt w g 0 cs := fun j hj => by rw [Nat.zero_add]; exact h.cell j (by simp [hj])
theorem run_loadVar_at {P : Program} {w : World} {b o : Nat} {ty : TypeId} {cs : Array Value} {d : TypeDesc} (h : CsAt w b o cs)
    (hu : P.underlying ty = some d) (hd : (match d with | .struct _ | .array _ _ => true | _ => false) = true) (hi : (P.info? ty).map (·.size) = some cs.size) :
    (loadVar ty ⟨b, o, none⟩).run P w = .ok (.agg cs) w := by
  have hl : (loadCells ⟨b, o, none⟩ cs.toList.length).run P w = .ok cs.toList.toArray w :=
    run_loadCells_list (P := P) w ⟨b, o, none⟩ cs.toList (fun j v hv => by
      rw [add_at]
      have hj : j < cs.size := by
        by_cases c : j < cs.size
        · exact c
        · rw [List.getElem?_eq_none (by simpa using Nat.le_of_not_lt c)] at hv; simp at hv
      rw [h j hj]
      simpa [hj] using hv)
  cases hq : P.info? ty with
  | none => simp [hq] at hi
  | some i =>
    have hs : i.size = cs.size := by simpa [hq] using hi
    have hagg : (isAgg ty).run P w = .ok true w := by
      unfold isAgg
      rw [Sem.run_bind, run_underlying hu w]
      cases d <;> simp_all
    simp only [Array.length_toList, Array.toArray_toList] at hl
    simp [loadVar, Sem.run_bind, hagg, sizeOf, typeInfo, hq, hs, hl]
theorem CsAt.load {P : Program} {w : World} {b o : Nat} {ty : TypeId} {cs : Array Value} {d : TypeDesc} (h : CsAt w b o cs) (hu : P.underlying ty = some d) (hd : (match d with | .struct _ | .array _ _ => true | _ => false) = true) (hi : (P.info? ty).map (·.size) = some cs.size) :
    (Instr.loadAt ty (.pointer (some ⟨b, o, none⟩))).run P w = .ok (.agg cs) w := by
  simp only [Instr.loadAt, Instr.sureAddr, Sem.run_bind, Sem.run_pure, Result.andThen_ok, run_loadVar_at h hu hd hi]
theorem wp_load_at {P : Program} {op : Oper} {a : Act} {w : World} {K : Act → World → Prop} {Q : Exit → Act → World → Prop} (ty : TypeId) (x : Operand) (ho : op.op = .load ty x)
    (b o : Nat) (hx : a.eval x = .pointer (some ⟨b, o, none⟩)) (cs : Array Value) (d : TypeDesc) (hg : CsAt w b o cs)
    (hu : P.underlying ty = some d) (hd : (match d with | .struct _ | .array _ _ => true | _ => false) = true) (hi : (P.info? ty).map (·.size) = some cs.size)
    (h : K (a.put op.dst (.agg cs)) w) : op.wp P a w K Q := by
  unfold Oper.wp execOp
  simp only [ho, hx, Sem.run_bind, hg.load hu hd hi, Result.andThen_ok, Sem.run_pure]
  exact h
theorem wpList_load_at {P : Program} {ops : Array Oper} {rest : List Oper} {op : Oper} {a : Act} {w : World} {Q : Exit → Act → World → Prop} (hgd : Region.wanted op (yielded ops a.tmps) = true) (ty : TypeId) (x : Operand) (ho : op.op = .load ty x)
    (b o : Nat) (hx : a.eval x = .pointer (some ⟨b, o, none⟩)) (cs : Array Value) (d : TypeDesc) (hg : CsAt w b o cs)
    (hu : P.underlying ty = some d) (hd : (match d with | .struct _ | .array _ _ => true | _ => false) = true) (hi : (P.info? ty).map (·.size) = some cs.size)
    (h : wpList P ops Q rest (a.put op.dst (.agg cs)) w) : wpList P ops Q (op :: rest) a w :=
  wpList_step fun K hK => by rw [if_pos hgd]; exact wp_load_at ty x ho b o hx cs d hg hu hd hi (hK _ _ h)
theorem yieldsIf_loadX {P : Program} {ops : Array Oper} {S : World → Prop} {op : Oper} {a : Act} (hw : Region.wanted op (yielded ops a.tmps) = true) (ty : TypeId) (x : Operand) (ho : op.op = .load ty x)
    (b o : Nat) (hx : a.eval x = .pointer (some ⟨b, o, none⟩)) (cs : Array Value) (hS : ∀ w, S w → (Instr.loadAt ty (.pointer (some ⟨b, o, none⟩))).run P w = .ok (.agg cs) w) : YieldsIf P ops S op (.agg cs) a :=
  .inl ⟨hw, fun w h => by
    unfold execOp
    simp only [ho, hx, Sem.run_bind, Sem.run_pure, Result.andThen_ok, hS w h]⟩
/-- Cells are there to be written. -/
def WrAt (w : World) (b o n : Nat) : Prop := ∀ j, j < n → (∃ u, w.cell? ⟨b, o + j, none⟩ = some u) ∧ w.frozen? ⟨b, o + j, none⟩ = false
theorem cell_set_ne (w : World) (b i j : Nat) (v : Value) (h : i ≠ j) : (w.setCell ⟨b, j, none⟩ v).cell? ⟨b, i, none⟩ = w.cell? ⟨b, i, none⟩ := World.cell?_setCell_other w ⟨b, j, none⟩ ⟨b, i, none⟩ v (by intro e; injection e with _ e; exact h e.symm)
theorem run_storeCells_at {P : Program} (b o : Nat) : ∀ (vs : List Value) (i : Nat) (w : World), WrAt w b (o + i) vs.length → (∀ v ∈ vs, v.oneCell' = true) → (storeCells ⟨b, o, none⟩ vs i).run P w = .ok () (putG w b (o + i) vs)
  | [], i, w, _, _ => rfl
  | v :: rest, i, w, hw, h1 => by
    obtain ⟨⟨u, hc⟩, hf⟩ := hw 0 (by simp)
    rw [Nat.add_zero] at hc hf
    have hst : (store ((⟨b, o, none⟩ : Addr).add i) v).run P w = .ok () (w.setCell ⟨b, o + i, none⟩ v) := by
      rw [add_at, run_store P w _ v _ (h1 v (by simp)), hc]
      simp [hf]
    have ih := run_storeCells_at (P := P) b o rest (i + 1) (w.setCell ⟨b, o + i, none⟩ v) (fun j hj => by
      obtain ⟨⟨u2, hc2⟩, hf2⟩ := hw (j + 1) (by simp; omega)
      rw [show o + (i + 1) + j = o + i + (j + 1) by omega]
      exact ⟨⟨u2, (cell_set_ne w b _ _ v (by omega)).trans hc2⟩, by rw [World.frozen?_setCell]; exact hf2⟩) (fun x hx => h1 x (by simp [hx]))
    simp only [storeCells, Sem.run_bind, hst, Result.andThen_ok, ih]
    rfl
theorem run_storeVar_at {P : Program} {w : World} {b o : Nat} {ty : TypeId} {cs : Array Value} (h : WrAt w b o cs.size) (hi : (P.info? ty).map (·.size) = some cs.size) (h1 : cs.all (·.oneCell') = true) :
    (storeVar ty ⟨b, o, none⟩ (.agg cs)).run P w = .ok () (putG w b o cs.toList) := by
  have := run_storeCells_at (P := P) b o cs.toList 0 w (by simpa using h) (fun v hv => (Array.all_eq_true_iff_forall_mem.1 h1) v (by simpa using hv))
  cases hq : P.info? ty with
  | none => simp [hq] at hi
  | some i =>
    have hs : cs.size = i.size := by simp [hq] at hi; omega
    rw [Nat.add_zero] at this
    simp [storeVar, sizeOf, typeInfo, hq, Value.cells, hs, this]
theorem wp_store_at {P : Program} {op : Oper} {a : Act} {w : World} {K : Act → World → Prop} {Q : Exit → Act → World → Prop} (ty : TypeId) (x y : Operand) (ho : op.op = .store ty x y)
    (b o : Nat) (cs : Array Value) (hx : a.eval x = .pointer (some ⟨b, o, none⟩)) (hy : a.eval y = .agg cs) (hw : WrAt w b o cs.size) (hi : (P.info? ty).map (·.size) = some cs.size) (h1 : cs.all (·.oneCell') = true)
    (h : K (a.put op.dst undef) (putG w b o cs.toList)) : op.wp P a w K Q := by
  unfold Oper.wp execOp
  simp only [ho, hx, hy, Instr.storeAt, Instr.sureAddr, Sem.run_bind, Sem.run_pure, Result.andThen_ok, run_storeVar_at hw hi h1]
  exact h
theorem wpList_store_at {P : Program} {ops : Array Oper} {rest : List Oper} {op : Oper} {a : Act} {w : World} {Q : Exit → Act → World → Prop} (hgd : op.guard = none) (ty : TypeId) (x y : Operand) (ho : op.op = .store ty x y)
    (b o : Nat) (cs : Array Value) (hx : a.eval x = .pointer (some ⟨b, o, none⟩)) (hy : a.eval y = .agg cs) (hw : WrAt w b o cs.size) (hi : (P.info? ty).map (·.size) = some cs.size) (h1 : cs.all (·.oneCell') = true)
    (h : wpList P ops Q rest (a.put op.dst undef) (putG w b o cs.toList)) : wpList P ops Q (op :: rest) a w :=
  wpList_plain hgd fun _ hK => wp_store_at ty x y ho b o cs hx hy hw hi h1 (hK _ _ h)
theorem step_store_at {P : Program} {ops : Array Oper} {op : Oper} {a : Act} {w : World} {K : Act → World → Prop} {Q : Exit → Act → World → Prop} {D : Prop} (hgd : op.guard = none) (ty : TypeId) (x y : Operand) (ho : op.op = .store ty x y)
    (b o : Nat) (cs : Array Value) (hx : a.eval x = .pointer (some ⟨b, o, none⟩)) (hy : a.eval y = .agg cs) (hw : WrAt w b o cs.size) (hi : (P.info? ty).map (·.size) = some cs.size) (h1 : cs.all (·.oneCell') = true)
    (h : K (a.put op.dst undef) (putG w b o cs.toList)) : if Region.wanted op (yielded ops a.tmps) = true then Oper.wp P op a w K Q else D := by
  rw [if_pos (by unfold Region.wanted; rw [hgd])]
  exact wp_store_at ty x y ho b o cs hx hy hw hi h1 h
theorem grown_putG : ∀ (vs : List Value) {w w' : World} {g : Nat} (m : Nat), w.grownBy w' (some g) → w.grownBy (putG w' g m vs) (some g)
  | [], _, _, _, _, h => h
  | v :: vs, w, w', g, m, h => grown_putG vs (m + 1) (gset h m v)
theorem run_storeC {P : Program} {w : World} {b o : Nat} {cs : Array Value} (h : WrAt w b o cs.size) (h1 : cs.all (·.oneCell') = true) : (storeCells ⟨b, o, none⟩ cs.toList).run P w = .ok () (putG w b o cs.toList) := by
  have := run_storeCells_at (P := P) b o cs.toList 0 w (by simpa using h) (fun v hv => (Array.all_eq_true_iff_forall_mem.1 h1) v (by simpa using hv))
  rw [Nat.add_zero] at this
  exact this
/-- A row that is one's own can be written. -/
theorem wr_of_own {w : World} {B g n cap k : Nat} {e : TypeId} {xs : List Value} (h : w.ownsRow B e k (.slice (some ⟨g, 0, none⟩) n cap) n xs) (o m : Nat) (hm : o + m ≤ n * k) : WrAt w g o m := fun j hj => by
  have hl := h.1
  obtain ⟨u, hu⟩ := own_some h (o + j) (by omega)
  exact ⟨⟨u, hu⟩, h.frozenAt (o + j)⟩
/-- An element of a row that is read. -/
theorem RdG.at {α : Type} {enc : α → List Value} {k : Nat} {w : World} {a : Option Addr} {l : List α} (E : EncK enc k) (h : RdG enc k w a l) (i : Nat) (hi : i < l.length) : ∃ b o, a = some ⟨b, o, none⟩ ∧ b < w.heap.size ∧ CsAt w b (o + i * k) (enc l[i]).toArray := by
  obtain ⟨b, o, ha, hb, hc⟩ := h i hi
  refine ⟨b, o, ha, hb, fun j hj => ?_⟩
  have hj' : j < (enc l[i]).length := by simpa using hj
  rw [hc j (by rw [← E.len l[i]]; exact hj')]
  simp [hj']
theorem zipIdx_fill (cs base : List Value) (off : Nat) : (cs.zipIdx.foldl (fun acc (x : Value × Nat) => acc.setIfInBounds (off + x.2) x.1) base.toArray) = (setL base off cs).toArray := by
  have key : ∀ (cs : List Value) (s : Nat) (base : List Value), ((cs.zipIdx s).foldl (fun acc (x : Value × Nat) => acc.setIfInBounds (off + x.2) x.1) base.toArray) = (setL base (off + s) cs).toArray := by
    intro cs
    induction cs with
    | nil => intro s base; rfl
    | cons v cs ih =>
      intro s base
      rw [List.zipIdx_cons, List.foldl_cons]
      dsimp only
      rw [List.setIfInBounds_toArray, ih (s + 1), setL, Nat.add_assoc]
  exact key cs 0 base
/-- A slice of one struct, laid as a literal. -/
theorem run_buildSlice1 {P : Program} {w : World} {t e : TypeId} {cs : Array Value} {i : TypeInfo} {z : Value} (ht : P.underlying t = some (.slice e)) (hi : P.info? e = some i) (hz : i.zero = some z) (hzs : z.cells.size = cs.size) (hs : i.size = cs.size) (h0 : 0 < cs.size) (hm : cs.size ≤ 16777216) :
    (Instr.buildSlice t 1 #[(0, .agg cs)]).run P w = .ok (.slice (some ⟨w.heap.size, 0, none⟩) 1 1) (w.alloc (.cells cs e)) := by
  obtain ⟨cl⟩ := cs
  have hfill : ∀ ba : List Value, ba.length = cl.length → Instr.fill (fun i => some (i * cl.length, cl.length)) ba.toArray [(0, Value.agg ⟨cl⟩)] = some ⟨cl⟩ := by
    intro ba hb
    have e1 := zipIdx_fill cl ba 0
    rw [setL_eq cl ba 0 (by omega), List.take_zero, List.nil_append, Nat.zero_add, ← hb, List.drop_length, List.append_nil] at e1
    simp only [Instr.fill, Value.cells, Nat.zero_mul, List.size_toArray]
    rw [if_neg (by simp; omega)]
    congr 1
    refine Eq.trans ?_ e1
    rw [show ({ toList := cl } : Array Value).zipIdx = cl.zipIdx.toArray from by apply Array.toList_inj.1; simp]
    simp
  have hs' : i.size = cl.length := hs
  have h0' : 0 < cl.length := h0
  have hm' : cl.length ≤ 16777216 := hm
  have hb9 : ((Array.range cl.length).map (z.cells[· % z.cells.size]!)) = (((Array.range cl.length).map (z.cells[· % z.cells.size]!)).toList).toArray := (Array.toArray_toList).symm
  have hf := hfill (((Array.range cl.length).map (z.cells[· % z.cells.size]!)).toList) (by simp)
  rw [← hb9] at hf
  simp [Instr.buildSlice, Sem.run_bind, run_underlying ht, sizeOf, typeInfo, hi, hs', zeroValue, hz, show ¬ 2 ^ 24 < cl.length by omega, show ¬ cl.length = 0 by omega]
  rw [hf]
  simp [newRow, newObj]
  rfl
theorem wpList_lit1 {P : Program} {ops : Array Oper} {rest : List Oper} {op : Oper} {a : Act} {w : World} {Q : Exit → Act → World → Prop} (hgd : op.guard = none) (t e : TypeId) (x : Operand) (ho : op.op = .buildSlice t 1 #[(0, x)]) (cs : Array Value) (hx : a.eval x = .agg cs)
    {i : TypeInfo} {z : Value} (ht : P.underlying t = some (.slice e)) (hi : P.info? e = some i) (hz : i.zero = some z) (hzs : z.cells.size = cs.size) (hs : i.size = cs.size) (h0 : 0 < cs.size) (hm : cs.size ≤ 16777216)
    (h : wpList P ops Q rest (a.put op.dst (.slice (some ⟨w.heap.size, 0, none⟩) 1 1)) (w.alloc (.cells cs e))) : wpList P ops Q (op :: rest) a w :=
  wpList_plain hgd fun _ hK => by
    unfold Oper.wp execOp
    have hr := run_buildSlice1 (P := P) (w := w) ht hi hz hzs hs h0 hm
    have hm9 : (#[((0 : Nat), x)].map fun (i, x) => (i, a.eval x)) = #[(0, .agg cs)] := by simp [hx]
    simp only [ho, hm9, Sem.run_bind, hr, Result.andThen_ok, Sem.run_pure]
    exact hK _ _ h
end Go.Proofs.Ytcahaimefgkmiaa
