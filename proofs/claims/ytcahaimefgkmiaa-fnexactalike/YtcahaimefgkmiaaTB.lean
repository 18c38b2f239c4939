/- Rows of elements of several cells, whatever they are: read, written, owned. -/
import Derived.Test.YtcahaimefgkmiaaTA
import Derived.Laws.Rows
import Derived.Laws.Tables
import Derived.Deep.RegionHeld3
namespace Go.Proofs.Ytcahaimefgkmiaa
open Go.RowKit
set_option linter.unusedVariables false

/-- Values laid one behind another. -/
def setL (xs : List Value) (m : Nat) : List Value → List Value
  | [] => xs
  | v :: vs => setL (xs.set m v) (m + 1) vs
theorem setL_length : ∀ (vs xs : List Value) (m : Nat), (setL xs m vs).length = xs.length
  | [], _, _ => rfl
  | v :: vs, xs, m => by rw [setL, setL_length vs]; simp
theorem setL_eq : ∀ (vs xs : List Value) (m : Nat), m + vs.length ≤ xs.length → setL xs m vs = xs.take m ++ vs ++ xs.drop (m + vs.length)
  | [], xs, m, _ => by simp [setL]
  | v :: vs, xs, m, h => by
    have hl : m < xs.length := by simp at h; omega
    rw [setL, setL_eq vs _ _ (by simp at h ⊢; omega)]
    have e1 : (xs.set m v).take (m + 1) = xs.take m ++ [v] := by
      rw [List.take_succ_eq_append_getElem (by simpa using hl), List.getElem_set_self, List.take_set_of_le (Nat.le_refl _)]
    have e2 : (xs.set m v).drop (m + 1 + vs.length) = xs.drop (m + (v :: vs).length) := by
      rw [List.drop_set_of_lt (by omega), List.length_cons]
      congr 1
      omega
    rw [e1, e2]
    simp [List.append_assoc]
section
variable {α : Type} (enc : α → List Value) (k : Nat)
/-- The cells of a row. -/
def rowG (l : List α) : List Value := l.flatMap enc
variable (hk : ∀ x, (enc x).length = k)
include hk
theorem rowG_length (l : List α) : (rowG enc l).length = l.length * k := by
  induction l with
  | nil => simp [rowG]
  | cons s l ih => rw [rowG, List.flatMap_cons, List.length_append, hk, ← rowG, ih, List.length_cons, Nat.add_mul]; omega
theorem rowG_at : ∀ (l : List α) (i j : Nat) (hi : i < l.length), j < k → (rowG enc l)[i * k + j]? = (enc l[i])[j]?
  | s :: l, 0, j, _, hj => by
    rw [rowG, List.flatMap_cons, Nat.zero_mul, Nat.zero_add, List.getElem?_append_left (by rw [hk]; exact hj)]
    rfl
  | s :: l, i + 1, j, hi, hj => by
    have e : (i + 1) * k + j = k + (i * k + j) := by rw [Nat.add_mul]; omega
    rw [rowG, List.flatMap_cons, e, List.getElem?_append_right (by rw [hk]; omega), hk, Nat.add_sub_cancel_left, ← rowG, rowG_at l i j (by simpa using hi) hj]
    rfl
theorem rowG_set : ∀ (l : List α) (i : Nat) (s : α), i < l.length → rowG enc (l.set i s) = setL (rowG enc l) (i * k) (enc s)
  | t :: l, 0, s, _ => by
    rw [setL_eq _ _ _ (by rw [rowG_length enc k hk, hk, List.length_cons, Nat.add_mul]; omega), Nat.zero_mul, hk]
    simp only [List.set_cons_zero, rowG, List.flatMap_cons, List.take_zero, List.nil_append, Nat.zero_add]
    rw [List.drop_append_of_le_length (by rw [hk]; omega), List.drop_eq_nil_of_le (by rw [hk]; omega), List.nil_append]
  | t :: l, i + 1, s, hi => by
    have hi' : i < l.length := by simpa using hi
    have hb : (i + 1) * k ≤ l.length * k := Nat.mul_le_mul_right k hi'
    have e0 : (i + 1) * k = k + i * k := by rw [Nat.add_mul]; omega
    have ih := rowG_set l i s hi'
    rw [setL_eq _ _ _ (by rw [rowG_length enc k hk, hk]; omega), hk] at ih
    rw [setL_eq _ _ _ (by rw [rowG_length enc k hk, hk, List.length_cons, Nat.add_mul l.length]; omega), hk, List.set_cons_succ]
    have u : ∀ l : List α, rowG enc (t :: l) = enc t ++ rowG enc l := fun l => rfl
    have t1 : (enc t).take (k + i * k) = enc t := List.take_of_length_le (by rw [hk]; omega)
    have d1 : (enc t).drop (k + i * k + k) = [] := List.drop_eq_nil_of_le (by rw [hk]; omega)
    have k1 : k + i * k - k = i * k := by omega
    have k2 : k + i * k + k - k = i * k + k := by omega
    rw [u, u, ih, e0, List.take_append, List.drop_append, hk, t1, d1, k1, k2, List.nil_append]
    simp [List.append_assoc]
omit hk in
theorem fillG (l : List α) (z s : α) (i : Nat) (hi : i < l.length) (hs : l[i] = s) : (l.take i ++ List.replicate (l.length - i) z).set i s = l.take (i + 1) ++ List.replicate (l.length - (i + 1)) z := by
  have hl : (l.take i).length = i := by simp; omega
  rw [List.set_append_right _ _ (by omega), hl, Nat.sub_self, show l.length - i = (l.length - (i + 1)) + 1 by omega, List.replicate_succ, List.set_cons_zero, List.take_succ_eq_append_getElem hi, hs, List.append_assoc]
  rfl
/-- Cells stored one behind another. -/
def _root_.Go.Proofs.Ytcahaimefgkmiaa.putG (w : World) (g m : Nat) : List Value → World
  | [] => w
  | v :: vs => putG (w.setCell ⟨g, m, none⟩ v) g (m + 1) vs
end
theorem own_putG : ∀ (vs : List Value) {w : World} {base n g cap size : Nat} {e : TypeId} {xs : List Value} (m : Nat), w.ownsRow base e size (.slice (some ⟨g, 0, none⟩) n cap) n xs → (putG w g m vs).ownsRow base e size (.slice (some ⟨g, 0, none⟩) n cap) n (setL xs m vs)
  | [], _, _, _, _, _, _, _, _, _, h => h
  | v :: vs, w, base, n, g, cap, size, e, xs, m, h => own_putG vs (m + 1) (World.ownsRow.stored h m v).1
theorem below_putG : ∀ (vs : List Value) {B g : Nat} {w w' : World} (m : Nat), Below B w w' → B ≤ g → Below B w (putG w' g m vs)
  | [], _, _, _, _, _, h, _ => h
  | v :: vs, B, g, w, w', m, h, hg => below_putG vs (m + 1) (h.setCell (p := ⟨g, m, none⟩) hg v) hg
section
variable {α : Type} (enc : α → List Value) (k : Nat)
/-- A row that reads as these elements, from any place on. -/
def RdG (w : World) (a : Option Addr) (l : List α) : Prop := ∀ i (h : i < l.length), ∃ b o, a = some ⟨b, o, none⟩ ∧ b < w.heap.size ∧ ∀ j, j < k → w.cell? ⟨b, o + i * k + j, none⟩ = (enc l[i])[j]?
variable {enc k}
theorem RdG.later {w w' : World} {a : Option Addr} {l : List α} (h : RdG enc k w a l) (hb : Below w.heap.size w w') : RdG enc k w' a l := by
  intro i hi
  obtain ⟨b, o, ha, hg, hc⟩ := h i hi
  exact ⟨b, o, ha, Nat.lt_of_lt_of_le hg hb.size, fun j hj => (hb.cell (p := ⟨b, o + i * k + j, none⟩) hg).trans (hc j hj)⟩
theorem RdG.below {w w' : World} {a : Option Addr} {l : List α} {B : Nat} (h : RdG enc k w a l) (hb : Below B w w') (hB : ∀ b f, a = some ⟨b, f, none⟩ → l ≠ [] → b < B) : RdG enc k w' a l := by
  intro i hi
  obtain ⟨b, o, ha, hg, hc⟩ := h i hi
  exact ⟨b, o, ha, Nat.lt_of_lt_of_le hg hb.size, fun j hj => (hb.cell (p := ⟨b, o + i * k + j, none⟩) (hB b o ha (fun e => by subst e; simp at hi))).trans (hc j hj)⟩
theorem RdG.nil (w : World) (a : Option Addr) : RdG enc k w a [] := fun i hi => by simp at hi
theorem rdG_of_own (hk : ∀ x, (enc x).length = k) {w : World} {base ca n : Nat} {e : TypeId} {ao : Option Addr} {l : List α} (h : w.ownsRow base e k (.slice ao n ca) n (rowG enc l)) (hn : l.length = n) : RdG enc k w ao l := by
  intro i hi
  rcases h.2 with ⟨hv, h0⟩ | ⟨g, cap, cur, hv, _, hh, _⟩
  · omega
  · injection hv with h1 h2 h3
    subst h1
    refine ⟨g, 0, rfl, (Array.getElem?_eq_some_iff.1 hh).1, fun j hj => ?_⟩
    have hb : i * k + j < l.length * k := by
      have := Nat.mul_le_mul_right k (Nat.succ_le_of_lt hi)
      rw [Nat.succ_mul] at this
      omega
    rw [Nat.zero_add, h.cellAt (i * k + j) (by rw [← hn]; exact hb)]
    exact rowG_at enc k hk l i j hi hj
end
end Go.Proofs.Ytcahaimefgkmiaa
namespace Go.Proofs.Ytcahaimefgkmiaa
open Go.RowKit
set_option linter.unusedVariables false

/-- A block that holds these cells. -/
def BlkA (w : World) (g : Nat) (t : TypeId) (cs : Array Value) : Prop := w.heap[g]? = some (.cells cs t (0, 0))
theorem BlkA.lt {w : World} {g : Nat} {t : TypeId} {cs : Array Value} (h : BlkA w g t cs) : g < w.heap.size := by
  by_cases c : g < w.heap.size
  · exact c
  · unfold BlkA at h
    rw [Array.getElem?_eq_none (by omega)] at h
    simp at h
theorem BlkA.below {w w' : World} {g B : Nat} {t : TypeId} {cs : Array Value} (h : BlkA w g t cs) (hb : Below B w w') (hB : g < B) : BlkA w' g t cs := (hb.block g hB).trans h
theorem BlkA.new (w : World) (t : TypeId) (cs : Array Value) : BlkA (w.alloc (.cells cs t)) w.heap.size t cs := heap_alloc_last _ _
theorem BlkA.blk {w : World} {g : Nat} {t : TypeId} {cs : Array Value} (h : BlkA w g t cs) : Blk w g t cs.toList := by unfold Blk; simpa [BlkA] using h
theorem Blk.arr {w : World} {g : Nat} {t : TypeId} {cs : List Value} (h : Blk w g t cs) : BlkA w g t cs.toArray := h
theorem BlkA.cell {w : World} {g : Nat} {t : TypeId} {cs : Array Value} (h : BlkA w g t cs) (j : Nat) {v : Value} (hj : cs.toList[j]? = some v) : w.cell? ⟨g, j, none⟩ = some v := by
  have := (Blk.cell h.blk j)
  rw [hj] at this
  exact this
theorem BlkA.froz {w : World} {g : Nat} {t : TypeId} {cs : Array Value} (h : BlkA w g t cs) (j : Nat) : w.frozen? ⟨g, j, none⟩ = false := h.blk.froz j
theorem BlkA.setc {w : World} {g : Nat} {t : TypeId} {cs : Array Value} (h : BlkA w g t cs) (j : Nat) (u : Value) : BlkA (w.setCell ⟨g, j, none⟩ u) g t (cs.toList.set j u).toArray := (Blk.set h.blk j u).arr
theorem BlkA.far {w : World} {g g' : Nat} {t : TypeId} {cs : Array Value} (h : BlkA w g t cs) (j : Nat) (u : Value) (hn : g' ≠ g) : BlkA (w.setCell ⟨g', j, none⟩ u) g t cs := by
  have := (Blk.far h.blk ⟨g', j, none⟩ u (by dsimp only; omega)).arr
  simpa using this
theorem heap_alloc_two (w : World) (o p : Obj) : ((w.alloc o).alloc p).heap[w.heap.size + 1]? = some p := by
  have := heap_alloc_last (w.alloc o) p
  rwa [World.size_alloc] at this
theorem setRow_alloc_two (w : World) (o : Obj) (c c' : Array Value) (t : TypeId) : ((w.alloc o).alloc (.cells c t)).setRow (w.heap.size + 1) c' = (w.alloc o).alloc (.cells c' t) := by
  have := World.setRow_alloc_new (w.alloc o) c c' t
  rwa [World.size_alloc] at this
theorem two_newT (w : World) (t : TypeId) (cx cy : Array Value) : BlkA ((w.alloc (.cells cx t)).alloc (.cells cy t)) w.heap.size t cx ∧ BlkA ((w.alloc (.cells cx t)).alloc (.cells cy t)) (w.heap.size + 1) t cy ∧ Below w.heap.size w ((w.alloc (.cells cx t)).alloc (.cells cy t)) := by
  have b1 := (Below.refl w.heap.size w).alloc (Nat.le_refl _) (.cells cx t)
  have b2 := (Below.refl (w.alloc (.cells cx t)).heap.size (w.alloc (.cells cx t))).alloc (Nat.le_refl _) (.cells cy t)
  have k1 := BlkA.new w t cx
  have k2 := BlkA.new (w.alloc (.cells cx t)) t cy
  rw [World.size_alloc] at k2
  exact ⟨k1.below b2 k1.lt, k2, b1.trans (b2.mono b1.size)⟩
theorem step_loadR {P : Program} {ops : Array Oper} {o : Oper} {a : Act} {w : World} {K : Act → World → Prop} {Q : Exit → Act → World → Prop} {D : Prop} (hgd : o.guard = none) (ty : TypeId) (x : Operand) (ho : o.op = .load ty x)
    (g : Nat) (hx : a.eval x = .pointer (some ⟨g, 0, none⟩)) (t : TypeId) (cs : Array Value) (d : TypeDesc) (hg : BlkA w g t cs)
    (hu : P.underlying ty = some d) (hd : (match d with | .struct _ | .array _ _ => true | _ => false) = true) (hi : (P.info? ty).map (·.size) = some cs.size)
    (h : K (a.put o.dst (.agg cs)) w) : if Region.wanted o (yielded ops a.tmps) = true then Oper.wp P o a w K Q else D := by
  rw [if_pos (by unfold Region.wanted; rw [hgd])]
  exact wp_load_row ty x ho g hx t cs (0, 0) d hg hu hd hi h
/-- A whole struct is loaded. -/
theorem BlkA.load {P : Program} {w : World} {g : Nat} {t ty : TypeId} {cs : Array Value} {d : TypeDesc} (h : BlkA w g t cs) (hu : P.underlying ty = some d) (hd : (match d with | .struct _ | .array _ _ => true | _ => false) = true) (hi : (P.info? ty).map (·.size) = some cs.size) :
    (Instr.loadAt ty (.pointer (some ⟨g, 0, none⟩))).run P w = .ok (.agg cs) w := by
  simp only [Instr.loadAt, Instr.sureAddr, Sem.run_bind, Sem.run_pure, Result.andThen_ok, run_loadVar_row w g t ty cs (0, 0) d h hu hd hi]
theorem yieldsIf_loadA {P : Program} {ops : Array Oper} {S : World → Prop} {op : Oper} {a : Act} (hw : Region.wanted op (yielded ops a.tmps) = true) (ty : TypeId) (x : Operand) (ho : op.op = .load ty x)
    (g : Nat) (hx : a.eval x = .pointer (some ⟨g, 0, none⟩)) (cs : Array Value) (hS : ∀ w, S w → (Instr.loadAt ty (.pointer (some ⟨g, 0, none⟩))).run P w = .ok (.agg cs) w) : YieldsIf P ops S op (.agg cs) a :=
  .inl ⟨hw, fun w h => by
    unfold execOp
    simp only [ho, hx, Sem.run_bind, Sem.run_pure, Result.andThen_ok, hS w h]⟩
theorem wpList_load_rowG {P : Program} {ops : Array Oper} {rest : List Oper} {o : Oper} {a : Act} {w : World} {Q : Exit → Act → World → Prop} (hgd : Region.wanted o (yielded ops a.tmps) = true) (ty : TypeId) (x : Operand) (ho : o.op = .load ty x)
    (g : Nat) (hx : a.eval x = .pointer (some ⟨g, 0, none⟩)) (t : TypeId) (cs : Array Value) (d : TypeDesc) (hg : BlkA w g t cs)
    (hu : P.underlying ty = some d) (hd : (match d with | .struct _ | .array _ _ => true | _ => false) = true) (hi : (P.info? ty).map (·.size) = some cs.size)
    (h : wpList P ops Q rest (a.put o.dst (.agg cs)) w) : wpList P ops Q (o :: rest) a w :=
  wpList_step fun K hK => by rw [if_pos hgd]; exact wp_load_row ty x ho g hx t cs (0, 0) d hg hu hd hi (hK _ _ h)
end Go.Proofs.Ytcahaimefgkmiaa
namespace Go.Proofs.Ytcahaimefgkmiaa
open Go.RowKit
set_option linter.unusedVariables false

/-- What a type's elements are, for rows of them. -/
structure RowK (P : Program) (t e : TypeId) (k : Nat) : Prop where
  sl : P.underlying t = some (.slice e)
  inf : ∃ i z b, P.info? e = some i ∧ i.zero = some z ∧ i.size = k ∧ i.bytes = b ∧ z.cells.size = k ∧ b ≤ 256
  pos : 0 < k
structure EncK {α : Type} (enc : α → List Value) (k : Nat) : Prop where
  len : ∀ x, (enc x).length = k
  one : ∀ x, ∀ u ∈ enc x, u.oneCell' = true
theorem rowG_join {α : Type} (enc : α → List Value) (a b : List α) : rowG enc (a ++ b) = rowG enc a ++ rowG enc b := by simp [rowG]
theorem rowG_one {α : Type} {enc : α → List Value} {k : Nat} (E : EncK enc k) (l : List α) : ∀ u ∈ rowG enc l, u.oneCell' = true := by
  intro u hu
  obtain ⟨x, _, hx⟩ := List.mem_flatMap.1 hu
  exact E.one x u hx
section
variable {P : Program} {α : Type} {enc : α → List Value} {k : Nat} {t e : TypeId}
theorem appG_run (E : EncK enc k) (R : RowK P t e k) (w : World) (ty : TypeId) (base : Nat) (v : Value) (n : Nat) (l1 : List α) (hown : w.ownsRow base e k v n (rowG enc l1)) (ao : Option Addr) (m c : Nat) (l2 : List α) (hm : l2.length = m) (hA : RdG enc k w ao l2) (hlen : n + m ≤ 1048576) (hbase : base ≤ w.heap.size) :
    ∃ v' w', (Builtin.append_ #[t, t] ty #[v, .slice ao m c]).run P w = .ok v' w' ∧ w'.ownsRow base e k v' (n + m) (rowG enc (l1 ++ l2)) ∧ w.grownBy w' v.ownBlock := by
  obtain ⟨i0, z, b, hi, hz0, hz1, hz2, hz3, hb⟩ := R.inf
  by_cases h0 : m = 0
  · subst h0
    have e0 : l2 = [] := List.eq_nil_of_length_eq_zero hm
    subst e0
    refine ⟨v, w, ?_, by simpa using hown, gnew (Below.refl _ _)⟩
    rcases hown.2 with ⟨rfl, rfl⟩ | ⟨g, cap, cur, rfl, _, _, hnc, _⟩
    · cases ao <;> simp [Builtin.append_, run_underlying R.sl, sizeOf, typeInfo, hi, Builtin.lenOf, Builtin.firstCells, loadCells, loadCellsFrom]
    · cases ao <;> simp [Builtin.append_, run_underlying R.sl, sizeOf, typeInfo, hi, Builtin.lenOf, Builtin.firstCells, loadCells, loadCellsFrom, hnc, storeCells]
  · obtain ⟨g, o, rfl, hg, _⟩ := hA 0 (by omega)
    have hl : (rowG enc l2).length = m * k := by rw [rowG_length enc k E.len, hm]
    have hAt : ∀ j v, (rowG enc l2)[j]? = some v → w.cell? ((⟨g, o, none⟩ : Addr).add j) = some v := fun j v hj => by
      have hj' : j < m * k := by have := (List.getElem?_eq_some_iff.1 hj).1; omega
      have hk0 := R.pos
      have hd : j / k < l2.length := by rw [hm]; exact Nat.div_lt_of_lt_mul (by rw [Nat.mul_comm]; exact hj')
      have hr : j % k < k := Nat.mod_lt _ hk0
      have hjk : j = j / k * k + j % k := by rw [Nat.mul_comm]; exact (Nat.div_add_mod j k).symm
      obtain ⟨b', o', e', _, h⟩ := hA (j / k) hd
      simp only [Option.some.injEq, Addr.mk.injEq, and_true] at e'
      obtain ⟨rfl, rfl⟩ := e'
      have h1 := h (j % k) hr
      have h2 := rowG_at enc k E.len l2 (j / k) (j % k) hd hr
      rw [← hjk] at h2
      rw [Addr.add_lit, show o + j = o + j / k * k + j % k by omega, h1, ← h2]
      exact hj
    have hbl : (n + m) * b ≤ (n + m) * 256 := Nat.mul_le_mul_left _ hb
    obtain ⟨v', w', h1, h2, h3, _⟩ := run_append_own (P := P) w base t ty e i0 z k b R.sl hi hz0 hz1 hz2 hz3 R.pos v n (rowG enc l1) hown ⟨g, o, none⟩ m c (rowG enc l2) hl hAt (rowG_one E l2) (by unfold maxLen; omega) (by omega) hbase
    exact ⟨v', w', h1, by rw [rowG_join]; exact h2, h3⟩
theorem wpList_appG {ops : Array Oper} {rest : List Oper} {o : Oper} {a : Act} {w : World} {Q : Exit → Act → World → Prop} (E : EncK enc k) (R : RowK P t e k) (hgd : o.guard = none) (s x : Operand)
    (ho : o.op = .call { callee := .builtin .append, args := #[s, x], argTypes := #[t, t] }) (base : Nat) (v : Value) (n : Nat) (l1 : List α) (hs : a.eval s = v) (hown : w.ownsRow base e k v n (rowG enc l1)) (ao : Option Addr) (m c : Nat) (l2 : List α) (hx : a.eval x = .slice ao m c) (hm : l2.length = m) (hA : RdG enc k w ao l2) (hlen : n + m ≤ 1048576) (hbase : base ≤ w.heap.size)
    (h : ∀ v' w', w'.ownsRow base e k v' (n + m) (rowG enc (l1 ++ l2)) → w.grownBy w' v.ownBlock → wpList P ops Q rest (a.put o.dst v') w') : wpList P ops Q (o :: rest) a w := by
  refine wpList_plain hgd fun K hK => ?_
  obtain ⟨v', w', hrun, h1, h2⟩ := appG_run E R w o.type base v n l1 hown ao m c l2 hm hA hlen hbase
  unfold Oper.wp
  simp only [execOp, ho, resolve, invoke, builtin, Sem.run_bind, Sem.run_pure, Result.andThen_ok, List.map_toArray, List.map_cons, List.map_nil, hs, hx, hrun]
  exact hK _ _ (h v' w' h1 h2)
theorem step_appG {ops : Array Oper} {o : Oper} {a : Act} {w : World} {K : Act → World → Prop} {Q : Exit → Act → World → Prop} {D : Prop} (E : EncK enc k) (R : RowK P t e k) (hgd : o.guard = none) (s x : Operand)
    (ho : o.op = .call { callee := .builtin .append, args := #[s, x], argTypes := #[t, t] }) (base : Nat) (v : Value) (n : Nat) (l1 : List α) (hs : a.eval s = v) (hown : w.ownsRow base e k v n (rowG enc l1)) (ao : Option Addr) (m c : Nat) (l2 : List α) (hx : a.eval x = .slice ao m c) (hm : l2.length = m) (hA : RdG enc k w ao l2) (hlen : n + m ≤ 1048576) (hbase : base ≤ w.heap.size)
    (h : ∀ v' w', w'.ownsRow base e k v' (n + m) (rowG enc (l1 ++ l2)) → w.grownBy w' v.ownBlock → K (a.put o.dst v') w') :
    if Region.wanted o (yielded ops a.tmps) = true then Oper.wp P o a w K Q else D := by
  have hw : Region.wanted o (yielded ops a.tmps) = true := by simp [Region.wanted, hgd]
  rw [if_pos hw]
  obtain ⟨v', w', hrun, h1, h2⟩ := appG_run E R w o.type base v n l1 hown ao m c l2 hm hA hlen hbase
  unfold Oper.wp
  simp only [execOp, ho, resolve, invoke, builtin, Sem.run_bind, Sem.run_pure, Result.andThen_ok, List.map_toArray, List.map_cons, List.map_nil, hs, hx, hrun]
  exact h v' w' h1 h2
end
end Go.Proofs.Ytcahaimefgkmiaa
namespace Go.Proofs.Ytcahaimefgkmiaa
open Go.RowKit
set_option linter.unusedVariables false

/-- Blocks that were made, wherever the order is drawn. -/
theorem blkE1 (u : World) (t : TypeId) {cs : Array Value} : Blk (u.alloc (.cells cs t)).drew u.heap.size t cs.toList := Blk.new u t cs
theorem blkE2 (u : World) (t : TypeId) (o : Obj) {cs : Array Value} : Blk ((u.alloc (.cells cs t)).alloc o).drew u.heap.size t cs.toList := Blk.more (Blk.new u t cs) o
theorem blkE3 (u : World) (t : TypeId) (o : Obj) {cs : Array Value} : Blk ((u.alloc o).alloc (.cells cs t)).drew (u.heap.size + 1) t cs.toList := by
  have := Blk.new (u.alloc o) t cs
  rw [World.size_alloc] at this
  exact this
theorem zM1 {u w7 : World} {c d : Array Value} {t s : TypeId} (hb : ((u.alloc (.cells c t)).alloc (.cells d s)).grownBy w7 (some u.heap.size)) : Blk w7 (u.heap.size + 1) s d.toList := gblk hb (blkN2 u c d t s).2.1 (by intro e; injection e; omega)
theorem zM2 {u w7 : World} {c d : Array Value} {t s : TypeId} (hb : ((u.alloc (.cells c t)).alloc (.cells d s)).grownBy w7 (some (u.heap.size + 1))) : Blk w7 u.heap.size t c.toList := gblk hb (blkN2 u c d t s).1 (by intro e; injection e; omega)
theorem zM1D {u w7 : World} {c d : Array Value} {t s : TypeId} (hb : ((u.alloc (.cells c t)).alloc (.cells d s)).drew.grownBy w7 (some u.heap.size)) : Blk w7 (u.heap.size + 1) s d.toList := gblk (w := ((u.alloc (.cells c t)).alloc (.cells d s)).drew) hb (blkN2 u c d t s).2.1 (by intro e; injection e; omega)
theorem zM2D {u w7 : World} {c d : Array Value} {t s : TypeId} (hb : ((u.alloc (.cells c t)).alloc (.cells d s)).drew.grownBy w7 (some (u.heap.size + 1))) : Blk w7 u.heap.size t c.toList := gblk (w := ((u.alloc (.cells c t)).alloc (.cells d s)).drew) hb (blkN2 u c d t s).1 (by intro e; injection e; omega)
section
variable {P : Program} {α : Type} {enc : α → List Value} {k : Nat} {t e : TypeId}
theorem own_none {w : World} {base g : Nat} (hE : Blk w g e []) (hg : base ≤ g) : w.ownsRow base e k (.slice (some ⟨g, 0, none⟩) 0 0) 0 (rowG enc ([] : List α)) :=
  ⟨by simp [rowG], .inr ⟨g, 0, #[], rfl, hg, hE, Nat.le_refl _, Nat.zero_le _, by simp, by simp [rowG]⟩⟩
theorem own_len {w : World} {base n : Nat} {v : Value} {l : List α} (E : EncK enc k) (hk : 0 < k) (h : w.ownsRow base e k v n (rowG enc l)) : l.length = n := by
  have := h.1
  rw [rowG_length enc k E.len] at this
  exact Nat.eq_of_mul_eq_mul_right hk this
theorem rd_one {w : World} {q : Nat} {y : α} (E : EncK enc k) (hM : Blk w q e (enc y)) : RdG enc k w (some ⟨q, 0, none⟩) [y] := by
  intro i hi
  have hi : i = 0 := by simp at hi; omega
  subst hi
  refine ⟨q, 0, rfl, hM.lt, fun j hj => ?_⟩
  rw [Nat.zero_mul, Nat.zero_add, hM.cell j]
  rfl
theorem form_of {w : World} {base n : Nat} {v : Value} {xs : List Value} (h : w.ownsRow base e k v n xs) : ∃ a ca, v = .slice a n ca := by
  rcases h.2 with ⟨rfl, h0⟩ | ⟨g, cap, cur, rfl, _⟩
  · exact ⟨none, 0, by rw [h0]⟩
  · exact ⟨_, _, rfl⟩
theorem step_copyG {ops : Array Oper} {o : Oper} {a : Act} {w : World} {K : Act → World → Prop} {Q : Exit → Act → World → Prop} {D : Prop} (E : EncK enc k) (R : RowK P t e k) (hgd : o.guard = none) (s x : Operand)
    (ho : o.op = .call { callee := .builtin .append, args := #[s, x], argTypes := #[t, t] }) (base g : Nat) (hs : a.eval s = .slice (some ⟨g, 0, none⟩) 0 0) (hE : Blk w g e []) (hg : base ≤ g) (ao : Option Addr) (m c : Nat) (l2 : List α) (hx : a.eval x = .slice ao m c) (hm : l2.length = m) (hA : RdG enc k w ao l2) (hlen : m ≤ 1048576)
    (h : ∀ b' c' w', w'.ownsRow base e k (.slice b' m c') m (rowG enc l2) → Below base w w' → w.grownBy w' (some g) → K (a.put o.dst (.slice b' m c')) w') :
    if Region.wanted o (yielded ops a.tmps) = true then Oper.wp P o a w K Q else D := by
  have hb : base ≤ w.heap.size := Nat.le_trans hg (Nat.le_of_lt hE.lt)
  refine step_appG E R hgd s x ho base _ 0 [] hs (own_none hE hg) ao m c l2 hx hm hA (by omega) hb ?_
  intro v' w' h1 h2
  rw [Nat.zero_add, List.nil_append] at h1
  obtain ⟨b', c', rfl⟩ := form_of h1
  exact h b' c' w' h1 (gbelow h2 (fun q hq => by
    have : (some g : Option Nat) = some q := hq
    injection this with this
    omega) hb) h2
theorem step_pushG {ops : Array Oper} {o : Oper} {a : Act} {w : World} {K : Act → World → Prop} {Q : Exit → Act → World → Prop} {D : Prop} (E : EncK enc k) (R : RowK P t e k) (hgd : o.guard = none) (s x : Operand)
    (ho : o.op = .call { callee := .builtin .append, args := #[s, x], argTypes := #[t, t] }) (base : Nat) (b : Option Addr) (n c : Nat) (l1 : List α) (hs : a.eval s = .slice b n c) (hown : w.ownsRow base e k (.slice b n c) n (rowG enc l1)) (q : Nat) (y : α) (hx : a.eval x = .slice (some ⟨q, 0, none⟩) 1 1) (hM : Blk w q e (enc y)) (hlen : n ≤ 1000000) (hbase : base ≤ w.heap.size)
    (h : ∀ b' c' w', w'.ownsRow base e k (.slice b' (n + 1) c') (n + 1) (rowG enc (l1 ++ [y])) → Below base w w' → K (a.put o.dst (.slice b' (n + 1) c')) w') :
    if Region.wanted o (yielded ops a.tmps) = true then Oper.wp P o a w K Q else D := by
  refine step_appG E R hgd s x ho base _ n l1 hs hown (some ⟨q, 0, none⟩) 1 1 [y] hx rfl (rd_one E hM) (by omega) hbase ?_
  intro v' w' h1 h2
  obtain ⟨b', c', rfl⟩ := form_of h1
  exact h b' c' w' h1 (gbelow h2 (fun g hg => (hown.lt g hg).1) hbase)
theorem wpList_copyG {ops : Array Oper} {rest : List Oper} {o : Oper} {a : Act} {w : World} {Q : Exit → Act → World → Prop} (E : EncK enc k) (R : RowK P t e k) (hgd : o.guard = none) (s x : Operand)
    (ho : o.op = .call { callee := .builtin .append, args := #[s, x], argTypes := #[t, t] }) (base g : Nat) (hs : a.eval s = .slice (some ⟨g, 0, none⟩) 0 0) (hE : Blk w g e []) (hg : base ≤ g) (ao : Option Addr) (m c : Nat) (l2 : List α) (hx : a.eval x = .slice ao m c) (hm : l2.length = m) (hA : RdG enc k w ao l2) (hlen : m ≤ 1048576)
    (h : ∀ b' c' w', w'.ownsRow base e k (.slice b' m c') m (rowG enc l2) → Below base w w' → w.grownBy w' (some g) → wpList P ops Q rest (a.put o.dst (.slice b' m c')) w') : wpList P ops Q (o :: rest) a w := by
  have hb : base ≤ w.heap.size := Nat.le_trans hg (Nat.le_of_lt hE.lt)
  refine wpList_appG E R hgd s x ho base _ 0 [] hs (own_none hE hg) ao m c l2 hx hm hA (by omega) hb ?_
  intro v' w' h1 h2
  rw [Nat.zero_add, List.nil_append] at h1
  obtain ⟨b', c', rfl⟩ := form_of h1
  exact h b' c' w' h1 (gbelow h2 (fun q hq => by
    have : (some g : Option Nat) = some q := hq
    injection this with this
    omega) hb) h2
theorem wpList_push1G {ops : Array Oper} {rest : List Oper} {o : Oper} {a : Act} {w : World} {Q : Exit → Act → World → Prop} (E : EncK enc k) (R : RowK P t e k) (hgd : o.guard = none) (s x : Operand)
    (ho : o.op = .call { callee := .builtin .append, args := #[s, x], argTypes := #[t, t] }) (base : Nat) (b : Option Addr) (n c : Nat) (l1 : List α) (hs : a.eval s = .slice b n c) (hown : w.ownsRow base e k (.slice b n c) n (rowG enc l1)) (q : Nat) (y : α) (hx : a.eval x = .slice (some ⟨q, 0, none⟩) 1 1) (hM : Blk w q e (enc y)) (hlen : n ≤ 1000000) (hbase : base ≤ w.heap.size)
    (h : ∀ b' c' w', w'.ownsRow base e k (.slice b' (n + 1) c') (n + 1) (rowG enc (l1 ++ [y])) → Below base w w' → wpList P ops Q rest (a.put o.dst (.slice b' (n + 1) c')) w') : wpList P ops Q (o :: rest) a w := by
  refine wpList_appG E R hgd s x ho base _ n l1 hs hown (some ⟨q, 0, none⟩) 1 1 [y] hx rfl (rd_one E hM) (by omega) hbase ?_
  intro v' w' h1 h2
  obtain ⟨b', c', rfl⟩ := form_of h1
  exact h b' c' w' h1 (gbelow h2 (fun g hg => (hown.lt g hg).1) hbase)
end
end Go.Proofs.Ytcahaimefgkmiaa
namespace Go.Proofs.Ytcahaimefgkmiaa
open Go.RowKit
set_option linter.unusedVariables false

theorem add_at (b o j : Nat) : (⟨b, o, none⟩ : Addr).add j = ⟨b, o + j, none⟩ := by unfold Addr.add; split <;> simp_all
/-- These cells stand from a place on. -/
def CsAt (w : World) (b o : Nat) (cs : Array Value) : Prop := ∀ j (h : j < cs.size), w.cell? ⟨b, o + j, none⟩ = some cs[j]
theorem CsAt.later {w w' : World} {b o : Nat} {cs : Array Value} (h : CsAt w b o cs) (hb : Below w.heap.size w w') (hl : b < w.heap.size) : CsAt w' b o cs := fun j hj => (hb.cell (p := ⟨b, o + j, none⟩) hl).trans (h j hj)
theorem BlkA.at {w : World} {g : Nat} {t : TypeId} {cs : Array Value} (h : BlkA w g t cs) : CsAt w g 0 cs := fun j hj => by rw [Nat.zero_add]; exact h.cell j (by simp [hj])
theorem run_loadVar_at {P : Program} {w : World} {b o : Nat} {ty : TypeId} {cs : Array Value} {d : TypeDesc} (h : CsAt w b o cs)
    (hu : P.underlying ty = some d) (hd : (match d with | .struct _ | .array _ _ => true | _ => false) = true) (hi : (P.info? ty).map (·.size) = some cs.size) :
    (loadVar ty ⟨b, o, none⟩).run P w = .ok (.agg cs) w := by
  have hl : (loadCells ⟨b, o, none⟩ cs.toList.length).run P w = .ok cs.toList.toArray w :=
    run_loadCells_list (P := P) w ⟨b, o, none⟩ cs.toList (fun j v hv => by
      rw [add_at]
      have hj : j < cs.size := by
        by_cases c : j < cs.size
        · exact c
        · rw [List.getElem?_eq_none (by simpa using Nat.le_of_not_lt c)] at hv; simp at hv
      rw [h j hj]
      simpa [hj] using hv)
  cases hq : P.info? ty with
  | none => simp [hq] at hi
  | some i =>
    have hs : i.size = cs.size := by simpa [hq] using hi
    have hagg : (isAgg ty).run P w = .ok true w := by
      unfold isAgg
      rw [Sem.run_bind, run_underlying hu w]
      cases d <;> simp_all
    simp only [Array.length_toList, Array.toArray_toList] at hl
    simp [loadVar, Sem.run_bind, hagg, sizeOf, typeInfo, hq, hs, hl]
theorem CsAt.load {P : Program} {w : World} {b o : Nat} {ty : TypeId} {cs : Array Value} {d : TypeDesc} (h : CsAt w b o cs) (hu : P.underlying ty = some d) (hd : (match d with | .struct _ | .array _ _ => true | _ => false) = true) (hi : (P.info? ty).map (·.size) = some cs.size) :
    (Instr.loadAt ty (.pointer (some ⟨b, o, none⟩))).run P w = .ok (.agg cs) w := by
  simp only [Instr.loadAt, Instr.sureAddr, Sem.run_bind, Sem.run_pure, Result.andThen_ok, run_loadVar_at h hu hd hi]
theorem wp_load_at {P : Program} {op : Oper} {a : Act} {w : World} {K : Act → World → Prop} {Q : Exit → Act → World → Prop} (ty : TypeId) (x : Operand) (ho : op.op = .load ty x)
    (b o : Nat) (hx : a.eval x = .pointer (some ⟨b, o, none⟩)) (cs : Array Value) (d : TypeDesc) (hg : CsAt w b o cs)
    (hu : P.underlying ty = some d) (hd : (match d with | .struct _ | .array _ _ => true | _ => false) = true) (hi : (P.info? ty).map (·.size) = some cs.size)
    (h : K (a.put op.dst (.agg cs)) w) : op.wp P a w K Q := by
  unfold Oper.wp execOp
  simp only [ho, hx, Sem.run_bind, hg.load hu hd hi, Result.andThen_ok, Sem.run_pure]
  exact h
theorem wpList_load_at {P : Program} {ops : Array Oper} {rest : List Oper} {op : Oper} {a : Act} {w : World} {Q : Exit → Act → World → Prop} (hgd : Region.wanted op (yielded ops a.tmps) = true) (ty : TypeId) (x : Operand) (ho : op.op = .load ty x)
    (b o : Nat) (hx : a.eval x = .pointer (some ⟨b, o, none⟩)) (cs : Array Value) (d : TypeDesc) (hg : CsAt w b o cs)
    (hu : P.underlying ty = some d) (hd : (match d with | .struct _ | .array _ _ => true | _ => false) = true) (hi : (P.info? ty).map (·.size) = some cs.size)
    (h : wpList P ops Q rest (a.put op.dst (.agg cs)) w) : wpList P ops Q (op :: rest) a w :=
  wpList_step fun K hK => by rw [if_pos hgd]; exact wp_load_at ty x ho b o hx cs d hg hu hd hi (hK _ _ h)
theorem yieldsIf_loadX {P : Program} {ops : Array Oper} {S : World → Prop} {op : Oper} {a : Act} (hw : Region.wanted op (yielded ops a.tmps) = true) (ty : TypeId) (x : Operand) (ho : op.op = .load ty x)
    (b o : Nat) (hx : a.eval x = .pointer (some ⟨b, o, none⟩)) (cs : Array Value) (hS : ∀ w, S w → (Instr.loadAt ty (.pointer (some ⟨b, o, none⟩))).run P w = .ok (.agg cs) w) : YieldsIf P ops S op (.agg cs) a :=
  .inl ⟨hw, fun w h => by
    unfold execOp
    simp only [ho, hx, Sem.run_bind, Sem.run_pure, Result.andThen_ok, hS w h]⟩
/-- Cells are there to be written. -/
def WrAt (w : World) (b o n : Nat) : Prop := ∀ j, j < n → (∃ u, w.cell? ⟨b, o + j, none⟩ = some u) ∧ w.frozen? ⟨b, o + j, none⟩ = false
theorem cell_set_ne (w : World) (b i j : Nat) (v : Value) (h : i ≠ j) : (w.setCell ⟨b, j, none⟩ v).cell? ⟨b, i, none⟩ = w.cell? ⟨b, i, none⟩ := World.cell?_setCell_other w ⟨b, j, none⟩ ⟨b, i, none⟩ v (by intro e; injection e with _ e; exact h e.symm)
theorem run_storeCells_at {P : Program} (b o : Nat) : ∀ (vs : List Value) (i : Nat) (w : World), WrAt w b (o + i) vs.length → (∀ v ∈ vs, v.oneCell' = true) → (storeCells ⟨b, o, none⟩ vs i).run P w = .ok () (putG w b (o + i) vs)
  | [], i, w, _, _ => rfl
  | v :: rest, i, w, hw, h1 => by
    obtain ⟨⟨u, hc⟩, hf⟩ := hw 0 (by simp)
    rw [Nat.add_zero] at hc hf
    have hst : (store ((⟨b, o, none⟩ : Addr).add i) v).run P w = .ok () (w.setCell ⟨b, o + i, none⟩ v) := by
      rw [add_at, run_store P w _ v _ (h1 v (by simp)), hc]
      simp [hf]
    have ih := run_storeCells_at (P := P) b o rest (i + 1) (w.setCell ⟨b, o + i, none⟩ v) (fun j hj => by
      obtain ⟨⟨u2, hc2⟩, hf2⟩ := hw (j + 1) (by simp; omega)
      rw [show o + (i + 1) + j = o + i + (j + 1) by omega]
      exact ⟨⟨u2, (cell_set_ne w b _ _ v (by omega)).trans hc2⟩, by rw [World.frozen?_setCell]; exact hf2⟩) (fun x hx => h1 x (by simp [hx]))
    simp only [storeCells, Sem.run_bind, hst, Result.andThen_ok, ih]
    rfl
theorem run_storeVar_at {P : Program} {w : World} {b o : Nat} {ty : TypeId} {cs : Array Value} (h : WrAt w b o cs.size) (hi : (P.info? ty).map (·.size) = some cs.size) (h1 : cs.all (·.oneCell') = true) :
    (storeVar ty ⟨b, o, none⟩ (.agg cs)).run P w = .ok () (putG w b o cs.toList) := by
  have := run_storeCells_at (P := P) b o cs.toList 0 w (by simpa using h) (fun v hv => (Array.all_eq_true_iff_forall_mem.1 h1) v (by simpa using hv))
  cases hq : P.info? ty with
  | none => simp [hq] at hi
  | some i =>
    have hs : cs.size = i.size := by simp [hq] at hi; omega
    rw [Nat.add_zero] at this
    simp [storeVar, sizeOf, typeInfo, hq, Value.cells, hs, this]
theorem wp_store_at {P : Program} {op : Oper} {a : Act} {w : World} {K : Act → World → Prop} {Q : Exit → Act → World → Prop} (ty : TypeId) (x y : Operand) (ho : op.op = .store ty x y)
    (b o : Nat) (cs : Array Value) (hx : a.eval x = .pointer (some ⟨b, o, none⟩)) (hy : a.eval y = .agg cs) (hw : WrAt w b o cs.size) (hi : (P.info? ty).map (·.size) = some cs.size) (h1 : cs.all (·.oneCell') = true)
    (h : K (a.put op.dst undef) (putG w b o cs.toList)) : op.wp P a w K Q := by
  unfold Oper.wp execOp
  simp only [ho, hx, hy, Instr.storeAt, Instr.sureAddr, Sem.run_bind, Sem.run_pure, Result.andThen_ok, run_storeVar_at hw hi h1]
  exact h
theorem wpList_store_at {P : Program} {ops : Array Oper} {rest : List Oper} {op : Oper} {a : Act} {w : World} {Q : Exit → Act → World → Prop} (hgd : op.guard = none) (ty : TypeId) (x y : Operand) (ho : op.op = .store ty x y)
    (b o : Nat) (cs : Array Value) (hx : a.eval x = .pointer (some ⟨b, o, none⟩)) (hy : a.eval y = .agg cs) (hw : WrAt w b o cs.size) (hi : (P.info? ty).map (·.size) = some cs.size) (h1 : cs.all (·.oneCell') = true)
    (h : wpList P ops Q rest (a.put op.dst undef) (putG w b o cs.toList)) : wpList P ops Q (op :: rest) a w :=
  wpList_plain hgd fun _ hK => wp_store_at ty x y ho b o cs hx hy hw hi h1 (hK _ _ h)
theorem step_store_at {P : Program} {ops : Array Oper} {op : Oper} {a : Act} {w : World} {K : Act → World → Prop} {Q : Exit → Act → World → Prop} {D : Prop} (hgd : op.guard = none) (ty : TypeId) (x y : Operand) (ho : op.op = .store ty x y)
    (b o : Nat) (cs : Array Value) (hx : a.eval x = .pointer (some ⟨b, o, none⟩)) (hy : a.eval y = .agg cs) (hw : WrAt w b o cs.size) (hi : (P.info? ty).map (·.size) = some cs.size) (h1 : cs.all (·.oneCell') = true)
    (h : K (a.put op.dst undef) (putG w b o cs.toList)) : if Region.wanted op (yielded ops a.tmps) = true then Oper.wp P op a w K Q else D := by
  rw [if_pos (by unfold Region.wanted; rw [hgd])]
  exact wp_store_at ty x y ho b o cs hx hy hw hi h1 h
theorem grown_putG : ∀ (vs : List Value) {w w' : World} {g : Nat} (m : Nat), w.grownBy w' (some g) → w.grownBy (putG w' g m vs) (some g)
  | [], _, _, _, _, h => h
  | v :: vs, w, w', g, m, h => grown_putG vs (m + 1) (gset h m v)
theorem run_storeC {P : Program} {w : World} {b o : Nat} {cs : Array Value} (h : WrAt w b o cs.size) (h1 : cs.all (·.oneCell') = true) : (storeCells ⟨b, o, none⟩ cs.toList).run P w = .ok () (putG w b o cs.toList) := by
  have := run_storeCells_at (P := P) b o cs.toList 0 w (by simpa using h) (fun v hv => (Array.all_eq_true_iff_forall_mem.1 h1) v (by simpa using hv))
  rw [Nat.add_zero] at this
  exact this
/-- A row that is one's own can be written. -/
theorem wr_of_own {w : World} {B g n cap k : Nat} {e : TypeId} {xs : List Value} (h : w.ownsRow B e k (.slice (some ⟨g, 0, none⟩) n cap) n xs) (o m : Nat) (hm : o + m ≤ n * k) : WrAt w g o m := fun j hj => by
  have hl := h.1
  obtain ⟨u, hu⟩ := own_some h (o + j) (by omega)
  exact ⟨⟨u, hu⟩, h.frozenAt (o + j)⟩
/-- An element of a row that is read. -/
theorem RdG.at {α : Type} {enc : α → List Value} {k : Nat} {w : World} {a : Option Addr} {l : List α} (E : EncK enc k) (h : RdG enc k w a l) (i : Nat) (hi : i < l.length) : ∃ b o, a = some ⟨b, o, none⟩ ∧ b < w.heap.size ∧ CsAt w b (o + i * k) (enc l[i]).toArray := by
  obtain ⟨b, o, ha, hb, hc⟩ := h i hi
  refine ⟨b, o, ha, hb, fun j hj => ?_⟩
  have hj' : j < (enc l[i]).length := by simpa using hj
  rw [hc j (by rw [← E.len l[i]]; exact hj')]
  simp [hj']
theorem zipIdx_fill (cs base : List Value) (off : Nat) : (cs.zipIdx.foldl (fun acc (x : Value × Nat) => acc.setIfInBounds (off + x.2) x.1) base.toArray) = (setL base off cs).toArray := by
  have key : ∀ (cs : List Value) (s : Nat) (base : List Value), ((cs.zipIdx s).foldl (fun acc (x : Value × Nat) => acc.setIfInBounds (off + x.2) x.1) base.toArray) = (setL base (off + s) cs).toArray := by
    intro cs
    induction cs with
    | nil => intro s base; rfl
    | cons v cs ih =>
      intro s base
      rw [List.zipIdx_cons, List.foldl_cons]
      dsimp only
      rw [List.setIfInBounds_toArray, ih (s + 1), setL, Nat.add_assoc]
  exact key cs 0 base
/-- A slice of one struct, laid as a literal. -/
theorem run_buildSlice1 {P : Program} {w : World} {t e : TypeId} {cs : Array Value} {i : TypeInfo} {z : Value} (ht : P.underlying t = some (.slice e)) (hi : P.info? e = some i) (hz : i.zero = some z) (hzs : z.cells.size = cs.size) (hs : i.size = cs.size) (h0 : 0 < cs.size) (hm : cs.size ≤ 16777216) :
    (Instr.buildSlice t 1 #[(0, .agg cs)]).run P w = .ok (.slice (some ⟨w.heap.size, 0, none⟩) 1 1) (w.alloc (.cells cs e)) := by
  obtain ⟨cl⟩ := cs
  have hfill : ∀ ba : List Value, ba.length = cl.length → Instr.fill (fun i => some (i * cl.length, cl.length)) ba.toArray [(0, Value.agg ⟨cl⟩)] = some ⟨cl⟩ := by
    intro ba hb
    have e1 := zipIdx_fill cl ba 0
    rw [setL_eq cl ba 0 (by omega), List.take_zero, List.nil_append, Nat.zero_add, ← hb, List.drop_length, List.append_nil] at e1
    simp only [Instr.fill, Value.cells, Nat.zero_mul, List.size_toArray]
    rw [if_neg (by simp; omega)]
    congr 1
    refine Eq.trans ?_ e1
    rw [show ({ toList := cl } : Array Value).zipIdx = cl.zipIdx.toArray from by apply Array.toList_inj.1; simp]
    simp
  have hs' : i.size = cl.length := hs
  have h0' : 0 < cl.length := h0
  have hm' : cl.length ≤ 16777216 := hm
  have hb9 : ((Array.range cl.length).map (z.cells[· % z.cells.size]!)) = (((Array.range cl.length).map (z.cells[· % z.cells.size]!)).toList).toArray := (Array.toArray_toList).symm
  have hf := hfill (((Array.range cl.length).map (z.cells[· % z.cells.size]!)).toList) (by simp)
  rw [← hb9] at hf
  simp [Instr.buildSlice, Sem.run_bind, run_underlying ht, sizeOf, typeInfo, hi, hs', zeroValue, hz, show ¬ 2 ^ 24 < cl.length by omega, show ¬ cl.length = 0 by omega]
  rw [hf]
  simp [newRow, newObj]
  rfl
theorem wpList_lit1 {P : Program} {ops : Array Oper} {rest : List Oper} {op : Oper} {a : Act} {w : World} {Q : Exit → Act → World → Prop} (hgd : op.guard = none) (t e : TypeId) (x : Operand) (ho : op.op = .buildSlice t 1 #[(0, x)]) (cs : Array Value) (hx : a.eval x = .agg cs)
    {i : TypeInfo} {z : Value} (ht : P.underlying t = some (.slice e)) (hi : P.info? e = some i) (hz : i.zero = some z) (hzs : z.cells.size = cs.size) (hs : i.size = cs.size) (h0 : 0 < cs.size) (hm : cs.size ≤ 16777216)
    (h : wpList P ops Q rest (a.put op.dst (.slice (some ⟨w.heap.size, 0, none⟩) 1 1)) (w.alloc (.cells cs e))) : wpList P ops Q (op :: rest) a w :=
  wpList_plain hgd fun _ hK => by
    unfold Oper.wp execOp
    have hr := run_buildSlice1 (P := P) (w := w) ht hi hz hzs hs h0 hm
    have hm9 : (#[((0 : Nat), x)].map fun (i, x) => (i, a.eval x)) = #[(0, .agg cs)] := by simp [hx]
    simp only [ho, hm9, Sem.run_bind, hr, Result.andThen_ok, Sem.run_pure]
    exact hK _ _ h
end Go.Proofs.Ytcahaimefgkmiaa
