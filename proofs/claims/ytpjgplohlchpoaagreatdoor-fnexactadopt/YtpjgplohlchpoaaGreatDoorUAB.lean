/- Bytes appended to a row of the call's own inside a statement whose order Go leaves open; no condition but those stated. -/
import Derived.Test.YtpjgplohlchpoaaGreatDoorUAA
import Derived.Deep.RegionLaw
import Derived.Test.YtpjgplohlchpoaaGreatDoorProg
import Derived.Deep.RegionHeld3
import Derived.Deep.RegionWith
import Derived.Deep.QuietTactic
import Derived.Deep.WholeRow
import Derived.BigQuiet
import Derived.Handy
namespace Go.Proofs.YtpjgplohlchpoaaGreatDoor
open Go.RowKit

/-- 'out = append(out, b ..)' as one step of a region that draws its order. -/
theorem step_push {P : Program} {w : World} {ops : Array Oper} {o : Oper} {a : Act} {K : Act → World → Prop} {Q : Exit → Act → World → Prop} {E : Prop} (hgd : o.guard = none) (s x : Operand) (t : TypeId)
    (ho : o.op = .call { callee := .builtin .append, args := #[s, x], argTypes := #[t, t] })
    (base : Nat) (e : TypeId) (i : TypeInfo) (ht : P.underlying t = some (.slice e)) (hi : P.info? e = some i) (hz : i.zero = some (.int .u8 0)) (hsize : i.size = 1) (hby : i.bytes = 1)
    (v : Value) (acc : List UInt8) (hs : a.eval s = v) (hown : w.ownsRow base e 1 v acc.length (bc acc)) (nb : List UInt8) (ad : Addr) (m c : Nat) (hm : nb.length = m) (hx : a.eval x = .slice (some ad) m c)
    (hnews : ∀ j u, (bc nb)[j]? = some u → w.cell? (ad.add j) = some u) (hlen : acc.length + m ≤ 70368744177664) (hbase : base ≤ w.heap.size)
    (h : ∀ v' w', w'.ownsRow base e 1 v' (acc ++ nb).length (bc (acc ++ nb)) → Below base w w' → K (a.put o.dst v') w') :
    if Region.wanted o (yielded ops a.tmps) = true then Oper.wp P o a w K Q else E := by
  have hw : Region.wanted o (yielded ops a.tmps) = true := by simp [Region.wanted, hgd]
  rw [if_pos hw]
  refine wp_append_own _ s x t ho base e i (.int .u8 0) 1 1 ht hi hz hsize hby rfl (by decide) v acc.length (bc acc) hs hown ad m c (bc nb) hx (by rw [bc_length]; omega) hnews (bc_one _) (by unfold maxLen; omega) (by omega) hbase ?_
  intro v' w' h1 h2 _
  refine h v' w' ?_ ?_
  · rw [bc_append, List.length_append, hm]; exact h1
  · refine Below.grown (Below.refl _ _) h2 hbase ?_
    intro k hk
    exact (hown.lt k hk).1

/-- 's[i]' of a text. -/
theorem index_byt {P : Program} (t : TypeId) (h : P.underlying t = some .string) (s : ByteArray) (k : Nat) (a : Int) (ha : a = (k : Int)) (hk : k < s.size) (w : World) :
    (Instr.index t (.string s) (.int .i64 a)).run P w = .ok (.int .u8 (byt s k : Int)) w := by
  subst ha
  have hk' : (k : Int) < (s.size : Int) := by omega
  have hb := get_byt s
  simp [go_sem, h, hk', hb]
end Go.Proofs.YtpjgplohlchpoaaGreatDoor
namespace Go.Proofs.YtpjgplohlchpoaaGreatDoor
open Go.RowKit

/-- 'out = append(out, u)', u of one cell, out a row of the call's own. -/
theorem wpList_push1 {P : Program} {w : World} {ops : Array Oper} {rest : List Oper} {o : Oper} {a : Act} {Q : Exit → Act → World → Prop} (hgd : o.guard = none) (s x : Operand) (t : TypeId)
    (ho : o.op = .call { callee := .builtin .append, args := #[s, x], argTypes := #[t, t] })
    (base : Nat) (e : TypeId) (i : TypeInfo) (z : Value) (bytes : Nat) (ht : P.underlying t = some (.slice e)) (hi : P.info? e = some i) (hz : i.zero = some z) (hsize : i.size = 1) (hby : i.bytes = bytes) (hzc : z.cells.size = 1) (hb64 : bytes ≤ 64)
    (v : Value) (n : Nat) (xs : List Value) (hs : a.eval s = v) (hown : w.ownsRow base e 1 v n xs) (u : Value) (hu : u.oneCell' = true)
    (hx : a.eval x = .slice (some ⟨w.heap.size, 0, none⟩) 1 1) (hlen : n ≤ 1048576) (hbase : base ≤ w.heap.size)
    (h : ∀ v' w', w'.ownsRow base e 1 v' (n + 1) (xs ++ [u]) → Below base w w' → wpList P ops Q rest (a.put o.dst v') w') :
    wpList P ops Q (o :: rest) a (w.alloc (.cells #[u] e)) := by
  refine wpList_append_own _ hgd s x t ho base e i z 1 bytes ht hi hz hsize hby hzc (by decide) v n xs hs (hown.alloc _) ⟨w.heap.size, 0, none⟩ 1 1 [u] hx rfl (cell_one_new _ _ _) ?_ ?_ ?_ ?_ ?_
  · intro u' hu'; simp at hu'; subst hu'; exact hu
  · unfold maxLen; omega
  · have : (n + 1) * bytes ≤ (n + 1) * 64 := Nat.mul_le_mul_left _ hb64
    omega
  · rw [World.size_alloc]; omega
  · intro v' w' h1 h2 _
    refine h v' w' h1 ?_
    refine Below.grown ((Below.refl _ _).alloc hbase _) h2 (by rw [World.size_alloc]; omega) ?_
    intro k hk
    exact (hown.lt k hk).1

theorem own_slice {w : World} {base n : Nat} {e : TypeId} {v : Value} {xs : List Value} (h : w.ownsRow base e 1 v n xs) : ∃ ao cap, v = .slice ao n cap := by
  rcases h.2 with ⟨hv, h0⟩ | ⟨g, cap, cur, hv, _⟩
  · exact ⟨none, 0, by rw [h0]; exact hv⟩
  · exact ⟨_, cap, hv⟩

/-- The cells of a row of texts. -/
def sc (l : List ByteArray) : List Value := l.map Value.string
theorem sc_append (l m : List ByteArray) : sc (l ++ m) = sc l ++ sc m := by simp [sc]
theorem owns_empty (w : World) (e : TypeId) : (w.alloc (.cells #[] e)).ownsRow w.heap.size e 1 (.slice (some ⟨w.heap.size, 0, none⟩) 0 0) 0 [] :=
  ⟨rfl, .inr ⟨w.heap.size, 0, #[], rfl, Nat.le_refl _, heap_alloc_new w _, Nat.le_refl _, Nat.zero_le _, rfl, rfl⟩⟩
end Go.Proofs.YtpjgplohlchpoaaGreatDoor
namespace Go.Proofs.YtpjgplohlchpoaaGreatDoor
open Go.RowKit

theorem in_any (x lo hi : Int) (w : World) : Calls Tryz.prog 23 #[.int .i64 x, .int .i64 lo, .int .i64 hi] w fun e w' => e = .returned (.bool (decide (lo ≤ x) && decide (x ≤ hi))) ∧ w = w' := by
  by_cases h1 : lo ≤ x
  · by_cases h2 : x ≤ hi
    all_goals
      go_enter Tryz.func23, Tryz.ntmps23
      go_wp2
      go_ret
      exact ⟨by simp [h1, h2], rfl⟩
  · have D := hide1 (decide_eq_false h1)
    go_enter Tryz.func23, Tryz.ntmps23
    go_wp2
    go_ret
    exact ⟨by rw [D.out]; rfl, rfl⟩

theorem below2 (w : World) (o p : Obj) : Below w.heap.size w ((w.alloc o).alloc p) := ((Below.refl _ _).alloc (Nat.le_refl _) _).alloc (by rw [World.size_alloc]; omega) _
theorem own_kept {w w' : World} {base n size : Nat} {e : TypeId} {v : Value} {xs : List Value} (h : w.ownsRow base e size v n xs) (hB : Below w.heap.size w w') : w'.ownsRow base e size v n xs := by
  refine ⟨h.1, ?_⟩
  rcases h.2 with h2 | ⟨g, cap, cur, hv, hg, hh, r⟩
  · exact .inl h2
  · exact .inr ⟨g, cap, cur, hv, hg, by rw [hB.block g (Array.getElem?_eq_some_iff.1 hh).1]; exact hh, r⟩
theorem own_some {w : World} {base n size g cap : Nat} {e : TypeId} {xs : List Value} (h : w.ownsRow base e size (.slice (some ⟨g, 0, none⟩) n cap) n xs) (j : Nat) (hj : j < n * size) : ∃ u, w.cell? ⟨g, j, none⟩ = some u :=
  ⟨xs[j]'(by have := h.1; omega), (h.cellAt j hj).trans (List.getElem?_eq_getElem _)⟩
theorem gset {w w' : World} {g : Nat} (h : w.grownBy w' (some g)) (j : Nat) (u : Value) : w.grownBy (w'.setCell ⟨g, j, none⟩ u) (some g) :=
  ⟨h.os, h.tape, h.output, by have := h.size; simpa using this, fun k hk hne => by rw [Below.heap_setCell _ _ _ _ (fun e => hne (by rw [e]))]; exact h.block k hk hne⟩
theorem gnew {w w' : World} {r : Option Nat} (h : Below w.heap.size w w') : w.grownBy w' r := ⟨h.os, h.tape, h.output, h.size, fun k hk _ => h.block k hk⟩
theorem gbelow {w w' : World} {r : Option Nat} {B : Nat} (h : w.grownBy w' r) (hB : ∀ g, r = some g → B ≤ g) (hs : B ≤ w.heap.size) : Below B w w' :=
  ⟨h.os, h.tape, h.output, h.size, fun k hk => h.block k (by omega) (fun e => by have := hB k e.symm; omega)⟩
theorem own_far {w : World} {base n size : Nat} {e : TypeId} {v : Value} {xs : List Value} (h : w.ownsRow base e size v n xs) (a : Addr) (u : Value) (hne : ∀ k, v.ownBlock = some k → k ≠ a.block) : (w.setCell a u).ownsRow base e size v n xs := by
  refine ⟨h.1, ?_⟩
  rcases h.2 with h2 | ⟨g, cap, cur, hv, hg, hh, r⟩
  · exact .inl h2
  · exact .inr ⟨g, cap, cur, hv, hg, by rw [Below.heap_setCell _ _ _ _ (hne g (by rw [hv]; rfl))]; exact hh, r⟩
theorem own_base {w : World} {base base' n size : Nat} {e : TypeId} {v : Value} {xs : List Value} (h : w.ownsRow base' e size v n xs) (hb : base ≤ base') : w.ownsRow base e size v n xs := by
  refine ⟨h.1, ?_⟩
  rcases h.2 with h2 | ⟨g, cap, cur, hv, hg, r⟩
  · exact .inl h2
  · exact .inr ⟨g, cap, cur, hv, Nat.le_trans hb hg, r⟩
/-- A block of cells that nobody froze. -/
def Blk (w : World) (r : Nat) (t : TypeId) (cs : List Value) : Prop := w.heap[r]? = some (.cells cs.toArray t (0, 0))
theorem Blk.lt {w : World} {r : Nat} {t : TypeId} {cs : List Value} (h : Blk w r t cs) : r < w.heap.size := (Array.getElem?_eq_some_iff.1 h).1
theorem Blk.cell {w : World} {r : Nat} {t : TypeId} {cs : List Value} (h : Blk w r t cs) (j : Nat) : w.cell? ⟨r, j, none⟩ = cs[j]? := by
  rw [cell_of_row w r j _ _ _ h]; simp
theorem Blk.froz {w : World} {r : Nat} {t : TypeId} {cs : List Value} (h : Blk w r t cs) (j : Nat) : w.frozen? ⟨r, j, none⟩ = false := by
  have h' : w.heap[r]? = some (.cells cs.toArray t (0, 0)) := h
  simp [World.frozen?, h']
theorem Blk.set {w : World} {r : Nat} {t : TypeId} {cs : List Value} (h : Blk w r t cs) (j : Nat) (v : Value) : Blk (w.setCell ⟨r, j, none⟩ v) r t (cs.set j v) := by
  have h' : w.heap[r]? = some (.cells cs.toArray t (0, 0)) := h
  unfold Blk
  rw [setCell_eq_setRow w r j _ _ _ v h', setRow_heap w r _ _ _ _ h']
  simp
theorem Blk.below {w w' : World} {r B : Nat} {t : TypeId} {cs : List Value} (h : Blk w r t cs) (hb : Below B w w') (hr : r < B) : Blk w' r t cs := (hb.block r hr).trans h
theorem Blk.far {w : World} {r : Nat} {t : TypeId} {cs : List Value} (h : Blk w r t cs) (a : Addr) (v : Value) (hr : r ≠ a.block) : Blk (w.setCell a v) r t cs := (Below.heap_setCell w a v r hr).trans h
theorem Blk.new (w : World) (t : TypeId) (cs : Array Value) : Blk (w.alloc (.cells cs t)) w.heap.size t cs.toList := by
  unfold Blk
  rw [heap_alloc_last, Array.toArray_toList]
theorem Blk.more {w : World} {r : Nat} {t : TypeId} {cs : List Value} (h : Blk w r t cs) (o : Obj) : Blk (w.alloc o) r t cs := (Below.heap_alloc w o r h.lt).trans h
end Go.Proofs.YtpjgplohlchpoaaGreatDoor
namespace Go.Proofs.YtpjgplohlchpoaaGreatDoor
open Go.RowKit

theorem blkN2 (w : World) (c1 c2 : Array Value) (t1 t2 : TypeId) : Blk ((w.alloc (.cells c1 t1)).alloc (.cells c2 t2)) w.heap.size t1 c1.toList ∧ Blk ((w.alloc (.cells c1 t1)).alloc (.cells c2 t2)) (w.heap.size + 1) t2 c2.toList ∧ Below w.heap.size w ((w.alloc (.cells c1 t1)).alloc (.cells c2 t2)) := by
  refine ⟨Blk.more (Blk.new w _ _) _, ?_, below2 w _ _⟩
  have := Blk.new (w.alloc (.cells c1 t1)) t2 c2
  rw [World.size_alloc] at this
  exact this
theorem blkN3 (w : World) (c1 c2 c3 : Array Value) (t1 t2 t3 : TypeId) : Blk (((w.alloc (.cells c1 t1)).alloc (.cells c2 t2)).alloc (.cells c3 t3)) w.heap.size t1 c1.toList ∧ Blk (((w.alloc (.cells c1 t1)).alloc (.cells c2 t2)).alloc (.cells c3 t3)) (w.heap.size + 1) t2 c2.toList ∧ Blk (((w.alloc (.cells c1 t1)).alloc (.cells c2 t2)).alloc (.cells c3 t3)) (w.heap.size + 1 + 1) t3 c3.toList ∧ Below w.heap.size w (((w.alloc (.cells c1 t1)).alloc (.cells c2 t2)).alloc (.cells c3 t3)) := by
  obtain ⟨h1, h2, h3⟩ := blkN2 w c1 c2 t1 t2
  refine ⟨h1.more _, h2.more _, ?_, h3.alloc (by simp only [World.size_alloc]; omega) _⟩
  have := Blk.new ((w.alloc (.cells c1 t1)).alloc (.cells c2 t2)) t3 c3
  rw [World.size_alloc, World.size_alloc] at this
  exact this
theorem gtrans {w w' w'' : World} {r : Option Nat} (h : w.grownBy w' r) (h' : w'.grownBy w'' r) : w.grownBy w'' r :=
  ⟨h'.os.trans h.os, h'.tape.trans h.tape, h'.output.trans h.output, Nat.le_trans h.size h'.size, fun k hk hne => (h'.block k (Nat.lt_of_lt_of_le hk h.size) hne).trans (h.block k hk hne)⟩
theorem gblk {w w' : World} {r : Option Nat} {g : Nat} {t : TypeId} {cs : List Value} (h : w.grownBy w' r) (hB : Blk w g t cs) (hne : r ≠ some g) : Blk w' g t cs := (h.block g hB.lt (fun e => hne e.symm)).trans hB
theorem gown {w w' : World} {r : Option Nat} {base n size : Nat} {e : TypeId} {v : Value} {xs : List Value} (h : w.grownBy w' r) (hO : w.ownsRow base e size v n xs) (hne : ∀ k, v.ownBlock = some k → r ≠ some k) : w'.ownsRow base e size v n xs := by
  refine ⟨hO.1, ?_⟩
  rcases hO.2 with h2 | ⟨g, cap, cur, hv, hg, hh, r'⟩
  · exact .inl h2
  · exact .inr ⟨g, cap, cur, hv, hg, (h.block g (Array.getElem?_eq_some_iff.1 hh).1 (fun e => hne g (by rw [hv]; rfl) e.symm)).trans hh, r'⟩
end Go.Proofs.YtpjgplohlchpoaaGreatDoor
namespace Go.Proofs.YtpjgplohlchpoaaGreatDoor
open Go.RowKit

/-- The cells of a table's cell, and of a row of them. -/
def spC (s : Sp) : List Value := [.int .i64 s.1, .int .i64 s.2]
def sps (l : List Sp) : List Value := l.flatMap spC
theorem spC_length (s : Sp) : (spC s).length = 2 := rfl
theorem sps_length (l : List Sp) : (sps l).length = l.length * 2 := by
  induction l with
  | nil => rfl
  | cons s l ih => rw [sps, List.flatMap_cons, List.length_append, spC_length, ← sps, ih, List.length_cons]; omega
theorem sps_append (l m : List Sp) : sps (l ++ m) = sps l ++ sps m := by simp [sps]
theorem sps_cons (s : Sp) (l : List Sp) : sps (s :: l) = spC s ++ sps l := rfl
theorem sps_at : ∀ (l : List Sp) (i j : Nat) (hi : i < l.length), j < 2 → (sps l)[i * 2 + j]? = (spC l[i])[j]?
  | s :: l, 0, j, _, hj => by rw [sps_cons, Nat.zero_mul, Nat.zero_add, List.getElem?_append_left (by rw [spC_length]; exact hj)]; rfl
  | s :: l, i + 1, j, hi, hj => by
    rw [sps_cons, List.getElem?_append_right (by rw [spC_length]; omega), spC_length, show (i + 1) * 2 + j - 2 = i * 2 + j by omega, sps_at l i j (by simpa using hi) hj]
    rfl
theorem sps_set : ∀ (l : List Sp) (i : Nat) (s : Sp), i < l.length → sps (l.set i s) = (sps l).take (i * 2) ++ spC s ++ (sps l).drop (i * 2 + 2)
  | t :: l, 0, s, _ => by
    rw [List.set_cons_zero, sps_cons, sps_cons, Nat.zero_mul, List.take_zero, List.nil_append, Nat.zero_add, List.drop_append_of_le_length (by rw [spC_length]; omega)]
    simp [spC]
  | t :: l, i + 1, s, hi => by
    rw [List.set_cons_succ, sps_cons, sps_cons, sps_set l i s (by simpa using hi)]
    have h1 : (spC t ++ sps l).take ((i + 1) * 2) = spC t ++ (sps l).take (i * 2) := by
      rw [List.take_append, spC_length, List.take_of_length_le (by rw [spC_length]; omega), show (i + 1) * 2 - 2 = i * 2 by omega]
    have h2 : (spC t ++ sps l).drop ((i + 1) * 2 + 2) = (sps l).drop (i * 2 + 2) := by
      rw [List.drop_append, spC_length, List.drop_eq_nil_of_le (by rw [spC_length]; omega), List.nil_append, show (i + 1) * 2 + 2 - 2 = i * 2 + 2 by omega]
    rw [h1, h2]
    simp [List.append_assoc]
theorem set2P (xs : List Value) (m : Nat) (a b : Value) (h : m + 2 ≤ xs.length) : (xs.set m a).set (m + 1) b = xs.take m ++ [a, b] ++ xs.drop (m + 2) := by
  refine List.ext_getElem? fun j => ?_
  simp only [List.getElem?_set, List.length_set]
  rcases Nat.lt_or_ge j m with h1 | h1
  · rw [if_neg (by omega), if_neg (by omega), List.append_assoc, List.getElem?_append_left (by simp; omega), List.getElem?_take_of_lt h1]
  · rcases Nat.lt_or_ge j (m + 2) with h2 | h2
    · obtain ⟨q, rfl⟩ : ∃ q, j = m + q := ⟨j - m, by omega⟩
      rw [List.append_assoc, List.getElem?_append_right (by simp; omega)]
      have hl : (xs.take m).length = m := by simp; omega
      rw [hl, Nat.add_sub_cancel_left]
      match q, h2 with
      | 0, _ => simp; omega
      | 1, _ => simp; omega
      | q + 2, h => omega
    · rw [if_neg (by omega), if_neg (by omega), List.getElem?_append_right (by simp; omega)]
      have hl : (xs.take m ++ [a, b]).length = m + 2 := by simp; omega
      rw [hl, List.getElem?_drop]
      congr 1
      omega
/-- A cell of a table as a value. -/
def spV (s : Sp) : Value := .agg #[.int .i64 s.1, .int .i64 s.2]
def eqSp (s t : Sp) : Bool := (s.1 == t.1) && (s.2 == t.2)
theorem eqSp_same (s : Sp) : eqSp s s = true := by simp [eqSp]
theorem eqSp_iff (s t : Sp) : eqSp s t = true ↔ s = t := by
  constructor
  · intro h
    simp only [eqSp, Bool.and_eq_true, beq_iff_eq] at h
    exact Prod.ext h.1 h.2
  · rintro rfl; exact eqSp_same s
/-- The two cells of cell i of a row. -/
def spotAt2 (w : World) (g i : Nat) (s : Sp) : Prop := w.cell? ⟨g, i * 2, none⟩ = some (.int .i64 s.1) ∧ w.cell? ⟨g, i * 2 + 1, none⟩ = some (.int .i64 s.2)
/-- A row of cells that reads as l. -/
def RdP (w : World) (a : Option Addr) (l : List Sp) : Prop := l = [] ∨ ∃ g, a = some ⟨g, 0, none⟩ ∧ g < w.heap.size ∧ ∀ i (h : i < l.length), spotAt2 w g i l[i]
theorem spotAt2.below {w w' : World} {B g i : Nat} {s : Sp} (h : spotAt2 w g i s) (hb : Below B w w') (hg : g < B) : spotAt2 w' g i s := ⟨(hb.cell hg).trans h.1, (hb.cell hg).trans h.2⟩
theorem RdP.later {w w' : World} {a : Option Addr} {l : List Sp} (h : RdP w a l) (hb : Below w.heap.size w w') : RdP w' a l := by
  rcases h with h | ⟨g, ha, hg, hc⟩
  · exact .inl h
  · exact .inr ⟨g, ha, Nat.lt_of_lt_of_le hg hb.size, fun i hi => (hc i hi).below hb hg⟩
theorem RdP.at {w : World} {a : Option Addr} {l : List Sp} (h : RdP w a l) (i : Nat) (hi : i < l.length) : ∃ g, a = some ⟨g, 0, none⟩ ∧ g < w.heap.size ∧ spotAt2 w g i l[i] := by
  rcases h with h | ⟨g, ha, hg, hc⟩
  · subst h; simp at hi
  · exact ⟨g, ha, hg, hc i hi⟩
theorem rdP_of_own {w : World} {base ca : Nat} {e : TypeId} {ao : Option Addr} {l : List Sp} (h : w.ownsRow base e 2 (.slice ao l.length ca) l.length (sps l)) : RdP w ao l := by
  by_cases h0 : l.length = 0
  · exact .inl (List.eq_nil_of_length_eq_zero h0)
  · rcases h.2 with ⟨hv, hn⟩ | ⟨g, cap, cur, hv, hb, hh, r⟩
    · omega
    · injection hv with h1 h2 h3
      subst h1
      refine .inr ⟨g, rfl, (Array.getElem?_eq_some_iff.1 hh).1, fun i hi => ?_⟩
      have at2 : ∀ j, j < 2 → w.cell? ⟨g, i * 2 + j, none⟩ = (spC l[i])[j]? := fun j hj => (h.cellAt (i * 2 + j) (by omega)).trans (sps_at l i j hi hj)
      exact ⟨at2 0 (by omega), at2 1 (by omega)⟩

end Go.Proofs.YtpjgplohlchpoaaGreatDoor
namespace Go.Proofs.YtpjgplohlchpoaaGreatDoor
open Go.RowKit

theorem SrtS.at {l : List Sp} (h : SrtS l) (n : Int) : l.filter (fun s => !decide (n ≤ s.1)) ++ l.filter (fun s => decide (n ≤ s.1)) = l := by
  induction l with
  | nil => rfl
  | cons a l ih =>
    obtain ⟨h1, h2⟩ := List.pairwise_cons.1 h
    by_cases ha : n ≤ a.1
    · have hn : ∀ b ∈ l, n ≤ b.1 := by
        intro b hb
        have := ahd_not.1 (h1 b hb)
        omega
      have e1 : l.filter (fun s => !decide (n ≤ s.1)) = [] := List.filter_eq_nil_iff.2 (fun b hb => by simp [hn b hb])
      have e2 : l.filter (fun s => decide (n ≤ s.1)) = l := List.filter_eq_self.2 (fun b hb => by simp [hn b hb])
      rw [List.filter_cons_of_neg (by simp [ha]), List.filter_cons_of_pos (by simp [ha]), e1, e2]
      rfl
    · rw [List.filter_cons_of_pos (by simp [ha]), List.filter_cons_of_neg (by simp [ha]), List.cons_append, ih h2]
theorem from_app (A B : List Sp) (n : Int) (hA : ∀ s ∈ A, ¬ n ≤ s.1) (hB : ∀ s ∈ B, n ≤ s.1) : fromS (A ++ B) n = if B = [] then 0 else A.length := by
  unfold fromS
  rw [List.findIdx?_append, List.findIdx?_eq_none_iff.2 (fun s hs => by simp [hA s hs])]
  cases B with
  | nil => rfl
  | cons b B =>
    rw [List.findIdx?_cons, if_pos (by simp [hB b List.mem_cons_self])]
    simp
/-- From a key on, around: those at least there, then those ahead. -/
theorem around_eq {l : List Sp} (h : SrtS l) (n : Int) : aroundS l n = l.filter (fun s => decide (n ≤ s.1)) ++ l.filter (fun s => !decide (n ≤ s.1)) := by
  have e := h.at n
  have hA : ∀ s ∈ l.filter (fun s => !decide (n ≤ s.1)), ¬ n ≤ s.1 := fun s hs => by simpa using (List.mem_filter.1 hs).2
  have hB : ∀ s ∈ l.filter (fun s => decide (n ≤ s.1)), n ≤ s.1 := fun s hs => by simpa using (List.mem_filter.1 hs).2
  generalize l.filter (fun s => !decide (n ≤ s.1)) = A at *
  generalize l.filter (fun s => decide (n ≤ s.1)) = B at *
  subst e
  unfold aroundS
  rw [from_app A B n hA hB]
  split
  · rename_i hb
    subst hb
    simp
  · rw [List.drop_left, List.take_left]
theorem around_keep {l : List Sp} (h : SrtS l) (n : Int) (p : Sp → Bool) : aroundS (l.filter p) n = (aroundS l n).filter p := by
  rw [around_eq h, around_eq (show SrtS (l.filter p) from h.filter _), List.filter_append, List.filter_filter, List.filter_filter, List.filter_filter, List.filter_filter]
  congr 1
  · exact List.filter_congr (fun y _ => Bool.and_comm _ _)
  · exact List.filter_congr (fun y _ => Bool.and_comm _ _)
theorem around_mem {l : List Sp} {n : Int} {s : Sp} : s ∈ aroundS l n ↔ s ∈ l := by
  unfold aroundS
  rw [List.mem_append, or_comm, ← List.mem_append, List.take_append_drop]
/-- The home without a node: another's stays, its own goes to another. -/
theorem home_rest {l : List Sp} (h : SrtS l) (n x : Int) (hx : homeS l n ≠ x) : homeS (l.filter (fun s => s.2 != x)) n = homeS l n := by
  unfold homeS at *
  rw [around_keep h]
  cases e : aroundS l n with
  | nil => rfl
  | cons s r =>
    rw [e] at hx
    dsimp only at hx
    rw [List.filter_cons_of_pos (by simp [hx])]
theorem home_gone {l : List Sp} (h : SrtS l) (n x : Int) (hl : ∃ s ∈ l, s.2 ≠ x) : homeS (l.filter (fun s => s.2 != x)) n ≠ x := by
  unfold homeS
  rw [around_keep h]
  cases e : (aroundS l n).filter (fun s => s.2 != x) with
  | nil =>
    obtain ⟨s, hs, hn⟩ := hl
    have := List.filter_eq_nil_iff.1 e s (around_mem.2 hs)
    simp [hn] at this
  | cons s r =>
    have : s ∈ (aroundS l n).filter (fun s => s.2 != x) := by rw [e]; exact List.mem_cons_self
    have := (List.mem_filter.1 this).2
    dsimp only
    simpa using this
theorem once_mem {vs : List Int} : ∀ {seen : List Int} {v : Int}, v ∈ onceS seen vs ↔ v ∈ vs ∧ ¬ v ∈ seen := by
  induction vs with
  | nil => intro seen v; simp [onceS]
  | cons a vs ih =>
    intro seen v
    rw [onceS]
    split
    · rename_i ha
      rw [ih]
      constructor
      · rintro ⟨h1, h2⟩; exact ⟨List.mem_cons_of_mem _ h1, h2⟩
      · rintro ⟨h1, h2⟩
        rcases List.mem_cons.1 h1 with rfl | h1
        · exact absurd ha h2
        · exact ⟨h1, h2⟩
    · rename_i ha
      rw [List.mem_cons, ih]
      constructor
      · rintro (rfl | ⟨h1, h2⟩)
        · exact ⟨List.mem_cons_self, ha⟩
        · exact ⟨List.mem_cons_of_mem _ h1, fun e => h2 (List.mem_cons_of_mem _ e)⟩
      · rintro ⟨h1, h2⟩
        by_cases e : v = a
        · exact .inl e
        · rcases List.mem_cons.1 h1 with h1 | h1
          · exact absurd h1 e
          · exact .inr ⟨h1, fun h => (List.mem_cons.1 h).elim e h2⟩
theorem once_nodup {vs : List Int} : ∀ {seen : List Int}, (onceS seen vs).Nodup := by
  induction vs with
  | nil => intro seen; exact List.Pairwise.nil
  | cons a vs ih =>
    intro seen
    rw [onceS]
    split
    · exact ih
    · refine List.nodup_cons.2 ⟨fun h => ?_, ih⟩
      exact (once_mem.1 h).2 List.mem_cons_self
theorem once_congr {vs : List Int} : ∀ {s t : List Int}, (∀ v ∈ vs, v ∈ s ↔ v ∈ t) → onceS s vs = onceS t vs := by
  induction vs with
  | nil => intro s t _; rfl
  | cons a vs ih =>
    intro s t h
    rw [onceS, onceS]
    have ha := h a List.mem_cons_self
    by_cases e : a ∈ s
    · rw [if_pos e, if_pos (ha.1 e)]
      exact ih (fun v hv => h v (List.mem_cons_of_mem _ hv))
    · rw [if_neg e, if_neg (fun e2 => e (ha.2 e2))]
      congr 1
      refine ih (fun v hv => ?_)
      rw [List.mem_cons, List.mem_cons, h v (List.mem_cons_of_mem _ hv)]
/-- Without a node: the others that it had, in order. -/
theorem once_rest (x : Int) {vs : List Int} : ∀ {seen : List Int}, onceS seen (vs.filter (fun v => v != x)) = (onceS seen vs).filter (fun v => v != x) := by
  induction vs with
  | nil => intro seen; rfl
  | cons a vs ih =>
    intro seen
    by_cases hx : a = x
    · subst hx
      rw [List.filter_cons_of_neg (by simp), onceS]
      split
      · exact ih
      · rw [List.filter_cons_of_neg (by simp), ← ih]
        refine once_congr (fun v hv => ?_)
        have : v ≠ a := by simpa using (List.mem_filter.1 hv).2
        rw [List.mem_cons]
        constructor
        · exact .inr
        · rintro (e | e)
          · exact absurd e this
          · exact e
    · rw [List.filter_cons_of_pos (by simp [hx]), onceS, onceS]
      split
      · exact ih
      · rw [List.filter_cons_of_pos (by simp [hx]), ih]
theorem homes_rest {l : List Sp} (h : SrtS l) (n x : Int) : onceS [] ((aroundS (l.filter (fun s => s.2 != x)) n).map (·.2)) = (onceS [] ((aroundS l n).map (·.2))).filter (fun v => v != x) := by
  rw [around_keep h, ← once_rest]
  congr 1
  rw [List.filter_map]
  rfl
end Go.Proofs.YtpjgplohlchpoaaGreatDoor
