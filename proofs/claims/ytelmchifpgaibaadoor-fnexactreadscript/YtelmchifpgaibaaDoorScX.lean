/- The map of a script's words. -/
import Derived.Test.YtelmchifpgaibaaDoorScW
import Derived.MapKept
import Derived.Maps.Own
namespace Go.Proofs.YtelmchifpgaibaaDoor
open Go.RowKit
set_option linter.unusedVariables false

/-- A map from texts, by its entries in the order in which they came. -/
def MapW (w : World) (r : Nat) (es : List (ByteArray × Value)) : Prop := ∃ arr : Array MapEntry, w.heap[r]? = some (.map arr arr.size) ∧ arr.toList.map (fun e => (e.key, e.val)) = es.map (fun p => (Value.string p.1, p.2))
theorem MapW.later {w w' : World} {r : Nat} {es : List (ByteArray × Value)} (h : MapW w r es) (hb : Below w.heap.size w w') : MapW w' r es := by
  obtain ⟨arr, h1, h2⟩ := h
  exact ⟨arr, (hb.block r (Array.getElem?_eq_some_iff.1 h1).1).trans h1, h2⟩
theorem MapW.lt {w : World} {r : Nat} {es : List (ByteArray × Value)} (h : MapW w r es) : r < w.heap.size := by
  obtain ⟨arr, h1, _⟩ := h
  exact (Array.getElem?_eq_some_iff.1 h1).1
theorem MapW.new (w : World) : MapW (w.alloc (.map #[] 0)) w.heap.size [] := ⟨#[], (MapKept.heap_alloc w _).1, rfl⟩
def lookW (k : ByteArray) : List (ByteArray × Value) → Nat → Option (Nat × Value)
  | [], _ => none
  | (x, v) :: r, i => if k == x then some (i, v) else lookW k r (i + 1)
theorem findNow_str (k : ByteArray) : ∀ (l : List MapEntry) (es : List (ByteArray × Value)) (i : Nat), l.map (fun e => (e.key, e.val)) = es.map (fun p => (Value.string p.1, p.2)) → Instr.findNow .string (.string k) l i = some (lookW k es i)
  | [], [], i, _ => rfl
  | [], _ :: _, _, h => by simp at h
  | _ :: _, [], _, h => by simp at h
  | e :: l, (x, v) :: es, i, h => by
    simp only [List.map_cons, List.cons.injEq, Prod.mk.injEq] at h
    obtain ⟨⟨h1, h2⟩, h3⟩ := h
    have ih := findNow_str k l es (i + 1) h3
    unfold Instr.findNow lookW
    rw [h1, h2]
    simp only [Instr.sameNow]
    cases hk : (k == x) with
    | true => rfl
    | false => exact ih
theorem beq_bytes (a b : ByteArray) : (a == b) = true ↔ a = b := by
  obtain ⟨r, hr, hiff⟩ := MapKept.sameNow_of_keys (d := .string) (a := .string a) (b := .string b) (by simp [MapKept.IsKey]) (by simp [MapKept.IsKey])
  have h1 : r = (a == b) := by simpa [Instr.sameNow] using hr.symm
  rw [← h1, hiff]
  exact ⟨fun h => by injection h, fun h => by rw [h]⟩
theorem lookW_none {k : ByteArray} : ∀ {es : List (ByteArray × Value)} {i : Nat}, (∀ p ∈ es, p.1 ≠ k) → lookW k es i = none
  | [], _, _ => rfl
  | (x, v) :: r, i, h => by
    unfold lookW
    rw [if_neg (by rw [beq_bytes]; exact fun e => h (x, v) (.head _) e.symm)]
    exact lookW_none (fun p hp => h p (.tail _ hp))
def keysNo (k : ByteArray) : List (ByteArray × Value) → Bool
  | [] => true
  | p :: r => !(p.1 == k) && keysNo k r
theorem keysNo_all {k : ByteArray} : ∀ {es : List (ByteArray × Value)}, keysNo k es = true → ∀ p ∈ es, p.1 ≠ k
  | q :: r, h, p, hp => by
    simp only [keysNo, Bool.and_eq_true, Bool.not_eq_true'] at h
    rcases List.mem_cons.1 hp with e | e
    · rw [e]; intro e2; rw [(beq_bytes _ _).2 e2] at h; exact absurd h.1 (by decide)
    · exact keysNo_all h.2 p e
theorem insert_run {P : Program} {w : World} {t kt et : TypeId} (hm : P.underlying t = some (.map kt et)) (hk : P.underlying kt = some .string) {r : Nat} {es : List (ByteArray × Value)} (h : MapW w r es) (k : ByteArray) (v : Value) (hn : ∀ p ∈ es, p.1 ≠ k) :
    ∃ w', (Instr.mapUpdate t (.map (some r)) (.string k) v).run P w = .ok () w' ∧ MapW w' r (es ++ [(k, v)]) ∧ w.grownBy w' (some r) := by
  obtain ⟨arr, h1, h2⟩ := h
  have hc : (Instr.checkKey false 10000 kt (.string k)).run P w = .ok () w := MapKept.run_checkKey (k := .string k) hk (by simp [MapKept.IsKey]) false 9999
  have hf := findNow_str k arr.toList es 0 h2
  rw [lookW_none hn] at hf
  have hs := (MapKept.heap_set (o' := .map (arr.push { key := .string k, val := v, born := arr.size }) (arr.size + 1)) h1)
  refine ⟨{ w with heap := w.heap.setIfInBounds r (.map (arr.push { key := .string k, val := v, born := arr.size }) (arr.size + 1)) }, ?_, ⟨arr.push { key := .string k, val := v, born := arr.size }, ?_, ?_⟩, ⟨rfl, rfl, rfl, by simp, fun j _ hj => hs.2 j (fun e => hj (by rw [e]))⟩⟩
  · simp [Instr.mapUpdate, run_underlying hm, MapKept.run_getObj_map h1, hc, MapKept.run_findKey hk hf, MapKept.run_setObj_map _ h1, Result.andThen]
  · rw [Array.size_push]; exact hs.1
  · rw [Array.toList_push, List.map_append, List.map_append, h2]; rfl
theorem wpList_insertW {P : Program} {w : World} {ops : Array Oper} {rest : List Oper} {o : Oper} {a : Act} {Q : Exit → Act → World → Prop} (hg : o.guard = none) (m x v : Operand) (t : TypeId) (hop : o.op = Op.insert t m x v)
    {kt et : TypeId} (hm : P.underlying t = some (.map kt et)) (hk : P.underlying kt = some .string) (r : Nat) (es : List (ByteArray × Value)) (hmv : a.eval m = .map (some r)) (h : MapW w r es) (k : ByteArray) (hx : a.eval x = .string k) (u : Value) (hv : a.eval v = u) (hn : ∀ p ∈ es, p.1 ≠ k)
    (hK : ∀ w', MapW w' r (es ++ [(k, u)]) → w.grownBy w' (some r) → wpList P ops Q rest (a.put o.dst undef) w') : wpList P ops Q (o :: rest) a w := by
  refine wpList_plain hg fun K' hK' => ?_
  obtain ⟨w', hrun, r1, r2⟩ := insert_run hm hk h k u hn
  unfold Oper.wp
  simp [execOp, hop, hmv, hx, hv, hrun, Result.andThen]
  exact hK' _ _ (hK w' r1 r2)
theorem lookup_run {P : Program} {w : World} {t kt et : TypeId} (hm : P.underlying t = some (.map kt et)) (hk : P.underlying kt = some .string) (z : Value) (hz : (zeroValue et).run P w = .ok z w) {r : Nat} {es : List (ByteArray × Value)} (h : MapW w r es) (k : ByteArray) :
    (Instr.lookup t (.map (some r)) (.string k) true).run P w = .ok (match lookW k es 0 with | some (_, v) => .tuple #[v, .bool true] | none => .tuple #[z, .bool false]) w := by
  obtain ⟨arr, h1, h2⟩ := h
  have hc : ∀ b, (Instr.checkKey b 10000 kt (.string k)).run P w = .ok () w := fun b => MapKept.run_checkKey (k := .string k) hk (by simp [MapKept.IsKey]) b 9999
  have hf := findNow_str k arr.toList es 0 h2
  cases hl : lookW k es 0 with
  | none =>
    rw [hl] at hf
    simp [Instr.lookup, run_underlying hm, MapKept.run_getObj_map h1, hc, MapKept.run_findKey hk hf, hz, Result.andThen]
  | some p =>
    rw [hl] at hf
    obtain ⟨i, v⟩ := p
    simp [Instr.lookup, run_underlying hm, MapKept.run_getObj_map h1, hc, MapKept.run_findKey hk hf, Result.andThen]
/-- The words' closures, by the blocks that they captured. -/
def wordsL (C d2 d3 d4 d5 d6 : Nat) : List (ByteArray × Value) :=
  [(wView, .func (.func 38) #[] #[.pointer (some ⟨C, 0, none⟩)]),
   (wPut, .func (.func 40) #[] #[.pointer (some ⟨C, 0, none⟩)]),
   (wGet, .func (.func 41) #[] #[.pointer (some ⟨C, 0, none⟩)]),
   (wDeliver, .func (.func 36) #[] #[.pointer (some ⟨C, 0, none⟩), .pointer (some ⟨d2, 0, none⟩)]),
   (wDrop, .func (.func 36) #[] #[.pointer (some ⟨C, 0, none⟩), .pointer (some ⟨d3, 0, none⟩)]),
   (wCopy, .func (.func 36) #[] #[.pointer (some ⟨C, 0, none⟩), .pointer (some ⟨d4, 0, none⟩)]),
   (wAdopt, .func (.func 33) #[] #[.pointer (some ⟨C, 0, none⟩), .pointer (some ⟨d5, 0, none⟩)]),
   (wFall, .func (.func 33) #[] #[.pointer (some ⟨C, 0, none⟩), .pointer (some ⟨d6, 0, none⟩)])]
theorem mk1_any (k : Int) (c : Nat) (w : World) : Calls Tryd.prog 32 #[.int .i64 k, .pointer (some ⟨c, 0, none⟩)] w fun e w' => e = .returned (.func (.func 33) #[] #[.pointer (some ⟨c, 0, none⟩), .pointer (some ⟨w.heap.size, 0, none⟩)]) ∧ KiS w' w.heap.size k ∧ Below w.heap.size w w' := by
  have hmf : ∀ (fn : Fn) (first cap : Array Value) (w : World), (Instr.makeFunc fn first cap).run Tryd.prog w = .ok (.func fn first cap) w := fun _ _ _ _ => rfl
  go_enter Tryd.func32, Tryd.ntmps32
  go_wp2
  go_ret
  exact ⟨rfl, Blk.new _ _ _, (Below.refl _ _).alloc (Nat.le_refl _) _⟩
theorem mk2_any (k : Int) (c : Nat) (w : World) : Calls Tryd.prog 35 #[.int .i64 k, .pointer (some ⟨c, 0, none⟩)] w fun e w' => e = .returned (.func (.func 36) #[] #[.pointer (some ⟨c, 0, none⟩), .pointer (some ⟨w.heap.size, 0, none⟩)]) ∧ KiS w' w.heap.size k ∧ Below w.heap.size w w' := by
  have hmf : ∀ (fn : Fn) (first cap : Array Value) (w : World), (Instr.makeFunc fn first cap).run Tryd.prog w = .ok (.func fn first cap) w := fun _ _ _ _ => rfl
  go_enter Tryd.func35, Tryd.ntmps35
  go_wp2
  go_ret
  exact ⟨rfl, Blk.new _ _ _, (Below.refl _ _).alloc (Nat.le_refl _) _⟩
/-- The words, as they lie. -/
structure WdS (G : Nat) (w : World) (r C d2 d3 d4 d5 d6 : Nat) : Prop where
  m : MapW w r (wordsL C d2 d3 d4 d5 d6)
  c : PtS G w C
  k2 : KiS w d2 2
  k3 : KiS w d3 3
  k4 : KiS w d4 4
  k5 : KiS w d5 5
  k6 : KiS w d6 6

/-- Blocks that lie beside the map. -/
def AllB (w : World) (R : Nat) (L : List (Nat × TypeId × List Value)) : Prop := ∀ x ∈ L, Blk w x.1 x.2.1 x.2.2 ∧ x.1 ≠ R
theorem AllB.later {w w' : World} {R : Nat} {L : List (Nat × TypeId × List Value)} (h : AllB w R L) (hb : Below w.heap.size w w') : AllB w' R L := fun x hx => ⟨(h x hx).1.below hb (h x hx).1.lt, (h x hx).2⟩
theorem AllB.grown {w w' : World} {R : Nat} {L : List (Nat × TypeId × List Value)} (h : AllB w R L) (hb : w.grownBy w' (some R)) : AllB w' R L := fun x hx => ⟨gblk hb (h x hx).1 (fun e => (h x hx).2 (by injection e with e; exact e.symm)), (h x hx).2⟩
theorem AllB.cons {w : World} {R b : Nat} {t : TypeId} {cs : List Value} {L : List (Nat × TypeId × List Value)} (h : AllB w R L) (hb : Blk w b t cs) (hn : b ≠ R) : AllB w R ((b, t, cs) :: L) := fun x hx => by
  rcases List.mem_cons.1 hx with h1 | h1
  · rw [h1]; exact ⟨hb, hn⟩
  · exact h x h1

set_option maxRecDepth 100000 in
set_option maxHeartbeats 4000000 in
theorem words_any (G : Nat) (w : World) : Calls Tryd.prog 28 #[.pointer (some ⟨G, 0, none⟩)] w fun e w' => ∃ r C d2 d3 d4 d5 d6, e = .returned (.map (some r)) ∧ WdS G w' r C d2 d3 d4 d5 d6 ∧ w.heap.size ≤ C ∧ w.heap.size ≤ r ∧ Below w.heap.size w w' := by
  have hmf : ∀ (fn : Fn) (first cap : Array Value) (w : World), (Instr.makeFunc fn first cap).run Tryd.prog w = .ok (.func fn first cap) w := fun _ _ _ _ => rfl
  have hmm := @run_makeMap Tryd.prog
  obtain ⟨u, hu⟩ : ∃ u, u = (w.alloc (.cells #[.pointer (some ⟨G, 0, none⟩)] 44)).alloc (.map #[] 0) := ⟨_, rfl⟩
  have B1 := (Below.refl w.heap.size w).alloc (Nat.le_refl _) (.cells #[.pointer (some ⟨G, 0, none⟩)] 44)
  have s1 : (w.alloc (.cells #[.pointer (some ⟨G, 0, none⟩)] 44)).heap.size = w.heap.size + 1 := World.size_alloc _ _
  have MW := hide1 (show MapW u (w.heap.size + 1) [] from by rw [hu, ← s1]; exact MapW.new _)
  have BB := hide1 (show Below w.heap.size w u from by rw [hu]; exact B1.alloc (by omega) _)
  have FK := hide1 (show AllB u (w.heap.size + 1) [(w.heap.size, 44, [.pointer (some ⟨G, 0, none⟩)])] from by
    intro x hx
    rw [List.mem_singleton.1 hx, hu]
    exact ⟨(Blk.new w _ _).more _, by show w.heap.size ≠ _; omega⟩)
  rw [hu] at MW BB FK
  have leR : w.heap.size ≤ w.heap.size + 1 := Nat.le_succ _
  clear hu B1 s1
  go_enter Tryd.func28, Tryd.ntmps28
  go_wp2_with (first | (refine wpList_insertW rfl _ _ _ _ rfl Tryd.underlying56 Tryd.underlying9 (w.heap.size + 1) _ rfl MW.out _ rfl _ rfl (keysNo_all (by rfl)) ?_; intro w1 hM hG; have sz := BB.out.size; have F1 := hide1 (FK.out.grown hG); have B1 := hide1 (BB.out.trans (gbelow hG (fun g e => by injection e with e; omega) sz)); clear MW FK BB sz hG; have MW := hide1 hM; have FK := hide1 F1.out; have BB := hide1 B1.out; clear hM F1 B1) | ((first | (go_at_call 35; refine (mk2_any _ _ _).mono ?_) | (go_at_call 32; refine (mk1_any _ _ _).mono ?_)); rintro e w2 ⟨rfl, hk, hb⟩; have ltR := MW.out.lt; have M1 := hide1 (MW.out.later hb); have F1 := hide1 ((FK.out.later hb).cons hk (by omega)); have B1 := hide1 (BB.out.trans (hb.mono BB.out.size)); clear MW FK BB hk hb ltR; have MW := hide1 M1.out; have FK := hide1 F1.out; have BB := hide1 B1.out; clear M1 F1 B1))
  go_ret
  have h6 := (FK.out _ (.head _)).1
  have h5 := (FK.out _ (.tail _ (.head _))).1
  have h4 := (FK.out _ (.tail _ (.tail _ (.head _)))).1
  have h3 := (FK.out _ (.tail _ (.tail _ (.tail _ (.head _))))).1
  have h2 := (FK.out _ (.tail _ (.tail _ (.tail _ (.tail _ (.head _)))))).1
  have hC := (FK.out _ (.tail _ (.tail _ (.tail _ (.tail _ (.tail _ (.head _))))))).1
  refine ⟨_, _, _, _, _, _, _, rfl, ⟨?_, hC, h2, h3, h4, h5, h6⟩, Nat.le_refl _, leR, BB.out⟩
  exact MW.out
end Go.Proofs.YtelmchifpgaibaaDoor
