/- Rings, plain: spots in order; a node that goes takes its spots alone; the first spot for a key, its homes. -/
import Derived.Test.YtelmchifpgaibaaDoorSAA
import Derived.Test.YtelmchifpgaibaaDoorProg
import Derived.Test.YtelmchifpgaibaaDoorSAB
import Derived.Deep.RegionHeld3
import Derived.Deep.RegionWith
import Derived.Deep.QuietTactic
import Derived.Deep.WholeRow
import Derived.BigQuiet
import Derived.Handy
namespace Go.Proofs.YtelmchifpgaibaaDoor
open Go.RowKit

/-- A spot: At, Node. -/
abbrev Sp := Int × Int
def ahd (a b : Sp) : Bool := decide (a.1 < b.1) || (decide (a.1 = b.1) && decide (a.2 < b.2))
theorem ahd_iff {a b : Sp} : ahd a b = true ↔ a.1 < b.1 ∨ (a.1 = b.1 ∧ a.2 < b.2) := by simp [ahd]
theorem ahd_not {a b : Sp} : ahd a b = false ↔ ¬ (a.1 < b.1 ∨ (a.1 = b.1 ∧ a.2 < b.2)) := by rw [← ahd_iff]; simp
/-- A spot more, where it belongs. -/
def insS (l : List Sp) (x : Sp) : List Sp := l.filter (fun y => ahd y x) ++ [x] ++ l.filter (fun y => !ahd y x)
/-- In order. -/
def SrtS (l : List Sp) : Prop := l.Pairwise (fun a b => ahd b a = false)
theorem parts {l : List Sp} (h : SrtS l) (x : Sp) : l.filter (fun y => ahd y x) ++ l.filter (fun y => !ahd y x) = l := by
  induction l with
  | nil => rfl
  | cons a l ih =>
    obtain ⟨h1, h2⟩ := List.pairwise_cons.1 h
    by_cases ha : ahd a x = true
    · rw [List.filter_cons_of_pos (by simpa using ha), List.filter_cons_of_neg (by simp [ha]), List.cons_append, ih h2]
    · have hn : ∀ b ∈ l, ahd b x = false := by
        intro b hb
        have h3 := ahd_not.1 (h1 b hb)
        have h4 : ¬ (a.1 < x.1 ∨ (a.1 = x.1 ∧ a.2 < x.2)) := fun e => ha (ahd_iff.2 e)
        exact ahd_not.2 (by omega)
      have e1 : l.filter (fun y => ahd y x) = [] := List.filter_eq_nil_iff.2 (fun b hb => by rw [hn b hb]; simp)
      have e2 : l.filter (fun y => !ahd y x) = l := List.filter_eq_self.2 (fun b hb => by rw [hn b hb]; rfl)
      rw [List.filter_cons_of_neg (by simpa using ha), List.filter_cons_of_pos (by simpa using ha), e1, e2]
      rfl
theorem SrtS.ins {l : List Sp} (h : SrtS l) (x : Sp) : SrtS (insS l x) := by
  unfold SrtS insS
  rw [List.append_assoc]
  refine List.pairwise_append.2 ⟨h.filter _, ?_, ?_⟩
  · refine List.pairwise_cons.2 ⟨fun b hb => ?_, h.filter _⟩
    have := (List.mem_filter.1 hb).2
    simpa using this
  · intro a ha b hb
    have h1 := ahd_iff.1 (List.mem_filter.1 ha).2
    rcases List.mem_cons.1 hb with rfl | hb
    · exact ahd_not.2 (by omega)
    · have h2 := (List.mem_filter.1 hb).2
      have h3 := ahd_not.1 (by simpa using h2)
      exact ahd_not.2 (by omega)
theorem insS_length (l : List Sp) (x : Sp) : (insS l x).length = l.length + 1 := by
  have : ∀ l : List Sp, (l.filter (fun y => ahd y x)).length + (l.filter (fun y => !ahd y x)).length = l.length := fun l => by
    induction l with
    | nil => rfl
    | cons a l ih => by_cases h : ahd a x = true <;> simp [h] <;> omega
  have := this l
  unfold insS
  simp only [List.length_append, List.length_cons, List.length_nil]
  omega
theorem insS_mem {l : List Sp} {x z : Sp} : z ∈ insS l x ↔ z = x ∨ z ∈ l := by
  unfold insS
  simp only [List.mem_append, List.mem_filter, List.mem_cons, List.not_mem_nil, or_false]
  by_cases h : ahd z x = true <;> simp [h] <;> (constructor <;> intro e <;> rcases e with e | e <;> simp [e])
/-- What is kept of a ring with a spot more. -/
theorem insS_keep {l : List Sp} (p : Sp → Bool) (x : Sp) (hx : p x = true) : (insS l x).filter p = insS (l.filter p) x := by
  unfold insS
  simp only [List.filter_append, List.filter_filter, List.filter_cons_of_pos hx, List.filter_nil]
  congr 1
  · congr 1
    exact List.filter_congr (fun y _ => Bool.and_comm _ _)
  · exact List.filter_congr (fun y _ => Bool.and_comm _ _)
theorem insS_drop {l : List Sp} (h : SrtS l) (p : Sp → Bool) (x : Sp) (hx : p x = false) : (insS l x).filter p = l.filter p := by
  unfold insS
  rw [List.filter_append, List.filter_append, List.filter_cons_of_neg (by simp [hx]), List.filter_nil, List.append_nil, ← List.filter_append, parts h]
/-- The spots of a node, f of it and of 0 .. 3. -/
def nodeS (f : Int → Nat → Int) (l : List Sp) (v : Int) : List Sp := (List.range 4).foldl (fun l k => insS l (f v k, v)) l
def ringL (f : Int → Nat → Int) (nodes : List Int) : List Sp := nodes.foldl (nodeS f) []
theorem nodeS_fold (f : Int → Nat → Int) (v : Int) (ks : List Nat) {l : List Sp} (h : SrtS l) :
    SrtS (ks.foldl (fun l k => insS l (f v k, v)) l) ∧ (ks.foldl (fun l k => insS l (f v k, v)) l).length = l.length + ks.length ∧ (∀ z, z ∈ ks.foldl (fun l k => insS l (f v k, v)) l ↔ (∃ k ∈ ks, z = (f v k, v)) ∨ z ∈ l) := by
  induction ks generalizing l with
  | nil => exact ⟨h, rfl, fun z => by simp⟩
  | cons k ks ih =>
    obtain ⟨h1, h2, h3⟩ := ih (h.ins (f v k, v))
    refine ⟨h1, ?_, fun z => ?_⟩
    · rw [List.foldl_cons, h2, insS_length, List.length_cons]; omega
    · rw [List.foldl_cons, h3, insS_mem]
      constructor
      · rintro (⟨j, hj, e⟩ | e | e)
        · exact .inl ⟨j, List.mem_cons_of_mem _ hj, e⟩
        · exact .inl ⟨k, List.mem_cons_self, e⟩
        · exact .inr e
      · rintro (⟨j, hj, e⟩ | e)
        · rcases List.mem_cons.1 hj with rfl | hj
          · exact .inr (.inl e)
          · exact .inl ⟨j, hj, e⟩
        · exact .inr (.inr e)
theorem nodeS_keep (f : Int → Nat → Int) (v : Int) (p : Sp → Bool) (hp : ∀ k, p (f v k, v) = true) (ks : List Nat) (l : List Sp) :
    (ks.foldl (fun l k => insS l (f v k, v)) l).filter p = ks.foldl (fun l k => insS l (f v k, v)) (l.filter p) := by
  induction ks generalizing l with
  | nil => rfl
  | cons k ks ih => rw [List.foldl_cons, List.foldl_cons, ih, insS_keep p _ (hp k)]
theorem nodeS_drop (f : Int → Nat → Int) (v : Int) (p : Sp → Bool) (hp : ∀ k, p (f v k, v) = false) (ks : List Nat) {l : List Sp} (h : SrtS l) :
    (ks.foldl (fun l k => insS l (f v k, v)) l).filter p = l.filter p := by
  induction ks generalizing l with
  | nil => rfl
  | cons k ks ih => rw [List.foldl_cons, ih (h.ins _), insS_drop h p _ (hp k)]
theorem ring_srt (f : Int → Nat → Int) (nodes : List Int) {l : List Sp} (h : SrtS l) : SrtS (nodes.foldl (nodeS f) l) := by
  induction nodes generalizing l with
  | nil => exact h
  | cons v nodes ih => exact ih (nodeS_fold f v (List.range 4) h).1
theorem ringL_srt (f : Int → Nat → Int) (nodes : List Int) : SrtS (ringL f nodes) := ring_srt f nodes List.Pairwise.nil
/-- Without a node: just its spots are gone. -/
theorem ring_rest (f : Int → Nat → Int) (x : Int) (nodes : List Int) {l : List Sp} (h : SrtS l) :
    (nodes.foldl (nodeS f) l).filter (fun s => s.2 != x) = (nodes.filter (fun v => v != x)).foldl (nodeS f) (l.filter (fun s => s.2 != x)) := by
  induction nodes generalizing l with
  | nil => rfl
  | cons v nodes ih =>
    rw [List.foldl_cons, ih (show SrtS (nodeS f l v) from (nodeS_fold f v (List.range 4) h).1)]
    by_cases hv : v = x
    · rw [List.filter_cons_of_neg (by simp [hv])]
      congr 1
      exact nodeS_drop f v _ (fun k => by simp [hv]) _ h
    · rw [List.filter_cons_of_pos (by simp [hv]), List.foldl_cons]
      congr 1
      exact nodeS_keep f v _ (fun k => by simp [hv]) _ l
theorem ringL_rest (f : Int → Nat → Int) (x : Int) (nodes : List Int) : (ringL f nodes).filter (fun s => s.2 != x) = ringL f (nodes.filter (fun v => v != x)) := ring_rest f x nodes List.Pairwise.nil
theorem ring_len (f : Int → Nat → Int) (nodes : List Int) {l : List Sp} (h : SrtS l) : (nodes.foldl (nodeS f) l).length = l.length + 4 * nodes.length := by
  induction nodes generalizing l with
  | nil => rfl
  | cons v nodes ih =>
    have h1 := nodeS_fold f v (List.range 4) h
    rw [List.foldl_cons, ih (show SrtS (nodeS f l v) from h1.1)]
    have h2 := h1.2.1
    rw [List.length_range] at h2
    show (nodeS f l v).length + _ = _
    unfold nodeS
    rw [h2, List.length_cons]
    omega
theorem ringL_len (f : Int → Nat → Int) (nodes : List Int) : (ringL f nodes).length = 4 * nodes.length := by
  have := ring_len f nodes (l := []) List.Pairwise.nil
  simpa [ringL] using this
/-- The first spot for a number: its place; 0 when there is none. -/
def fromS (l : List Sp) (h : Int) : Nat := (l.findIdx? (fun s => decide (h ≤ s.1))).getD 0
/-- The spots from there on, around. -/
def aroundS (l : List Sp) (h : Int) : List Sp := l.drop (fromS l h) ++ l.take (fromS l h)
def homeS (l : List Sp) (h : Int) : Int := match aroundS l h with
  | [] => 0
  | s :: _ => s.2
/-- Each once, in order. -/
def onceS : List Int → List Int → List Int
  | _, [] => []
  | seen, v :: vs => if v ∈ seen then onceS seen vs else v :: onceS (v :: seen) vs
def homesS (l : List Sp) (h : Int) (n : Nat) : List Int := (onceS [] ((aroundS l h).map (·.2))).take n
end Go.Proofs.YtelmchifpgaibaaDoor
namespace Go.Proofs.YtelmchifpgaibaaDoor
open Go.RowKit

theorem in_any (x lo hi : Int) (w : World) : Calls Tryd.prog 26 #[.int .i64 x, .int .i64 lo, .int .i64 hi] w fun e w' => e = .returned (.bool (decide (lo ≤ x) && decide (x ≤ hi))) ∧ w = w' := by
  by_cases h1 : lo ≤ x
  · by_cases h2 : x ≤ hi
    all_goals
      go_enter Tryd.func26, Tryd.ntmps26
      go_wp2
      go_ret
      exact ⟨by simp [h1, h2], rfl⟩
  · have D := hide1 (decide_eq_false h1)
    go_enter Tryd.func26, Tryd.ntmps26
    go_wp2
    go_ret
    exact ⟨by rw [D.out]; rfl, rfl⟩

theorem below2 (w : World) (o p : Obj) : Below w.heap.size w ((w.alloc o).alloc p) := ((Below.refl _ _).alloc (Nat.le_refl _) _).alloc (by rw [World.size_alloc]; omega) _
theorem own_kept {w w' : World} {base n size : Nat} {e : TypeId} {v : Value} {xs : List Value} (h : w.ownsRow base e size v n xs) (hB : Below w.heap.size w w') : w'.ownsRow base e size v n xs := by
  refine ⟨h.1, ?_⟩
  rcases h.2 with h2 | ⟨g, cap, cur, hv, hg, hh, r⟩
  · exact .inl h2
  · exact .inr ⟨g, cap, cur, hv, hg, by rw [hB.block g (Array.getElem?_eq_some_iff.1 hh).1]; exact hh, r⟩
theorem own_some {w : World} {base n size g cap : Nat} {e : TypeId} {xs : List Value} (h : w.ownsRow base e size (.slice (some ⟨g, 0, none⟩) n cap) n xs) (j : Nat) (hj : j < n * size) : ∃ u, w.cell? ⟨g, j, none⟩ = some u :=
  ⟨xs[j]'(by have := h.1; omega), (h.cellAt j hj).trans (List.getElem?_eq_getElem _)⟩
theorem gset {w w' : World} {g : Nat} (h : w.grownBy w' (some g)) (j : Nat) (u : Value) : w.grownBy (w'.setCell ⟨g, j, none⟩ u) (some g) :=
  ⟨h.os, h.tape, h.output, by have := h.size; simpa using this, fun k hk hne => by rw [Below.heap_setCell _ _ _ _ (fun e => hne (by rw [e]))]; exact h.block k hk hne⟩
theorem gnew {w w' : World} {r : Option Nat} (h : Below w.heap.size w w') : w.grownBy w' r := ⟨h.os, h.tape, h.output, h.size, fun k hk _ => h.block k hk⟩
theorem gbelow {w w' : World} {r : Option Nat} {B : Nat} (h : w.grownBy w' r) (hB : ∀ g, r = some g → B ≤ g) (hs : B ≤ w.heap.size) : Below B w w' :=
  ⟨h.os, h.tape, h.output, h.size, fun k hk => h.block k (by omega) (fun e => by have := hB k e.symm; omega)⟩
theorem own_far {w : World} {base n size : Nat} {e : TypeId} {v : Value} {xs : List Value} (h : w.ownsRow base e size v n xs) (a : Addr) (u : Value) (hne : ∀ k, v.ownBlock = some k → k ≠ a.block) : (w.setCell a u).ownsRow base e size v n xs := by
  refine ⟨h.1, ?_⟩
  rcases h.2 with h2 | ⟨g, cap, cur, hv, hg, hh, r⟩
  · exact .inl h2
  · exact .inr ⟨g, cap, cur, hv, hg, by rw [Below.heap_setCell _ _ _ _ (hne g (by rw [hv]; rfl))]; exact hh, r⟩
theorem own_base {w : World} {base base' n size : Nat} {e : TypeId} {v : Value} {xs : List Value} (h : w.ownsRow base' e size v n xs) (hb : base ≤ base') : w.ownsRow base e size v n xs := by
  refine ⟨h.1, ?_⟩
  rcases h.2 with h2 | ⟨g, cap, cur, hv, hg, r⟩
  · exact .inl h2
  · exact .inr ⟨g, cap, cur, hv, Nat.le_trans hb hg, r⟩
/-- A block of cells that nobody froze. -/
def Blk (w : World) (r : Nat) (t : TypeId) (cs : List Value) : Prop := w.heap[r]? = some (.cells cs.toArray t (0, 0))
theorem Blk.lt {w : World} {r : Nat} {t : TypeId} {cs : List Value} (h : Blk w r t cs) : r < w.heap.size := (Array.getElem?_eq_some_iff.1 h).1
theorem Blk.cell {w : World} {r : Nat} {t : TypeId} {cs : List Value} (h : Blk w r t cs) (j : Nat) : w.cell? ⟨r, j, none⟩ = cs[j]? := by
  rw [cell_of_row w r j _ _ _ h]; simp
theorem Blk.froz {w : World} {r : Nat} {t : TypeId} {cs : List Value} (h : Blk w r t cs) (j : Nat) : w.frozen? ⟨r, j, none⟩ = false := by
  have h' : w.heap[r]? = some (.cells cs.toArray t (0, 0)) := h
  simp [World.frozen?, h']
theorem Blk.set {w : World} {r : Nat} {t : TypeId} {cs : List Value} (h : Blk w r t cs) (j : Nat) (v : Value) : Blk (w.setCell ⟨r, j, none⟩ v) r t (cs.set j v) := by
  have h' : w.heap[r]? = some (.cells cs.toArray t (0, 0)) := h
  unfold Blk
  rw [setCell_eq_setRow w r j _ _ _ v h', setRow_heap w r _ _ _ _ h']
  simp
theorem Blk.below {w w' : World} {r B : Nat} {t : TypeId} {cs : List Value} (h : Blk w r t cs) (hb : Below B w w') (hr : r < B) : Blk w' r t cs := (hb.block r hr).trans h
theorem Blk.far {w : World} {r : Nat} {t : TypeId} {cs : List Value} (h : Blk w r t cs) (a : Addr) (v : Value) (hr : r ≠ a.block) : Blk (w.setCell a v) r t cs := (Below.heap_setCell w a v r hr).trans h
theorem Blk.new (w : World) (t : TypeId) (cs : Array Value) : Blk (w.alloc (.cells cs t)) w.heap.size t cs.toList := by
  unfold Blk
  rw [heap_alloc_last, Array.toArray_toList]
theorem Blk.more {w : World} {r : Nat} {t : TypeId} {cs : List Value} (h : Blk w r t cs) (o : Obj) : Blk (w.alloc o) r t cs := (Below.heap_alloc w o r h.lt).trans h
end Go.Proofs.YtelmchifpgaibaaDoor
namespace Go.Proofs.YtelmchifpgaibaaDoor
open Go.RowKit

theorem blkN2 (w : World) (c1 c2 : Array Value) (t1 t2 : TypeId) : Blk ((w.alloc (.cells c1 t1)).alloc (.cells c2 t2)) w.heap.size t1 c1.toList ∧ Blk ((w.alloc (.cells c1 t1)).alloc (.cells c2 t2)) (w.heap.size + 1) t2 c2.toList ∧ Below w.heap.size w ((w.alloc (.cells c1 t1)).alloc (.cells c2 t2)) := by
  refine ⟨Blk.more (Blk.new w _ _) _, ?_, below2 w _ _⟩
  have := Blk.new (w.alloc (.cells c1 t1)) t2 c2
  rw [World.size_alloc] at this
  exact this
theorem blkN3 (w : World) (c1 c2 c3 : Array Value) (t1 t2 t3 : TypeId) : Blk (((w.alloc (.cells c1 t1)).alloc (.cells c2 t2)).alloc (.cells c3 t3)) w.heap.size t1 c1.toList ∧ Blk (((w.alloc (.cells c1 t1)).alloc (.cells c2 t2)).alloc (.cells c3 t3)) (w.heap.size + 1) t2 c2.toList ∧ Blk (((w.alloc (.cells c1 t1)).alloc (.cells c2 t2)).alloc (.cells c3 t3)) (w.heap.size + 1 + 1) t3 c3.toList ∧ Below w.heap.size w (((w.alloc (.cells c1 t1)).alloc (.cells c2 t2)).alloc (.cells c3 t3)) := by
  obtain ⟨h1, h2, h3⟩ := blkN2 w c1 c2 t1 t2
  refine ⟨h1.more _, h2.more _, ?_, h3.alloc (by simp only [World.size_alloc]; omega) _⟩
  have := Blk.new ((w.alloc (.cells c1 t1)).alloc (.cells c2 t2)) t3 c3
  rw [World.size_alloc, World.size_alloc] at this
  exact this
theorem gtrans {w w' w'' : World} {r : Option Nat} (h : w.grownBy w' r) (h' : w'.grownBy w'' r) : w.grownBy w'' r :=
  ⟨h'.os.trans h.os, h'.tape.trans h.tape, h'.output.trans h.output, Nat.le_trans h.size h'.size, fun k hk hne => (h'.block k (Nat.lt_of_lt_of_le hk h.size) hne).trans (h.block k hk hne)⟩
theorem gblk {w w' : World} {r : Option Nat} {g : Nat} {t : TypeId} {cs : List Value} (h : w.grownBy w' r) (hB : Blk w g t cs) (hne : r ≠ some g) : Blk w' g t cs := (h.block g hB.lt (fun e => hne e.symm)).trans hB
theorem gown {w w' : World} {r : Option Nat} {base n size : Nat} {e : TypeId} {v : Value} {xs : List Value} (h : w.grownBy w' r) (hO : w.ownsRow base e size v n xs) (hne : ∀ k, v.ownBlock = some k → r ≠ some k) : w'.ownsRow base e size v n xs := by
  refine ⟨hO.1, ?_⟩
  rcases hO.2 with h2 | ⟨g, cap, cur, hv, hg, hh, r'⟩
  · exact .inl h2
  · exact .inr ⟨g, cap, cur, hv, hg, (h.block g (Array.getElem?_eq_some_iff.1 hh).1 (fun e => hne g (by rw [hv]; rfl) e.symm)).trans hh, r'⟩
end Go.Proofs.YtelmchifpgaibaaDoor
namespace Go.Proofs.YtelmchifpgaibaaDoor
open Go.RowKit

/-- The cells of a table's cell, and of a row of them. -/
def spC (s : Sp) : List Value := [.int .i64 s.1, .int .i64 s.2]
def sps (l : List Sp) : List Value := l.flatMap spC
theorem spC_length (s : Sp) : (spC s).length = 2 := rfl
theorem sps_length (l : List Sp) : (sps l).length = l.length * 2 := by
  induction l with
  | nil => rfl
  | cons s l ih => rw [sps, List.flatMap_cons, List.length_append, spC_length, ← sps, ih, List.length_cons]; omega
theorem sps_append (l m : List Sp) : sps (l ++ m) = sps l ++ sps m := by simp [sps]
theorem sps_cons (s : Sp) (l : List Sp) : sps (s :: l) = spC s ++ sps l := rfl
theorem sps_at : ∀ (l : List Sp) (i j : Nat) (hi : i < l.length), j < 2 → (sps l)[i * 2 + j]? = (spC l[i])[j]?
  | s :: l, 0, j, _, hj => by rw [sps_cons, Nat.zero_mul, Nat.zero_add, List.getElem?_append_left (by rw [spC_length]; exact hj)]; rfl
  | s :: l, i + 1, j, hi, hj => by
    rw [sps_cons, List.getElem?_append_right (by rw [spC_length]; omega), spC_length, show (i + 1) * 2 + j - 2 = i * 2 + j by omega, sps_at l i j (by simpa using hi) hj]
    rfl
theorem sps_set : ∀ (l : List Sp) (i : Nat) (s : Sp), i < l.length → sps (l.set i s) = (sps l).take (i * 2) ++ spC s ++ (sps l).drop (i * 2 + 2)
  | t :: l, 0, s, _ => by
    rw [List.set_cons_zero, sps_cons, sps_cons, Nat.zero_mul, List.take_zero, List.nil_append, Nat.zero_add, List.drop_append_of_le_length (by rw [spC_length]; omega)]
    simp [spC]
  | t :: l, i + 1, s, hi => by
    rw [List.set_cons_succ, sps_cons, sps_cons, sps_set l i s (by simpa using hi)]
    have h1 : (spC t ++ sps l).take ((i + 1) * 2) = spC t ++ (sps l).take (i * 2) := by
      rw [List.take_append, spC_length, List.take_of_length_le (by rw [spC_length]; omega), show (i + 1) * 2 - 2 = i * 2 by omega]
    have h2 : (spC t ++ sps l).drop ((i + 1) * 2 + 2) = (sps l).drop (i * 2 + 2) := by
      rw [List.drop_append, spC_length, List.drop_eq_nil_of_le (by rw [spC_length]; omega), List.nil_append, show (i + 1) * 2 + 2 - 2 = i * 2 + 2 by omega]
    rw [h1, h2]
    simp [List.append_assoc]
theorem set2P (xs : List Value) (m : Nat) (a b : Value) (h : m + 2 ≤ xs.length) : (xs.set m a).set (m + 1) b = xs.take m ++ [a, b] ++ xs.drop (m + 2) := by
  refine List.ext_getElem? fun j => ?_
  simp only [List.getElem?_set, List.length_set]
  rcases Nat.lt_or_ge j m with h1 | h1
  · rw [if_neg (by omega), if_neg (by omega), List.append_assoc, List.getElem?_append_left (by simp; omega), List.getElem?_take_of_lt h1]
  · rcases Nat.lt_or_ge j (m + 2) with h2 | h2
    · obtain ⟨q, rfl⟩ : ∃ q, j = m + q := ⟨j - m, by omega⟩
      rw [List.append_assoc, List.getElem?_append_right (by simp; omega)]
      have hl : (xs.take m).length = m := by simp; omega
      rw [hl, Nat.add_sub_cancel_left]
      match q, h2 with
      | 0, _ => simp; omega
      | 1, _ => simp; omega
      | q + 2, h => omega
    · rw [if_neg (by omega), if_neg (by omega), List.getElem?_append_right (by simp; omega)]
      have hl : (xs.take m ++ [a, b]).length = m + 2 := by simp; omega
      rw [hl, List.getElem?_drop]
      congr 1
      omega
/-- A cell of a table as a value. -/
def spV (s : Sp) : Value := .agg #[.int .i64 s.1, .int .i64 s.2]
def eqSp (s t : Sp) : Bool := (s.1 == t.1) && (s.2 == t.2)
theorem eqSp_same (s : Sp) : eqSp s s = true := by simp [eqSp]
theorem eqSp_iff (s t : Sp) : eqSp s t = true ↔ s = t := by
  constructor
  · intro h
    simp only [eqSp, Bool.and_eq_true, beq_iff_eq] at h
    exact Prod.ext h.1 h.2
  · rintro rfl; exact eqSp_same s
/-- The two cells of cell i of a row. -/
def spotAt2 (w : World) (g i : Nat) (s : Sp) : Prop := w.cell? ⟨g, i * 2, none⟩ = some (.int .i64 s.1) ∧ w.cell? ⟨g, i * 2 + 1, none⟩ = some (.int .i64 s.2)
/-- A row of cells that reads as l. -/
def RdP (w : World) (a : Option Addr) (l : List Sp) : Prop := l = [] ∨ ∃ g, a = some ⟨g, 0, none⟩ ∧ g < w.heap.size ∧ ∀ i (h : i < l.length), spotAt2 w g i l[i]
theorem spotAt2.below {w w' : World} {B g i : Nat} {s : Sp} (h : spotAt2 w g i s) (hb : Below B w w') (hg : g < B) : spotAt2 w' g i s := ⟨(hb.cell hg).trans h.1, (hb.cell hg).trans h.2⟩
theorem RdP.later {w w' : World} {a : Option Addr} {l : List Sp} (h : RdP w a l) (hb : Below w.heap.size w w') : RdP w' a l := by
  rcases h with h | ⟨g, ha, hg, hc⟩
  · exact .inl h
  · exact .inr ⟨g, ha, Nat.lt_of_lt_of_le hg hb.size, fun i hi => (hc i hi).below hb hg⟩
theorem RdP.at {w : World} {a : Option Addr} {l : List Sp} (h : RdP w a l) (i : Nat) (hi : i < l.length) : ∃ g, a = some ⟨g, 0, none⟩ ∧ g < w.heap.size ∧ spotAt2 w g i l[i] := by
  rcases h with h | ⟨g, ha, hg, hc⟩
  · subst h; simp at hi
  · exact ⟨g, ha, hg, hc i hi⟩
theorem rdP_of_own {w : World} {base ca : Nat} {e : TypeId} {ao : Option Addr} {l : List Sp} (h : w.ownsRow base e 2 (.slice ao l.length ca) l.length (sps l)) : RdP w ao l := by
  by_cases h0 : l.length = 0
  · exact .inl (List.eq_nil_of_length_eq_zero h0)
  · rcases h.2 with ⟨hv, hn⟩ | ⟨g, cap, cur, hv, hb, hh, r⟩
    · omega
    · injection hv with h1 h2 h3
      subst h1
      refine .inr ⟨g, rfl, (Array.getElem?_eq_some_iff.1 hh).1, fun i hi => ?_⟩
      have at2 : ∀ j, j < 2 → w.cell? ⟨g, i * 2 + j, none⟩ = (spC l[i])[j]? := fun j hj => (h.cellAt (i * 2 + j) (by omega)).trans (sps_at l i j hi hj)
      exact ⟨at2 0 (by omega), at2 1 (by omega)⟩

end Go.Proofs.YtelmchifpgaibaaDoor
