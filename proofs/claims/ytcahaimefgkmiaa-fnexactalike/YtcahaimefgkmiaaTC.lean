/- Rings, plain: spots in order; a node that goes takes its spots alone; the first spot for a key, its homes. -/
import Derived.Test.YtcahaimefgkmiaaPlain
import Derived.Test.YtcahaimefgkmiaaTA
import Derived.Deep.RegionHeld3
import Derived.Test.YtcahaimefgkmiaaProg
import Derived.Handy
namespace Go.Proofs.Ytcahaimefgkmiaa
open Go.RowKit

/-- A spot: At, Node. -/
abbrev Sp := Int × Int
def ahd (a b : Sp) : Bool := decide (a.1 < b.1) || (decide (a.1 = b.1) && decide (a.2 < b.2))
theorem ahd_iff {a b : Sp} : ahd a b = true ↔ a.1 < b.1 ∨ (a.1 = b.1 ∧ a.2 < b.2) := by simp [ahd]
theorem ahd_not {a b : Sp} : ahd a b = false ↔ ¬ (a.1 < b.1 ∨ (a.1 = b.1 ∧ a.2 < b.2)) := by rw [← ahd_iff]; simp
/-- A spot more, where it belongs. -/
def insS (l : List Sp) (x : Sp) : List Sp := l.filter (fun y => ahd y x) ++ [x] ++ l.filter (fun y => !ahd y x)
/-- In order. -/
def SrtS (l : List Sp) : Prop := l.Pairwise (fun a b => ahd b a = false)
theorem parts {l : List Sp} (h : SrtS l) (x : Sp) : l.filter (fun y => ahd y x) ++ l.filter (fun y => !ahd y x) = l := by
  induction l with
  | nil => rfl
  | cons a l ih =>
    obtain ⟨h1, h2⟩ := List.pairwise_cons.1 h
    by_cases ha : ahd a x = true
    · rw [List.filter_cons_of_pos (by simpa using ha), List.filter_cons_of_neg (by simp [ha]), List.cons_append, ih h2]
    · have hn : ∀ b ∈ l, ahd b x = false := by
        intro b hb
        have h3 := ahd_not.1 (h1 b hb)
        have h4 : ¬ (a.1 < x.1 ∨ (a.1 = x.1 ∧ a.2 < x.2)) := fun e => ha (ahd_iff.2 e)
        exact ahd_not.2 (by omega)
      have e1 : l.filter (fun y => ahd y x) = [] := List.filter_eq_nil_iff.2 (fun b hb => by rw [hn b hb]; simp)
      have e2 : l.filter (fun y => !ahd y x) = l := List.filter_eq_self.2 (fun b hb => by rw [hn b hb]; rfl)
      rw [List.filter_cons_of_neg (by simpa using ha), List.filter_cons_of_pos (by simpa using ha), e1, e2]
      rfl
theorem SrtS.ins {l : List Sp} (h : SrtS l) (x : Sp) : SrtS (insS l x) := by
  unfold SrtS insS
  rw [List.append_assoc]
  refine List.pairwise_append.2 ⟨h.filter _, ?_, ?_⟩
  · refine List.pairwise_cons.2 ⟨fun b hb => ?_, h.filter _⟩
    have := (List.mem_filter.1 hb).2
    simpa using this
  · intro a ha b hb
    have h1 := ahd_iff.1 (List.mem_filter.1 ha).2
    rcases List.mem_cons.1 hb with rfl | hb
    · exact ahd_not.2 (by omega)
    · have h2 := (List.mem_filter.1 hb).2
      have h3 := ahd_not.1 (by simpa using h2)
      exact ahd_not.2 (by omega)
theorem insS_length (l : List Sp) (x : Sp) : (insS l x).length = l.length + 1 := by
  have : ∀ l : List Sp, (l.filter (fun y => ahd y x)).length + (l.filter (fun y => !ahd y x)).length = l.length := fun l => by
    induction l with
    | nil => rfl
    | cons a l ih => by_cases h : ahd a x = true <;> simp [h] <;> omega
  have := this l
  unfold insS
  simp only [List.length_append, List.length_cons, List.length_nil]
  omega
theorem insS_mem {l : List Sp} {x z : Sp} : z ∈ insS l x ↔ z = x ∨ z ∈ l := by
  unfold insS
  simp only [List.mem_append, List.mem_filter, List.mem_cons, List.not_mem_nil, or_false]
  by_cases h : ahd z x = true <;> simp [h] <;> (constructor <;> intro e <;> rcases e with e | e <;> simp [e])
/-- What is kept of a ring with a spot more. -/
theorem insS_keep {l : List Sp} (p : Sp → Bool) (x : Sp) (hx : p x = true) : (insS l x).filter p = insS (l.filter p) x := by
  unfold insS
  simp only [List.filter_append, List.filter_filter, List.filter_cons_of_pos hx, List.filter_nil]
  congr 1
  · congr 1
    exact List.filter_congr (fun y _ => Bool.and_comm _ _)
  · exact List.filter_congr (fun y _ => Bool.and_comm _ _)
theorem insS_drop {l : List Sp} (h : SrtS l) (p : Sp → Bool) (x : Sp) (hx : p x = false) : (insS l x).filter p = l.filter p := by
  unfold insS
  rw [List.filter_append, List.filter_append, List.filter_cons_of_neg (by simp [hx]), List.filter_nil, List.append_nil, ← List.filter_append, parts h]
/-- The spots of a node, f of it and of 0 .. 3. -/
def nodeS (f : Int → Nat → Int) (l : List Sp) (v : Int) : List Sp := (List.range 4).foldl (fun l k => insS l (f v k, v)) l
def ringL (f : Int → Nat → Int) (nodes : List Int) : List Sp := nodes.foldl (nodeS f) []
theorem nodeS_fold (f : Int → Nat → Int) (v : Int) (ks : List Nat) {l : List Sp} (h : SrtS l) :
    SrtS (ks.foldl (fun l k => insS l (f v k, v)) l) ∧ (ks.foldl (fun l k => insS l (f v k, v)) l).length = l.length + ks.length ∧ (∀ z, z ∈ ks.foldl (fun l k => insS l (f v k, v)) l ↔ (∃ k ∈ ks, z = (f v k, v)) ∨ z ∈ l) := by
  induction ks generalizing l with
  | nil => exact ⟨h, rfl, fun z => by simp⟩
  | cons k ks ih =>
    obtain ⟨h1, h2, h3⟩ := ih (h.ins (f v k, v))
    refine ⟨h1, ?_, fun z => ?_⟩
    · rw [List.foldl_cons, h2, insS_length, List.length_cons]; omega
    · rw [List.foldl_cons, h3, insS_mem]
      constructor
      · rintro (⟨j, hj, e⟩ | e | e)
        · exact .inl ⟨j, List.mem_cons_of_mem _ hj, e⟩
        · exact .inl ⟨k, List.mem_cons_self, e⟩
        · exact .inr e
      · rintro (⟨j, hj, e⟩ | e)
        · rcases List.mem_cons.1 hj with rfl | hj
          · exact .inr (.inl e)
          · exact .inl ⟨j, hj, e⟩
        · exact .inr (.inr e)
theorem nodeS_keep (f : Int → Nat → Int) (v : Int) (p : Sp → Bool) (hp : ∀ k, p (f v k, v) = true) (ks : List Nat) (l : List Sp) :
    (ks.foldl (fun l k => insS l (f v k, v)) l).filter p = ks.foldl (fun l k => insS l (f v k, v)) (l.filter p) := by
  induction ks generalizing l with
  | nil => rfl
  | cons k ks ih => rw [List.foldl_cons, List.foldl_cons, ih, insS_keep p _ (hp k)]
theorem nodeS_drop (f : Int → Nat → Int) (v : Int) (p : Sp → Bool) (hp : ∀ k, p (f v k, v) = false) (ks : List Nat) {l : List Sp} (h : SrtS l) :
    (ks.foldl (fun l k => insS l (f v k, v)) l).filter p = l.filter p := by
  induction ks generalizing l with
  | nil => rfl
  | cons k ks ih => rw [List.foldl_cons, ih (h.ins _), insS_drop h p _ (hp k)]
theorem ring_srt (f : Int → Nat → Int) (nodes : List Int) {l : List Sp} (h : SrtS l) : SrtS (nodes.foldl (nodeS f) l) := by
  induction nodes generalizing l with
  | nil => exact h
  | cons v nodes ih => exact ih (nodeS_fold f v (List.range 4) h).1
theorem ringL_srt (f : Int → Nat → Int) (nodes : List Int) : SrtS (ringL f nodes) := ring_srt f nodes List.Pairwise.nil
/-- Without a node: just its spots are gone. -/
theorem ring_rest (f : Int → Nat → Int) (x : Int) (nodes : List Int) {l : List Sp} (h : SrtS l) :
    (nodes.foldl (nodeS f) l).filter (fun s => s.2 != x) = (nodes.filter (fun v => v != x)).foldl (nodeS f) (l.filter (fun s => s.2 != x)) := by
  induction nodes generalizing l with
  | nil => rfl
  | cons v nodes ih =>
    rw [List.foldl_cons, ih (show SrtS (nodeS f l v) from (nodeS_fold f v (List.range 4) h).1)]
    by_cases hv : v = x
    · rw [List.filter_cons_of_neg (by simp [hv])]
      congr 1
      exact nodeS_drop f v _ (fun k => by simp [hv]) _ h
    · rw [List.filter_cons_of_pos (by simp [hv]), List.foldl_cons]
      congr 1
      exact nodeS_keep f v _ (fun k => by simp [hv]) _ l
theorem ringL_rest (f : Int → Nat → Int) (x : Int) (nodes : List Int) : (ringL f nodes).filter (fun s => s.2 != x) = ringL f (nodes.filter (fun v => v != x)) := ring_rest f x nodes List.Pairwise.nil
theorem ring_len (f : Int → Nat → Int) (nodes : List Int) {l : List Sp} (h : SrtS l) : (nodes.foldl (nodeS f) l).length = l.length + 4 * nodes.length := by
  induction nodes generalizing l with
  | nil => rfl
  | cons v nodes ih =>
    have h1 := nodeS_fold f v (List.range 4) h
    rw [List.foldl_cons, ih (show SrtS (nodeS f l v) from h1.1)]
    have h2 := h1.2.1
    rw [List.length_range] at h2
    show (nodeS f l v).length + _ = _
    unfold nodeS
    rw [h2, List.length_cons]
    omega
theorem ringL_len (f : Int → Nat → Int) (nodes : List Int) : (ringL f nodes).length = 4 * nodes.length := by
  have := ring_len f nodes (l := []) List.Pairwise.nil
  simpa [ringL] using this
/-- The first spot for a number: its place; 0 when there is none. -/
def fromS (l : List Sp) (h : Int) : Nat := (l.findIdx? (fun s => decide (h ≤ s.1))).getD 0
/-- The spots from there on, around. -/
def aroundS (l : List Sp) (h : Int) : List Sp := l.drop (fromS l h) ++ l.take (fromS l h)
def homeS (l : List Sp) (h : Int) : Int := match aroundS l h with
  | [] => 0
  | s :: _ => s.2
/-- Each once, in order. -/
def onceS : List Int → List Int → List Int
  | _, [] => []
  | seen, v :: vs => if v ∈ seen then onceS seen vs else v :: onceS (v :: seen) vs
def homesS (l : List Sp) (h : Int) (n : Nat) : List Int := (onceS [] ((aroundS l h).map (·.2))).take n
end Go.Proofs.Ytcahaimefgkmiaa
namespace Go.Proofs.Ytcahaimefgkmiaa
open Go.RowKit

/-- The cells of a table's cell, and of a row of them. -/
def spC (s : Sp) : List Value := [.int .i64 s.1, .int .i64 s.2]
def sps (l : List Sp) : List Value := l.flatMap spC
theorem spC_length (s : Sp) : (spC s).length = 2 := rfl
theorem sps_length (l : List Sp) : (sps l).length = l.length * 2 := by
  induction l with
  | nil => rfl
  | cons s l ih => rw [sps, List.flatMap_cons, List.length_append, spC_length, ← sps, ih, List.length_cons]; omega
theorem sps_append (l m : List Sp) : sps (l ++ m) = sps l ++ sps m := by simp [sps]
theorem sps_cons (s : Sp) (l : List Sp) : sps (s :: l) = spC s ++ sps l := rfl
theorem sps_at : ∀ (l : List Sp) (i j : Nat) (hi : i < l.length), j < 2 → (sps l)[i * 2 + j]? = (spC l[i])[j]?
  | s :: l, 0, j, _, hj => by rw [sps_cons, Nat.zero_mul, Nat.zero_add, List.getElem?_append_left (by rw [spC_length]; exact hj)]; rfl
  | s :: l, i + 1, j, hi, hj => by
    rw [sps_cons, List.getElem?_append_right (by rw [spC_length]; omega), spC_length, show (i + 1) * 2 + j - 2 = i * 2 + j by omega, sps_at l i j (by simpa using hi) hj]
    rfl
theorem sps_set : ∀ (l : List Sp) (i : Nat) (s : Sp), i < l.length → sps (l.set i s) = (sps l).take (i * 2) ++ spC s ++ (sps l).drop (i * 2 + 2)
  | t :: l, 0, s, _ => by
    rw [List.set_cons_zero, sps_cons, sps_cons, Nat.zero_mul, List.take_zero, List.nil_append, Nat.zero_add, List.drop_append_of_le_length (by rw [spC_length]; omega)]
    simp [spC]
  | t :: l, i + 1, s, hi => by
    rw [List.set_cons_succ, sps_cons, sps_cons, sps_set l i s (by simpa using hi)]
    have h1 : (spC t ++ sps l).take ((i + 1) * 2) = spC t ++ (sps l).take (i * 2) := by
      rw [List.take_append, spC_length, List.take_of_length_le (by rw [spC_length]; omega), show (i + 1) * 2 - 2 = i * 2 by omega]
    have h2 : (spC t ++ sps l).drop ((i + 1) * 2 + 2) = (sps l).drop (i * 2 + 2) := by
      rw [List.drop_append, spC_length, List.drop_eq_nil_of_le (by rw [spC_length]; omega), List.nil_append, show (i + 1) * 2 + 2 - 2 = i * 2 + 2 by omega]
    rw [h1, h2]
    simp [List.append_assoc]
theorem set2P (xs : List Value) (m : Nat) (a b : Value) (h : m + 2 ≤ xs.length) : (xs.set m a).set (m + 1) b = xs.take m ++ [a, b] ++ xs.drop (m + 2) := by
  refine List.ext_getElem? fun j => ?_
  simp only [List.getElem?_set, List.length_set]
  rcases Nat.lt_or_ge j m with h1 | h1
  · rw [if_neg (by omega), if_neg (by omega), List.append_assoc, List.getElem?_append_left (by simp; omega), List.getElem?_take_of_lt h1]
  · rcases Nat.lt_or_ge j (m + 2) with h2 | h2
    · obtain ⟨q, rfl⟩ : ∃ q, j = m + q := ⟨j - m, by omega⟩
      rw [List.append_assoc, List.getElem?_append_right (by simp; omega)]
      have hl : (xs.take m).length = m := by simp; omega
      rw [hl, Nat.add_sub_cancel_left]
      match q, h2 with
      | 0, _ => simp; omega
      | 1, _ => simp; omega
      | q + 2, h => omega
    · rw [if_neg (by omega), if_neg (by omega), List.getElem?_append_right (by simp; omega)]
      have hl : (xs.take m ++ [a, b]).length = m + 2 := by simp; omega
      rw [hl, List.getElem?_drop]
      congr 1
      omega
/-- A cell of a table as a value. -/
def spV (s : Sp) : Value := .agg #[.int .i64 s.1, .int .i64 s.2]
def eqSp (s t : Sp) : Bool := (s.1 == t.1) && (s.2 == t.2)
theorem eqSp_same (s : Sp) : eqSp s s = true := by simp [eqSp]
theorem eqSp_iff (s t : Sp) : eqSp s t = true ↔ s = t := by
  constructor
  · intro h
    simp only [eqSp, Bool.and_eq_true, beq_iff_eq] at h
    exact Prod.ext h.1 h.2
  · rintro rfl; exact eqSp_same s
/-- The two cells of cell i of a row. -/
def spotAt2 (w : World) (g i : Nat) (s : Sp) : Prop := w.cell? ⟨g, i * 2, none⟩ = some (.int .i64 s.1) ∧ w.cell? ⟨g, i * 2 + 1, none⟩ = some (.int .i64 s.2)
/-- A row of cells that reads as l. -/
def RdP (w : World) (a : Option Addr) (l : List Sp) : Prop := l = [] ∨ ∃ g, a = some ⟨g, 0, none⟩ ∧ g < w.heap.size ∧ ∀ i (h : i < l.length), spotAt2 w g i l[i]
theorem spotAt2.below {w w' : World} {B g i : Nat} {s : Sp} (h : spotAt2 w g i s) (hb : Below B w w') (hg : g < B) : spotAt2 w' g i s := ⟨(hb.cell hg).trans h.1, (hb.cell hg).trans h.2⟩
theorem RdP.later {w w' : World} {a : Option Addr} {l : List Sp} (h : RdP w a l) (hb : Below w.heap.size w w') : RdP w' a l := by
  rcases h with h | ⟨g, ha, hg, hc⟩
  · exact .inl h
  · exact .inr ⟨g, ha, Nat.lt_of_lt_of_le hg hb.size, fun i hi => (hc i hi).below hb hg⟩
theorem RdP.at {w : World} {a : Option Addr} {l : List Sp} (h : RdP w a l) (i : Nat) (hi : i < l.length) : ∃ g, a = some ⟨g, 0, none⟩ ∧ g < w.heap.size ∧ spotAt2 w g i l[i] := by
  rcases h with h | ⟨g, ha, hg, hc⟩
  · subst h; simp at hi
  · exact ⟨g, ha, hg, hc i hi⟩
theorem rdP_of_own {w : World} {base ca : Nat} {e : TypeId} {ao : Option Addr} {l : List Sp} (h : w.ownsRow base e 2 (.slice ao l.length ca) l.length (sps l)) : RdP w ao l := by
  by_cases h0 : l.length = 0
  · exact .inl (List.eq_nil_of_length_eq_zero h0)
  · rcases h.2 with ⟨hv, hn⟩ | ⟨g, cap, cur, hv, hb, hh, r⟩
    · omega
    · injection hv with h1 h2 h3
      subst h1
      refine .inr ⟨g, rfl, (Array.getElem?_eq_some_iff.1 hh).1, fun i hi => ?_⟩
      have at2 : ∀ j, j < 2 → w.cell? ⟨g, i * 2 + j, none⟩ = (spC l[i])[j]? := fun j hj => (h.cellAt (i * 2 + j) (by omega)).trans (sps_at l i j hi hj)
      exact ⟨at2 0 (by omega), at2 1 (by omega)⟩

end Go.Proofs.Ytcahaimefgkmiaa
namespace Go.Proofs.Ytcahaimefgkmiaa
open Go.RowKit

theorem SrtS.at {l : List Sp} (h : SrtS l) (n : Int) : l.filter (fun s => !decide (n ≤ s.1)) ++ l.filter (fun s => decide (n ≤ s.1)) = l := by
  induction l with
  | nil => rfl
  | cons a l ih =>
    obtain ⟨h1, h2⟩ := List.pairwise_cons.1 h
    by_cases ha : n ≤ a.1
    · have hn : ∀ b ∈ l, n ≤ b.1 := by
        intro b hb
        have := ahd_not.1 (h1 b hb)
        omega
      have e1 : l.filter (fun s => !decide (n ≤ s.1)) = [] := List.filter_eq_nil_iff.2 (fun b hb => by simp [hn b hb])
      have e2 : l.filter (fun s => decide (n ≤ s.1)) = l := List.filter_eq_self.2 (fun b hb => by simp [hn b hb])
      rw [List.filter_cons_of_neg (by simp [ha]), List.filter_cons_of_pos (by simp [ha]), e1, e2]
      rfl
    · rw [List.filter_cons_of_pos (by simp [ha]), List.filter_cons_of_neg (by simp [ha]), List.cons_append, ih h2]
theorem from_app (A B : List Sp) (n : Int) (hA : ∀ s ∈ A, ¬ n ≤ s.1) (hB : ∀ s ∈ B, n ≤ s.1) : fromS (A ++ B) n = if B = [] then 0 else A.length := by
  unfold fromS
  rw [List.findIdx?_append, List.findIdx?_eq_none_iff.2 (fun s hs => by simp [hA s hs])]
  cases B with
  | nil => rfl
  | cons b B =>
    rw [List.findIdx?_cons, if_pos (by simp [hB b List.mem_cons_self])]
    simp
/-- From a key on, around: those at least there, then those ahead. -/
theorem around_eq {l : List Sp} (h : SrtS l) (n : Int) : aroundS l n = l.filter (fun s => decide (n ≤ s.1)) ++ l.filter (fun s => !decide (n ≤ s.1)) := by
  have e := h.at n
  have hA : ∀ s ∈ l.filter (fun s => !decide (n ≤ s.1)), ¬ n ≤ s.1 := fun s hs => by simpa using (List.mem_filter.1 hs).2
  have hB : ∀ s ∈ l.filter (fun s => decide (n ≤ s.1)), n ≤ s.1 := fun s hs => by simpa using (List.mem_filter.1 hs).2
  generalize l.filter (fun s => !decide (n ≤ s.1)) = A at *
  generalize l.filter (fun s => decide (n ≤ s.1)) = B at *
  subst e
  unfold aroundS
  rw [from_app A B n hA hB]
  split
  · rename_i hb
    subst hb
    simp
  · rw [List.drop_left, List.take_left]
theorem around_keep {l : List Sp} (h : SrtS l) (n : Int) (p : Sp → Bool) : aroundS (l.filter p) n = (aroundS l n).filter p := by
  rw [around_eq h, around_eq (show SrtS (l.filter p) from h.filter _), List.filter_append, List.filter_filter, List.filter_filter, List.filter_filter, List.filter_filter]
  congr 1
  · exact List.filter_congr (fun y _ => Bool.and_comm _ _)
  · exact List.filter_congr (fun y _ => Bool.and_comm _ _)
theorem around_mem {l : List Sp} {n : Int} {s : Sp} : s ∈ aroundS l n ↔ s ∈ l := by
  unfold aroundS
  rw [List.mem_append, or_comm, ← List.mem_append, List.take_append_drop]
/-- The home without a node: another's stays, its own goes to another. -/
theorem home_rest {l : List Sp} (h : SrtS l) (n x : Int) (hx : homeS l n ≠ x) : homeS (l.filter (fun s => s.2 != x)) n = homeS l n := by
  unfold homeS at *
  rw [around_keep h]
  cases e : aroundS l n with
  | nil => rfl
  | cons s r =>
    rw [e] at hx
    dsimp only at hx
    rw [List.filter_cons_of_pos (by simp [hx])]
theorem home_gone {l : List Sp} (h : SrtS l) (n x : Int) (hl : ∃ s ∈ l, s.2 ≠ x) : homeS (l.filter (fun s => s.2 != x)) n ≠ x := by
  unfold homeS
  rw [around_keep h]
  cases e : (aroundS l n).filter (fun s => s.2 != x) with
  | nil =>
    obtain ⟨s, hs, hn⟩ := hl
    have := List.filter_eq_nil_iff.1 e s (around_mem.2 hs)
    simp [hn] at this
  | cons s r =>
    have : s ∈ (aroundS l n).filter (fun s => s.2 != x) := by rw [e]; exact List.mem_cons_self
    have := (List.mem_filter.1 this).2
    dsimp only
    simpa using this
theorem once_mem {vs : List Int} : ∀ {seen : List Int} {v : Int}, v ∈ onceS seen vs ↔ v ∈ vs ∧ ¬ v ∈ seen := by
  induction vs with
  | nil => intro seen v; simp [onceS]
  | cons a vs ih =>
    intro seen v
    rw [onceS]
    split
    · rename_i ha
      rw [ih]
      constructor
      · rintro ⟨h1, h2⟩; exact ⟨List.mem_cons_of_mem _ h1, h2⟩
      · rintro ⟨h1, h2⟩
        rcases List.mem_cons.1 h1 with rfl | h1
        · exact absurd ha h2
        · exact ⟨h1, h2⟩
    · rename_i ha
      rw [List.mem_cons, ih]
      constructor
      · rintro (rfl | ⟨h1, h2⟩)
        · exact ⟨List.mem_cons_self, ha⟩
        · exact ⟨List.mem_cons_of_mem _ h1, fun e => h2 (List.mem_cons_of_mem _ e)⟩
      · rintro ⟨h1, h2⟩
        by_cases e : v = a
        · exact .inl e
        · rcases List.mem_cons.1 h1 with h1 | h1
          · exact absurd h1 e
          · exact .inr ⟨h1, fun h => (List.mem_cons.1 h).elim e h2⟩
theorem once_nodup {vs : List Int} : ∀ {seen : List Int}, (onceS seen vs).Nodup := by
  induction vs with
  | nil => intro seen; exact List.Pairwise.nil
  | cons a vs ih =>
    intro seen
    rw [onceS]
    split
    · exact ih
    · refine List.nodup_cons.2 ⟨fun h => ?_, ih⟩
      exact (once_mem.1 h).2 List.mem_cons_self
theorem once_congr {vs : List Int} : ∀ {s t : List Int}, (∀ v ∈ vs, v ∈ s ↔ v ∈ t) → onceS s vs = onceS t vs := by
  induction vs with
  | nil => intro s t _; rfl
  | cons a vs ih =>
    intro s t h
    rw [onceS, onceS]
    have ha := h a List.mem_cons_self
    by_cases e : a ∈ s
    · rw [if_pos e, if_pos (ha.1 e)]
      exact ih (fun v hv => h v (List.mem_cons_of_mem _ hv))
    · rw [if_neg e, if_neg (fun e2 => e (ha.2 e2))]
      congr 1
      refine ih (fun v hv => ?_)
      rw [List.mem_cons, List.mem_cons, h v (List.mem_cons_of_mem _ hv)]
/-- Without a node: the others that it had, in order. -/
theorem once_rest (x : Int) {vs : List Int} : ∀ {seen : List Int}, onceS seen (vs.filter (fun v => v != x)) = (onceS seen vs).filter (fun v => v != x) := by
  induction vs with
  | nil => intro seen; rfl
  | cons a vs ih =>
    intro seen
    by_cases hx : a = x
    · subst hx
      rw [List.filter_cons_of_neg (by simp), onceS]
      split
      · exact ih
      · rw [List.filter_cons_of_neg (by simp), ← ih]
        refine once_congr (fun v hv => ?_)
        have : v ≠ a := by simpa using (List.mem_filter.1 hv).2
        rw [List.mem_cons]
        constructor
        · exact .inr
        · rintro (e | e)
          · exact absurd e this
          · exact e
    · rw [List.filter_cons_of_pos (by simp [hx]), onceS, onceS]
      split
      · exact ih
      · rw [List.filter_cons_of_pos (by simp [hx]), ih]
theorem homes_rest {l : List Sp} (h : SrtS l) (n x : Int) : onceS [] ((aroundS (l.filter (fun s => s.2 != x)) n).map (·.2)) = (onceS [] ((aroundS l n).map (·.2))).filter (fun v => v != x) := by
  rw [around_keep h, ← once_rest]
  congr 1
  rw [List.filter_map]
  rfl
end Go.Proofs.Ytcahaimefgkmiaa
namespace Go.Proofs.Ytcahaimefgkmiaa
open Go.RowKit

theorem ring_in (f : Int → Nat → Int) (nodes : List Int) : ∀ {l : List Sp}, SrtS l → ∀ s, s ∈ nodes.foldl (nodeS f) l ↔ (∃ v ∈ nodes, ∃ k, k < 4 ∧ s = (f v k, v)) ∨ s ∈ l := by
  induction nodes with
  | nil => intro l _ s; simp
  | cons v nodes ih =>
    intro l h s
    have h1 := nodeS_fold f v (List.range 4) h
    rw [List.foldl_cons, ih (show SrtS (nodeS f l v) from h1.1)]
    have h2 : s ∈ nodeS f l v ↔ (∃ k ∈ List.range 4, s = (f v k, v)) ∨ s ∈ l := h1.2.2 s
    rw [h2]
    constructor
    · rintro (⟨x, hx, k, hk, e⟩ | ⟨k, hk, e⟩ | e)
      · exact .inl ⟨x, List.mem_cons_of_mem _ hx, k, hk, e⟩
      · exact .inl ⟨v, List.mem_cons_self, k, List.mem_range.1 hk, e⟩
      · exact .inr e
    · rintro (⟨x, hx, k, hk, e⟩ | e)
      · rcases List.mem_cons.1 hx with rfl | hx
        · exact .inr (.inl ⟨k, List.mem_range.2 hk, e⟩)
        · exact .inl ⟨x, hx, k, hk, e⟩
      · exact .inr (.inr e)
theorem ringL_in (f : Int → Nat → Int) (nodes : List Int) (s : Sp) : s ∈ ringL f nodes ↔ ∃ v ∈ nodes, ∃ k, k < 4 ∧ s = (f v k, v) := by
  have := ring_in f nodes (l := []) List.Pairwise.nil s
  rw [ringL, this]
  simp
theorem ringL_node (f : Int → Nat → Int) (nodes : List Int) (v : Int) : (∃ s ∈ ringL f nodes, s.2 = v) ↔ v ∈ nodes := by
  constructor
  · rintro ⟨s, hs, rfl⟩
    obtain ⟨x, hx, k, _, rfl⟩ := (ringL_in f nodes s).1 hs
    exact hx
  · intro h
    exact ⟨(f v 0, v), (ringL_in f nodes _).2 ⟨v, h, 0, by omega, rfl⟩, rfl⟩
theorem sub_len : ∀ (a b : List Int), a.Nodup → (∀ x ∈ a, x ∈ b) → a.length ≤ b.length
  | [], _, _, _ => Nat.zero_le _
  | x :: a, b, hn, hs => by
    obtain ⟨h1, h2⟩ := List.nodup_cons.1 hn
    have hx := hs x List.mem_cons_self
    have := sub_len a (b.erase x) h2 (fun y hy => (List.mem_erase_of_ne (fun e : y = x => h1 (by rw [← e]; exact hy))).2 (hs y (List.mem_cons_of_mem _ hy)))
    rw [List.length_erase_of_mem hx] at this
    have := List.length_pos_of_mem hx
    rw [List.length_cons]
    omega
theorem same_len {a b : List Int} (ha : a.Nodup) (hb : b.Nodup) (h : ∀ x, x ∈ a ↔ x ∈ b) : a.length = b.length :=
  Nat.le_antisymm (sub_len a b ha (fun x hx => (h x).1 hx)) (sub_len b a hb (fun x hx => (h x).2 hx))
/-- All homes of a key. -/
def allH (l : List Sp) (n : Int) : List Int := onceS [] ((aroundS l n).map (·.2))
theorem allH_mem {l : List Sp} {n v : Int} : v ∈ allH l n ↔ ∃ s ∈ l, s.2 = v := by
  unfold allH
  rw [once_mem, List.mem_map]
  constructor
  · rintro ⟨⟨s, hs, e⟩, _⟩; exact ⟨s, around_mem.1 hs, e⟩
  · rintro ⟨s, hs, e⟩; exact ⟨⟨s, around_mem.2 hs, e⟩, by simp⟩
theorem allH_len (f : Int → Nat → Int) {nodes : List Int} (hn : nodes.Nodup) (n : Int) : (allH (ringL f nodes) n).length = nodes.length :=
  same_len once_nodup hn (fun v => by rw [allH_mem, ringL_node])
/-- The first of the homes is the home. -/
theorem allH_first {l : List Sp} (h : l ≠ []) (n : Int) : ∃ r, allH l n = homeS l n :: r := by
  unfold allH homeS
  cases e : aroundS l n with
  | nil =>
    have : ∀ s, ¬ s ∈ l := fun s hs => by have := (around_mem (n := n)).2 hs; rw [e] at this; cases this
    cases l with
    | nil => exact absurd rfl h
    | cons a l => exact absurd List.mem_cons_self (this a)
  | cons s r =>
    rw [List.map_cons, onceS, if_neg (by simp)]
    exact ⟨_, rfl⟩
/-- The nodes of a ring: of 0 .. 9 those that stand there. -/
def nodesL (l : List Sp) : List Int := ((List.range 10).map (fun v : Nat => (v : Int))).filter (fun v => l.any (fun s => s.2 == v))
theorem asc_ext : ∀ (a b : List Int), a.Pairwise (· < ·) → b.Pairwise (· < ·) → (∀ x, x ∈ a ↔ x ∈ b) → a = b
  | [], [], _, _, _ => rfl
  | [], y :: b, _, _, h => absurd ((h y).2 List.mem_cons_self) (by simp)
  | x :: a, [], _, _, h => absurd ((h x).1 List.mem_cons_self) (by simp)
  | x :: a, y :: b, ha, hb, h => by
    obtain ⟨a1, a2⟩ := List.pairwise_cons.1 ha
    obtain ⟨b1, b2⟩ := List.pairwise_cons.1 hb
    have e : x = y := by
      rcases List.mem_cons.1 ((h x).1 List.mem_cons_self) with e | e
      · exact e
      · rcases List.mem_cons.1 ((h y).2 List.mem_cons_self) with e2 | e2
        · exact e2.symm
        · have := b1 x e; have := a1 y e2; omega
    subst e
    rw [asc_ext a b a2 b2 (fun z => ?_)]
    have hz := h z
    rw [List.mem_cons, List.mem_cons] at hz
    constructor
    · intro hza
      rcases hz.1 (.inr hza) with e | e
      · have := a1 z hza; omega
      · exact e
    · intro hzb
      rcases hz.2 (.inr hzb) with e | e
      · have := b1 z hzb; omega
      · exact e
theorem range_asc : ∀ n : Nat, ((List.range n).map (fun v : Nat => (v : Int))).Pairwise (· < ·)
  | 0 => List.Pairwise.nil
  | n + 1 => by
    rw [List.range_succ, List.map_append]
    refine List.pairwise_append.2 ⟨range_asc n, by simp, ?_⟩
    intro a ha b hb
    obtain ⟨i, hi, rfl⟩ := List.mem_map.1 ha
    obtain ⟨j, hj, rfl⟩ := List.mem_map.1 hb
    have := List.mem_range.1 hi
    have : j = n := by simpa using hj
    omega
theorem nodesL_ring (f : Int → Nat → Int) {nodes : List Int} (ha : nodes.Pairwise (· < ·)) (hr : ∀ v ∈ nodes, 1 ≤ v ∧ v ≤ 9) : nodesL (ringL f nodes) = nodes := by
  refine asc_ext _ _ ((range_asc 10).filter _) ha (fun x => ?_)
  unfold nodesL
  rw [List.mem_filter, List.any_eq_true]
  constructor
  · rintro ⟨_, s, hs, e⟩
    exact (ringL_node f nodes x).1 ⟨s, hs, by simpa using e⟩
  · intro h
    have := hr x h
    refine ⟨List.mem_map.2 ⟨x.toNat, List.mem_range.2 (by omega), by omega⟩, ?_⟩
    obtain ⟨s, hs, e⟩ := (ringL_node f nodes x).2 h
    exact ⟨s, hs, by simpa using e⟩
end Go.Proofs.Ytcahaimefgkmiaa
namespace Go.Proofs.Ytcahaimefgkmiaa
open Go.RowKit

/-- One byte more. -/
def hstep (h b : Nat) : Nat := ((h ^^^ b) * 16777619) % 4294967296
def hashK (f : Nat → Nat) (h : Nat) : Nat → Nat
  | 0 => h
  | k + 1 => hstep (hashK f h k) (f k)
def seedOf (seed : Int) : Nat := if seed < 0 then 0 else if 1000000000 < seed then 1000000000 else seed.toNat
/-- What a seed begins with. -/
def hash0 (seed : Int) : Nat := (2166136261 + seedOf seed) % 4294967296
def hashN (s : ByteArray) (seed : Int) : Nat := hashK (byt s) (hash0 seed) s.size ^^^ (hashK (byt s) (hash0 seed) s.size / 65536)
theorem hstep_lt (h b : Nat) : hstep h b < 4294967296 := Nat.mod_lt _ (by decide)
theorem hash0_lt (seed : Int) : hash0 seed < 4294967296 := Nat.mod_lt _ (by decide)
theorem hashK_lt (f : Nat → Nat) (h : Nat) (hh : h < 4294967296) : ∀ k, hashK f h k < 4294967296
  | 0 => hh
  | _ + 1 => hstep_lt _ _
theorem seedOf_le (seed : Int) : seedOf seed ≤ 1000000000 := by
  unfold seedOf
  split
  · omega
  · split <;> omega
theorem xor_lt {a b : Nat} (ha : a < 4294967296) (hb : b < 4294967296) : a ^^^ b < 4294967296 := Nat.xor_lt_two_pow (n := 32) ha hb
theorem hashN_lt (s : ByteArray) (seed : Int) : hashN s seed < 4294967296 := by
  have h := hashK_lt (byt s) _ (hash0_lt seed) s.size
  exact xor_lt h (Nat.lt_of_le_of_lt (Nat.div_le_self _ _) h)
theorem xor_low (a b i : Nat) : (a ^^^ b) % 2 ^ (i + 1) = (a ^^^ b) % 2 ^ i + (if (a / 2 ^ i) % 2 ≠ (b / 2 ^ i) % 2 then 2 ^ i else 0) := by
  have h1 : (a ^^^ b) % 2 ^ (i + 1) = (a ^^^ b) % 2 ^ i + 2 ^ i * ((a ^^^ b) / 2 ^ i % 2) := by
    rw [Nat.pow_succ, Nat.mod_mul]
  rw [h1]
  congr 1
  have h2 : (a ^^^ b) / 2 ^ i % 2 = ((a / 2 ^ i) ^^^ (b / 2 ^ i)) % 2 := by rw [← Nat.xor_div_two_pow]
  rw [h2]
  have h3 : ∀ x y : Nat, (x ^^^ y) % 2 = if x % 2 ≠ y % 2 then 1 else 0 := by
    intro x y
    have e := Nat.xor_mod_two_pow (a := x) (b := y) (n := 1)
    simp only [Nat.pow_one] at e
    rw [e]
    rcases Nat.mod_two_eq_zero_or_one x with hx | hx <;> rcases Nat.mod_two_eq_zero_or_one y with hy | hy <;> rw [hx, hy] <;> rfl
  rw [h3]
  split <;> simp

theorem pow_in (i : Nat) (h : i ≤ 32) : 2 ^ i ≤ 4294967296 := by
  have : (2 : Nat) ^ i ≤ 2 ^ 32 := Nat.pow_le_pow_right (by decide) h
  simpa using this
theorem half_next (a i : Nat) : a / 2 ^ i / 2 = a / 2 ^ (i + 1) := by rw [Nat.div_div_eq_div_mul, Nat.pow_succ]

end Go.Proofs.Ytcahaimefgkmiaa
namespace Go.Proofs.Ytcahaimefgkmiaa
open Go.RowKit
set_option linter.unusedVariables false

theorem fromS_hit {l : List Sp} {n : Int} {i : Nat} (hi : i < l.length) (h : n ≤ l[i].1) (hb : ∀ j (hj : j < i), ¬ n ≤ (l[j]'(by omega)).1) : fromS l n = i := by
  unfold fromS
  have : l.findIdx? (fun s => decide (n ≤ s.1)) = some i := List.findIdx?_eq_some_iff_getElem.2 ⟨hi, by simpa using h, fun j hj => by simpa using hb j hj⟩
  rw [this]
  rfl
theorem fromS_none {l : List Sp} {n : Int} (hb : ∀ s ∈ l, ¬ n ≤ s.1) : fromS l n = 0 := by
  unfold fromS
  rw [List.findIdx?_eq_none_iff.2 (fun s hs => by simp [hb s hs])]
  rfl
theorem fromS_lt {l : List Sp} (h : l ≠ []) (n : Int) : fromS l n < l.length := by
  unfold fromS
  have hl : 0 < l.length := List.length_pos_iff.2 h
  cases e : l.findIdx? (fun s => decide (n ≤ s.1)) with
  | none => exact hl
  | some i =>
    obtain ⟨hi, _⟩ := List.findIdx?_eq_some_iff_getElem.1 e
    exact hi
theorem homeS_at {l : List Sp} (h : l ≠ []) (n : Int) : homeS l n = (l[fromS l n]'(fromS_lt h n)).2 := by
  unfold homeS aroundS
  rw [List.drop_eq_getElem_cons (fromS_lt h n), List.cons_append]
/-- A ring as a value. -/
def riV (ao : Option Addr) (n ca : Nat) : Value := .agg #[.slice ao n ca]

end Go.Proofs.Ytcahaimefgkmiaa
