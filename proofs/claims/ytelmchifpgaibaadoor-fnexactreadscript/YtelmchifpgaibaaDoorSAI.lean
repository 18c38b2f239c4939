/- Items, plain: a list that ascends by key; one is put into its place. -/
import Derived.Test.YtelmchifpgaibaaDoorSAH
import Derived.Test.YtelmchifpgaibaaDoorSAD
import Derived.Test.YtelmchifpgaibaaDoorSAB
import Derived.Test.YtelmchifpgaibaaDoorSAG
import Derived.Deep.DeepCutAuto
namespace Go.Proofs.YtelmchifpgaibaaDoor
open Go.RowKit
set_option linter.unusedVariables false

structure Im where
  k : ByteArray
  v : ByteArray
  n : Int
def zeroIm : Im := ⟨⟨#[]⟩, ⟨#[]⟩, 0⟩
def okIm (x : Im) : Prop := (1 ≤ x.k.size ∧ x.k.size ≤ 12) ∧ x.v.size ≤ 20 ∧ (1 ≤ x.n ∧ x.n ≤ 1000000000)
instance (x : Im) : Decidable (okIm x) := by unfold okIm; infer_instance
/-- Each key is less than the next one. -/
def ascI (l : List Im) : Prop := l.Pairwise (fun a b => tLt a.k b.k = true)
instance (l : List Im) : Decidable (ascI l) := by unfold ascI; infer_instance
def okIms (l : List Im) : Prop := (∀ x ∈ l, okIm x) ∧ ascI l ∧ l.length ≤ 12
instance (l : List Im) : Decidable (okIms l) := by unfold okIms; infer_instance
/-- Right up to i, one by one. -/
def stepI (l : List Im) (i : Nat) : Prop := ∀ j (h : j < l.length), j < i → okIm l[j] ∧ ∀ m (hm : m < l.length), m + 1 = j → tLt l[m].k l[j].k = true
theorem stepI_asc {l : List Im} (h : stepI l l.length) : ascI l := by
  have key : ∀ d i j (hi : i < l.length) (hj : j < l.length), i + d + 1 = j → tLt l[i].k l[j].k = true := by
    intro d
    induction d with
    | zero => intro i j hi hj e; exact (h j hj hj).2 i hi (by omega)
    | succ d ih =>
      intro i j hi hj e
      have h1 := ih i (j - 1) hi (by omega) (by omega)
      have h2 := (h j hj hj).2 (j - 1) (by omega) (by omega)
      exact tLt_trans h1 h2
  unfold ascI
  rw [List.pairwise_iff_getElem]
  intro i j hi hj hij
  exact key (j - i - 1) i j hi hj (by omega)
theorem stepI_of {l : List Im} (h1 : ∀ x ∈ l, okIm x) (h2 : ascI l) (i : Nat) : stepI l i := by
  intro j hj _
  refine ⟨h1 _ (List.getElem_mem hj), fun m hm e => ?_⟩
  unfold ascI at h2
  rw [List.pairwise_iff_getElem] at h2
  exact h2 m j hm hj (by omega)
theorem stepI_all {l : List Im} (h : stepI l l.length) : ∀ x ∈ l, okIm x := fun x hx => by
  obtain ⟨j, hj, rfl⟩ := List.getElem_of_mem hx
  exact (h j hj hj).1
theorem stepI_next {l : List Im} {i : Nat} (h : stepI l i) (hi : i < l.length) (h1 : okIm l[i]) (h2 : ∀ m (hm : m < l.length), m + 1 = i → tLt l[m].k l[i].k = true) : stepI l (i + 1) := by
  intro j hj hlt
  by_cases c : j < i
  · exact h j hj c
  · have : j = i := by omega
    subst this
    exact ⟨h1, h2⟩
/-- It in its place. -/
def insI (l : List Im) (x : Im) : List Im := l.filter (fun y => tLt y.k x.k) ++ x :: l.filter (fun y => tLt x.k y.k)
/-- One of its key is as new or newer. -/
def newI (l : List Im) (x : Im) : Bool := l.any (fun y => decide (y.k = x.k) && decide (x.n ≤ y.n))
def putI (l : List Im) (x : Im) : List Im := if newI l x = true then l else if okIms l ∧ okIms (insI l x) then insI l x else l
def imOf (l : List Im) (k : ByteArray) : Im := (l.find? (fun y => decide (y.k = k))).getD zeroIm
theorem imOf_of {l : List Im} (h : ascI l) {y : Im} (hy : y ∈ l) : imOf l y.k = y := by
  unfold imOf
  cases e : l.find? (fun z => decide (z.k = y.k)) with
  | none => exact absurd (List.find?_eq_none.1 e y hy) (by simp)
  | some z =>
    have h1 := List.find?_some e
    have h2 := List.mem_of_find?_eq_some e
    simp only [decide_eq_true_eq] at h1
    show z = y
    obtain ⟨i, hi, rfl⟩ := List.getElem_of_mem h2
    obtain ⟨j, hj, rfl⟩ := List.getElem_of_mem hy
    unfold ascI at h
    rw [List.pairwise_iff_getElem] at h
    by_cases c : i = j
    · subst c; rfl
    · rcases Nat.lt_or_gt_of_ne c with c | c
      · exact absurd h1 (tLt_ne (h i j hi hj c))
      · exact absurd h1.symm (tLt_ne (h j i hj hi c))
theorem imOf_none {l : List Im} {k : ByteArray} (h : ∀ y ∈ l, y.k ≠ k) : imOf l k = zeroIm := by
  unfold imOf
  rw [List.find?_eq_none.2 (fun y hy => by simpa using h y hy)]
  rfl
theorem ins_mem {l : List Im} {x y : Im} : y ∈ insI l x ↔ y = x ∨ (y ∈ l ∧ y.k ≠ x.k) := by
  unfold insI
  rw [List.mem_append, List.mem_cons, List.mem_filter, List.mem_filter]
  constructor
  · rintro (⟨h1, h2⟩ | h | ⟨h1, h2⟩)
    · exact .inr ⟨h1, tLt_ne h2⟩
    · exact .inl h
    · exact .inr ⟨h1, (tLt_ne h2).symm⟩
  · rintro (h | ⟨h1, h2⟩)
    · exact .inr (.inl h)
    · cases e : tLt y.k x.k with
      | true => exact .inl ⟨h1, rfl⟩
      | false =>
        cases e2 : tLt x.k y.k with
        | true => exact .inr (.inr ⟨h1, rfl⟩)
        | false => exact absurd (tLt_tri e e2) h2
theorem ins_asc {l : List Im} {x : Im} (h : ascI l) : ascI (insI l x) := by
  unfold insI ascI
  rw [List.pairwise_append, List.pairwise_cons]
  refine ⟨List.Pairwise.filter _ h, ⟨fun y hy => ?_, List.Pairwise.filter _ h⟩, fun a ha b hb => ?_⟩
  · exact (List.mem_filter.1 hy).2
  · have h1 := (List.mem_filter.1 ha).2
    rcases List.mem_cons.1 hb with rfl | hb
    · exact h1
    · exact tLt_trans h1 (List.mem_filter.1 hb).2
theorem ins_len {l : List Im} {x : Im} : (insI l x).length ≤ l.length + 1 := by
  unfold insI
  have key : ∀ l : List Im, (l.filter (fun y => tLt y.k x.k)).length + (l.filter (fun y => tLt x.k y.k)).length ≤ l.length := by
    intro l
    induction l with
    | nil => exact Nat.le_refl _
    | cons a l ih =>
      rw [List.filter_cons, List.filter_cons]
      by_cases h1 : tLt a.k x.k = true
      · rw [if_pos h1, if_neg (by rw [tLt_asym h1]; simp)]
        simp only [List.length_cons]
        omega
      · rw [if_neg h1]
        split <;> simp only [List.length_cons] <;> omega
  have := key l
  rw [List.length_append, List.length_cons]
  omega
/-- What is put into a right list that has room. -/
theorem put_right {l : List Im} {x : Im} (hl : okIms l) (hx : okIm x) (h11 : l.length ≤ 11) : okIms (putI l x) ∧ (newI l x = false → putI l x = insI l x) := by
  have hi : okIms (insI l x) := ⟨fun y hy => by
    rcases ins_mem.1 hy with rfl | ⟨h, _⟩
    · exact hx
    · exact hl.1 y h, ins_asc hl.2.1, by have := @ins_len l x; omega⟩
  unfold putI
  constructor
  · split
    · exact hl
    · rw [if_pos ⟨hl, hi⟩]
      exact hi
  · intro e
    rw [if_neg (by rw [e]; simp), if_pos ⟨hl, hi⟩]
theorem newI_of {l : List Im} {x : Im} (h : newI l x = true) : ∃ y ∈ l, y.k = x.k ∧ x.n ≤ y.n := by
  unfold newI at h
  rw [List.any_eq_true] at h
  obtain ⟨y, hy, h⟩ := h
  rw [Bool.and_eq_true, decide_eq_true_eq, decide_eq_true_eq] at h
  exact ⟨y, hy, h⟩
theorem newI_no {l : List Im} {x : Im} (h : newI l x = false) : ∀ y ∈ l, y.k = x.k → y.n < x.n := fun y hy e => by
  by_cases c : y.n < x.n
  · exact c
  · have : newI l x = true := by
      unfold newI
      rw [List.any_eq_true]
      exact ⟨y, hy, by rw [decide_eq_true e, decide_eq_true (by omega)]; rfl⟩
    rw [h] at this
    cases this
/-- What a right list has of a key, and what the list has behind a put. -/
structure PutF (l : List Im) (x : Im) (n : List Im) : Prop where
  ok : okIms n
  yes : x.n ≤ (imOf l x.k).n → imOf n x.k = imOf l x.k
  no : (imOf l x.k).n < x.n → imOf n x.k = x
  el : ∀ y ∈ l, y.k ≠ x.k → imOf n y.k = y
  ag : putI n x = n
theorem put_facts {l : List Im} {x : Im} (hl : okIms l) (hx : okIm x) (h11 : l.length ≤ 11) : PutF l x (putI l x) := by
  obtain ⟨h1, h2⟩ := put_right hl hx h11
  cases e : newI l x with
  | true =>
    have ep : putI l x = l := by unfold putI; rw [if_pos e]
    obtain ⟨y, hy, hk, hn⟩ := newI_of e
    have ho : imOf l x.k = y := by rw [← hk]; exact imOf_of hl.2.1 hy
    rw [ep]
    exact ⟨hl, fun _ => rfl, fun h => by rw [ho] at h; omega, fun z hz _ => imOf_of hl.2.1 hz, ep⟩
  | false =>
    have ep := h2 e
    rw [ep] at h1 ⊢
    have hxm : x ∈ insI l x := ins_mem.2 (.inl rfl)
    have hxo : imOf (insI l x) x.k = x := imOf_of h1.2.1 hxm
    have hno := newI_no e
    refine ⟨h1, fun h => ?_, fun _ => hxo, fun z hz hne => imOf_of h1.2.1 (ins_mem.2 (.inr ⟨hz, hne⟩)), ?_⟩
    · by_cases c : ∃ y ∈ l, y.k = x.k
      · obtain ⟨y, hy, hk⟩ := c
        have := hno y hy hk
        rw [← hk, imOf_of hl.2.1 hy] at h
        omega
      · rw [imOf_none (fun y hy e => c ⟨y, hy, e⟩)] at h
        have := hx.2.2.1
        have h : x.n ≤ 0 := h
        omega
    · unfold putI
      rw [if_pos]
      unfold newI
      rw [List.any_eq_true]
      exact ⟨x, hxm, by rw [decide_eq_true rfl, decide_eq_true (Int.le_refl _)]; rfl⟩
end Go.Proofs.YtelmchifpgaibaaDoor
namespace Go.Proofs.YtelmchifpgaibaaDoor
open Go.RowKit
set_option linter.unusedVariables false

def imC (x : Im) : List Value := [.string x.k, .string x.v, .int .i64 x.n]
theorem encIm : EncK imC 3 := ⟨fun _ => rfl, fun x u hu => by simp only [imC, List.mem_cons, List.not_mem_nil, or_false] at hu; rcases hu with rfl | rfl | rfl <;> rfl⟩
theorem Tryd.infoIm : (Tryd.prog.info? 76).map (fun i => (i.zero, i.size, i.bytes)) = some (some (.agg #[.string ⟨#[]⟩, .string ⟨#[]⟩, .int .i64 0]), 3, 40) := by kernel_rfl
theorem rowK_mk {P : Program} {t e : TypeId} {k b : Nat} {z : Value} (hs : P.underlying t = some (.slice e)) (h : (P.info? e).map (fun i => (i.zero, i.size, i.bytes)) = some (some z, k, b)) (hz : z.cells.size = k) (hb : b ≤ 256) (hk : 0 < k) : RowK P t e k := by
  refine ⟨hs, ?_, hk⟩
  cases hi : P.info? e with
  | none => rw [hi] at h; cases h
  | some i =>
    rw [hi] at h
    simp only [Option.map_some, Option.some.injEq, Prod.mk.injEq] at h
    exact ⟨i, z, b, rfl, h.1, h.2.1, h.2.2, hz, hb⟩
theorem tx_eq (s : ByteArray) : (s.toList != s.toList) = false ∧ (s.toList == s.toList) = true := by simp
end Go.Proofs.YtelmchifpgaibaaDoor
namespace Go.Proofs.YtelmchifpgaibaaDoor
open Go.RowKit

theorem qc_length (l : List ByteArray) : (sc l).length = l.length := by simp [sc]
theorem qc_get (l : List ByteArray) (i : Nat) (h : i < l.length) : (sc l)[i]? = some (.string l[i]) := by simp [sc, h]
theorem qc_set (l : List ByteArray) (i : Nat) (s : ByteArray) : sc (l.set i s) = (sc l).set i (.string s) := by simp [sc, List.map_set]
theorem qc_one (l : List ByteArray) : ∀ u ∈ sc l, u.oneCell' = true := by
  intro u hu; obtain ⟨_, _, rfl⟩ := List.mem_map.1 hu; rfl
theorem textEq {a b : ByteArray} (h : a.toList = b.toList) : a = b := by
  rw [ByteArray.toList_eq, ByteArray.toList_eq] at h
  cases a; cases b; simp at h; simp [h]
theorem text_ne {s t : ByteArray} (h : ¬ s = t) : (s.toList != t.toList) = true ∧ (s.toList == t.toList) = false := by
  have : ¬ s.toList = t.toList := fun e => h (textEq e)
  exact ⟨by simpa using this, by simpa using this⟩
theorem text_eq {s t : ByteArray} (h : s = t) : (s.toList != t.toList) = false ∧ (s.toList == t.toList) = true := by simp [h]
/-- A row that reads as these texts. -/
def RdQ (w : World) (a : Option Addr) (l : List ByteArray) : Prop := ∀ i (h : i < l.length), ∃ b o, a = some ⟨b, o, none⟩ ∧ b < w.heap.size ∧ w.cell? ⟨b, o + i, none⟩ = some (.string l[i])
theorem RdQ.later {w w' : World} {a : Option Addr} {l : List ByteArray} (h : RdQ w a l) (hb : Below w.heap.size w w') : RdQ w' a l := by
  intro i hi
  obtain ⟨b, o, ha, hg, hc⟩ := h i hi
  exact ⟨b, o, ha, Nat.lt_of_lt_of_le hg hb.size, (hb.cell (p := ⟨b, o + i, none⟩) hg).trans hc⟩
theorem RdQ.below {w w' : World} {a : Option Addr} {l : List ByteArray} {B : Nat} (h : RdQ w a l) (hb : Below B w w') (hB : ∀ b f, a = some ⟨b, f, none⟩ → l ≠ [] → b < B) : RdQ w' a l := by
  intro i hi
  obtain ⟨b, o, ha, hg, hc⟩ := h i hi
  exact ⟨b, o, ha, Nat.lt_of_lt_of_le hg hb.size, (hb.cell (p := ⟨b, o + i, none⟩) (hB b o ha (fun e => by subst e; simp at hi))).trans hc⟩
theorem RdQ.inB {w : World} {a : Option Addr} {l : List ByteArray} {B : Nat} (h : RdQ w a l) (hB : w.heap.size ≤ B) : ∀ b f, a = some ⟨b, f, none⟩ → l ≠ [] → b < B := by
  intro b f ha hne
  obtain ⟨b', f', ha', hg, _⟩ := h 0 (List.length_pos_iff.2 hne)
  rw [ha] at ha'
  simp at ha'
  omega
theorem RdQ.grown {w w' : World} {a : Option Addr} {l : List ByteArray} {r : Option Nat} (h : RdQ w a l) (hb : w.grownBy w' r) (hne : ∀ b f, a = some ⟨b, f, none⟩ → r ≠ some b) : RdQ w' a l := by
  intro i hi
  obtain ⟨b, o, ha, hg, hc⟩ := h i hi
  exact ⟨b, o, ha, Nat.lt_of_lt_of_le hg hb.size, (World.cell?_of_block (w := w) (hb.block b hg (fun e => hne b o ha e.symm))).trans hc⟩
theorem RdQ.nil (w : World) (a : Option Addr) : RdQ w a [] := fun i hi => by simp at hi
theorem rdQ_of_own {w : World} {base n c : Nat} {e : TypeId} {ao : Option Addr} {l : List ByteArray} (h : w.ownsRow base e 1 (.slice ao n c) n (sc l)) : RdQ w ao l := by
  intro i hi
  have hl : l.length = n := by have := h.1; rw [qc_length] at this; omega
  rcases h.2 with ⟨hv, h0⟩ | ⟨g, cap, cur, hv, _, hh, _⟩
  · omega
  · have hg : (Value.slice ao n c).ownBlock = some g := by rw [hv]; rfl
    simp only [Value.slice.injEq] at hv
    refine ⟨g, 0, hv.1, (Array.getElem?_eq_some_iff.1 hh).1, ?_⟩
    have := h.cells hg i _ (qc_get l i hi)
    rw [Addr.add_lit] at this
    exact this

/-- Marks: texts from k on. -/
def patQ (k n : Nat) : List ByteArray := (List.range n).map fun i => mkT (k + i)
theorem patQ_length (k n : Nat) : (patQ k n).length = n := by simp [patQ]
theorem patQ_get (k n i : Nat) (h : i < n) : (patQ k n)[i]'(by rw [patQ_length]; exact h) = mkT (k + i) := by simp [patQ]
theorem patQ_fill (k n i : Nat) (l : List ByteArray) (hl : l.length = n) (hi : i < n) : ((patQ k n).take i ++ l.drop i).set i (mkT (k + i)) = (patQ k n).take (i + 1) ++ l.drop (i + 1) := by
  have ht : ((patQ k n).take i).length = i := by rw [List.length_take, patQ_length]; omega
  rw [List.set_append_right _ _ (by omega), ht, Nat.sub_self, List.drop_eq_getElem_cons (by omega), List.set_cons_zero, List.take_succ_eq_append_getElem (by rw [patQ_length]; exact hi), patQ_get k n i hi, List.append_assoc]
  rfl

theorem Tryd.infoQ : (Tryd.prog.info? 9).map (fun i => (i.zero, i.size, i.bytes)) = some (some (.string ⟨#[]⟩), 1, 16) := by kernel_rfl
theorem madeQ : ∀ n : Nat, (madeCells (Value.string ⟨#[]⟩).cells (n * 1)).toList = sc (List.replicate n ⟨#[]⟩) := by
  intro n
  refine List.ext_getElem? fun j => ?_
  by_cases hj : j < n
  · rw [qc_get _ j (by simpa using hj)]
    simp only [madeCells, Array.getElem?_toList]
    rw [Array.getElem?_map, Array.getElem?_range, if_pos (by omega)]
    simp only [Option.map_some, List.getElem_replicate]
    have : j % 1 = 0 := by omega
    show some ((#[Value.string ⟨#[]⟩] : Array Value)[j % 1]!) = _
    rw [this]; rfl
  · rw [List.getElem?_eq_none (by simp [madeCells]; omega), List.getElem?_eq_none (by rw [qc_length]; simp; omega)]
theorem fill_setQ (l : List ByteArray) (z s : ByteArray) (i : Nat) (hi : i < l.length) (hs : l[i] = s) : (l.take i ++ List.replicate (l.length - i) z).set i s = l.take (i + 1) ++ List.replicate (l.length - (i + 1)) z := by
  have hl : (l.take i).length = i := by simp; omega
  rw [List.set_append_right _ _ (by omega), hl, Nat.sub_self, show l.length - i = (l.length - (i + 1)) + 1 by omega, List.replicate_succ, List.set_cons_zero, List.take_succ_eq_append_getElem hi, hs, List.append_assoc]
  rfl

end Go.Proofs.YtelmchifpgaibaaDoor
namespace Go.Proofs.YtelmchifpgaibaaDoor
open Go.RowKit
set_option linter.unusedVariables false

theorem in_yesI {x lo hi : Int} (h : lo ≤ x ∧ x ≤ hi) : (decide (lo ≤ x) && decide (x ≤ hi)) = true := by rw [Bool.and_eq_true, decide_eq_true_iff, decide_eq_true_iff]; exact h
theorem in_noI {x lo hi : Int} (h : ¬ (lo ≤ x ∧ x ≤ hi)) : (decide (lo ≤ x) && decide (x ≤ hi)) = false := by rw [Bool.and_eq_false_iff, decide_eq_false_iff_not, decide_eq_false_iff_not]; omega
theorem in_anyR (x lo hi : Int) (w : World) : Calls Tryd.prog 26 #[.int .i64 x, .int .i64 lo, .int .i64 hi] w fun e w' => e = .returned (.bool (decide (lo ≤ x) && decide (x ≤ hi))) ∧ w' = w := (in_any x lo hi w).mono (fun e w' h => ⟨h.1, h.2.symm⟩)
theorem okIms_no {l : List Im} {i : Nat} (hi : i < l.length) (h : ¬ okIm l[i]) : decide (okIms l) = false := decide_eq_false (fun e => h (e.1 _ (List.getElem_mem hi)))
theorem okIms_no2 {l : List Im} {i m : Nat} (hi : i < l.length) (hm : m < l.length) (e : m + 1 = i) (h : tLt l[m].k l[i].k = false) : decide (okIms l) = false := decide_eq_false (fun e2 => by
  have := (stepI_of e2.1 e2.2.1 l.length i hi hi).2 m hm e
  rw [h] at this
  cases this)
theorem okIms_end {l : List Im} (h : stepI l l.length) : decide ((l.length : Int) ≤ 12) = decide (okIms l) := by
  by_cases c : l.length ≤ 12
  · rw [decide_eq_true (show (l.length : Int) ≤ 12 by omega), decide_eq_true (show okIms l from ⟨stepI_all h, stepI_asc h, c⟩)]
  · rw [decide_eq_false (show ¬ (l.length : Int) ≤ 12 by omega), decide_eq_false (fun e : okIms l => c e.2.2)]
end Go.Proofs.YtelmchifpgaibaaDoor
namespace Go.Proofs.YtelmchifpgaibaaDoor
open Go.RowKit
set_option linter.unusedVariables false

theorem wpList_cpE {P : Program} {α : Type} {enc : α → List Value} {k : Nat} {t e : TypeId} {ops : Array Oper} {rest : List Oper} {o : Oper} {a : Act} {w : World} {Q : Exit → Act → World → Prop} (E : EncK enc k) (R : RowK P t e k) (hgd : o.guard = none) (s x : Operand)
    (ho : o.op = .call { callee := .builtin .append, args := #[s, x], argTypes := #[t, t] }) (g : Nat) (hs : a.eval s = .slice (some ⟨g, 0, none⟩) 0 0) (ao : Option Addr) (m c : Nat) (l : List α) (hx : a.eval x = .slice ao m c) (hm : l.length = m) (hA : RdG enc k w ao l) (hlen : m ≤ 1048576)
    (h : ∀ b' c' w', RdG enc k w' b' l → Below w.heap.size w w' → (∀ b o, b' = some ⟨b, o, none⟩ → 0 < m → w.heap.size ≤ b) → m ≤ c' → wpList P ops Q rest (a.put o.dst (.slice b' m c')) w') : wpList P ops Q (o :: rest) a w := by
  refine wpList_plain hgd fun K hK => ?_
  obtain ⟨b', c', w', hrun, h1, h2, h3, h4⟩ := cpE_run E R w o.type g ao m c l hm hA hlen
  unfold Oper.wp
  simp only [execOp, ho, resolve, invoke, builtin, Sem.run_bind, Sem.run_pure, Result.andThen_ok, List.map_toArray, List.map_cons, List.map_nil, hs, hx, hrun]
  exact hK _ _ (h b' c' w' h1 h2 h3 h4)
theorem RdG.ltI {α : Type} {enc : α → List Value} {k : Nat} {w : World} {a : Option Addr} {l : List α} (h : RdG enc k w a l) {b o : Nat} (ha : a = some ⟨b, o, none⟩) (hl : 0 < l.length) : b < w.heap.size := by
  obtain ⟨b', o', e, hg, _⟩ := h 0 hl
  rw [ha] at e
  injection e with e
  injection e with e1 e2
  omega
theorem RdG.laterI {α : Type} {enc : α → List Value} {k B : Nat} {w w' : World} {a : Option Addr} {l : List α} (h : RdG enc k w a l) (hb : Below B w w') (hB : ∀ b o, a = some ⟨b, o, none⟩ → 0 < l.length → b < B) : RdG enc k w' a l := by
  intro i hi
  obtain ⟨b, o, ha, hg, hc⟩ := h i hi
  refine ⟨b, o, ha, Nat.lt_of_lt_of_le hg hb.size, fun j hj => ?_⟩
  rw [← hc j hj]
  exact World.cell?_of_block (hb.block b (hB b o ha (by omega)))
end Go.Proofs.YtelmchifpgaibaaDoor
namespace Go.Proofs.YtelmchifpgaibaaDoor
open Go.RowKit
set_option linter.unusedVariables false

theorem imOf_at {l : List Im} {k : ByteArray} {i : Nat} (hi : i < l.length) (h1 : ∀ j (h : j < l.length), j < i → ¬ l[j].k = k) (h2 : l[i].k = k) : imOf l k = l[i] := by
  unfold imOf
  have : l.find? (fun y => decide (y.k = k)) = some l[i] := by
    rw [List.find?_eq_some_iff_getElem]
    exact ⟨by simpa using h2, i, hi, rfl, fun j hj => by simpa using h1 j (by omega) hj⟩
  rw [this]
  rfl
theorem imOf_nil {l : List Im} {k : ByteArray} (h1 : ∀ j (h : j < l.length), j < l.length → ¬ l[j].k = k) : imOf l k = zeroIm := imOf_none (fun y hy e => by
  obtain ⟨j, hj, rfl⟩ := List.getElem_of_mem hy
  exact h1 j hj hj e)
theorem filt_next {p : Im → Bool} {l : List Im} {i : Nat} (hi : i < l.length) : (l.take (i + 1)).filter p = (l.take i).filter p ++ (if p l[i] = true then [l[i]] else []) := by
  rw [List.take_succ_eq_append_getElem hi, List.filter_append, List.filter_cons]
  rfl
/-- None of the first i is as new. -/
def oldTo (l : List Im) (x : Im) (i : Nat) : Prop := ∀ j (h : j < l.length), j < i → ¬ (l[j].k = x.k ∧ x.n ≤ l[j].n)
theorem oldTo_all {l : List Im} {x : Im} (h : oldTo l x l.length) : newI l x = false := by
  cases e : newI l x with
  | false => rfl
  | true =>
    obtain ⟨y, hy, h2⟩ := newI_of e
    obtain ⟨j, hj, rfl⟩ := List.getElem_of_mem hy
    exact absurd h2 (h j hj hj)
theorem newI_at {l : List Im} {x : Im} {i : Nat} (hi : i < l.length) (h : l[i].k = x.k ∧ x.n ≤ l[i].n) : newI l x = true := by
  unfold newI
  rw [List.any_eq_true]
  exact ⟨l[i], List.getElem_mem hi, by rw [decide_eq_true h.1, decide_eq_true h.2]; rfl⟩
theorem oldTo_next {l : List Im} {x : Im} {i : Nat} (h : oldTo l x i) (hi : i < l.length) (h2 : ¬ (l[i].k = x.k ∧ x.n ≤ l[i].n)) : oldTo l x (i + 1) := fun j hj hlt => by
  by_cases c : j < i
  · exact h j hj c
  · have : j = i := (by omega)
    subst this
    exact h2
theorem put_new {l : List Im} {x : Im} (h : newI l x = true) : putI l x = l := by unfold putI; rw [if_pos h]
theorem put_bad {l : List Im} {x : Im} (h : ¬ (okIms l ∧ okIms (insI l x))) : putI l x = l := by unfold putI; rw [if_neg h]; split <;> rfl
theorem put_ok {l : List Im} {x : Im} (h0 : newI l x = false) (h : okIms l ∧ okIms (insI l x)) : putI l x = insI l x := by unfold putI; rw [if_neg (by rw [h0]; simp), if_pos h]
end Go.Proofs.YtelmchifpgaibaaDoor
namespace Go.Proofs.YtelmchifpgaibaaDoor
open Go.RowKit
set_option linter.unusedVariables false

structure Ms where
  k : Int
  f : Int
  o : Int
  e : Int
  n : Int
  is : List Im
/-- How many items a message of a kind may have. -/
def manyOk (k : Int) (c : Nat) : Prop := if k = 2 ∨ k = 3 then True else if k = 5 then c = 1 else c = 0
instance (k : Int) (c : Nat) : Decidable (manyOk k c) := by unfold manyOk; split; infer_instance; split <;> infer_instance
def okMs (m : Ms) : Prop := (1 ≤ m.k ∧ m.k ≤ 8) ∧ (1 ≤ m.f ∧ m.f ≤ 6) ∧ (1 ≤ m.o ∧ m.o ≤ 6) ∧ (1 ≤ m.e ∧ m.e ≤ 9) ∧ (0 ≤ m.n ∧ m.n ≤ 1000000000) ∧ okIms m.is ∧ manyOk m.k m.is.length
instance (m : Ms) : Decidable (okMs m) := by unfold okMs; infer_instance
end Go.Proofs.YtelmchifpgaibaaDoor
