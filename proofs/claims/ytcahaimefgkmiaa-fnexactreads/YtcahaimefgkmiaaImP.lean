/- Items, plain: a list that ascends by key; one is put into its place. -/
import Derived.Test.YtcahaimefgkmiaaTxO
namespace Go.Proofs.Ytcahaimefgkmiaa
open Go.RowKit
set_option linter.unusedVariables false

structure Im where
  k : ByteArray
  v : ByteArray
  n : Int
def zeroIm : Im := ⟨⟨#[]⟩, ⟨#[]⟩, 0⟩
def okIm (x : Im) : Prop := (1 ≤ x.k.size ∧ x.k.size ≤ 12) ∧ x.v.size ≤ 20 ∧ (1 ≤ x.n ∧ x.n ≤ 1000000000)
instance (x : Im) : Decidable (okIm x) := by unfold okIm; infer_instance
/-- Each key is less than the next one. -/
def ascI (l : List Im) : Prop := l.Pairwise (fun a b => tLt a.k b.k = true)
instance (l : List Im) : Decidable (ascI l) := by unfold ascI; infer_instance
def okIms (l : List Im) : Prop := (∀ x ∈ l, okIm x) ∧ ascI l ∧ l.length ≤ 12
instance (l : List Im) : Decidable (okIms l) := by unfold okIms; infer_instance
/-- Right up to i, one by one. -/
def stepI (l : List Im) (i : Nat) : Prop := ∀ j (h : j < l.length), j < i → okIm l[j] ∧ ∀ m (hm : m < l.length), m + 1 = j → tLt l[m].k l[j].k = true
theorem stepI_asc {l : List Im} (h : stepI l l.length) : ascI l := by
  have key : ∀ d i j (hi : i < l.length) (hj : j < l.length), i + d + 1 = j → tLt l[i].k l[j].k = true := by
    intro d
    induction d with
    | zero => intro i j hi hj e; exact (h j hj hj).2 i hi (by omega)
    | succ d ih =>
      intro i j hi hj e
      have h1 := ih i (j - 1) hi (by omega) (by omega)
      have h2 := (h j hj hj).2 (j - 1) (by omega) (by omega)
      exact tLt_trans h1 h2
  unfold ascI
  rw [List.pairwise_iff_getElem]
  intro i j hi hj hij
  exact key (j - i - 1) i j hi hj (by omega)
theorem stepI_of {l : List Im} (h1 : ∀ x ∈ l, okIm x) (h2 : ascI l) (i : Nat) : stepI l i := by
  intro j hj _
  refine ⟨h1 _ (List.getElem_mem hj), fun m hm e => ?_⟩
  unfold ascI at h2
  rw [List.pairwise_iff_getElem] at h2
  exact h2 m j hm hj (by omega)
theorem stepI_all {l : List Im} (h : stepI l l.length) : ∀ x ∈ l, okIm x := fun x hx => by
  obtain ⟨j, hj, rfl⟩ := List.getElem_of_mem hx
  exact (h j hj hj).1
theorem stepI_next {l : List Im} {i : Nat} (h : stepI l i) (hi : i < l.length) (h1 : okIm l[i]) (h2 : ∀ m (hm : m < l.length), m + 1 = i → tLt l[m].k l[i].k = true) : stepI l (i + 1) := by
  intro j hj hlt
  by_cases c : j < i
  · exact h j hj c
  · have : j = i := by omega
    subst this
    exact ⟨h1, h2⟩
/-- It in its place. -/
def insI (l : List Im) (x : Im) : List Im := l.filter (fun y => tLt y.k x.k) ++ x :: l.filter (fun y => tLt x.k y.k)
/-- One of its key is as new or newer. -/
def newI (l : List Im) (x : Im) : Bool := l.any (fun y => decide (y.k = x.k) && decide (x.n ≤ y.n))
def putI (l : List Im) (x : Im) : List Im := if newI l x = true then l else if okIms l ∧ okIms (insI l x) then insI l x else l
def imOf (l : List Im) (k : ByteArray) : Im := (l.find? (fun y => decide (y.k = k))).getD zeroIm
theorem imOf_of {l : List Im} (h : ascI l) {y : Im} (hy : y ∈ l) : imOf l y.k = y := by
  unfold imOf
  cases e : l.find? (fun z => decide (z.k = y.k)) with
  | none => exact absurd (List.find?_eq_none.1 e y hy) (by simp)
  | some z =>
    have h1 := List.find?_some e
    have h2 := List.mem_of_find?_eq_some e
    simp only [decide_eq_true_eq] at h1
    show z = y
    obtain ⟨i, hi, rfl⟩ := List.getElem_of_mem h2
    obtain ⟨j, hj, rfl⟩ := List.getElem_of_mem hy
    unfold ascI at h
    rw [List.pairwise_iff_getElem] at h
    by_cases c : i = j
    · subst c; rfl
    · rcases Nat.lt_or_gt_of_ne c with c | c
      · exact absurd h1 (tLt_ne (h i j hi hj c))
      · exact absurd h1.symm (tLt_ne (h j i hj hi c))
theorem imOf_none {l : List Im} {k : ByteArray} (h : ∀ y ∈ l, y.k ≠ k) : imOf l k = zeroIm := by
  unfold imOf
  rw [List.find?_eq_none.2 (fun y hy => by simpa using h y hy)]
  rfl
theorem ins_mem {l : List Im} {x y : Im} : y ∈ insI l x ↔ y = x ∨ (y ∈ l ∧ y.k ≠ x.k) := by
  unfold insI
  rw [List.mem_append, List.mem_cons, List.mem_filter, List.mem_filter]
  constructor
  · rintro (⟨h1, h2⟩ | h | ⟨h1, h2⟩)
    · exact .inr ⟨h1, tLt_ne h2⟩
    · exact .inl h
    · exact .inr ⟨h1, (tLt_ne h2).symm⟩
  · rintro (h | ⟨h1, h2⟩)
    · exact .inr (.inl h)
    · cases e : tLt y.k x.k with
      | true => exact .inl ⟨h1, rfl⟩
      | false =>
        cases e2 : tLt x.k y.k with
        | true => exact .inr (.inr ⟨h1, rfl⟩)
        | false => exact absurd (tLt_tri e e2) h2
theorem ins_asc {l : List Im} {x : Im} (h : ascI l) : ascI (insI l x) := by
  unfold insI ascI
  rw [List.pairwise_append, List.pairwise_cons]
  refine ⟨List.Pairwise.filter _ h, ⟨fun y hy => ?_, List.Pairwise.filter _ h⟩, fun a ha b hb => ?_⟩
  · exact (List.mem_filter.1 hy).2
  · have h1 := (List.mem_filter.1 ha).2
    rcases List.mem_cons.1 hb with rfl | hb
    · exact h1
    · exact tLt_trans h1 (List.mem_filter.1 hb).2
theorem ins_len {l : List Im} {x : Im} : (insI l x).length ≤ l.length + 1 := by
  unfold insI
  have key : ∀ l : List Im, (l.filter (fun y => tLt y.k x.k)).length + (l.filter (fun y => tLt x.k y.k)).length ≤ l.length := by
    intro l
    induction l with
    | nil => exact Nat.le_refl _
    | cons a l ih =>
      rw [List.filter_cons, List.filter_cons]
      by_cases h1 : tLt a.k x.k = true
      · rw [if_pos h1, if_neg (by rw [tLt_asym h1]; simp)]
        simp only [List.length_cons]
        omega
      · rw [if_neg h1]
        split <;> simp only [List.length_cons] <;> omega
  have := key l
  rw [List.length_append, List.length_cons]
  omega
/-- What is put into a right list that has room. -/
theorem put_right {l : List Im} {x : Im} (hl : okIms l) (hx : okIm x) (h11 : l.length ≤ 11) : okIms (putI l x) ∧ (newI l x = false → putI l x = insI l x) := by
  have hi : okIms (insI l x) := ⟨fun y hy => by
    rcases ins_mem.1 hy with rfl | ⟨h, _⟩
    · exact hx
    · exact hl.1 y h, ins_asc hl.2.1, by have := @ins_len l x; omega⟩
  unfold putI
  constructor
  · split
    · exact hl
    · rw [if_pos ⟨hl, hi⟩]
      exact hi
  · intro e
    rw [if_neg (by rw [e]; simp), if_pos ⟨hl, hi⟩]
theorem newI_of {l : List Im} {x : Im} (h : newI l x = true) : ∃ y ∈ l, y.k = x.k ∧ x.n ≤ y.n := by
  unfold newI at h
  rw [List.any_eq_true] at h
  obtain ⟨y, hy, h⟩ := h
  rw [Bool.and_eq_true, decide_eq_true_eq, decide_eq_true_eq] at h
  exact ⟨y, hy, h⟩
theorem newI_no {l : List Im} {x : Im} (h : newI l x = false) : ∀ y ∈ l, y.k = x.k → y.n < x.n := fun y hy e => by
  by_cases c : y.n < x.n
  · exact c
  · have : newI l x = true := by
      unfold newI
      rw [List.any_eq_true]
      exact ⟨y, hy, by rw [decide_eq_true e, decide_eq_true (by omega)]; rfl⟩
    rw [h] at this
    cases this
/-- What a right list has of a key, and what the list has behind a put. -/
structure PutF (l : List Im) (x : Im) (n : List Im) : Prop where
  ok : okIms n
  yes : x.n ≤ (imOf l x.k).n → imOf n x.k = imOf l x.k
  no : (imOf l x.k).n < x.n → imOf n x.k = x
  el : ∀ y ∈ l, y.k ≠ x.k → imOf n y.k = y
  ag : putI n x = n
theorem put_facts {l : List Im} {x : Im} (hl : okIms l) (hx : okIm x) (h11 : l.length ≤ 11) : PutF l x (putI l x) := by
  obtain ⟨h1, h2⟩ := put_right hl hx h11
  cases e : newI l x with
  | true =>
    have ep : putI l x = l := by unfold putI; rw [if_pos e]
    obtain ⟨y, hy, hk, hn⟩ := newI_of e
    have ho : imOf l x.k = y := by rw [← hk]; exact imOf_of hl.2.1 hy
    rw [ep]
    exact ⟨hl, fun _ => rfl, fun h => by rw [ho] at h; omega, fun z hz _ => imOf_of hl.2.1 hz, ep⟩
  | false =>
    have ep := h2 e
    rw [ep] at h1 ⊢
    have hxm : x ∈ insI l x := ins_mem.2 (.inl rfl)
    have hxo : imOf (insI l x) x.k = x := imOf_of h1.2.1 hxm
    have hno := newI_no e
    refine ⟨h1, fun h => ?_, fun _ => hxo, fun z hz hne => imOf_of h1.2.1 (ins_mem.2 (.inr ⟨hz, hne⟩)), ?_⟩
    · by_cases c : ∃ y ∈ l, y.k = x.k
      · obtain ⟨y, hy, hk⟩ := c
        have := hno y hy hk
        rw [← hk, imOf_of hl.2.1 hy] at h
        omega
      · rw [imOf_none (fun y hy e => c ⟨y, hy, e⟩)] at h
        have := hx.2.2.1
        have h : x.n ≤ 0 := h
        omega
    · unfold putI
      rw [if_pos]
      unfold newI
      rw [List.any_eq_true]
      exact ⟨x, hxm, by rw [decide_eq_true rfl, decide_eq_true (Int.le_refl _)]; rfl⟩
end Go.Proofs.Ytcahaimefgkmiaa
