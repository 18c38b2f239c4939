/- Queues, plain: when one is right, what its functions answer. -/
import Derived.Test.YtaafofgfeaodhaaQuB
namespace Go.Proofs.Ytaafofgfeaodhaa
open Go.RowKit

/-- Whether a key is there. -/
def hasQ (l : List ByteArray) (k : ByteArray) : Bool := l.any fun s => s.toList == k.toList
theorem hasQ_iff (l : List ByteArray) (k : ByteArray) : hasQ l k = true ↔ k ∈ l := by
  unfold hasQ
  rw [List.any_eq_true]
  constructor
  · rintro ⟨s, hs, h⟩
    rw [← textEq (beq_iff_eq.1 h)]; exact hs
  · intro h; exact ⟨k, h, by simp⟩
theorem hasQ_not {l : List ByteArray} {k : ByteArray} (h : ¬ k ∈ l) : hasQ l k = false := by
  rcases e : hasQ l k with _ | _
  · rfl
  · exact absurd ((hasQ_iff l k).1 e) h
/-- All others. -/
def wthQ (l : List ByteArray) (k : ByteArray) : List ByteArray := l.filter fun s => s.toList != k.toList
theorem wthQ_length (l : List ByteArray) (k : ByteArray) : (wthQ l k).length ≤ l.length := List.length_filter_le _ _
theorem wthQ_mem (l : List ByteArray) (k s : ByteArray) : s ∈ wthQ l k ↔ s ∈ l ∧ s ≠ k := by
  unfold wthQ
  rw [List.mem_filter]
  constructor
  · rintro ⟨h1, h2⟩; exact ⟨h1, fun e => by rw [e] at h2; simp at h2⟩
  · rintro ⟨h1, h2⟩; exact ⟨h1, (text_ne h2).1⟩
theorem wthQ_none {l : List ByteArray} {k : ByteArray} (h : ¬ k ∈ l) : wthQ l k = l := by
  unfold wthQ
  rw [List.filter_eq_self]
  intro s hs
  exact (text_ne (fun e => by subst e; exact h hs)).1
theorem wthQ_nodup {l : List ByteArray} {k : ByteArray} (h : l.Nodup) : (wthQ l k).Nodup := h.filter _
theorem wthQ_take {l : List ByteArray} {k : ByteArray} {i : Nat} (h : i < l.length) : wthQ (l.take (i + 1)) k = wthQ (l.take i) k ++ (if l[i].toList != k.toList then [l[i]] else []) := by
  unfold wthQ
  rw [List.take_succ_eq_append_getElem h, List.filter_append]
  congr 1
  cases e : (l[i].toList != k.toList) <;> simp [e]
theorem wthQ_lt {l : List ByteArray} {k : ByteArray} (h : k ∈ l) : (wthQ l k).length < l.length := by
  unfold wthQ
  rcases Nat.lt_or_ge (l.filter fun s => s.toList != k.toList).length l.length with h1 | h1
  · exact h1
  · have := List.length_filter_le (fun s : ByteArray => s.toList != k.toList) l
    have e : (l.filter fun s => s.toList != k.toList).length = l.length := by omega
    rw [List.length_filter_eq_length_iff] at e
    have := e k h
    simp at this
/-- A key of a queue. -/
def keyQ (k : ByteArray) : Prop := 1 ≤ k.size ∧ k.size ≤ 12
/-- A queue is right. -/
def OkQ (l : List ByteArray) (m : Int) : Prop := 0 ≤ m ∧ m ≤ 24 ∧ (l.length : Int) ≤ m ∧ (∀ s ∈ l, keyQ s) ∧ l.Nodup
theorem OkQ.small {l : List ByteArray} {m : Int} (h : OkQ l m) : l.length ≤ 24 := by have := h.1; have := h.2.1; have := h.2.2.1; omega
open Classical in
/-- What Touch answers: keys, Most, and whether. -/
noncomputable def touR (l : List ByteArray) (m : Int) (k : ByteArray) : (List ByteArray × Int) × Bool := if OkQ l m ∧ k ∈ l then ((k :: wthQ l k, m), true) else (([], 0), false)
open Classical in
/-- What Drop answers. -/
noncomputable def drpR (l : List ByteArray) (m : Int) (k : ByteArray) : (List ByteArray × Int) × Bool := if OkQ l m ∧ k ∈ l then ((wthQ l k, m), true) else (([], 0), false)
/-- When Push pushes. -/
def PshQ (l : List ByteArray) (m : Int) (k : ByteArray) : Prop := OkQ l m ∧ keyQ k ∧ ¬ k ∈ l ∧ m ≠ 0
open Classical in
/-- What Push answers: the queue, what is left out, and whether. -/
noncomputable def pshR (l : List ByteArray) (m : Int) (k : ByteArray) : (List ByteArray × Int) × ByteArray × Bool := if PshQ l m k then (((k :: l).take m.toNat, m), (k :: l).getD m.toNat ⟨#[]⟩, true) else (([], 0), ⟨#[]⟩, false)
theorem touR_yes {l : List ByteArray} {m : Int} {k : ByteArray} (h : OkQ l m) (hk : k ∈ l) : touR l m k = ((k :: wthQ l k, m), true) := by unfold touR; rw [if_pos ⟨h, hk⟩]
theorem touR_no {l : List ByteArray} {m : Int} {k : ByteArray} (h : ¬ (OkQ l m ∧ k ∈ l)) : touR l m k = (([], 0), false) := by unfold touR; rw [if_neg h]
theorem drpR_yes {l : List ByteArray} {m : Int} {k : ByteArray} (h : OkQ l m) (hk : k ∈ l) : drpR l m k = ((wthQ l k, m), true) := by unfold drpR; rw [if_pos ⟨h, hk⟩]
theorem drpR_no {l : List ByteArray} {m : Int} {k : ByteArray} (h : ¬ (OkQ l m ∧ k ∈ l)) : drpR l m k = (([], 0), false) := by unfold drpR; rw [if_neg h]
theorem pshR_yes {l : List ByteArray} {m : Int} {k : ByteArray} (h : PshQ l m k) : pshR l m k = (((k :: l).take m.toNat, m), (k :: l).getD m.toNat ⟨#[]⟩, true) := by unfold pshR; rw [if_pos h]
theorem pshR_no {l : List ByteArray} {m : Int} {k : ByteArray} (h : ¬ PshQ l m k) : pshR l m k = (([], 0), ⟨#[]⟩, false) := by unfold pshR; rw [if_neg h]
theorem touR_length (l : List ByteArray) (m : Int) (k : ByteArray) : (touR l m k).1.1.length ≤ 25 := by
  by_cases h : OkQ l m ∧ k ∈ l
  · rw [touR_yes h.1 h.2]
    have := wthQ_length l k; have := h.1.small
    simp only [List.length_cons]; omega
  · rw [touR_no h]; simp
theorem drpR_length (l : List ByteArray) (m : Int) (k : ByteArray) : (drpR l m k).1.1.length ≤ 25 := by
  by_cases h : OkQ l m ∧ k ∈ l
  · rw [drpR_yes h.1 h.2]
    have := wthQ_length l k; have := h.1.small
    show (wthQ l k).length ≤ 25
    omega
  · rw [drpR_no h]; simp
theorem pshR_length (l : List ByteArray) (m : Int) (k : ByteArray) : (pshR l m k).1.1.length ≤ 25 := by
  by_cases h : PshQ l m k
  · rw [pshR_yes h]
    have := h.1.small
    simp only [List.length_take, List.length_cons]; omega
  · rw [pshR_no h]; simp
/-- A right queue stays right. -/
theorem OkQ.touch {l : List ByteArray} {m : Int} {k : ByteArray} (h : OkQ l m) (hk : k ∈ l) : OkQ (k :: wthQ l k) m := by
  obtain ⟨h1, h2, h3, h4, h5⟩ := h
  have := wthQ_lt hk
  refine ⟨h1, h2, by simp only [List.length_cons]; omega, ?_, ?_⟩
  · intro s hs
    rcases List.mem_cons.1 hs with rfl | hs
    · exact h4 _ hk
    · exact h4 s ((wthQ_mem l k s).1 hs).1
  · rw [List.nodup_cons]
    exact ⟨fun hh => ((wthQ_mem l k k).1 hh).2 rfl, wthQ_nodup h5⟩
theorem OkQ.drop {l : List ByteArray} {m : Int} {k : ByteArray} (h : OkQ l m) : OkQ (wthQ l k) m := by
  obtain ⟨h1, h2, h3, h4, h5⟩ := h
  have := wthQ_length l k
  exact ⟨h1, h2, by omega, fun s hs => h4 s ((wthQ_mem l k s).1 hs).1, wthQ_nodup h5⟩
theorem PshQ.ok {l : List ByteArray} {m : Int} {k : ByteArray} (h : PshQ l m k) : OkQ ((k :: l).take m.toNat) m := by
  obtain ⟨⟨h1, h2, h3, h4, h5⟩, hk, hn, hm⟩ := h
  refine ⟨h1, h2, by rw [List.length_take]; omega, ?_, ?_⟩
  · intro s hs
    rcases List.mem_cons.1 (List.mem_of_mem_take hs) with rfl | hs
    · exact hk
    · exact h4 s hs
  · exact (List.nodup_cons.2 ⟨hn, h5⟩).sublist (List.take_sublist _ _)
end Go.Proofs.Ytaafofgfeaodhaa
