/- Rows of texts: comparing, marking, holding, copying and sizing them, by the statements' functions. -/
import Derived.Test.YtmfpgnoeemjhiaaGenB
import Derived.Test.YtmfpgnoeemjhiaaMark
namespace Go.Proofs.Ytmfpgnoeemjhiaa
open Go.RowKit

theorem qc_length (l : List ByteArray) : (sc l).length = l.length := by simp [sc]
theorem qc_get (l : List ByteArray) (i : Nat) (h : i < l.length) : (sc l)[i]? = some (.string l[i]) := by simp [sc, h]
theorem qc_set (l : List ByteArray) (i : Nat) (s : ByteArray) : sc (l.set i s) = (sc l).set i (.string s) := by simp [sc, List.map_set]
theorem qc_one (l : List ByteArray) : ∀ u ∈ sc l, u.oneCell' = true := by
  intro u hu; obtain ⟨_, _, rfl⟩ := List.mem_map.1 hu; rfl
theorem textEq {a b : ByteArray} (h : a.toList = b.toList) : a = b := by
  rw [ByteArray.toList_eq, ByteArray.toList_eq] at h
  cases a; cases b; simp at h; simp [h]
theorem text_ne {s t : ByteArray} (h : ¬ s = t) : (s.toList != t.toList) = true ∧ (s.toList == t.toList) = false := by
  have : ¬ s.toList = t.toList := fun e => h (textEq e)
  exact ⟨by simpa using this, by simpa using this⟩
theorem text_eq {s t : ByteArray} (h : s = t) : (s.toList != t.toList) = false ∧ (s.toList == t.toList) = true := by simp [h]
/-- A row that reads as these texts. -/
def RdQ (w : World) (a : Option Addr) (l : List ByteArray) : Prop := ∀ i (h : i < l.length), ∃ b o, a = some ⟨b, o, none⟩ ∧ b < w.heap.size ∧ w.cell? ⟨b, o + i, none⟩ = some (.string l[i])
theorem RdQ.later {w w' : World} {a : Option Addr} {l : List ByteArray} (h : RdQ w a l) (hb : Below w.heap.size w w') : RdQ w' a l := by
  intro i hi
  obtain ⟨b, o, ha, hg, hc⟩ := h i hi
  exact ⟨b, o, ha, Nat.lt_of_lt_of_le hg hb.size, (hb.cell (p := ⟨b, o + i, none⟩) hg).trans hc⟩
theorem RdQ.below {w w' : World} {a : Option Addr} {l : List ByteArray} {B : Nat} (h : RdQ w a l) (hb : Below B w w') (hB : ∀ b f, a = some ⟨b, f, none⟩ → l ≠ [] → b < B) : RdQ w' a l := by
  intro i hi
  obtain ⟨b, o, ha, hg, hc⟩ := h i hi
  exact ⟨b, o, ha, Nat.lt_of_lt_of_le hg hb.size, (hb.cell (p := ⟨b, o + i, none⟩) (hB b o ha (fun e => by subst e; simp at hi))).trans hc⟩
theorem RdQ.inB {w : World} {a : Option Addr} {l : List ByteArray} {B : Nat} (h : RdQ w a l) (hB : w.heap.size ≤ B) : ∀ b f, a = some ⟨b, f, none⟩ → l ≠ [] → b < B := by
  intro b f ha hne
  obtain ⟨b', f', ha', hg, _⟩ := h 0 (List.length_pos_iff.2 hne)
  rw [ha] at ha'
  simp at ha'
  omega
theorem RdQ.grown {w w' : World} {a : Option Addr} {l : List ByteArray} {r : Option Nat} (h : RdQ w a l) (hb : w.grownBy w' r) (hne : ∀ b f, a = some ⟨b, f, none⟩ → r ≠ some b) : RdQ w' a l := by
  intro i hi
  obtain ⟨b, o, ha, hg, hc⟩ := h i hi
  exact ⟨b, o, ha, Nat.lt_of_lt_of_le hg hb.size, (World.cell?_of_block (w := w) (hb.block b hg (fun e => hne b o ha e.symm))).trans hc⟩
theorem RdQ.nil (w : World) (a : Option Addr) : RdQ w a [] := fun i hi => by simp at hi
theorem rdQ_of_own {w : World} {base n c : Nat} {e : TypeId} {ao : Option Addr} {l : List ByteArray} (h : w.ownsRow base e 1 (.slice ao n c) n (sc l)) : RdQ w ao l := by
  intro i hi
  have hl : l.length = n := by have := h.1; rw [qc_length] at this; omega
  rcases h.2 with ⟨hv, h0⟩ | ⟨g, cap, cur, hv, _, hh, _⟩
  · omega
  · have hg : (Value.slice ao n c).ownBlock = some g := by rw [hv]; rfl
    simp only [Value.slice.injEq] at hv
    refine ⟨g, 0, hv.1, (Array.getElem?_eq_some_iff.1 hh).1, ?_⟩
    have := h.cells hg i _ (qc_get l i hi)
    rw [Addr.add_lit] at this
    exact this

/-- Marks: texts from k on. -/
def patQ (k n : Nat) : List ByteArray := (List.range n).map fun i => mkT (k + i)
theorem patQ_length (k n : Nat) : (patQ k n).length = n := by simp [patQ]
theorem patQ_get (k n i : Nat) (h : i < n) : (patQ k n)[i]'(by rw [patQ_length]; exact h) = mkT (k + i) := by simp [patQ]
theorem patQ_fill (k n i : Nat) (l : List ByteArray) (hl : l.length = n) (hi : i < n) : ((patQ k n).take i ++ l.drop i).set i (mkT (k + i)) = (patQ k n).take (i + 1) ++ l.drop (i + 1) := by
  have ht : ((patQ k n).take i).length = i := by rw [List.length_take, patQ_length]; omega
  rw [List.set_append_right _ _ (by omega), ht, Nat.sub_self, List.drop_eq_getElem_cons (by omega), List.set_cons_zero, List.take_succ_eq_append_getElem (by rw [patQ_length]; exact hi), patQ_get k n i hi, List.append_assoc]
  rfl

theorem Try.infoQ : (Try.prog.info? 9).map (fun i => (i.zero, i.size, i.bytes)) = some (some (.string ⟨#[]⟩), 1, 16) := by kernel_rfl
theorem madeQ : ∀ n : Nat, (madeCells (Value.string ⟨#[]⟩).cells (n * 1)).toList = sc (List.replicate n ⟨#[]⟩) := by
  intro n
  refine List.ext_getElem? fun j => ?_
  by_cases hj : j < n
  · rw [qc_get _ j (by simpa using hj)]
    simp only [madeCells, Array.getElem?_toList]
    rw [Array.getElem?_map, Array.getElem?_range, if_pos (by omega)]
    simp only [Option.map_some, List.getElem_replicate]
    have : j % 1 = 0 := by omega
    show some ((#[Value.string ⟨#[]⟩] : Array Value)[j % 1]!) = _
    rw [this]; rfl
  · rw [List.getElem?_eq_none (by simp [madeCells]; omega), List.getElem?_eq_none (by rw [qc_length]; simp; omega)]
theorem fill_setQ (l : List ByteArray) (z s : ByteArray) (i : Nat) (hi : i < l.length) (hs : l[i] = s) : (l.take i ++ List.replicate (l.length - i) z).set i s = l.take (i + 1) ++ List.replicate (l.length - (i + 1)) z := by
  have hl : (l.take i).length = i := by simp; omega
  rw [List.set_append_right _ _ (by omega), hl, Nat.sub_self, show l.length - i = (l.length - (i + 1)) + 1 by omega, List.replicate_succ, List.set_cons_zero, List.take_succ_eq_append_getElem hi, hs, List.append_assoc]
  rfl

end Go.Proofs.Ytmfpgnoeemjhiaa
