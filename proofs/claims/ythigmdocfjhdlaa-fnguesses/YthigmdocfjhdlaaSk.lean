/- Rows of whole numbers: comparing, marking, holding, copying and sizing them, by the statements' functions. -/
import Derived.Test.YthigmdocfjhdlaaGen
namespace Go.Proofs.Ythigmdocfjhdlaa
open Go.RowKit

/-- The cells of a row of whole numbers. -/
def iz (l : List Int) : List Value := l.map fun n => Value.int .i64 n
theorem iz_length (l : List Int) : (iz l).length = l.length := by simp [iz]
theorem iz_append (l m : List Int) : iz (l ++ m) = iz l ++ iz m := by simp [iz]
theorem iz_get (l : List Int) (i : Nat) (h : i < l.length) : (iz l)[i]? = some (.int .i64 l[i]) := by simp [iz, h]
theorem iz_set (l : List Int) (i : Nat) (n : Int) : iz (l.set i n) = (iz l).set i (.int .i64 n) := by simp [iz, List.map_set]
theorem iz_one (l : List Int) : ∀ u ∈ iz l, u.oneCell' = true := by
  intro u hu; obtain ⟨_, _, rfl⟩ := List.mem_map.1 hu; rfl
/-- A row that reads as these numbers. -/
def RdZ (w : World) (a : Option Addr) (l : List Int) : Prop := ∀ i (h : i < l.length), ∃ b o, a = some ⟨b, o, none⟩ ∧ b < w.heap.size ∧ w.cell? ⟨b, o + i, none⟩ = some (.int .i64 l[i])
theorem RdZ.later {w w' : World} {a : Option Addr} {l : List Int} (h : RdZ w a l) (hb : Below w.heap.size w w') : RdZ w' a l := by
  intro i hi
  obtain ⟨b, o, ha, hg, hc⟩ := h i hi
  exact ⟨b, o, ha, Nat.lt_of_lt_of_le hg hb.size, (hb.cell (p := ⟨b, o + i, none⟩) hg).trans hc⟩
theorem RdZ.below {w w' : World} {a : Option Addr} {l : List Int} {B : Nat} (h : RdZ w a l) (hb : Below B w w') (hB : ∀ b f, a = some ⟨b, f, none⟩ → l ≠ [] → b < B) : RdZ w' a l := by
  intro i hi
  obtain ⟨b, o, ha, hg, hc⟩ := h i hi
  exact ⟨b, o, ha, Nat.lt_of_lt_of_le hg hb.size, (hb.cell (p := ⟨b, o + i, none⟩) (hB b o ha (fun e => by subst e; simp at hi))).trans hc⟩
theorem RdZ.inB {w : World} {a : Option Addr} {l : List Int} {B : Nat} (h : RdZ w a l) (hB : w.heap.size ≤ B) : ∀ b f, a = some ⟨b, f, none⟩ → l ≠ [] → b < B := by
  intro b f ha hne
  obtain ⟨b', f', ha', hg, _⟩ := h 0 (List.length_pos_iff.2 hne)
  rw [ha] at ha'
  simp at ha'
  omega
theorem rdZ_of_own {w : World} {base n c : Nat} {e : TypeId} {ao : Option Addr} {l : List Int} (h : w.ownsRow base e 1 (.slice ao n c) n (iz l)) : RdZ w ao l := by
  intro i hi
  have hl : l.length = n := by have := h.1; rw [iz_length] at this; omega
  rcases h.2 with ⟨hv, h0⟩ | ⟨g, cap, cur, hv, _, hh, _⟩
  · omega
  · have hg : (Value.slice ao n c).ownBlock = some g := by rw [hv]; rfl
    simp only [Value.slice.injEq] at hv
    refine ⟨g, 0, hv.1, (Array.getElem?_eq_some_iff.1 hh).1, ?_⟩
    have := h.cells hg i _ (iz_get l i hi)
    rw [Addr.add_lit] at this
    exact this

/-- Marks: numbers from k on. -/
def patZ (k n : Nat) : List Int := (List.range n).map fun i => ((k + i : Nat) : Int)
theorem patZ_length (k n : Nat) : (patZ k n).length = n := by simp [patZ]
theorem patZ_get (k n i : Nat) (h : i < n) : (patZ k n)[i]'(by rw [patZ_length]; exact h) = (k : Int) + (i : Int) := by simp [patZ]
theorem patZ_fill (k n i : Nat) (l : List Int) (hl : l.length = n) (hi : i < n) : ((patZ k n).take i ++ l.drop i).set i ((k : Int) + (i : Int)) = (patZ k n).take (i + 1) ++ l.drop (i + 1) := by
  have ht : ((patZ k n).take i).length = i := by rw [List.length_take, patZ_length]; omega
  rw [List.set_append_right _ _ (by omega), ht, Nat.sub_self, List.drop_eq_getElem_cons (by omega), List.set_cons_zero, List.take_succ_eq_append_getElem (by rw [patZ_length]; exact hi), patZ_get k n i hi, List.append_assoc]
  rfl

theorem Try.infoZ : (Try.prog.info? 3).map (fun i => (i.zero, i.size, i.bytes)) = some (some (.int .i64 0), 1, 8) := by kernel_rfl
theorem madeZ : ∀ n : Nat, (madeCells (Value.int .i64 0).cells (n * 1)).toList = iz (List.replicate n 0) := by
  intro n
  refine List.ext_getElem? fun j => ?_
  by_cases hj : j < n
  · rw [iz_get _ j (by simpa using hj)]
    simp only [madeCells, Array.getElem?_toList]
    rw [Array.getElem?_map, Array.getElem?_range, if_pos (by omega)]
    simp only [Option.map_some, List.getElem_replicate]
    have : j % 1 = 0 := by omega
    show some ((#[Value.int .i64 0] : Array Value)[j % 1]!) = _
    rw [this]; rfl
  · rw [List.getElem?_eq_none (by simp [madeCells]; omega), List.getElem?_eq_none (by rw [iz_length]; simp; omega)]
theorem fill_setZ (l : List Int) (z s : Int) (i : Nat) (hi : i < l.length) (hs : l[i] = s) : (l.take i ++ List.replicate (l.length - i) z).set i s = l.take (i + 1) ++ List.replicate (l.length - (i + 1)) z := by
  have hl : (l.take i).length = i := by simp; omega
  rw [List.set_append_right _ _ (by omega), hl, Nat.sub_self, show l.length - i = (l.length - (i + 1)) + 1 by omega, List.replicate_succ, List.set_cons_zero, List.take_succ_eq_append_getElem hi, hs, List.append_assoc]
  rfl

end Go.Proofs.Ythigmdocfjhdlaa
