/- The contracts of the functions that compare cells of tables, and rows of them. -/
import Derived.Test.YtldbdmofjckjkaaArenaM
import Derived.Test.YtldbdmofjckjkaaTab
namespace Go.Proofs.Ytldbdmofjckjkaa
open Go.RowKit

/-- A cell of a table as a value. -/
def ceV (s : Ce) : Value := .agg #[.string s.key, .int .i64 s.h]
def eqCe (s t : Ce) : Bool := (s.key.toList == t.key.toList) && (s.h == t.h)
theorem eqCe_same (s : Ce) : eqCe s s = true := by simp [eqCe]
theorem eqCe_iff (s t : Ce) : eqCe s t = true ↔ s = t := by
  constructor
  · intro h
    simp only [eqCe, Bool.and_eq_true, beq_iff_eq] at h
    cases s; cases t; simp at *
    exact ⟨bytes_eq h.1, h.2⟩
  · rintro rfl; exact eqCe_same s
/-- The two cells of cell i of a row. -/
def cellAt2 (w : World) (g i : Nat) (s : Ce) : Prop := w.cell? ⟨g, i * 2, none⟩ = some (.string s.key) ∧ w.cell? ⟨g, i * 2 + 1, none⟩ = some (.int .i64 s.h)
/-- A row of cells that reads as l. -/
def RdC (w : World) (a : Option Addr) (l : List Ce) : Prop := l = [] ∨ ∃ g, a = some ⟨g, 0, none⟩ ∧ g < w.heap.size ∧ ∀ i (h : i < l.length), cellAt2 w g i l[i]
theorem cellAt2.below {w w' : World} {B g i : Nat} {s : Ce} (h : cellAt2 w g i s) (hb : Below B w w') (hg : g < B) : cellAt2 w' g i s := ⟨(hb.cell hg).trans h.1, (hb.cell hg).trans h.2⟩
theorem RdC.later {w w' : World} {a : Option Addr} {l : List Ce} (h : RdC w a l) (hb : Below w.heap.size w w') : RdC w' a l := by
  rcases h with h | ⟨g, ha, hg, hc⟩
  · exact .inl h
  · exact .inr ⟨g, ha, Nat.lt_of_lt_of_le hg hb.size, fun i hi => (hc i hi).below hb hg⟩
theorem RdC.at {w : World} {a : Option Addr} {l : List Ce} (h : RdC w a l) (i : Nat) (hi : i < l.length) : ∃ g, a = some ⟨g, 0, none⟩ ∧ g < w.heap.size ∧ cellAt2 w g i l[i] := by
  rcases h with h | ⟨g, ha, hg, hc⟩
  · subst h; simp at hi
  · exact ⟨g, ha, hg, hc i hi⟩
theorem rdC_of_own {w : World} {base ca : Nat} {e : TypeId} {ao : Option Addr} {l : List Ce} (h : w.ownsRow base e 2 (.slice ao l.length ca) l.length (ces l)) : RdC w ao l := by
  by_cases h0 : l.length = 0
  · exact .inl (List.eq_nil_of_length_eq_zero h0)
  · rcases h.2 with ⟨hv, hn⟩ | ⟨g, cap, cur, hv, hb, hh, r⟩
    · omega
    · injection hv with h1 h2 h3
      subst h1
      refine .inr ⟨g, rfl, (Array.getElem?_eq_some_iff.1 hh).1, fun i hi => ?_⟩
      have at2 : ∀ j, j < 2 → w.cell? ⟨g, i * 2 + j, none⟩ = (ceC l[i])[j]? := fun j hj => (h.cellAt (i * 2 + j) (by omega)).trans (ces_at l i j hi hj)
      exact ⟨at2 0 (by omega), at2 1 (by omega)⟩

end Go.Proofs.Ytldbdmofjckjkaa
