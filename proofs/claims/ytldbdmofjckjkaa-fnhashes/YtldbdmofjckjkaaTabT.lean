/- The contracts of the statements' functions on tables: comparing, marking, and copying what came in. -/
import Derived.Test.YtldbdmofjckjkaaTabM
import Derived.Test.YtldbdmofjckjkaaArenaT
import Derived.Test.YtldbdmofjckjkaaRoom
namespace Go.Proofs.Ytldbdmofjckjkaa
open Go.RowKit

/-- A table as a value. -/
def tbV (co : Option Addr) (n c : Nat) (oo : Option Addr) (m d : Nat) (mv : Int) : Value := .agg #[.slice co n c, .slice oo m d, .int .i64 mv]

/-- A cell that came in, two memory cells from a place on. -/
def cellO (w : World) (b o i : Nat) (s : Ce) : Prop := w.cell? ⟨b, o + i * 2, none⟩ = some (.string s.key) ∧ w.cell? ⟨b, o + i * 2 + 1, none⟩ = some (.int .i64 s.h)
/-- What came in as a row of cells. -/
def RdJ (w : World) (a : Option Addr) (l : List Ce) : Prop := ∀ i (h : i < l.length), ∃ b o, a = some ⟨b, o, none⟩ ∧ b < w.heap.size ∧ cellO w b o i l[i]
theorem cellO.below {w w' : World} {B b o i : Nat} {s : Ce} (h : cellO w b o i s) (hb : Below B w w') (hg : b < B) : cellO w' b o i s := ⟨(hb.cell hg).trans h.1, (hb.cell hg).trans h.2⟩
theorem RdJ.later {w w' : World} {a : Option Addr} {l : List Ce} (h : RdJ w a l) (hb : Below w.heap.size w w') : RdJ w' a l := by
  intro i hi
  obtain ⟨b, o, ha, hg, hc⟩ := h i hi
  exact ⟨b, o, ha, Nat.lt_of_lt_of_le hg hb.size, hc.below hb hg⟩

theorem own_set2 {w : World} {base n g cap : Nat} {e : TypeId} {L : List Ce} (h : w.ownsRow base e 2 (.slice (some ⟨g, 0, none⟩) n cap) n (ces L)) (hL : L.length = n) (i : Nat) (hi : i < n) (s : Ce) :
    ((w.setCell ⟨g, i * 2, none⟩ (.string s.key)).setCell ⟨g, i * 2 + 1, none⟩ (.int .i64 s.h)).ownsRow base e 2 (.slice (some ⟨g, 0, none⟩) n cap) n (ces (L.set i s)) := by
  have st := (World.ownsRow.stored (World.ownsRow.stored h (i * 2) (.string s.key)).1 (i * 2 + 1) (.int .i64 s.h)).1
  rw [set2 _ _ _ _ (by rw [ces_length]; omega)] at st
  rw [ces_set L i s (by omega)]
  exact st
theorem below_set2 {B g : Nat} {w w' : World} (h : Below B w w') (hg : B ≤ g) (i : Nat) (s : Ce) : Below B w ((w'.setCell ⟨g, i * 2, none⟩ (.string s.key)).setCell ⟨g, i * 2 + 1, none⟩ (.int .i64 s.h)) :=
  (h.setCell (p := ⟨g, i * 2, none⟩) hg _).setCell (p := ⟨g, i * 2 + 1, none⟩) hg _
/-- The zero cell. -/
def zC : Ce := ⟨⟨#[]⟩, 0⟩
theorem fill_set2 (l : List Ce) (z s : Ce) (i : Nat) (hi : i < l.length) (hs : l[i] = s) : (l.take i ++ List.replicate (l.length - i) z).set i s = l.take (i + 1) ++ List.replicate (l.length - (i + 1)) z := by
  have hl : (l.take i).length = i := by simp; omega
  rw [List.set_append_right _ _ (by omega), hl, Nat.sub_self, show l.length - i = (l.length - (i + 1)) + 1 by omega, List.replicate_succ, List.set_cons_zero, List.take_succ_eq_append_getElem hi, hs, List.append_assoc]
  rfl
theorem Try.infoCell : (Try.prog.info? 47).map (fun i => (i.zero, i.size, i.bytes)) = some (some (ceV zC), 2, 24) := by kernel_rfl
theorem made2 : ∀ n : Nat, (madeCells (ceV zC).cells (n * 2)).toList = ces (List.replicate n zC) := by
  intro n
  refine List.ext_getElem? fun j => ?_
  have hz : (ceV zC).cells = #[.string ⟨#[]⟩, .int .i64 0] := rfl
  by_cases hj : j < n * 2
  · have h5 : j % 2 < 2 := Nat.mod_lt _ (by decide)
    have hr := ces_at (List.replicate n zC) (j / 2) (j % 2) (by simp; omega) h5
    rw [show j / 2 * 2 + j % 2 = j by omega, List.getElem_replicate] at hr
    rw [hr, hz]
    simp only [madeCells, Array.getElem?_toList]
    rw [Array.getElem?_map, Array.getElem?_range, if_pos hj]
    simp only [Option.map_some]
    show some ((#[Value.string ⟨#[]⟩, .int .i64 0] : Array Value)[j % 2]!) = _
    generalize j % 2 = q at h5
    match q, h5 with
    | 0, _ => rfl
    | 1, _ => rfl
    | q + 2, h => omega
  · rw [List.getElem?_eq_none (by simp [madeCells]; omega), List.getElem?_eq_none (by rw [ces_length]; simp; omega)]

/-- What a row of cells asks to be looked at whole. -/
def smallC (l : List Ce) : Prop := l.length ≤ 1048576 ∧ ∀ i (h : i < l.length), l[i].key.size ≤ 1048576

end Go.Proofs.Ytldbdmofjckjkaa
