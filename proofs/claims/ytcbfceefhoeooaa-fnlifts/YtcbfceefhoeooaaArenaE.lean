/- The contracts of the functions that compare slots and rows of them; and of the test of bounds. -/
import Derived.Test.YtcbfceefhoeooaaProg
import Derived.Test.YtcbfceefhoeooaaArena
import Derived.Test.YtcbfceefhoeooaaKitD
import Derived.Deep.RegionHeld3
import Derived.Deep.RegionWith
import Derived.Deep.QuietTactic
import Derived.BigQuiet
import Derived.Handy
namespace Go.Proofs.Ytcbfceefhoeooaa
open Go.RowKit

theorem in_any (x lo hi : Int) (w : World) : Calls Try.prog 39 #[.int .i64 x, .int .i64 lo, .int .i64 hi] w fun e w' => e = .returned (.bool (decide (lo ≤ x) && decide (x ≤ hi))) ∧ w = w' := by
  by_cases h1 : lo ≤ x
  · by_cases h2 : x ≤ hi
    all_goals
      go_enter Try.func39, Try.ntmps39
      go_wp2
      go_ret
      exact ⟨by simp [h1, h2], rfl⟩
  · have D := hide1 (decide_eq_false h1)
    go_enter Try.func39, Try.ntmps39
    go_wp2
    go_ret
    exact ⟨by rw [D.out]; rfl, rfl⟩

theorem below2 (w : World) (o p : Obj) : Below w.heap.size w ((w.alloc o).alloc p) := ((Below.refl _ _).alloc (Nat.le_refl _) _).alloc (by rw [World.size_alloc]; omega) _
/-- A slot as a value. -/
def slV (s : Sl) : Value := .agg #[.int .i64 s.gen, .bool s.used, .string s.key, .string s.val, .int .i64 s.next]
def eqSl (s t : Sl) : Bool := (s.gen == t.gen) && (s.used == t.used) && (s.key.toList == t.key.toList) && (s.val.toList == t.val.toList) && (s.next == t.next)
theorem eqSl_same (s : Sl) : eqSl s s = true := by simp [eqSl]
theorem bytes_eq {a b : ByteArray} (h : a.toList = b.toList) : a = b := by
  rw [ByteArray.toList_eq, ByteArray.toList_eq] at h
  cases a; cases b; simp at h; simp [h]
theorem eqSl_iff (s t : Sl) : eqSl s t = true ↔ s = t := by
  constructor
  · intro h
    simp only [eqSl, Bool.and_eq_true, beq_iff_eq] at h
    obtain ⟨⟨⟨⟨h1, h2⟩, h3⟩, h4⟩, h5⟩ := h
    cases s; cases t; simp at *
    exact ⟨h1, h2, bytes_eq h3, bytes_eq h4, h5⟩
  · rintro rfl; exact eqSl_same s

/-- The five cells of slot i of a row. -/
def slotAt (w : World) (g i : Nat) (s : Sl) : Prop :=
  w.cell? ⟨g, i * 5, none⟩ = some (.int .i64 s.gen) ∧ w.cell? ⟨g, i * 5 + 1, none⟩ = some (.bool s.used) ∧ w.cell? ⟨g, i * 5 + 2, none⟩ = some (.string s.key) ∧ w.cell? ⟨g, i * 5 + 3, none⟩ = some (.string s.val) ∧ w.cell? ⟨g, i * 5 + 4, none⟩ = some (.int .i64 s.next)
/-- A row of slots that reads as l. -/
def RdA (w : World) (a : Option Addr) (l : List Sl) : Prop := l = [] ∨ ∃ g, a = some ⟨g, 0, none⟩ ∧ g < w.heap.size ∧ ∀ i (h : i < l.length), slotAt w g i l[i]
theorem slotAt.below {w w' : World} {B g i : Nat} {s : Sl} (h : slotAt w g i s) (hb : Below B w w') (hg : g < B) : slotAt w' g i s :=
  ⟨(hb.cell hg).trans h.1, (hb.cell hg).trans h.2.1, (hb.cell hg).trans h.2.2.1, (hb.cell hg).trans h.2.2.2.1, (hb.cell hg).trans h.2.2.2.2⟩
theorem RdA.later {w w' : World} {a : Option Addr} {l : List Sl} (h : RdA w a l) (hb : Below w.heap.size w w') : RdA w' a l := by
  rcases h with h | ⟨g, ha, hg, hc⟩
  · exact .inl h
  · exact .inr ⟨g, ha, Nat.lt_of_lt_of_le hg hb.size, fun i hi => (hc i hi).below hb hg⟩
theorem RdA.at {w : World} {a : Option Addr} {l : List Sl} (h : RdA w a l) (i : Nat) (hi : i < l.length) : ∃ g, a = some ⟨g, 0, none⟩ ∧ g < w.heap.size ∧ slotAt w g i l[i] := by
  rcases h with h | ⟨g, ha, hg, hc⟩
  · subst h; simp at hi
  · exact ⟨g, ha, hg, hc i hi⟩

end Go.Proofs.Ytcbfceefhoeooaa
