/- The contracts of the statements' functions on places: comparing, marking, and copying what came in. -/
import Derived.Test.YtldbdmofjckjkaaArenaM
namespace Go.Proofs.Ytldbdmofjckjkaa
open Go.RowKit

/-- A place as a value. -/
def arV (ao : Option Addr) (n cap : Nat) (free : Int) : Value := .agg #[.slice ao n cap, .int .i64 free]

/-- A slot that came in, five cells from a place on. -/
def slotO (w : World) (b o i : Nat) (s : Sl) : Prop :=
  w.cell? ⟨b, o + i * 5, none⟩ = some (.int .i64 s.gen) ∧ w.cell? ⟨b, o + i * 5 + 1, none⟩ = some (.bool s.used) ∧ w.cell? ⟨b, o + i * 5 + 2, none⟩ = some (.string s.key) ∧ w.cell? ⟨b, o + i * 5 + 3, none⟩ = some (.string s.val) ∧ w.cell? ⟨b, o + i * 5 + 4, none⟩ = some (.int .i64 s.next)
/-- What came in as a row of slots. -/
def RdI (w : World) (a : Option Addr) (l : List Sl) : Prop := ∀ i (h : i < l.length), ∃ b o, a = some ⟨b, o, none⟩ ∧ b < w.heap.size ∧ slotO w b o i l[i]
theorem slotO.below {w w' : World} {B b o i : Nat} {s : Sl} (h : slotO w b o i s) (hb : Below B w w') (hg : b < B) : slotO w' b o i s :=
  ⟨(hb.cell hg).trans h.1, (hb.cell hg).trans h.2.1, (hb.cell hg).trans h.2.2.1, (hb.cell hg).trans h.2.2.2.1, (hb.cell hg).trans h.2.2.2.2⟩
theorem RdI.later {w w' : World} {a : Option Addr} {l : List Sl} (h : RdI w a l) (hb : Below w.heap.size w w') : RdI w' a l := by
  intro i hi
  obtain ⟨b, o, ha, hg, hc⟩ := h i hi
  exact ⟨b, o, ha, Nat.lt_of_lt_of_le hg hb.size, hc.below hb hg⟩

/-- A slot stored whole into a row of the call's own. -/
theorem own_set5 {w : World} {base n g cap : Nat} {e : TypeId} {L : List Sl} (h : w.ownsRow base e 5 (.slice (some ⟨g, 0, none⟩) n cap) n (sls L)) (hL : L.length = n) (i : Nat) (hi : i < n) (s : Sl) :
    (((((w.setCell ⟨g, i * 5, none⟩ (.int .i64 s.gen)).setCell ⟨g, i * 5 + 1, none⟩ (.bool s.used)).setCell ⟨g, i * 5 + 2, none⟩ (.string s.key)).setCell ⟨g, i * 5 + 3, none⟩ (.string s.val)).setCell ⟨g, i * 5 + 4, none⟩ (.int .i64 s.next)).ownsRow base e 5 (.slice (some ⟨g, 0, none⟩) n cap) n (sls (L.set i s)) := by
  have st := (World.ownsRow.stored (World.ownsRow.stored (World.ownsRow.stored (World.ownsRow.stored (World.ownsRow.stored h (i * 5) (.int .i64 s.gen)).1 (i * 5 + 1) (.bool s.used)).1 (i * 5 + 2) (.string s.key)).1 (i * 5 + 3) (.string s.val)).1 (i * 5 + 4) (.int .i64 s.next)).1
  rw [set5 _ _ _ _ _ _ _ (by rw [sls_length]; omega)] at st
  rw [sls_set L i s (by omega)]
  exact st
theorem below_set5 {B g : Nat} {w w' : World} (h : Below B w w') (hg : B ≤ g) (i : Nat) (s : Sl) :
    Below B w (((((w'.setCell ⟨g, i * 5, none⟩ (.int .i64 s.gen)).setCell ⟨g, i * 5 + 1, none⟩ (.bool s.used)).setCell ⟨g, i * 5 + 2, none⟩ (.string s.key)).setCell ⟨g, i * 5 + 3, none⟩ (.string s.val)).setCell ⟨g, i * 5 + 4, none⟩ (.int .i64 s.next)) :=
  ((((h.setCell (p := ⟨g, i * 5, none⟩) hg _).setCell (p := ⟨g, i * 5 + 1, none⟩) hg _).setCell (p := ⟨g, i * 5 + 2, none⟩) hg _).setCell (p := ⟨g, i * 5 + 3, none⟩) hg _).setCell (p := ⟨g, i * 5 + 4, none⟩) hg _
/-- Slots filled one by one. -/
theorem fill_set (l : List Sl) (z s : Sl) (i : Nat) (hi : i < l.length) (hs : l[i] = s) : (l.take i ++ List.replicate (l.length - i) z).set i s = l.take (i + 1) ++ List.replicate (l.length - (i + 1)) z := by
  have hl : (l.take i).length = i := by simp; omega
  rw [List.set_append_right _ _ (by omega), hl, Nat.sub_self, show l.length - i = (l.length - (i + 1)) + 1 by omega, List.replicate_succ, List.set_cons_zero, List.take_succ_eq_append_getElem hi, hs, List.append_assoc]
  rfl

theorem own_far {w : World} {base n size : Nat} {e : TypeId} {v : Value} {xs : List Value} (h : w.ownsRow base e size v n xs) (a : Addr) (u : Value) (hne : ∀ k, v.ownBlock = some k → k ≠ a.block) : (w.setCell a u).ownsRow base e size v n xs := by
  refine ⟨h.1, ?_⟩
  rcases h.2 with h2 | ⟨g, cap, cur, hv, hg, hh, r⟩
  · exact .inl h2
  · exact .inr ⟨g, cap, cur, hv, hg, by rw [Below.heap_setCell _ _ _ _ (hne g (by rw [hv]; rfl))]; exact hh, r⟩
theorem own_base {w : World} {base base' n size : Nat} {e : TypeId} {v : Value} {xs : List Value} (h : w.ownsRow base' e size v n xs) (hb : base ≤ base') : w.ownsRow base e size v n xs := by
  refine ⟨h.1, ?_⟩
  rcases h.2 with h2 | ⟨g, cap, cur, hv, hg, r⟩
  · exact .inl h2
  · exact .inr ⟨g, cap, cur, hv, Nat.le_trans hb hg, r⟩
theorem blocks3 (w : World) (o1 o2 o3 : Obj) : (((w.alloc o1).alloc o2).alloc o3).heap[w.heap.size]? = some o1 ∧ (((w.alloc o1).alloc o2).alloc o3).heap[w.heap.size + 1]? = some o2 ∧ (((w.alloc o1).alloc o2).alloc o3).heap[w.heap.size + 1 + 1]? = some o3 := by
  show (((w.heap.push o1).push o2).push o3)[w.heap.size]? = some o1 ∧ (((w.heap.push o1).push o2).push o3)[w.heap.size + 1]? = some o2 ∧ (((w.heap.push o1).push o2).push o3)[w.heap.size + 1 + 1]? = some o3
  refine ⟨?_, ?_, ?_⟩
  · rw [Array.getElem?_push, if_neg (by simp; omega), Array.getElem?_push, if_neg (by simp), Array.getElem?_push, if_pos rfl]
  · rw [Array.getElem?_push, if_neg (by simp), Array.getElem?_push, if_pos (by simp)]
  · rw [Array.getElem?_push, if_pos (by simp)]

theorem heap4 {w : World} {g h : Nat} (hne : g ≠ h) {t : TypeId} {a0 a1 : Value} (hg : w.heap[g]? = some (.cells #[a0, a1] t (0, 0))) (u0 u1 v0 v1 : Value) :
    ((((w.setCell ⟨h, 0, none⟩ v0).setCell ⟨h, 1, none⟩ v1).setCell ⟨g, 0, none⟩ u0).setCell ⟨g, 1, none⟩ u1).heap[g]? = some (.cells #[u0, u1] t (0, 0)) := by
  have h1 : ((w.setCell ⟨h, 0, none⟩ v0).setCell ⟨h, 1, none⟩ v1).heap[g]? = some (.cells #[a0, a1] t (0, 0)) := by
    rw [Below.heap_setCell _ _ _ _ hne, Below.heap_setCell _ _ _ _ hne]; exact hg
  exact heap_setCell_same _ g 1 _ _ _ (heap_setCell_same _ g 0 _ _ _ h1)

/-- What a row of slots asks to be looked at whole. -/
def smallA (l : List Sl) : Prop := l.length ≤ 1048576 ∧ ∀ i (h : i < l.length), l[i].key.size ≤ 1048576 ∧ l[i].val.size ≤ 1048576

end Go.Proofs.Ytldbdmofjckjkaa
