/- Rings, by the model: the keys that move. -/
import Derived.Test.YtdgpencendphbaaDoorRiS
import Derived.Test.YtdgpencendphbaaDoorKitD
import Derived.Deep.RegionHeld3
namespace Go.Proofs.YtdgpencendphbaaDoor
open Go.RowKit
set_option linter.unusedVariables false

/-- Keys whose home is another one. -/
def movedS (la lb : List Sp) (ks : List ByteArray) : List ByteArray := ks.filter fun k => homeS la (hashN k 0 : Int) != homeS lb (hashN k 0 : Int)
theorem movedS_next {la lb : List Sp} {ks : List ByteArray} {i : Nat} (h : i < ks.length) : movedS la lb (ks.take (i + 1)) = if homeS la (hashN ks[i] 0 : Int) != homeS lb (hashN ks[i] 0 : Int) then movedS la lb (ks.take i) ++ [ks[i]] else movedS la lb (ks.take i) := by
  unfold movedS
  rw [List.take_succ_eq_append_getElem h, List.filter_append]
  by_cases c : (homeS la (hashN ks[i] 0 : Int) != homeS lb (hashN ks[i] 0 : Int)) = true
  · rw [if_pos c, List.filter_cons, if_pos c]
    rfl
  · rw [if_neg c, List.filter_cons, if_neg c, List.filter_nil, List.append_nil]
theorem Tryd.infoStrM : (Tryd.prog.info? 9).map (fun i => (i.zero, i.size, i.bytes)) = some (some (.string ⟨#[]⟩), 1, 16) := by kernel_rfl
/-- A row of texts, read. -/
def RdK (w : World) (a : Option Addr) (l : List ByteArray) : Prop := ∀ i (h : i < l.length), ∃ b o, a = some ⟨b, o, none⟩ ∧ b < w.heap.size ∧ w.cell? ⟨b, o + i, none⟩ = some (.string l[i])
theorem RdK.later {w w' : World} {a : Option Addr} {l : List ByteArray} (h : RdK w a l) (hb : Below w.heap.size w w') : RdK w' a l := fun i hi => by
  obtain ⟨b, o, e, h1, h2⟩ := h i hi
  exact ⟨b, o, e, Nat.lt_of_lt_of_le h1 hb.size, (hb.cell (p := ⟨b, o + i, none⟩) h1).trans h2⟩
def MadeS (w w' : World) (e : Ending) (L : List ByteArray) : Prop := ∃ b c, e = .returned (.slice b L.length c) ∧ w'.ownsRow w.heap.size 9 1 (.slice b L.length c) L.length (sc L) ∧ Below w.heap.size w w'

end Go.Proofs.YtdgpencendphbaaDoor
