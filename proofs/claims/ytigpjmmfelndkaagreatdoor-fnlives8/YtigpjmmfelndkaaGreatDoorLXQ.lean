import Derived.Deep.SlicePairs
import Derived.Lib.SmallJoins
import Derived.ProofKit
import Derived.OpenShut
import Derived.Test.YtigpjmmfelndkaaGreatDoorLXA
namespace Go.Proofs.YtigpjmmfelndkaaGreatDoor
open Go.RowKit
theorem qfR (l : List ByteArray) : (sc l).length = l.length := by simp [sc]
theorem qxN (l : List ByteArray) (i : Nat) (h : i < l.length) : (sc l)[i]? = some (.string l[i]) := by simp [sc, h]
theorem zdQ (l : List ByteArray) (i : Nat) (s : ByteArray) : sc (l.set i s) = (sc l).set i (.string s) := by simp [sc, List.map_set]
theorem zdR (l : List ByteArray) : ∀ u ∈ sc l, u.oneCell' = true := by
 intro u hu; obtain ⟨_, _, rfl⟩ := List.mem_map.1 hu; rfl
theorem qtW {a b : ByteArray} (h : a.toList = b.toList) : a = b := by
 rw [ByteArray.toList_eq, ByteArray.toList_eq] at h
 cases a; cases b; simp at h; simp [h]
theorem qdX {s t : ByteArray} (h : ¬ s = t) : (s.toList != t.toList) = true /\ (s.toList == t.toList) = false := by
 have : ¬ s.toList = t.toList := fun e => h (qtW e)
 exact ⟨by simpa using this, by simpa using this⟩
theorem qsO {s t : ByteArray} (h : s = t) : (s.toList != t.toList) = false /\ (s.toList == t.toList) = true := by simp [h]
def RdQ (w : World) (a : Option Addr) (l : List ByteArray) : Prop := ∀ i (h : i < l.length), ∃ b o, a = some ⟨b, o, none⟩ /\ b < w.heap.size /\ w.cell? ⟨b, o + i, none⟩ = some (.string l[i])
theorem RdQ.later {w w' : World} {a : Option Addr} {l : List ByteArray} (h : RdQ w a l) (hb : Below w.heap.size w w') : RdQ w' a l := by
 intro i hi
 obtain ⟨b, o, ha, hg, hc⟩ := h i hi
 exact ⟨b, o, ha, Nat.lt_of_lt_of_le hg hb.size, (hb.cell (p := ⟨b, o + i, none⟩) hg).trans hc⟩
theorem qeV {w : World} {base n c : Nat} {e : TypeId} {ao : Option Addr} {l : List ByteArray} (h : w.ownsRow base e 1 (.slice ao n c) n (sc l)) : RdQ w ao l := by
 intro i hi
 have hl : l.length = n := by have := h.1; rw [qfR] at this; omega
 rcases h.2 with ⟨hv, h0⟩ | ⟨g, cap, cur, hv, _, hh, _⟩
 ·omega
 ·have hg : (Value.slice ao n c).ownBlock = some g := by rw [hv]; rfl
  simp only [Value.slice.injEq] at hv
  refine ⟨g, 0, hv.1, (Array.getElem?_eq_some_iff.1 hh).1, ?_⟩
  have := h.cells hg i _ (qxN l i hi)
  rw [Addr.add_lit] at this
  exact this
theorem Tryz.infoQ : (Tryz.prog.info? 9).map (fun i => (i.zero, i.size, i.bytes)) = some (some (.string ⟨#[]⟩), 1, 16) := by kernel_rfl
theorem madeQ : ∀ n : Nat, (madeCells (Value.string ⟨#[]⟩).cells (n * 1)).toList = sc (List.replicate n ⟨#[]⟩) := by
 intro n
 refine List.ext_getElem? fun j => ?_
 by_cases hj : j < n
 ·rw [qxN _ j (by simpa using hj)]
  simp only [madeCells, Array.getElem?_toList]
  rw [Array.getElem?_map, Array.getElem?_range, if_pos (by omega)]
  simp only [Option.map_some, List.getElem_replicate]
  have : j % 1 = 0 := by omega
  show some ((#[Value.string ⟨#[]⟩] : Array Value)[j % 1]!) = _
  rw [this]; rfl
 ·rw [List.getElem?_eq_none (by simp [madeCells]; omega), List.getElem?_eq_none (by rw [qfR]; simp; omega)]
theorem qyE (l : List ByteArray) (z s : ByteArray) (i : Nat) (hi : i < l.length) (hs : l[i] = s) : (l.take i ++ List.replicate (l.length - i) z).set i s = l.take (i + 1) ++ List.replicate (l.length - (i + 1)) z := by
 have hl : (l.take i).length = i := by simp; omega
 rw [List.set_append_right _ _ (by omega), hl, Nat.sub_self, show l.length - i = (l.length - (i + 1)) + 1 by omega, List.replicate_succ, List.set_cons_zero, List.take_succ_eq_append_getElem hi, hs, List.append_assoc]
 rfl
def quV (a : Option Addr) (n c : Nat) (ad : Int) : Value := .agg #[.int .i64 ad, .slice a n c]
def qeG (l : List ByteArray) (k : ByteArray) : Bool := l.any fun s => s.toList == k.toList
theorem qaF (l : List ByteArray) (k : ByteArray) : qeG l k = true ↔ k ∈ l := by
 unfold qeG
 rw [List.any_eq_true]
 constructor
 ·rintro ⟨s, hs, h⟩
  rw [<- qtW (beq_iff_eq.1 h)]; exact hs
 ·intro h; exact ⟨k, h, by simp⟩
theorem quO {l : List ByteArray} {k : ByteArray} (h : ¬ k ∈ l) : qeG l k = false := by
 rcases e : qeG l k with _ | _
 ·rfl
 ·exact absurd ((qaF l k).1 e) h
def qaX (l : List ByteArray) (k : ByteArray) : List ByteArray := l.filter fun s => s.toList != k.toList
theorem qbT (l : List ByteArray) (k : ByteArray) : (qaX l k).length <= l.length := List.length_filter_le _ _
theorem qbN (l : List ByteArray) (k s : ByteArray) : s ∈ qaX l k ↔ s ∈ l /\ s ≠ k := by
 unfold qaX
 rw [List.mem_filter]
 constructor
 ·rintro ⟨h1, h2⟩; exact ⟨h1, fun e => by rw [e] at h2; simp at h2⟩
 ·rintro ⟨h1, h2⟩; exact ⟨h1, (qdX h2).1⟩
theorem qkR {l : List ByteArray} {k : ByteArray} (h : ¬ k ∈ l) : qaX l k = l := by
 unfold qaX
 rw [List.filter_eq_self]
 intro s hs
 exact (qdX (fun e => by subst e; exact h hs)).1
theorem qgA {l : List ByteArray} {k : ByteArray} (h : l.Nodup) : (qaX l k).Nodup := h.filter _
theorem qpB {l : List ByteArray} {k : ByteArray} {i : Nat} (h : i < l.length) : qaX (l.take (i + 1)) k = qaX (l.take i) k ++ (if l[i].toList != k.toList then [l[i]] else []) := by
 unfold qaX
 rw [List.take_succ_eq_append_getElem h, List.filter_append]
 congr 1
 cases e : (l[i].toList != k.toList) <;> simp [e]
theorem qiK {l : List ByteArray} {k : ByteArray} (h : k ∈ l) : (qaX l k).length < l.length := by
 unfold qaX
 rcases Nat.lt_or_ge (l.filter fun s => s.toList != k.toList).length l.length with h1 | h1
 ·exact h1
 ·have := List.length_filter_le (fun s : ByteArray => s.toList != k.toList) l
  have e : (l.filter fun s => s.toList != k.toList).length = l.length := by omega
  rw [List.length_filter_eq_length_iff] at e
  have := e k h
  simp at this
def qcV (k : ByteArray) : Prop := 1 <= k.size /\ k.size <= 12
def OkQ (l : List ByteArray) (m : Int) : Prop := 0 <= m /\ m <= 24 /\ (l.length : Int) <= m /\ (∀ s ∈ l, qcV s) /\ l.Nodup
theorem OkQ.small {l : List ByteArray} {m : Int} (h : OkQ l m) : l.length <= 24 := by have := h.1; have := h.2.1; have := h.2.2.1; omega
open Classical in
noncomputable def touR (l : List ByteArray) (m : Int) (k : ByteArray) : (List ByteArray × Int) × Bool := if OkQ l m /\ k ∈ l then ((k :: qaX l k, m), true) else (([], 0), false)
open Classical in
noncomputable def drpR (l : List ByteArray) (m : Int) (k : ByteArray) : (List ByteArray × Int) × Bool := if OkQ l m /\ k ∈ l then ((qaX l k, m), true) else (([], 0), false)
def PshQ (l : List ByteArray) (m : Int) (k : ByteArray) : Prop := OkQ l m /\ qcV k /\ ¬ k ∈ l /\ m ≠ 0
open Classical in
noncomputable def pshR (l : List ByteArray) (m : Int) (k : ByteArray) : (List ByteArray × Int) × ByteArray × Bool := if PshQ l m k then (((k :: l).take m.toNat, m), (k :: l).getD m.toNat ⟨#[]⟩, true) else (([], 0), ⟨#[]⟩, false)
theorem qeH {l : List ByteArray} {m : Int} {k : ByteArray} (h : OkQ l m) (hk : k ∈ l) : touR l m k = ((k :: qaX l k, m), true) := by unfold touR; rw [if_pos ⟨h, hk⟩]
theorem qfC {l : List ByteArray} {m : Int} {k : ByteArray} (h : ¬ (OkQ l m /\ k ∈ l)) : touR l m k = (([], 0), false) := by unfold touR; rw [if_neg h]
theorem qiE {l : List ByteArray} {m : Int} {k : ByteArray} (h : OkQ l m) (hk : k ∈ l) : drpR l m k = ((qaX l k, m), true) := by unfold drpR; rw [if_pos ⟨h, hk⟩]
theorem qoU {l : List ByteArray} {m : Int} {k : ByteArray} (h : ¬ (OkQ l m /\ k ∈ l)) : drpR l m k = (([], 0), false) := by unfold drpR; rw [if_neg h]
theorem qcC {l : List ByteArray} {m : Int} {k : ByteArray} (h : PshQ l m k) : pshR l m k = (((k :: l).take m.toNat, m), (k :: l).getD m.toNat ⟨#[]⟩, true) := by unfold pshR; rw [if_pos h]
theorem qfS {l : List ByteArray} {m : Int} {k : ByteArray} (h : ¬ PshQ l m k) : pshR l m k = (([], 0), ⟨#[]⟩, false) := by unfold pshR; rw [if_neg h]
theorem OkQ.touch {l : List ByteArray} {m : Int} {k : ByteArray} (h : OkQ l m) (hk : k ∈ l) : OkQ (k :: qaX l k) m := by
 obtain ⟨h1, h2, h3, h4, h5⟩ := h
 have := qiK hk
 refine ⟨h1, h2, by simp only [List.length_cons]; omega, ?_, ?_⟩
 ·intro s hs
  rcases List.mem_cons.1 hs with rfl | hs
  ·exact h4 _ hk
  ·exact h4 s ((qbN l k s).1 hs).1
 ·rw [List.nodup_cons]
  exact ⟨fun hh => ((qbN l k k).1 hh).2 rfl, qgA h5⟩
theorem OkQ.drop {l : List ByteArray} {m : Int} {k : ByteArray} (h : OkQ l m) : OkQ (qaX l k) m := by
 obtain ⟨h1, h2, h3, h4, h5⟩ := h
 have := qbT l k
 exact ⟨h1, h2, by omega, fun s hs => h4 s ((qbN l k s).1 hs).1, qgA h5⟩
theorem PshQ.ok {l : List ByteArray} {m : Int} {k : ByteArray} (h : PshQ l m k) : OkQ ((k :: l).take m.toNat) m := by
 obtain ⟨⟨h1, h2, h3, h4, h5⟩, hk, hn, hm⟩ := h
 refine ⟨h1, h2, by rw [List.length_take]; omega, ?_, ?_⟩
 ·intro s hs
  rcases List.mem_cons.1 (List.mem_of_mem_take hs) with rfl | hs
  ·exact hk
  ·exact h4 s hs
 ·exact (List.nodup_cons.2 ⟨hn, h5⟩).sublist (List.take_sublist _ _)
end Go.Proofs.YtigpjmmfelndkaaGreatDoor
namespace Go.Proofs.YtigpjmmfelndkaaGreatDoor
open Go.ChangeShapes Go.WideShapes Go.ChangeAt Go.RowKit Go.Deep Go.Joins
def OwnQ (w : World) (B : Nat) (ao : Option Addr) (c : Nat) (L : List ByteArray) : Prop := w.ownsRow B 9 1 (.slice ao L.length c) L.length (sc L)
theorem OwnQ.rd {w : World} {B c : Nat} {ao : Option Addr} {L : List ByteArray} (h : OwnQ w B ao c L) : RdQ w ao L := qeV h
theorem OwnQ.later {w w' : World} {B c : Nat} {ao : Option Addr} {L : List ByteArray} (h : OwnQ w B ao c L) (hb : Below w.heap.size w w') : OwnQ w' B ao c L := qaE h hb
theorem OwnQ.base {w : World} {B B' c : Nat} {ao : Option Addr} {L : List ByteArray} (h : OwnQ w B ao c L) (hB : B' <= B) : OwnQ w B' ao c L := qaB h hB
theorem OwnQ.lt {w : World} {B c : Nat} {ao : Option Addr} {L : List ByteArray} (h : OwnQ w B ao c L) : ∀ g, (Value.slice ao L.length c).ownBlock = some g -> B <= g /\ g < w.heap.size := fun g e => World.ownsRow.lt h g e
def MadeQ (w w' : World) (v : Value) (R : List ByteArray × Int) : Prop := ∃ (ao : Option Addr) (c : Nat), v = quV ao R.1.length c R.2 /\ w'.ownsRow w.heap.size 9 1 (.slice ao R.1.length c) R.1.length (sc R.1) /\ Below w.heap.size w w'
end Go.Proofs.YtigpjmmfelndkaaGreatDoor
