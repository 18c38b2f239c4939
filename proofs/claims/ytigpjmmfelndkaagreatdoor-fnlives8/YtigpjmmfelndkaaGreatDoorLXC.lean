import Derived.Test.YtigpjmmfelndkaaGreatDoorLRoom
namespace Go.Proofs.YtigpjmmfelndkaaGreatDoor
structure Ce where
 key : ByteArray
 h : Int
def ceC (s : Ce) : List Value := [.string s.key, .int .i64 s.h]
def ces (l : List Ce) : List Value := l.flatMap ceC
theorem qbC (s : Ce) : (ceC s).length = 2 := rfl
theorem qaV (l : List Ce) : (ces l).length = l.length * 2 := by
 induction l with
 | nil => rfl
 | cons s l ih => rw [ces, List.flatMap_cons, List.length_append, qbC, <- ces, ih, List.length_cons]; omega
theorem qfA (l m : List Ce) : ces (l ++ m) = ces l ++ ces m := by simp [ces]
theorem qgN (s : Ce) (l : List Ce) : ces (s :: l) = ceC s ++ ces l := rfl
theorem qiH : ∀ (l : List Ce) (i j : Nat) (hi : i < l.length), j < 2 -> (ces l)[i * 2 + j]? = (ceC l[i])[j]?
 | s :: l, 0, j, _, hj => by rw [qgN, Nat.zero_mul, Nat.zero_add, List.getElem?_append_left (by rw [qbC]; exact hj)]; rfl
 | s :: l, i + 1, j, hi, hj => by
  rw [qgN, List.getElem?_append_right (by rw [qbC]; omega), qbC, show (i + 1) * 2 + j - 2 = i * 2 + j by omega, qiH l i j (by simpa using hi) hj]
  rfl
theorem qtQ : ∀ (l : List Ce) (i : Nat) (s : Ce), i < l.length -> ces (l.set i s) = (ces l).take (i * 2) ++ ceC s ++ (ces l).drop (i * 2 + 2)
 | t :: l, 0, s, _ => by
  rw [List.set_cons_zero, qgN, qgN, Nat.zero_mul, List.take_zero, List.nil_append, Nat.zero_add, List.drop_append_of_le_length (by rw [qbC]; omega)]
  simp [ceC]
 | t :: l, i + 1, s, hi => by
  rw [List.set_cons_succ, qgN, qgN, qtQ l i s (by simpa using hi)]
  have h1 : (ceC t ++ ces l).take ((i + 1) * 2) = ceC t ++ (ces l).take (i * 2) := by
   rw [List.take_append, qbC, List.take_of_length_le (by rw [qbC]; omega), show (i + 1) * 2 - 2 = i * 2 by omega]
  have h2 : (ceC t ++ ces l).drop ((i + 1) * 2 + 2) = (ces l).drop (i * 2 + 2) := by
   rw [List.drop_append, qbC, List.drop_eq_nil_of_le (by rw [qbC]; omega), List.nil_append, show (i + 1) * 2 + 2 - 2 = i * 2 + 2 by omega]
  rw [h1, h2]
  simp [List.append_assoc]
theorem set2 (xs : List Value) (m : Nat) (a b : Value) (h : m + 2 <= xs.length) : (xs.set m a).set (m + 1) b = xs.take m ++ [a, b] ++ xs.drop (m + 2) := by
 refine List.ext_getElem? fun j => ?_
 simp only [List.getElem?_set, List.length_set]
 rcases Nat.lt_or_ge j m with h1 | h1
 ·rw [if_neg (by omega), if_neg (by omega), List.append_assoc, List.getElem?_append_left (by simp; omega), List.getElem?_take_of_lt h1]
 ·rcases Nat.lt_or_ge j (m + 2) with h2 | h2
  ·obtain ⟨q, rfl⟩ : ∃ q, j = m + q := ⟨j - m, by omega⟩
   rw [List.append_assoc, List.getElem?_append_right (by simp; omega)]
   have hl : (xs.take m).length = m := by simp; omega
   rw [hl, Nat.add_sub_cancel_left]
   match q, h2 with
   | 0, _ => simp; omega
   | 1, _ => simp; omega
   | q + 2, h => omega
  ·rw [if_neg (by omega), if_neg (by omega), List.getElem?_append_right (by simp; omega)]
   have hl : (xs.take m ++ [a, b]).length = m + 2 := by simp; omega
   rw [hl, List.getElem?_drop]
   congr 1
   omega
end Go.Proofs.YtigpjmmfelndkaaGreatDoor
namespace Go.Proofs.YtigpjmmfelndkaaGreatDoor
open Go.RowKit
def ceV (s : Ce) : Value := .agg #[.string s.key, .int .i64 s.h]
def cellAt2 (w : World) (g i : Nat) (s : Ce) : Prop := w.cell? ⟨g, i * 2, none⟩ = some (.string s.key) /\ w.cell? ⟨g, i * 2 + 1, none⟩ = some (.int .i64 s.h)
def RdC (w : World) (a : Option Addr) (l : List Ce) : Prop := l = [] ∨ ∃ g, a = some ⟨g, 0, none⟩ /\ g < w.heap.size /\ ∀ i (h : i < l.length), cellAt2 w g i l[i]
theorem cellAt2.below {w w' : World} {B g i : Nat} {s : Ce} (h : cellAt2 w g i s) (hb : Below B w w') (hg : g < B) : cellAt2 w' g i s := ⟨(hb.cell hg).trans h.1, (hb.cell hg).trans h.2⟩
theorem RdC.later {w w' : World} {a : Option Addr} {l : List Ce} (h : RdC w a l) (hb : Below w.heap.size w w') : RdC w' a l := by
 rcases h with h | ⟨g, ha, hg, hc⟩
 ·exact .inl h
 ·exact .inr ⟨g, ha, Nat.lt_of_lt_of_le hg hb.size, fun i hi => (hc i hi).below hb hg⟩
theorem RdC.at {w : World} {a : Option Addr} {l : List Ce} (h : RdC w a l) (i : Nat) (hi : i < l.length) : ∃ g, a = some ⟨g, 0, none⟩ /\ g < w.heap.size /\ cellAt2 w g i l[i] := by
 rcases h with h | ⟨g, ha, hg, hc⟩
 ·subst h; simp at hi
 ·exact ⟨g, ha, hg, hc i hi⟩
theorem qcZ {w : World} {base ca : Nat} {e : TypeId} {ao : Option Addr} {l : List Ce} (h : w.ownsRow base e 2 (.slice ao l.length ca) l.length (ces l)) : RdC w ao l := by
 by_cases h0 : l.length = 0
 ·exact .inl (List.eq_nil_of_length_eq_zero h0)
 ·rcases h.2 with ⟨hv, hn⟩ | ⟨g, cap, cur, hv, hb, hh, r⟩
  ·omega
  ·injection hv with h1 h2 h3
   subst h1
   refine .inr ⟨g, rfl, (Array.getElem?_eq_some_iff.1 hh).1, fun i hi => ?_⟩
   have at2 : ∀ j, j < 2 -> w.cell? ⟨g, i * 2 + j, none⟩ = (ceC l[i])[j]? := fun j hj => (h.cellAt (i * 2 + j) (by omega)).trans (qiH l i j hi hj)
   exact ⟨at2 0 (by omega), at2 1 (by omega)⟩
def tbV (co : Option Addr) (n c : Nat) (oo : Option Addr) (m d : Nat) (mv : Int) : Value := .agg #[.slice co n c, .slice oo m d, .int .i64 mv]
def cellO (w : World) (b o i : Nat) (s : Ce) : Prop := w.cell? ⟨b, o + i * 2, none⟩ = some (.string s.key) /\ w.cell? ⟨b, o + i * 2 + 1, none⟩ = some (.int .i64 s.h)
def RdJ (w : World) (a : Option Addr) (l : List Ce) : Prop := ∀ i (h : i < l.length), ∃ b o, a = some ⟨b, o, none⟩ /\ b < w.heap.size /\ cellO w b o i l[i]
theorem cellO.below {w w' : World} {B b o i : Nat} {s : Ce} (h : cellO w b o i s) (hb : Below B w w') (hg : b < B) : cellO w' b o i s := ⟨(hb.cell hg).trans h.1, (hb.cell hg).trans h.2⟩
theorem RdJ.later {w w' : World} {a : Option Addr} {l : List Ce} (h : RdJ w a l) (hb : Below w.heap.size w w') : RdJ w' a l := by
 intro i hi
 obtain ⟨b, o, ha, hg, hc⟩ := h i hi
 exact ⟨b, o, ha, Nat.lt_of_lt_of_le hg hb.size, hc.below hb hg⟩
theorem qkK {w : World} {base n g cap : Nat} {e : TypeId} {L : List Ce} (h : w.ownsRow base e 2 (.slice (some ⟨g, 0, none⟩) n cap) n (ces L)) (hL : L.length = n) (i : Nat) (hi : i < n) (s : Ce) :
  ((w.setCell ⟨g, i * 2, none⟩ (.string s.key)).setCell ⟨g, i * 2 + 1, none⟩ (.int .i64 s.h)).ownsRow base e 2 (.slice (some ⟨g, 0, none⟩) n cap) n (ces (L.set i s)) := by
 have st := (World.ownsRow.stored (World.ownsRow.stored h (i * 2) (.string s.key)).1 (i * 2 + 1) (.int .i64 s.h)).1
 rw [set2 _ _ _ _ (by rw [qaV]; omega)] at st
 rw [qtQ L i s (by omega)]
 exact st
theorem qjD {B g : Nat} {w w' : World} (h : Below B w w') (hg : B <= g) (i : Nat) (s : Ce) : Below B w ((w'.setCell ⟨g, i * 2, none⟩ (.string s.key)).setCell ⟨g, i * 2 + 1, none⟩ (.int .i64 s.h)) :=
 (h.setCell (p := ⟨g, i * 2, none⟩) hg _).setCell (p := ⟨g, i * 2 + 1, none⟩) hg _
def zC : Ce := ⟨⟨#[]⟩, 0⟩
theorem Tryz.infoCell : (Tryz.prog.info? 132).map (fun i => (i.zero, i.size, i.bytes)) = some (some (ceV zC), 2, 24) := by kernel_rfl
theorem zdZ : ∀ n : Nat, (madeCells (ceV zC).cells (n * 2)).toList = ces (List.replicate n zC) := by
 intro n
 refine List.ext_getElem? fun j => ?_
 have hz : (ceV zC).cells = #[.string ⟨#[]⟩, .int .i64 0] := rfl
 by_cases hj : j < n * 2
 ·have h5 : j % 2 < 2 := Nat.mod_lt _ (by decide)
  have hr := qiH (List.replicate n zC) (j / 2) (j % 2) (by simp; omega) h5
  rw [show j / 2 * 2 + j % 2 = j by omega, List.getElem_replicate] at hr
  rw [hr, hz]
  simp only [madeCells, Array.getElem?_toList]
  rw [Array.getElem?_map, Array.getElem?_range, if_pos hj]
  simp only [Option.map_some]
  show some ((#[Value.string ⟨#[]⟩, .int .i64 0] : Array Value)[j % 2]!) = _
  generalize j % 2 = q at h5
  match q, h5 with
  | 0, _ => rfl
  | 1, _ => rfl
  | q + 2, h => omega
 ·rw [List.getElem?_eq_none (by simp [madeCells]; omega), List.getElem?_eq_none (by rw [qaV]; simp; omega)]
def qvF (u v : Value) : Prop := ∀ k, u.ownBlock = some k -> v.ownBlock ≠ some k
end Go.Proofs.YtigpjmmfelndkaaGreatDoor
