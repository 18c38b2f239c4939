import Derived.Deep.SlicePairs
import Derived.Lib.SmallJoins
import Derived.ProofKit
import Derived.OpenShut
import Derived.Test.YtigpjmmfelndkaaGreatDoorLXA
namespace Go.Proofs.YtigpjmmfelndkaaGreatDoor
structure Sl where
 gen : Int
 used : Bool
 key : ByteArray
 val : ByteArray
 next : Int
def slC (s : Sl) : List Value := [.int .i64 s.gen, .bool s.used, .string s.key, .string s.val, .int .i64 s.next]
def sls (l : List Sl) : List Value := l.flatMap slC
theorem qcB (s : Sl) : (slC s).length = 5 := rfl
theorem qaL (l : List Sl) : (sls l).length = l.length * 5 := by
 induction l with
 | nil => rfl
 | cons s l ih => rw [sls, List.flatMap_cons, List.length_append, qcB, <- sls, ih, List.length_cons]; omega
theorem qgE (l m : List Sl) : sls (l ++ m) = sls l ++ sls m := by simp [sls]
theorem qgD (s : Sl) (l : List Sl) : sls (s :: l) = slC s ++ sls l := rfl
theorem qjN : ∀ (l : List Sl) (i j : Nat) (hi : i < l.length), j < 5 -> (sls l)[i * 5 + j]? = (slC l[i])[j]?
 | s :: l, 0, j, _, hj => by rw [qgD, Nat.zero_mul, Nat.zero_add, List.getElem?_append_left (by rw [qcB]; exact hj)]; rfl
 | s :: l, i + 1, j, hi, hj => by
  rw [qgD, List.getElem?_append_right (by rw [qcB]; omega), qcB, show (i + 1) * 5 + j - 5 = i * 5 + j by omega, qjN l i j (by simpa using hi) hj]
  rfl
theorem qnX : ∀ (l : List Sl) (i : Nat) (s : Sl), i < l.length -> sls (l.set i s) = (sls l).take (i * 5) ++ slC s ++ (sls l).drop (i * 5 + 5)
 | t :: l, 0, s, _ => by
  rw [List.set_cons_zero, qgD, qgD, Nat.zero_mul, List.take_zero, List.nil_append, Nat.zero_add, List.drop_append_of_le_length (by rw [qcB]; omega)]
  simp [slC]
 | t :: l, i + 1, s, hi => by
  rw [List.set_cons_succ, qgD, qgD, qnX l i s (by simpa using hi)]
  have h1 : (slC t ++ sls l).take ((i + 1) * 5) = slC t ++ (sls l).take (i * 5) := by
   rw [List.take_append, qcB, List.take_of_length_le (by rw [qcB]; omega), show (i + 1) * 5 - 5 = i * 5 by omega]
  have h2 : (slC t ++ sls l).drop ((i + 1) * 5 + 5) = (sls l).drop (i * 5 + 5) := by
   rw [List.drop_append, qcB, List.drop_eq_nil_of_le (by rw [qcB]; omega), List.nil_append, show (i + 1) * 5 + 5 - 5 = i * 5 + 5 by omega]
  rw [h1, h2]
  simp [List.append_assoc]
def Chain (l : List Sl) : Int -> List Nat -> Prop
 | a, [] => a = -1
 | a, p :: v => a = (p : Int) /\ ∃ h : p < l.length, Chain l l[p].next v
def Path (l : List Sl) : Int -> List Nat -> Int -> Prop
 | a, [], b => a = b
 | a, p :: v, b => a = (p : Int) /\ ∃ h : p < l.length, Path l l[p].next v b
theorem Chain.det {l : List Sl} : ∀ {v v' : List Nat} {a : Int}, Chain l a v -> Chain l a v' -> v = v'
 | [], [], _, _, _ => rfl
 | [], p :: v', a, h, h' => by have h1 : a = -1 := h; have h2 : a = (p : Int) := h'.1; omega
 | p :: v, [], a, h, h' => by have h1 : a = -1 := h'; have h2 : a = (p : Int) := h.1; omega
 | p :: v, p' :: v', a, h, h' => by
  obtain ⟨e, hp, hc⟩ := h
  obtain ⟨e', hp', hc'⟩ := h'
  obtain rfl : p = p' := by omega
  rw [Chain.det hc hc']
theorem Chain.tail {l : List Sl} : ∀ {s t : List Nat} {p : Nat} {a : Int}, Chain l a (s ++ p :: t) -> Chain l (p : Int) (p :: t)
 | [], t, p, a, h => by have e := h.1; subst e; exact h
 | q :: s, t, p, a, h => by obtain ⟨_, _, hc⟩ := h; exact Chain.tail hc
theorem Chain.nodup {l : List Sl} : ∀ {v : List Nat} {a : Int}, Chain l a v -> v.Nodup
 | [], _, _ => List.nodup_nil
 | p :: v, a, h => by
  have h0 := h
  obtain ⟨e, hp, hc⟩ := h
  refine List.nodup_cons.2 ⟨fun hm => ?_, Chain.nodup hc⟩
  obtain ⟨s, t, rfl⟩ := List.append_of_mem hm
  subst e
  have := congrArg List.length (Chain.det h0 (Chain.tail hc))
  simp at this
  omega
theorem Chain.lt {l : List Sl} : ∀ {v : List Nat} {a : Int}, Chain l a v -> ∀ p ∈ v, p < l.length
 | [], _, _, p, hp => by cases hp
 | q :: v, a, h, p, hp => by
  obtain ⟨_, hq, hc⟩ := h
  rcases List.mem_cons.1 hp with rfl | h2
  ·exact hq
  ·exact Chain.lt hc p h2
theorem Path.chain {l : List Sl} : ∀ {u V : List Nat} {a b : Int}, Path l a u b -> (Chain l a V ↔ ∃ V', V = u ++ V' /\ Chain l b V')
 | [], V, a, b, h => by
  have e : a = b := h
  subst e
  exact ⟨fun h => ⟨V, rfl, h⟩, fun ⟨V', e, h⟩ => by rw [e]; exact h⟩
 | p :: u, V, a, b, h => by
  obtain ⟨e, hp, hc⟩ := h
  constructor
  ·intro hV
   match V, hV with
   | [], hV => have : a = -1 := hV; omega
   | q :: V, hV =>
    obtain ⟨e', hq, hV'⟩ := hV
    obtain rfl : p = q := by omega
    obtain ⟨V', rfl, h'⟩ := (Path.chain hc).1 hV'
    exact ⟨V', rfl, h'⟩
  ·rintro ⟨V', rfl, h'⟩
   exact ⟨e, hp, (Path.chain hc).2 ⟨V', rfl, h'⟩⟩
theorem Path.snoc {l : List Sl} : ∀ {u : List Nat} {a : Int} {p : Nat} (hp : p < l.length), Path l a u (p : Int) -> Path l a (u ++ [p]) l[p].next
 | [], a, p, hp, h => ⟨h, hp, rfl⟩
 | q :: u, a, p, hp, h => by obtain ⟨e, hq, hc⟩ := h; exact ⟨e, hq, Path.snoc hp hc⟩
def qmV (s : Sl) : Prop := 0 <= s.gen /\ s.gen <= 41666665 /\ (s.used = true -> 1 <= s.key.size /\ s.key.size <= 12 /\ s.val.size <= 20 /\ s.next = 0) /\ (s.used = false -> s.key.size = 0 /\ s.val.size = 0)
structure OkA (l : List Sl) (free : Int) : Prop where
 least : 1 <= l.length
 most : l.length <= 24
 chain : ∃ V, Chain l free V /\ ∀ i (h : i < l.length), l[i].used = false ↔ i ∈ V
 slots : ∀ i (h : i < l.length), qmV l[i]
theorem OkA.free {l : List Sl} {free : Int} (h : OkA l free) : free = -1 ∨ ∃ k : Nat, free = (k : Int) /\ ∃ hk : k < l.length, l[k].used = false := by
 obtain ⟨V, hV, hu⟩ := h.chain
 match V, hV, hu with
 | [], hV, _ => exact .inl hV
 | p :: V, hV, hu => exact .inr ⟨p, hV.1, hV.2.1, (hu p hV.2.1).2 (by simp)⟩
end Go.Proofs.YtigpjmmfelndkaaGreatDoor
namespace Go.Proofs.YtigpjmmfelndkaaGreatDoor
open Go.RowKit
def slV (s : Sl) : Value := .agg #[.int .i64 s.gen, .bool s.used, .string s.key, .string s.val, .int .i64 s.next]
def zbG (s t : Sl) : Bool := (s.gen == t.gen) && (s.used == t.used) && (s.key.toList == t.key.toList) && (s.val.toList == t.val.toList) && (s.next == t.next)
theorem qyF (s : Sl) : zbG s s = true := by simp [zbG]
theorem qgO {a b : ByteArray} (h : a.toList = b.toList) : a = b := by
 rw [ByteArray.toList_eq, ByteArray.toList_eq] at h
 cases a; cases b; simp at h; simp [h]
theorem zaJ (s t : Sl) : zbG s t = true ↔ s = t := by
 constructor
 ·intro h
  simp only [zbG, Bool.and_eq_true, beq_iff_eq] at h
  obtain ⟨⟨⟨⟨h1, h2⟩, h3⟩, h4⟩, h5⟩ := h
  cases s; cases t; simp at *
  exact ⟨h1, h2, qgO h3, qgO h4, h5⟩
 ·rintro rfl; exact qyF s
def slotAt (w : World) (g i : Nat) (s : Sl) : Prop :=
 w.cell? ⟨g, i * 5, none⟩ = some (.int .i64 s.gen) /\ w.cell? ⟨g, i * 5 + 1, none⟩ = some (.bool s.used) /\ w.cell? ⟨g, i * 5 + 2, none⟩ = some (.string s.key) /\ w.cell? ⟨g, i * 5 + 3, none⟩ = some (.string s.val) /\ w.cell? ⟨g, i * 5 + 4, none⟩ = some (.int .i64 s.next)
def RdA (w : World) (a : Option Addr) (l : List Sl) : Prop := l = [] ∨ ∃ g, a = some ⟨g, 0, none⟩ /\ g < w.heap.size /\ ∀ i (h : i < l.length), slotAt w g i l[i]
theorem slotAt.below {w w' : World} {B g i : Nat} {s : Sl} (h : slotAt w g i s) (hb : Below B w w') (hg : g < B) : slotAt w' g i s :=
 ⟨(hb.cell hg).trans h.1, (hb.cell hg).trans h.2.1, (hb.cell hg).trans h.2.2.1, (hb.cell hg).trans h.2.2.2.1, (hb.cell hg).trans h.2.2.2.2⟩
theorem RdA.later {w w' : World} {a : Option Addr} {l : List Sl} (h : RdA w a l) (hb : Below w.heap.size w w') : RdA w' a l := by
 rcases h with h | ⟨g, ha, hg, hc⟩
 ·exact .inl h
 ·exact .inr ⟨g, ha, Nat.lt_of_lt_of_le hg hb.size, fun i hi => (hc i hi).below hb hg⟩
theorem RdA.at {w : World} {a : Option Addr} {l : List Sl} (h : RdA w a l) (i : Nat) (hi : i < l.length) : ∃ g, a = some ⟨g, 0, none⟩ /\ g < w.heap.size /\ slotAt w g i l[i] := by
 rcases h with h | ⟨g, ha, hg, hc⟩
 ·subst h; simp at hi
 ·exact ⟨g, ha, hg, hc i hi⟩
theorem set5 (xs : List Value) (m : Nat) (a b c d e : Value) (h : m + 5 <= xs.length) : ((((xs.set m a).set (m + 1) b).set (m + 2) c).set (m + 3) d).set (m + 4) e = xs.take m ++ [a, b, c, d, e] ++ xs.drop (m + 5) := by
 refine List.ext_getElem? fun j => ?_
 simp only [List.getElem?_set, List.length_set]
 rcases Nat.lt_or_ge j m with h1 | h1
 ·rw [if_neg (by omega), if_neg (by omega), if_neg (by omega), if_neg (by omega), if_neg (by omega), List.append_assoc, List.getElem?_append_left (by simp; omega), List.getElem?_take_of_lt h1]
 ·rcases Nat.lt_or_ge j (m + 5) with h2 | h2
  ·obtain ⟨q, rfl⟩ : ∃ q, j = m + q := ⟨j - m, by omega⟩
   rw [List.append_assoc, List.getElem?_append_right (by simp; omega)]
   have hl : (xs.take m).length = m := by simp; omega
   rw [hl, Nat.add_sub_cancel_left]
   match q, h2 with
   | 0, _ => simp; omega
   | 1, _ => simp; omega
   | 2, _ => simp; omega
   | 3, _ => simp; omega
   | 4, _ => simp; omega
   | q + 5, h => omega
  ·rw [if_neg (by omega), if_neg (by omega), if_neg (by omega), if_neg (by omega), if_neg (by omega), List.getElem?_append_right (by simp; omega)]
   have hl : (xs.take m ++ [a, b, c, d, e]).length = m + 5 := by simp; omega
   rw [hl, List.getElem?_drop]
   congr 1
   omega
theorem qmX {w : World} {base ca : Nat} {e : TypeId} {ao : Option Addr} {l : List Sl} (h : w.ownsRow base e 5 (.slice ao l.length ca) l.length (sls l)) : RdA w ao l := by
 rcases h.2 with ⟨hv, h0⟩ | ⟨g, cap, cur, hv, _, hh, _⟩
 ·exact .inl (List.eq_nil_of_length_eq_zero h0)
 ·simp only [Value.slice.injEq] at hv
  obtain ⟨rfl, _, rfl⟩ := hv
  refine .inr ⟨g, rfl, (Array.getElem?_eq_some_iff.1 hh).1, fun i hi => ?_⟩
  have at5 : ∀ j, j < 5 -> w.cell? ⟨g, i * 5 + j, none⟩ = (slC l[i])[j]? := fun j hj => (h.cellAt (i * 5 + j) (by omega)).trans (qjN l i j hi hj)
  exact ⟨at5 0 (by omega), at5 1 (by omega), at5 2 (by omega), at5 3 (by omega), at5 4 (by omega)⟩
def arV (ao : Option Addr) (n cap : Nat) (free : Int) : Value := .agg #[.slice ao n cap, .int .i64 free]
def zdL (w : World) (b o i : Nat) (s : Sl) : Prop :=
 w.cell? ⟨b, o + i * 5, none⟩ = some (.int .i64 s.gen) /\ w.cell? ⟨b, o + i * 5 + 1, none⟩ = some (.bool s.used) /\ w.cell? ⟨b, o + i * 5 + 2, none⟩ = some (.string s.key) /\ w.cell? ⟨b, o + i * 5 + 3, none⟩ = some (.string s.val) /\ w.cell? ⟨b, o + i * 5 + 4, none⟩ = some (.int .i64 s.next)
theorem qoC {w : World} {base n g cap : Nat} {e : TypeId} {L : List Sl} (h : w.ownsRow base e 5 (.slice (some ⟨g, 0, none⟩) n cap) n (sls L)) (hL : L.length = n) (i : Nat) (hi : i < n) (s : Sl) :
  (((((w.setCell ⟨g, i * 5, none⟩ (.int .i64 s.gen)).setCell ⟨g, i * 5 + 1, none⟩ (.bool s.used)).setCell ⟨g, i * 5 + 2, none⟩ (.string s.key)).setCell ⟨g, i * 5 + 3, none⟩ (.string s.val)).setCell ⟨g, i * 5 + 4, none⟩ (.int .i64 s.next)).ownsRow base e 5 (.slice (some ⟨g, 0, none⟩) n cap) n (sls (L.set i s)) := by
 have st := (World.ownsRow.stored (World.ownsRow.stored (World.ownsRow.stored (World.ownsRow.stored (World.ownsRow.stored h (i * 5) (.int .i64 s.gen)).1 (i * 5 + 1) (.bool s.used)).1 (i * 5 + 2) (.string s.key)).1 (i * 5 + 3) (.string s.val)).1 (i * 5 + 4) (.int .i64 s.next)).1
 rw [set5 _ _ _ _ _ _ _ (by rw [qaL]; omega)] at st
 rw [qnX L i s (by omega)]
 exact st
theorem qdW {B g : Nat} {w w' : World} (h : Below B w w') (hg : B <= g) (i : Nat) (s : Sl) :
  Below B w (((((w'.setCell ⟨g, i * 5, none⟩ (.int .i64 s.gen)).setCell ⟨g, i * 5 + 1, none⟩ (.bool s.used)).setCell ⟨g, i * 5 + 2, none⟩ (.string s.key)).setCell ⟨g, i * 5 + 3, none⟩ (.string s.val)).setCell ⟨g, i * 5 + 4, none⟩ (.int .i64 s.next)) :=
 ((((h.setCell (p := ⟨g, i * 5, none⟩) hg _).setCell (p := ⟨g, i * 5 + 1, none⟩) hg _).setCell (p := ⟨g, i * 5 + 2, none⟩) hg _).setCell (p := ⟨g, i * 5 + 3, none⟩) hg _).setCell (p := ⟨g, i * 5 + 4, none⟩) hg _
theorem zaI (l : List Sl) (z s : Sl) (i : Nat) (hi : i < l.length) (hs : l[i] = s) : (l.take i ++ List.replicate (l.length - i) z).set i s = l.take (i + 1) ++ List.replicate (l.length - (i + 1)) z := by
 have hl : (l.take i).length = i := by simp; omega
 rw [List.set_append_right _ _ (by omega), hl, Nat.sub_self, show l.length - i = (l.length - (i + 1)) + 1 by omega, List.replicate_succ, List.set_cons_zero, List.take_succ_eq_append_getElem hi, hs, List.append_assoc]
 rfl
def zS : Sl := ⟨0, false, ⟨#[]⟩, ⟨#[]⟩, 0⟩
theorem Tryz.infoSlot : (Tryz.prog.info? 99).map (fun i => (i.zero, i.size, i.bytes)) = some (some (slV zS), 5, 56) := by kernel_rfl
theorem made5 : ∀ n : Nat, (madeCells (slV zS).cells (n * 5)).toList = sls (List.replicate n zS) := by
 intro n
 refine List.ext_getElem? fun j => ?_
 have hz : (slV zS).cells = #[.int .i64 0, .bool false, .string ⟨#[]⟩, .string ⟨#[]⟩, .int .i64 0] := rfl
 by_cases hj : j < n * 5
 ·have h5 : j % 5 < 5 := Nat.mod_lt _ (by decide)
  have hr := qjN (List.replicate n zS) (j / 5) (j % 5) (by simp; omega) h5
  rw [show j / 5 * 5 + j % 5 = j by omega, List.getElem_replicate] at hr
  rw [hr, hz]
  simp only [madeCells, Array.getElem?_toList]
  rw [Array.getElem?_map, Array.getElem?_range, if_pos hj]
  simp only [Option.map_some]
  show some ((#[Value.int .i64 0, .bool false, .string ⟨#[]⟩, .string ⟨#[]⟩, .int .i64 0] : Array Value)[j % 5]!) = _
  generalize j % 5 = q at h5
  match q, h5 with
  | 0, _ => rfl
  | 1, _ => rfl
  | 2, _ => rfl
  | 3, _ => rfl
  | 4, _ => rfl
  | q + 5, h => omega
 ·rw [List.getElem?_eq_none (by simp [madeCells]; omega), List.getElem?_eq_none (by rw [qaL]; simp; omega)]
end Go.Proofs.YtigpjmmfelndkaaGreatDoor
namespace Go.Proofs.YtigpjmmfelndkaaGreatDoor
open Go.ChangeShapes Go.WideShapes Go.ChangeAt Go.RowKit Go.Deep Go.Joins
instance : Inhabited Sl := ⟨zS⟩
end Go.Proofs.YtigpjmmfelndkaaGreatDoor
