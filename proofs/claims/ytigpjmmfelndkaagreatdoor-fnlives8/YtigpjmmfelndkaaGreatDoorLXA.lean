import Derived.WalkKit
import Derived.WalkSpells
import Derived.WalkLawsBesides
import Derived.Deep.RegionLaw
import Derived.Deep.RegionHeld3
import Derived.Deep.QuietTactic
import Derived.BigQuiet
import Derived.Deep.RegionWith
import Derived.Deep.WholeRow
import Derived.Handy
import Derived.Test.YtigpjmmfelndkaaGreatDoorProg
namespace Go.Proofs.YtigpjmmfelndkaaGreatDoor
open Go.RowKit
theorem qyL (k : Nat) (h : k < 256) : ∃ b : UInt8, Hid (b = UInt8.ofNat k) /\ b.toNat = k :=
 ⟨_, rfl, by rw [UInt8.toNat_ofNat']; omega⟩
def byt (s : ByteArray) (k : Nat) : Nat := (s.data.toList[k]?.getD 0).toNat
theorem qiX (s : ByteArray) : ∀ (k : Nat) (h : k < s.size), (s[k]'h).toNat = byt s k := by
 intro k h
 have h' : k < s.data.toList.length := by simpa using h
 unfold byt
 rw [List.getElem?_eq_getElem h']
 rfl
theorem qmD (s : ByteArray) (k : Nat) : byt s k <= 255 := by
 unfold byt
 have := (s.data.toList[k]?.getD 0).toNat_lt
 omega
theorem hI {p : Prop} (h : p) : Hid p := h
theorem tRn {w v u : World} (h : Hid (Below w.heap.size w v)) (g : Below v.heap.size v u) : Hid (Below w.heap.size w u) := hI (h.out.trans (g.mono h.out.size))
theorem bAl (w : World) (o : Obj) : Below w.heap.size w (w.alloc o) := (Below.refl _ _).alloc (Nat.le_refl _) o
theorem quZ {P : Program} (w : World) (src dst e : TypeId) (hs : P.underlying src = some (.slice e)) (he : P.underlying e = some (.int .u8)) (hd : P.underlying dst = some .string) (b : UInt8) (k : Int) (hk : (b.toNat : Int) = k) :
  (convert src dst (.slice (some ⟨w.heap.size, 0, none⟩) 1 1)).run P (w.alloc (.cells #[.int .u8 k] e)) = .ok (.string ⟨#[b]⟩) (w.alloc (.cells #[.int .u8 k] e)) := by
 subst hk
 have := run_convert_bytes_back (P := P) (w.alloc (.cells #[.int .u8 (b.toNat : Int)] e)) src dst e ⟨w.heap.size, 0, none⟩ 1 [b] hs he hd (by
  intro j hj
  exact cell_one_new w _ e j _ (by simp at hj; subst hj; rfl))
 exact this
def val : List UInt8 -> Nat
 | [] => 0
 | b :: r => b.toNat % 128 + 128 * val r
theorem qbG {P : Program} {w : World} {ops : Array Oper} {rest : List Oper} {o : Oper} {a : Act} {Q : Exit -> Act -> World -> Prop} (hgd : o.guard = none) (s x : Operand) (t : TypeId)
  (ho : o.op = .call { callee := .builtin .append, args := #[s, x], argTypes := #[t, t] })
  (base : Nat) (e : TypeId) (i : TypeInfo) (z : Value) (bytes : Nat) (ht : P.underlying t = some (.slice e)) (hi : P.info? e = some i) (hz : i.zero = some z) (hsize : i.size = 1) (hby : i.bytes = bytes) (hzc : z.cells.size = 1) (hb64 : bytes <= 64)
  (v : Value) (n : Nat) (xs : List Value) (hs : a.eval s = v) (hown : w.ownsRow base e 1 v n xs) (u : Value) (hu : u.oneCell' = true)
  (hx : a.eval x = .slice (some ⟨w.heap.size, 0, none⟩) 1 1) (hlen : n <= 1048576) (hbase : base <= w.heap.size)
  (h : ∀ v' w', w'.ownsRow base e 1 v' (n + 1) (xs ++ [u]) -> Below base w w' -> wpList P ops Q rest (a.put o.dst v') w') :
  wpList P ops Q (o :: rest) a (w.alloc (.cells #[u] e)) := by
 refine wpList_append_own _ hgd s x t ho base e i z 1 bytes ht hi hz hsize hby hzc (by decide) v n xs hs (hown.alloc _) ⟨w.heap.size, 0, none⟩ 1 1 [u] hx rfl (cell_one_new _ _ _) ?_ ?_ ?_ ?_ ?_
 ·intro u' hu'; simp at hu'; subst hu'; exact hu
 ·unfold maxLen; omega
 ·have : (n + 1) * bytes <= (n + 1) * 64 := Nat.mul_le_mul_left _ hb64
  omega
 ·rw [World.size_alloc]; omega
 ·intro v' w' h1 h2 _
  refine h v' w' h1 ?_
  refine Below.grown ((Below.refl _ _).alloc hbase _) h2 (by rw [World.size_alloc]; omega) ?_
  intro k hk
  exact (hown.lt k hk).1
theorem qbW {w : World} {base n : Nat} {e : TypeId} {v : Value} {xs : List Value} (h : w.ownsRow base e 1 v n xs) : ∃ ao cap, v = .slice ao n cap := by
 rcases h.2 with ⟨hv, h0⟩ | ⟨g, cap, cur, hv, _⟩
 ·exact ⟨none, 0, by rw [h0]; exact hv⟩
 ·exact ⟨_, cap, hv⟩
def sc (l : List ByteArray) : List Value := l.map Value.string
theorem qdM (l m : List ByteArray) : sc (l ++ m) = sc l ++ sc m := by simp [sc]
theorem qbB (w : World) (e : TypeId) : (w.alloc (.cells #[] e)).ownsRow w.heap.size e 1 (.slice (some ⟨w.heap.size, 0, none⟩) 0 0) 0 [] :=
 ⟨rfl, .inr ⟨w.heap.size, 0, #[], rfl, Nat.le_refl _, heap_alloc_new w _, Nat.le_refl _, Nat.zero_le _, rfl, rfl⟩⟩
theorem qdP (x lo hi : Int) (w : World) : Calls Tryz.prog 36 #[.int .i64 x, .int .i64 lo, .int .i64 hi] w fun e w' => e = .returned (.bool (decide (lo <= x) && decide (x <= hi))) /\ w = w' := by
 by_cases h1 : lo <= x
 ·by_cases h2 : x <= hi
  all_goals
   go_enter Tryz.func36, Tryz.ntmps36
   go_wp2
   go_ret
   exact ⟨by simp [h1, h2], rfl⟩
 ·have D := hI (decide_eq_false h1)
  go_enter Tryz.func36, Tryz.ntmps36
  go_wp2
  go_ret
  exact ⟨by rw [D.out]; rfl, rfl⟩
theorem qcF (w : World) (o p : Obj) : Below w.heap.size w ((w.alloc o).alloc p) := (bAl _ _).alloc (by rw [World.size_alloc]; omega) _
theorem qaE {w w' : World} {base n size : Nat} {e : TypeId} {v : Value} {xs : List Value} (h : w.ownsRow base e size v n xs) (hB : Below w.heap.size w w') : w'.ownsRow base e size v n xs := by
 refine ⟨h.1, ?_⟩
 rcases h.2 with h2 | ⟨g, cap, cur, hv, hg, hh, r⟩
 ·exact .inl h2
 ·exact .inr ⟨g, cap, cur, hv, hg, by rw [hB.block g (Array.getElem?_eq_some_iff.1 hh).1]; exact hh, r⟩
theorem qaQ {w : World} {base n size g cap : Nat} {e : TypeId} {xs : List Value} (h : w.ownsRow base e size (.slice (some ⟨g, 0, none⟩) n cap) n xs) (j : Nat) (hj : j < n * size) : ∃ u, w.cell? ⟨g, j, none⟩ = some u :=
 ⟨xs[j]'(by have := h.1; omega), (h.cellAt j hj).trans (List.getElem?_eq_getElem _)⟩
theorem qbF {w w' : World} {g : Nat} (h : w.grownBy w' (some g)) (j : Nat) (u : Value) : w.grownBy (w'.setCell ⟨g, j, none⟩ u) (some g) :=
 ⟨h.os, h.tape, h.output, by have := h.size; simpa using this, fun k hk hne => by rw [Below.heap_setCell _ _ _ _ (fun e => hne (by rw [e]))]; exact h.block k hk hne⟩
theorem qbO {w w' : World} {r : Option Nat} (h : Below w.heap.size w w') : w.grownBy w' r := ⟨h.os, h.tape, h.output, h.size, fun k hk _ => h.block k hk⟩
theorem qaU {w w' : World} {r : Option Nat} {B : Nat} (h : w.grownBy w' r) (hB : ∀ g, r = some g -> B <= g) (hs : B <= w.heap.size) : Below B w w' :=
 ⟨h.os, h.tape, h.output, h.size, fun k hk => h.block k (by omega) (fun e => by have := hB k e.symm; omega)⟩
theorem qaA {w : World} {base n size : Nat} {e : TypeId} {v : Value} {xs : List Value} (h : w.ownsRow base e size v n xs) (a : Addr) (u : Value) (hne : ∀ k, v.ownBlock = some k -> k ≠ a.block) : (w.setCell a u).ownsRow base e size v n xs := by
 refine ⟨h.1, ?_⟩
 rcases h.2 with h2 | ⟨g, cap, cur, hv, hg, hh, r⟩
 ·exact .inl h2
 ·exact .inr ⟨g, cap, cur, hv, hg, by rw [Below.heap_setCell _ _ _ _ (hne g (by rw [hv]; rfl))]; exact hh, r⟩
theorem qaB {w : World} {base base' n size : Nat} {e : TypeId} {v : Value} {xs : List Value} (h : w.ownsRow base' e size v n xs) (hb : base <= base') : w.ownsRow base e size v n xs := by
 refine ⟨h.1, ?_⟩
 rcases h.2 with h2 | ⟨g, cap, cur, hv, hg, r⟩
 ·exact .inl h2
 ·exact .inr ⟨g, cap, cur, hv, Nat.le_trans hb hg, r⟩
def Blk (w : World) (r : Nat) (t : TypeId) (cs : List Value) : Prop := w.heap[r]? = some (.cells cs.toArray t (0, 0))
theorem Blk.lt {w : World} {r : Nat} {t : TypeId} {cs : List Value} (h : Blk w r t cs) : r < w.heap.size := (Array.getElem?_eq_some_iff.1 h).1
theorem Blk.cell {w : World} {r : Nat} {t : TypeId} {cs : List Value} (h : Blk w r t cs) (j : Nat) : w.cell? ⟨r, j, none⟩ = cs[j]? := by
 rw [cell_of_row w r j _ _ _ h]; simp
theorem Blk.froz {w : World} {r : Nat} {t : TypeId} {cs : List Value} (h : Blk w r t cs) (j : Nat) : w.frozen? ⟨r, j, none⟩ = false := by
 have h' : w.heap[r]? = some (.cells cs.toArray t (0, 0)) := h
 simp [World.frozen?, h']
theorem Blk.set {w : World} {r : Nat} {t : TypeId} {cs : List Value} (h : Blk w r t cs) (j : Nat) (v : Value) : Blk (w.setCell ⟨r, j, none⟩ v) r t (cs.set j v) := by
 have h' : w.heap[r]? = some (.cells cs.toArray t (0, 0)) := h
 unfold Blk
 rw [setCell_eq_setRow w r j _ _ _ v h', setRow_heap w r _ _ _ _ h']
 simp
theorem Blk.below {w w' : World} {r B : Nat} {t : TypeId} {cs : List Value} (h : Blk w r t cs) (hb : Below B w w') (hr : r < B) : Blk w' r t cs := (hb.block r hr).trans h
theorem bRn {w v : World} {r : Nat} {t : TypeId} {cs : List Value} (h : Hid (Blk w r t cs)) (g : Below w.heap.size w v) : Hid (Blk v r t cs) := hI (Blk.below h.out g (Blk.lt h.out))
theorem cRn {w : World} {a : Addr} {o : Option Value} {v : Value} (h : w.cell? a = o) (e : o = some v) : w.cell? a = some v := h.trans e
theorem Blk.far {w : World} {r : Nat} {t : TypeId} {cs : List Value} (h : Blk w r t cs) (a : Addr) (v : Value) (hr : r ≠ a.block) : Blk (w.setCell a v) r t cs := (Below.heap_setCell w a v r hr).trans h
theorem Blk.new (w : World) (t : TypeId) (cs : Array Value) : Blk (w.alloc (.cells cs t)) w.heap.size t cs.toList := by
 unfold Blk
 rw [heap_alloc_last, Array.toArray_toList]
theorem Blk.more {w : World} {r : Nat} {t : TypeId} {cs : List Value} (h : Blk w r t cs) (o : Obj) : Blk (w.alloc o) r t cs := (Below.heap_alloc w o r h.lt).trans h
theorem qdI (w : World) (c1 c2 : Array Value) (t1 t2 : TypeId) : Blk ((w.alloc (.cells c1 t1)).alloc (.cells c2 t2)) w.heap.size t1 c1.toList /\ Blk ((w.alloc (.cells c1 t1)).alloc (.cells c2 t2)) (w.heap.size + 1) t2 c2.toList /\ Below w.heap.size w ((w.alloc (.cells c1 t1)).alloc (.cells c2 t2)) := by
 refine ⟨Blk.more (Blk.new w _ _) _, ?_, qcF w _ _⟩
 have := Blk.new (w.alloc (.cells c1 t1)) t2 c2
 rw [World.size_alloc] at this
 exact this
theorem qaK {w w' w'' : World} {r : Option Nat} (h : w.grownBy w' r) (h' : w'.grownBy w'' r) : w.grownBy w'' r :=
 ⟨h'.os.trans h.os, h'.tape.trans h.tape, h'.output.trans h.output, Nat.le_trans h.size h'.size, fun k hk hne => (h'.block k (Nat.lt_of_lt_of_le hk h.size) hne).trans (h.block k hk hne)⟩
theorem qlV {w w' : World} {r : Option Nat} {g : Nat} {t : TypeId} {cs : List Value} (h : w.grownBy w' r) (hB : Blk w g t cs) (hne : r ≠ some g) : Blk w' g t cs := (h.block g hB.lt (fun e => hne e.symm)).trans hB
theorem gown {w w' : World} {r : Option Nat} {base n size : Nat} {e : TypeId} {v : Value} {xs : List Value} (h : w.grownBy w' r) (hO : w.ownsRow base e size v n xs) (hne : ∀ k, v.ownBlock = some k -> r ≠ some k) : w'.ownsRow base e size v n xs := by
 refine ⟨hO.1, ?_⟩
 rcases hO.2 with h2 | ⟨g, cap, cur, hv, hg, hh, r'⟩
 ·exact .inl h2
 ·exact .inr ⟨g, cap, cur, hv, hg, (h.block g (Array.getElem?_eq_some_iff.1 hh).1 (fun e => hne g (by rw [hv]; rfl) e.symm)).trans hh, r'⟩
end Go.Proofs.YtigpjmmfelndkaaGreatDoor
