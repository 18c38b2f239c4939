/- Small facts on rows of bytes that a call itself makes; no condition but those stated. -/
import Derived.WalkKit
import Derived.WalkSpells
import Derived.WalkLawsBesides
namespace Go.Proofs.Ytcahaimefgkmiaa
open Go.RowKit

/-- The cells of a row of bytes. -/
def bc (l : List UInt8) : List Value := l.map fun b => Value.int .u8 (b.toNat : Int)

theorem bc_length (l : List UInt8) : (bc l).length = l.length := by simp [bc]
theorem bc_append (l m : List UInt8) : bc (l ++ m) = bc l ++ bc m := by simp [bc]
theorem bc_nil : bc [] = [] := rfl
theorem bc_one (l : List UInt8) : ∀ u ∈ bc l, u.oneCell' = true := by
  intro u hu; obtain ⟨_, _, rfl⟩ := List.mem_map.1 hu; rfl

/-- 'string(b)' of a row of bytes of the call's own. -/
theorem conv_own {P : Program} {w : World} {base n : Nat} {v : Value} {l : List UInt8} (src dst e : TypeId) (hs : P.underlying src = some (.slice e)) (he : P.underlying e = some (.int .u8)) (hd : P.underlying dst = some .string)
    (h : w.ownsRow base e 1 v n (bc l)) : (convert src dst v).run P w = .ok (.string ⟨l.toArray⟩) w := by
  have hl : l.length = n := by have := h.1; rw [bc_length] at this; omega
  rcases h.2 with ⟨rfl, h0⟩ | ⟨g, cap, cur, rfl, _, hg, _, _, _, _⟩
  · have : l = [] := List.eq_nil_of_length_eq_zero (by omega)
    subst this
    rw [run_convert_bytes_string w src dst e none 0 0 hs he hd]
    simp [Conv.bytesToString]
    rfl
  · subst hl
    refine run_convert_bytes_back w src dst e ⟨g, 0, none⟩ cap l hs he hd fun j hj => ?_
    refine h.cells (g := g) rfl j _ ?_
    simp [bc, List.getElem?_eq_getElem hj]

/-- The one cell of a row that 'append(out, x)' lays ahead of it. -/
theorem bc_cell (b : UInt8) : bc [b] = [Value.int .u8 (b.toNat : Int)] := rfl
theorem ofNat_cell {n : Nat} (h : n < 256) : (Value.int .u8 ((UInt8.ofNat n).toNat : Int)) = Value.int .u8 (n : Int) := by
  rw [UInt8.toNat_ofNat']
  simp [Nat.mod_eq_of_lt h]

/-- 'out = append(out, b)' of one byte, out a row of bytes of the call's own. -/
theorem wpList_push {P : Program} {w : World} {ops : Array Oper} {rest : List Oper} {o : Oper} {a : Act} {Q : Exit → Act → World → Prop} (hgd : o.guard = none) (s x : Operand) (t : TypeId)
    (ho : o.op = .call { callee := .builtin .append, args := #[s, x], argTypes := #[t, t] })
    (base : Nat) (e : TypeId) (i : TypeInfo) (ht : P.underlying t = some (.slice e)) (hi : P.info? e = some i) (hz : i.zero = some (.int .u8 0)) (hsize : i.size = 1) (hby : i.bytes = 1)
    (v : Value) (acc : List UInt8) (hs : a.eval s = v) (hown : w.ownsRow base e 1 v acc.length (bc acc)) (k : Int) (b : UInt8) (hk : (b.toNat : Int) = k)
    (hx : a.eval x = .slice (some ⟨w.heap.size, 0, none⟩) 1 1) (hlen : acc.length ≤ 70368744177664) (hbase : base ≤ w.heap.size)
    (h : ∀ v' w', w'.ownsRow base e 1 v' (acc ++ [b]).length (bc (acc ++ [b])) → Below base w w' → wpList P ops Q rest (a.put o.dst v') w') :
    wpList P ops Q (o :: rest) a (w.alloc (.cells #[.int .u8 k] e)) := by
  subst hk
  refine wpList_append_own _ hgd s x t ho base e i (.int .u8 0) 1 1 ht hi hz hsize hby rfl (by decide) v acc.length (bc acc) hs (hown.alloc _) ⟨w.heap.size, 0, none⟩ 1 1 (bc [b]) hx rfl ?_ (bc_one _) ?_ ?_ ?_ ?_
  · exact cell_one_new _ _ _
  · unfold maxLen; omega
  · omega
  · rw [World.size_alloc]; omega
  · intro v' w' h1 h2 _
    refine h v' w' ?_ ?_
    · rw [bc_append]; simpa using h1
    · refine Below.grown ((Below.refl _ _).alloc hbase _) h2 (by rw [World.size_alloc]; omega) ?_
      intro k hk
      exact (hown.lt k hk).1

theorem byte_of (k : Nat) (h : k < 256) : ∃ b : UInt8, Hid (b = UInt8.ofNat k) ∧ b.toNat = k :=
  ⟨_, rfl, by rw [UInt8.toNat_ofNat']; omega⟩

theorem ret_str {l m : List UInt8} (h : l = m) : Ending.returned (.string ⟨l.toArray⟩) = .returned (.string ⟨m.toArray⟩) := by rw [h]
theorem ret_str_bool {l m : List UInt8} {b c : Bool} (h : l = m) (k : b = c) : Ending.returned (.tuple #[.string ⟨l.toArray⟩, .bool b]) = .returned (.tuple #[.string ⟨m.toArray⟩, .bool c]) := by rw [h, k]
/-- A row that 'make([]byte, 0, n)' has just laid. -/
theorem owns_made (w : World) (e : TypeId) (cap : Nat) (cur : Array Value) (hc : cap ≤ maxLen) (hs : cur.size = cap) : (w.alloc (.cells cur e)).ownsRow w.heap.size e 1 (.slice (some ⟨w.heap.size, 0, none⟩) 0 cap) 0 [] :=
  World.ownsRow_made w cur cap (Nat.le_refl _) hc (by omega)

/-- Byte k of a text as a number, 0 past its end. -/
def byt (s : ByteArray) (k : Nat) : Nat := (s.data.toList[k]?.getD 0).toNat
theorem get_byt (s : ByteArray) : ∀ (k : Nat) (h : k < s.size), (s[k]'h).toNat = byt s k := by
  intro k h
  have h' : k < s.data.toList.length := by simpa using h
  unfold byt
  rw [List.getElem?_eq_getElem h']
  rfl
theorem byt_le (s : ByteArray) (k : Nat) : byt s k ≤ 255 := by
  unfold byt
  have := (s.data.toList[k]?.getD 0).toNat_lt
  omega
theorem byt_some (s : ByteArray) (k : Nat) (h : k < s.size) : s.data.toList[k]? = some (UInt8.ofNat (byt s k)) := by
  have h' : k < s.data.toList.length := by simpa using h
  unfold byt
  rw [List.getElem?_eq_getElem h']
  simp
theorem hide1 {p : Prop} (h : p) : Hid p := h

/-- 'string([]byte{b})'. -/
theorem conv_one {P : Program} (w : World) (src dst e : TypeId) (hs : P.underlying src = some (.slice e)) (he : P.underlying e = some (.int .u8)) (hd : P.underlying dst = some .string) (b : UInt8) (k : Int) (hk : (b.toNat : Int) = k) :
    (convert src dst (.slice (some ⟨w.heap.size, 0, none⟩) 1 1)).run P (w.alloc (.cells #[.int .u8 k] e)) = .ok (.string ⟨#[b]⟩) (w.alloc (.cells #[.int .u8 k] e)) := by
  subst hk
  have := run_convert_bytes_back (P := P) (w.alloc (.cells #[.int .u8 (b.toNat : Int)] e)) src dst e ⟨w.heap.size, 0, none⟩ 1 [b] hs he hd (by
    intro j hj
    exact cell_one_new w _ e j _ (by simp at hj; subst hj; rfl))
  exact this
end Go.Proofs.Ytcahaimefgkmiaa
