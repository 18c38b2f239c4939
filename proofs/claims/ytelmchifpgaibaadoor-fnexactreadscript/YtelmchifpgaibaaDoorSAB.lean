/- Bytes appended to a row of the call's own inside a statement whose order Go leaves open; no condition but those stated. -/
import Derived.Test.YtelmchifpgaibaaDoorSAA
import Derived.Deep.RegionLaw
import Derived.Test.YtelmchifpgaibaaDoorProg
import Derived.Deep.RegionHeld3
import Derived.Deep.QuietTactic
import Derived.BigQuiet
namespace Go.Proofs.YtelmchifpgaibaaDoor
open Go.RowKit

/-- 'out = append(out, b ..)' as one step of a region that draws its order. -/
theorem step_push {P : Program} {w : World} {ops : Array Oper} {o : Oper} {a : Act} {K : Act → World → Prop} {Q : Exit → Act → World → Prop} {E : Prop} (hgd : o.guard = none) (s x : Operand) (t : TypeId)
    (ho : o.op = .call { callee := .builtin .append, args := #[s, x], argTypes := #[t, t] })
    (base : Nat) (e : TypeId) (i : TypeInfo) (ht : P.underlying t = some (.slice e)) (hi : P.info? e = some i) (hz : i.zero = some (.int .u8 0)) (hsize : i.size = 1) (hby : i.bytes = 1)
    (v : Value) (acc : List UInt8) (hs : a.eval s = v) (hown : w.ownsRow base e 1 v acc.length (bc acc)) (nb : List UInt8) (ad : Addr) (m c : Nat) (hm : nb.length = m) (hx : a.eval x = .slice (some ad) m c)
    (hnews : ∀ j u, (bc nb)[j]? = some u → w.cell? (ad.add j) = some u) (hlen : acc.length + m ≤ 70368744177664) (hbase : base ≤ w.heap.size)
    (h : ∀ v' w', w'.ownsRow base e 1 v' (acc ++ nb).length (bc (acc ++ nb)) → Below base w w' → K (a.put o.dst v') w') :
    if Region.wanted o (yielded ops a.tmps) = true then Oper.wp P o a w K Q else E := by
  have hw : Region.wanted o (yielded ops a.tmps) = true := by simp [Region.wanted, hgd]
  rw [if_pos hw]
  refine wp_append_own _ s x t ho base e i (.int .u8 0) 1 1 ht hi hz hsize hby rfl (by decide) v acc.length (bc acc) hs hown ad m c (bc nb) hx (by rw [bc_length]; omega) hnews (bc_one _) (by unfold maxLen; omega) (by omega) hbase ?_
  intro v' w' h1 h2 _
  refine h v' w' ?_ ?_
  · rw [bc_append, List.length_append, hm]; exact h1
  · refine Below.grown (Below.refl _ _) h2 hbase ?_
    intro k hk
    exact (hown.lt k hk).1

/-- 's[i]' of a text. -/
theorem index_byt {P : Program} (t : TypeId) (h : P.underlying t = some .string) (s : ByteArray) (k : Nat) (a : Int) (ha : a = (k : Int)) (hk : k < s.size) (w : World) :
    (Instr.index t (.string s) (.int .i64 a)).run P w = .ok (.int .u8 (byt s k : Int)) w := by
  subst ha
  have hk' : (k : Int) < (s.size : Int) := by omega
  have hb := get_byt s
  simp [go_sem, h, hk', hb]
end Go.Proofs.YtelmchifpgaibaaDoor
namespace Go.Proofs.YtelmchifpgaibaaDoor
open Go.RowKit

/-- 'out = append(out, u)', u of one cell, out a row of the call's own. -/
theorem wpList_push1 {P : Program} {w : World} {ops : Array Oper} {rest : List Oper} {o : Oper} {a : Act} {Q : Exit → Act → World → Prop} (hgd : o.guard = none) (s x : Operand) (t : TypeId)
    (ho : o.op = .call { callee := .builtin .append, args := #[s, x], argTypes := #[t, t] })
    (base : Nat) (e : TypeId) (i : TypeInfo) (z : Value) (bytes : Nat) (ht : P.underlying t = some (.slice e)) (hi : P.info? e = some i) (hz : i.zero = some z) (hsize : i.size = 1) (hby : i.bytes = bytes) (hzc : z.cells.size = 1) (hb64 : bytes ≤ 64)
    (v : Value) (n : Nat) (xs : List Value) (hs : a.eval s = v) (hown : w.ownsRow base e 1 v n xs) (u : Value) (hu : u.oneCell' = true)
    (hx : a.eval x = .slice (some ⟨w.heap.size, 0, none⟩) 1 1) (hlen : n ≤ 1048576) (hbase : base ≤ w.heap.size)
    (h : ∀ v' w', w'.ownsRow base e 1 v' (n + 1) (xs ++ [u]) → Below base w w' → wpList P ops Q rest (a.put o.dst v') w') :
    wpList P ops Q (o :: rest) a (w.alloc (.cells #[u] e)) := by
  refine wpList_append_own _ hgd s x t ho base e i z 1 bytes ht hi hz hsize hby hzc (by decide) v n xs hs (hown.alloc _) ⟨w.heap.size, 0, none⟩ 1 1 [u] hx rfl (cell_one_new _ _ _) ?_ ?_ ?_ ?_ ?_
  · intro u' hu'; simp at hu'; subst hu'; exact hu
  · unfold maxLen; omega
  · have : (n + 1) * bytes ≤ (n + 1) * 64 := Nat.mul_le_mul_left _ hb64
    omega
  · rw [World.size_alloc]; omega
  · intro v' w' h1 h2 _
    refine h v' w' h1 ?_
    refine Below.grown ((Below.refl _ _).alloc hbase _) h2 (by rw [World.size_alloc]; omega) ?_
    intro k hk
    exact (hown.lt k hk).1

theorem own_slice {w : World} {base n : Nat} {e : TypeId} {v : Value} {xs : List Value} (h : w.ownsRow base e 1 v n xs) : ∃ ao cap, v = .slice ao n cap := by
  rcases h.2 with ⟨hv, h0⟩ | ⟨g, cap, cur, hv, _⟩
  · exact ⟨none, 0, by rw [h0]; exact hv⟩
  · exact ⟨_, cap, hv⟩

/-- The cells of a row of texts. -/
def sc (l : List ByteArray) : List Value := l.map Value.string
theorem sc_append (l m : List ByteArray) : sc (l ++ m) = sc l ++ sc m := by simp [sc]
theorem owns_empty (w : World) (e : TypeId) : (w.alloc (.cells #[] e)).ownsRow w.heap.size e 1 (.slice (some ⟨w.heap.size, 0, none⟩) 0 0) 0 [] :=
  ⟨rfl, .inr ⟨w.heap.size, 0, #[], rfl, Nat.le_refl _, heap_alloc_new w _, Nat.le_refl _, Nat.zero_le _, rfl, rfl⟩⟩
end Go.Proofs.YtelmchifpgaibaaDoor
namespace Go.Proofs.YtelmchifpgaibaaDoor
open Go.RowKit

/-- The decimal figures of a number, the highest first. -/
def decF : Nat → Nat → List UInt8 → List UInt8
  | 0, _, acc => acc
  | f + 1, n, acc => if 0 < n then decF f (n / 10) (UInt8.ofNat (48 + n % 10) :: acc) else acc
/-- The text of a mark. -/
def mkT (k : Nat) : ByteArray := ⟨#[109]⟩ ++ ⟨(decF 20 k []).toArray⟩

structure MkAt (n f m : Nat) (acc : List UInt8) : Prop where
  bd : m < 10 ^ f
  eq : decF f m acc = decF 20 n []
  len : acc.length + f = 20
theorem MkAt.start (n : Nat) (h : n ≤ 9223372036854775807) : MkAt n 20 n [] := ⟨by omega, rfl, rfl⟩
theorem MkAt.step {n f m : Nat} {acc : List UInt8} (h : MkAt n f m acc) (hm : 0 < m) : ∃ g, MkAt n g (m / 10) (UInt8.ofNat (48 + m % 10) :: acc) := by
  cases f with
  | zero => have := h.bd; omega
  | succ f =>
    refine ⟨f, ?_, ?_, ?_⟩
    · have := h.bd; rw [Nat.pow_succ] at this; omega
    · rw [← h.eq, decF, if_pos hm]
    · have := h.len; simp; omega
theorem MkAt.stop {n f m : Nat} {acc : List UInt8} (h : MkAt n f m acc) (hm : ¬ 0 < m) : acc = decF 20 n [] := by
  rw [← h.eq]
  cases f with
  | zero => rfl
  | succ f => rw [decF, if_neg hm]

set_option maxHeartbeats 400000 in
theorem markText_any (n : Nat) (w : World) (hn : n ≤ 9223372036854775807) (h0 : 0 < n) :
    Calls Tryd.prog 22 #[.int .i64 n] w fun e w' => e = .returned (.string (mkT n)) ∧ Below w.heap.size w w' := by
  have q1 : decide ((n : Int) ≤ 0) = false := by simp; omega
  go_enter Tryd.func22, Tryd.ntmps22
  go_wp2
  go_loopw [0, 3] (fun nv zv wr => ∃ (f m : Nat) (acc : List UInt8) (z : ByteArray), nv = .int .i64 (m : Int) ∧ m ≤ 9223372036854775807 ∧ Hid (MkAt n f m acc) ∧ zv = .string z ∧ Hid (z = ⟨acc.toArray⟩) ∧ z.size ≤ 20 ∧ Below w.heap.size w wr) (fun nv _ _ => (intOf nv).toNat)
  case atStart => exact ⟨20, n, [], ⟨#[]⟩, rfl, hn, MkAt.start n hn, rfl, rfl, by decide, Below.refl _ _⟩
  case round =>
    obtain ⟨f, m, acc, z, rfl, hm, hd, rfl, hz, hzs, hbel⟩ := hrel
    have hbs := hbel.size
    by_cases hlt : 0 < m
    · obtain ⟨b, hbe, hbn⟩ := byte_of (48 + m % 10) (by omega)
      have hcv := conv_one (P := Tryd.prog) wr 59 9 5 Tryd.underlying59 Tryd.underlying5 Tryd.underlying9 b (48 + (m : Int) % 10) (by omega)
      have hb1 : ({ data := #[b] } : ByteArray).size = 1 := rfl
      obtain ⟨y, hy⟩ : ∃ y : ByteArray, y = { data := #[b] } := ⟨_, rfl⟩
      rw [← hy] at hcv hb1
      have Y : Hid _ := hy
      clear hy hbn
      go_wp2
      go_roundw
      case rel =>
        obtain ⟨g, hg⟩ := hd.out.step hlt
        have e : y ++ z = ⟨(b :: acc).toArray⟩ := by
          rw [Y.out, hz.out]
          apply ByteArray.ext
          simp [ByteArray.data_append]
        refine ⟨g, m / 10, b :: acc, y ++ z, by go_num, by omega, by rw [hbe.out]; exact hg, rfl, e, ?_, hbel.alloc hbs _⟩
        rw [e]
        have := hg.len
        show (b :: acc).toArray.size ≤ 20
        simp at this ⊢
        omega
      case measure => simp [intOf]; omega
    · go_wp2
      go_ret
      refine ⟨?_, hbel⟩
      show Ending.returned (.string (⟨#[109]⟩ ++ z)) = _
      unfold mkT
      rw [hz.out, hd.out.stop hlt]
end Go.Proofs.YtelmchifpgaibaaDoor
namespace Go.Proofs.YtelmchifpgaibaaDoor
open Go.RowKit

/-- A slice of n texts, text j being f j, lies in memory. -/
def RdS (w : World) (ao : Option Addr) (n : Nat) (f : Nat → ByteArray) : Prop := ∀ j, j < n → ∃ g, ao = some ⟨g, 0, none⟩ ∧ g < w.heap.size ∧ w.cell? ⟨g, j, none⟩ = some (.string (f j))
theorem RdS.below {w w' : World} {ao : Option Addr} {n B : Nat} {f : Nat → ByteArray} (h : RdS w ao n f) (hB : Below B w w') (hle : w.heap.size ≤ B) : RdS w' ao n f := by
  intro j hj
  obtain ⟨g, h1, h2, h3⟩ := h j hj
  exact ⟨g, h1, Nat.lt_of_lt_of_le h2 hB.size, (hB.cell (p := ⟨g, j, none⟩) (Nat.lt_of_lt_of_le h2 hle)).trans h3⟩

/-- A row of the call's own, its first i texts marked from k on. -/
def mkRow (k : Nat) (xs : List Value) : Nat → List Value
  | 0 => xs
  | i + 1 => (mkRow k xs i).set i (.string (mkT (k + i)))
theorem mkRow_length (k : Nat) (xs : List Value) (i : Nat) : (mkRow k xs i).length = xs.length := by
  induction i with
  | zero => rfl
  | succ i ih => simp [mkRow, ih]
theorem mkRow_at (k : Nat) (xs : List Value) : ∀ i, i ≤ xs.length → ∀ j, j < i → (mkRow k xs i)[j]? = some (.string (mkT (k + j)))
  | 0, _, j, hj => by omega
  | i + 1, hi, j, hj => by
    rw [mkRow, List.getElem?_set]
    by_cases e : i = j
    · rw [if_pos e, if_pos (by rw [mkRow_length]; omega), e]
    · rw [if_neg e]; exact mkRow_at k xs i (by omega) j (by omega)

theorem own_below {w w' : World} {base n : Nat} {e : TypeId} {v : Value} {xs : List Value} (h : w.ownsRow base e 1 v n xs) (hB : Below w.heap.size w w') : w'.ownsRow base e 1 v n xs := by
  refine ⟨h.1, ?_⟩
  rcases h.2 with h2 | ⟨g, cap, cur, hv, hg, hh, r⟩
  · exact .inl h2
  · exact .inr ⟨g, cap, cur, hv, hg, by rw [hB.block g (Array.getElem?_eq_some_iff.1 hh).1]; exact hh, r⟩

theorem rds_of_own {w : World} {base n ca : Nat} {e : TypeId} {ao : Option Addr} {xs : List Value} {f : Nat → ByteArray} (h : w.ownsRow base e 1 (.slice ao n ca) n xs) (hf : ∀ j, j < n → xs[j]? = some (.string (f j))) : RdS w ao n f := by
  intro j hj
  rcases h.2 with ⟨hv, h0⟩ | ⟨g, cap, cur, hv, _, hh, _⟩
  · omega
  · have hg : (Value.slice ao n ca).ownBlock = some g := by rw [hv]; rfl
    simp only [Value.slice.injEq] at hv
    refine ⟨g, hv.1, (Array.getElem?_eq_some_iff.1 hh).1, ?_⟩
    have := h.cells hg j _ (hf j hj)
    rw [Addr.add_lit, Nat.zero_add] at this
    exact this
theorem sc_at (l : List ByteArray) : ∀ j, j < l.length → (sc l)[j]? = some (.string (l.getD j ⟨#[]⟩)) := by
  intro j hj
  simp [sc, hj]
end Go.Proofs.YtelmchifpgaibaaDoor
