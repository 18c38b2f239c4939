/- New cells, and a new table, by the model. -/
import Derived.Test.YtenmpciimocggaaGreatXC
import Derived.Test.YtenmpciimocggaaGreatXD
import Derived.Test.YtenmpciimocggaaGreatXHH
import Derived.WalkSmall
namespace Go.Proofs.YtenmpciimocggaaGreat
open Go.RowKit

/-- 'out = append(out, c)' of one cell, out a row of the call's own. -/
theorem wpList_push2 {P : Program} {w : World} {ops : Array Oper} {rest : List Oper} {o : Oper} {a : Act} {Q : Exit → Act → World → Prop} (hgd : o.guard = none) (s x : Operand) (t : TypeId)
    (ho : o.op = .call { callee := .builtin .append, args := #[s, x], argTypes := #[t, t] })
    (base : Nat) (e : TypeId) (i : TypeInfo) (ht : P.underlying t = some (.slice e)) (hi : P.info? e = some i) (hz : i.zero = some (ceV zC)) (hsize : i.size = 2) (hby : i.bytes = 24)
    (v : Value) (acc : List Ce) (n : Nat) (hs : a.eval s = v) (hown : w.ownsRow base e 2 v n (ces acc)) (u : Ce)
    (hx : a.eval x = .slice (some ⟨w.heap.size, 0, none⟩) 1 1) (hlen : n ≤ 1048576) (hbase : base ≤ w.heap.size)
    (h : ∀ v' w', w'.ownsRow base e 2 v' (n + 1) (ces (acc ++ [u])) → Below base w w' → wpList P ops Q rest (a.put o.dst v') w') :
    wpList P ops Q (o :: rest) a (w.alloc (.cells #[.string u.key, .int .i64 u.h] e)) := by
  refine wpList_append_own _ hgd s x t ho base e i (ceV zC) 2 24 ht hi hz hsize hby rfl (by decide) v n (ces acc) hs (hown.alloc _) ⟨w.heap.size, 0, none⟩ 1 1 (ceC u) hx rfl ?_ ?_ ?_ ?_ ?_ ?_
  · intro j y hj
    rw [Addr.add_lit, Nat.zero_add, World.cell?_alloc_at _ _ _ _ rfl, ← Array.getElem?_toList]
    exact hj
  · intro y hy
    simp [ceC] at hy
    rcases hy with rfl | rfl <;> rfl
  · unfold maxLen; omega
  · omega
  · rw [World.size_alloc]; omega
  · intro v' w' h1 h2 _
    refine h v' w' ?_ ?_
    · rw [ces_append]; simpa [ces] using h1
    · refine Below.grown ((Below.refl _ _).alloc hbase _) h2 (by rw [World.size_alloc]; omega) ?_
      intro k hk
      exact (hown.lt k hk).1
/-- A cell that nobody took. -/
def nC : Ce := ⟨⟨#[]⟩, -1⟩
theorem own_slice2 {w : World} {base n size : Nat} {e : TypeId} {v : Value} {xs : List Value} (h : w.ownsRow base e size v n xs) : ∃ ao cap, v = .slice ao n cap := by
  rcases h.2 with ⟨hv, h0⟩ | ⟨g, cap, cur, hv, _⟩
  · exact ⟨none, 0, by rw [h0]; exact hv⟩
  · exact ⟨_, cap, hv⟩
theorem owns_empty2 (w : World) (e : TypeId) : (w.alloc (.cells #[] e)).ownsRow w.heap.size e 2 (.slice (some ⟨w.heap.size, 0, none⟩) 0 0) 0 [] :=
  ⟨rfl, .inr ⟨w.heap.size, 0, #[], rfl, Nat.le_refl _, heap_alloc_new w _, Nat.le_refl _, Nat.zero_le _, rfl, rfl⟩⟩

set_option maxRecDepth 100000 in
set_option maxHeartbeats 400000 in
theorem specCells_any (n : Nat) (w : World) (hn : n ≤ 1048576) :
    Calls Tryz.prog 36 #[.int .i64 (n : Int)] w fun e w' => ∃ b c, e = .returned (.slice b n c) ∧ w'.ownsRow w.heap.size 102 2 (.slice b n c) n (ces (List.replicate n nC)) ∧ Below w.heap.size w w' := by
  obtain ⟨i0, hi0, hz0, hz1, hz2⟩ := info_parts Tryz.infoCell
  go_enter Tryz.func36, Tryz.ntmps36
  go_wp2
  go_loopw [3, 4] (fun lv iv wr => ∃ (i : Nat) (lo : Option Addr) (lc : Nat), i ≤ n ∧ iv = .int .i64 (i : Int) ∧ lv = .slice lo i lc ∧ Hid (wr.ownsRow w.heap.size 102 2 (.slice lo i lc) i (ces (List.replicate i nC))) ∧ Hid (Below w.heap.size w wr)) (fun _ iv _ => n - (intOf iv).toNat)
  case atStart => exact ⟨0, _, _, by omega, rfl, rfl, owns_empty2 w 102, (Below.refl _ _).alloc (Nat.le_refl _) _⟩
  case round =>
    obtain ⟨i, lo, lc, hi, rfl, rfl, hown, hbel⟩ := hrel
    by_cases hlt : i < n
    · have k1 : (i : Int) < (n : Int) := by omega
      have hbs := hbel.out.size
      go_wp2_with (at_builtin; (refine wpList_push2 rfl _ _ 28 rfl w.heap.size 102 i0 Tryz.underlying28 hi0 hz0 hz1 hz2 _ (List.replicate i nC) i rfl hown.out nC rfl (by omega) hbs ?_; intro v' w6 hown6 hb6))
      have O6 : Hid (w6.ownsRow w.heap.size 102 2 v' (i + 1) (ces (List.replicate (i + 1) nC))) := by
        show w6.ownsRow w.heap.size 102 2 v' (i + 1) (ces (List.replicate (i + 1) nC))
        rw [List.replicate_succ']
        exact hown6
      obtain ⟨lo', lc', rfl⟩ := own_slice2 O6.out
      have B6 := hide1 (hbel.out.trans hb6)
      clear hown6 hb6
      go_wp2
      go_roundw
      case rel => exact ⟨i + 1, lo', lc', by omega, by go_num, by first | rfl | (congr 1; omega), O6, B6⟩
      case measure => simp [intOf]; omega
    · obtain rfl : i = n := by omega
      go_wp2
      go_ret
      exact ⟨lo, lc, rfl, hown.out, hbel.out⟩
end Go.Proofs.YtenmpciimocggaaGreat
namespace Go.Proofs.YtenmpciimocggaaGreat
open Go.RowKit

/-- The first place without a key, from the i-th step on. -/
def freeD (l : List Ce) (p : Nat) : Nat → Nat → Option Nat
  | _, 0 => none
  | i, d + 1 => match l[(p + i) % l.length]? with
    | some x => if x.key.toList = [] then some ((p + i) % l.length) else freeD l p (i + 1) d
    | none => none
def freeC (l : List Ce) (key : ByteArray) : Option Nat := freeD l (hashN key 0 % l.length) 0 l.length
/-- How many of the first cells nobody took. -/
def noneN (l : List Ce) : Nat → Nat
  | 0 => 0
  | i + 1 => noneN l i + (match l[i]? with | some x => if x.key.toList = [] ∧ x.h = -1 then 1 else 0 | none => 0)
theorem noneN_le (l : List Ce) : ∀ i, noneN l i ≤ i
  | 0 => Nat.le_refl _
  | i + 1 => by
    have := noneN_le l i
    rw [noneN]
    split
    · split <;> omega
    · omega
theorem freeD_lt {l : List Ce} {p : Nat} : ∀ (d i k : Nat), freeD l p i d = some k → k < l.length
  | 0, _, _, h => by cases h
  | d + 1, i, k, h => by
    rw [freeD] at h
    split at h
    · rename_i x hx
      split at h
      · injection h with h; rw [← h]; exact (List.getElem?_eq_some_iff.1 hx).1
      · exact freeD_lt d (i + 1) k h
    · cases h

/-- A key put into cells where there is room. -/
def putC (l : List Ce) (key : ByteArray) (h : Int) : Option (List Ce) :=
  match freeC l key with
  | some k => match l[k]? with
    | some x => if noneN l l.length ≤ 1 ∧ x.h = -1 then none else some (l.set k ⟨key, h⟩)
    | none => none
  | none => none

end Go.Proofs.YtenmpciimocggaaGreat
namespace Go.Proofs.YtenmpciimocggaaGreat
open Go.RowKit

/-- A cell that is as it should be, alone. -/
def fitC (x : Ce) : Prop := (x.key.toList = [] ∧ (x.h = -1 ∨ x.h = -2)) ∨ (x.key.toList ≠ [] ∧ x.key.size ≤ 12 ∧ 0 ≤ x.h)
def FitC (l : List Ce) : Prop := ∀ i (h : i < l.length), fitC l[i]
/-- The way of a key: where it is, and the first cell without a key ahead of it. -/
def srchD (l : List Ce) (key : ByteArray) (p : Nat) : Nat → Nat → Option Nat → Option Nat × Option Nat
  | _, 0, f => (none, f)
  | i, d + 1, f => match l[(p + i) % l.length]? with
    | none => (none, f)
    | some x => if x.key.toList ≠ [] ∧ x.key.toList = key.toList then (some ((p + i) % l.length), f)
      else if x.h = -1 then (none, if x.key.toList = [] ∧ f = none then some ((p + i) % l.length) else f)
      else srchD l key p (i + 1) d (if x.key.toList = [] ∧ f = none then some ((p + i) % l.length) else f)
def srchC (l : List Ce) (key : ByteArray) : Option Nat × Option Nat := srchD l key (hashN key 0 % l.length) 0 l.length none
theorem srchD_lt {l : List Ce} {key : ByteArray} {p : Nat} : ∀ (d i : Nat) (f : Option Nat) (k : Nat), (srchD l key p i d f).1 = some k → k < l.length
  | 0, _, _, _, h => by cases h
  | d + 1, i, f, k, h => by
    rw [srchD] at h
    split at h
    · cases h
    · rename_i x hx
      split at h
      · injection h with h; rw [← h]; exact (List.getElem?_eq_some_iff.1 hx).1
      · split at h
        · cases h
        · exact srchD_lt d (i + 1) _ k h
theorem srchD_free_lt {l : List Ce} {key : ByteArray} {p : Nat} (hl : 0 < l.length) : ∀ (d i : Nat) (f : Option Nat) (k : Nat), (∀ j, f = some j → j < l.length) → (srchD l key p i d f).2 = some k → k < l.length
  | 0, _, _, _, hf, h => hf _ h
  | d + 1, i, f, k, hf, h => by
    have hf' : ∀ (x : Ce) j, (if x.key.toList = [] ∧ f = none then some ((p + i) % l.length) else f) = some j → j < l.length := by
      intro x j hj
      split at hj
      · injection hj with hj; rw [← hj]; exact Nat.mod_lt _ hl
      · exact hf j hj
    rw [srchD] at h
    split at h
    · exact hf _ h
    · rename_i x hx
      split at h
      · exact hf _ h
      · split at h
        · exact hf' x _ h
        · exact srchD_free_lt hl d (i + 1) _ k (hf' x) h
/-- Among fitting cells both ways find the same. -/
theorem srchD_seek {l : List Ce} {key : ByteArray} {p : Nat} (hF : FitC l) (hk : key.toList ≠ []) : ∀ (d i : Nat) (f : Option Nat), (srchD l key p i d f).1 = seekD l key p i d
  | 0, _, _ => rfl
  | d + 1, i, f => by
    rw [srchD, seekD, stepS]
    cases hx : l[(p + i) % l.length]? with
    | none => rfl
    | some x =>
      have hfx : fitC x := by
        obtain ⟨h1, h2⟩ := List.getElem?_eq_some_iff.1 hx
        rw [← h2]; exact hF _ h1
      simp only []
      by_cases e1 : x.key.toList = key.toList
      · have hne : x.key.toList ≠ [] := by rw [e1]; exact hk
        rcases hfx with ⟨h, _⟩ | ⟨_, _, h⟩
        · exact absurd h hne
        · rw [if_pos ⟨hne, e1⟩, if_pos ⟨e1, h⟩]
      · rw [if_neg (show ¬ (x.key.toList ≠ [] ∧ x.key.toList = key.toList) from fun h => e1 h.2), if_neg (show ¬ (x.key.toList = key.toList ∧ 0 ≤ x.h) from fun h => e1 h.1)]
        by_cases e2 : x.h = -1
        · have hem : x.key.toList = [] := by
            rcases hfx with ⟨h, _⟩ | ⟨_, _, h⟩
            · exact h
            · omega
          rw [if_pos e2, if_pos (show x.key.toList = [] ∧ x.h = -1 from ⟨hem, e2⟩)]
        · rw [if_neg e2, if_neg (show ¬ (x.key.toList = [] ∧ x.h = -1) from fun h => e2 h.2)]
          exact srchD_seek hF hk d (i + 1) _
theorem srchD_some {l : List Ce} {key : ByteArray} {p : Nat} (k : Nat) : ∀ (d i : Nat), (srchD l key p i d (some k)).2 = some k
  | 0, _ => rfl
  | d + 1, i => by
    rw [srchD]
    have e : ∀ x : Ce, (if x.key.toList = [] ∧ some k = none then some ((p + i) % l.length) else some k) = some k := fun x => if_neg (fun h => by cases h.2)
    split
    · rfl
    · rename_i x hx
      split
      · rfl
      · rw [e]
        split
        · rfl
        · exact srchD_some k d (i + 1)
/-- Where the key is not, the first cell without a key is the model's. -/
theorem srchD_free {l : List Ce} {key : ByteArray} {p : Nat} (hF : FitC l) : ∀ (d i : Nat), (srchD l key p i d none).1 = none → (srchD l key p i d none).2 = freeD l p i d
  | 0, _, _ => rfl
  | d + 1, i, h => by
    rw [srchD] at h ⊢
    rw [freeD]
    cases hx : l[(p + i) % l.length]? with
    | none => rfl
    | some x =>
      rw [hx] at h
      have hfx : fitC x := by
        obtain ⟨h1, h2⟩ := List.getElem?_eq_some_iff.1 hx
        rw [← h2]; exact hF _ h1
      simp only [] at h ⊢
      by_cases e1 : x.key.toList ≠ [] ∧ x.key.toList = key.toList
      · rw [if_pos e1] at h; cases h
      · rw [if_neg e1] at h ⊢
        by_cases e0 : x.key.toList = []
        · rw [if_pos e0, if_pos (show x.key.toList = [] ∧ True from ⟨e0, trivial⟩)]
          by_cases e2 : x.h = -1
          · rw [if_pos e2]
          · rw [if_neg e2]; exact srchD_some _ d (i + 1)
        · have e2 : ¬ x.h = -1 := by
            rcases hfx with ⟨h, _⟩ | ⟨_, _, h⟩
            · exact absurd h e0
            · omega
          rw [if_neg e2, if_neg (show ¬ (x.key.toList = [] ∧ True) from fun h => e0 h.1)] at h ⊢
          rw [if_neg e0]
          exact srchD_free hF d (i + 1) h
theorem srchD_none {l : List Ce} {key : ByteArray} {p : Nat} (hk : key.toList = []) : ∀ (d i : Nat) (f : Option Nat), (srchD l key p i d f).1 = none
  | 0, _, _ => rfl
  | d + 1, i, f => by
    rw [srchD]
    split
    · rfl
    · rw [if_neg (fun h => h.1 (by rw [h.2]; exact hk))]
      split
      · rfl
      · exact srchD_none hk d (i + 1) _
theorem srchC_seek {l : List Ce} {key : ByteArray} (hF : FitC l) (hk : key.toList ≠ []) : (srchC l key).1 = seekC l key := srchD_seek hF hk _ _ _
theorem srchC_free {l : List Ce} {key : ByteArray} (hF : FitC l) (h : (srchC l key).1 = none) : (srchC l key).2 = freeC l key := srchD_free hF _ _ h
theorem srchC_none {l : List Ce} {key : ByteArray} (hk : key.toList = []) : (srchC l key).1 = none := srchD_none hk _ _ _
theorem srchC_lt {l : List Ce} {key : ByteArray} {k : Nat} (h : (srchC l key).1 = some k) : k < l.length := srchD_lt _ _ _ _ h
/-- How many of the first cells have CellNone as their handle. -/
def cntN (l : List Ce) : Nat → Nat
  | 0 => 0
  | i + 1 => cntN l i + (match l[i]? with | some x => if x.h = -1 then 1 else 0 | none => 0)
theorem cntN_le (l : List Ce) : ∀ i, cntN l i ≤ i
  | 0 => Nat.le_refl _
  | i + 1 => by
    have := cntN_le l i
    rw [cntN]
    split
    · split <;> omega
    · omega
theorem cntN_noneN {l : List Ce} (hF : FitC l) : ∀ i, cntN l i = noneN l i
  | 0 => rfl
  | i + 1 => by
    rw [cntN, noneN, cntN_noneN hF i]
    congr 1
    cases hx : l[i]? with
    | none => rfl
    | some x =>
      have hfx : fitC x := by
        obtain ⟨h1, h2⟩ := List.getElem?_eq_some_iff.1 hx
        rw [← h2]; exact hF _ h1
      simp only []
      by_cases e : x.h = -1
      · rw [if_pos e, if_pos]
        refine ⟨?_, e⟩
        rcases hfx with ⟨h, _⟩ | ⟨_, _, h⟩
        · exact h
        · omega
      · rw [if_neg e, if_neg (fun h => e h.2)]
theorem noneN_pos {l : List Ce} : ∀ (n i : Nat) (h : i < l.length), i < n → isNone l[i] → 0 < noneN l n
  | 0, _, _, hn, _ => by omega
  | n + 1, i, h, hn, hx => by
    rw [noneN]
    by_cases e : i = n
    · subst e
      rw [List.getElem?_eq_getElem h]
      simp only []
      rw [if_pos (show l[i].key.toList = [] ∧ l[i].h = -1 from hx)]
      omega
    · have := noneN_pos n i h (by omega) hx
      omega
theorem noneN_has {l : List Ce} : ∀ (n : Nat), 0 < noneN l n → ∃ i, ∃ h : i < l.length, isNone l[i]
  | 0, h => by cases h
  | n + 1, h => by
    rw [noneN] at h
    by_cases e : 0 < noneN l n
    · exact noneN_has n e
    · cases hx : l[n]? with
      | none => rw [hx] at h; simp only [] at h; omega
      | some x =>
        rw [hx] at h
        simp only [] at h
        obtain ⟨h1, h2⟩ := List.getElem?_eq_some_iff.1 hx
        by_cases e2 : x.key.toList = [] ∧ x.h = -1
        · exact ⟨n, h1, by rw [h2]; exact e2⟩
        · rw [if_neg e2] at h; omega
theorem noneN_need {l : List Ce} : 0 < noneN l l.length ↔ ∃ i, ∃ h : i < l.length, isNone l[i] :=
  ⟨noneN_has _, fun ⟨i, h, hx⟩ => noneN_pos _ i h h hx⟩
/-- Each key is found at its own cell. -/
def Found (l : List Ce) : Prop := ∀ i (h : i < l.length), l[i].key.toList ≠ [] → (srchC l l[i].key).1 = some i
theorem ok_iff {l : List Ce} : (∀ i (h : i < l.length), okC l i l[i]) ↔ FitC l ∧ Found l := by
  constructor
  · intro h
    have hF : FitC l := fun i hi => by
      obtain ⟨h1, h2⟩ := h i hi
      by_cases e : l[i].key.toList = []
      · exact .inl ⟨e, h1 e⟩
      · exact .inr ⟨e, (h2 e).1, (h2 e).2.1⟩
    exact ⟨hF, fun i hi e => by rw [srchC_seek hF e]; exact ((h i hi).2 e).2.2⟩
  · rintro ⟨hF, hO⟩ i hi
    refine ⟨fun e => ?_, fun e => ?_⟩
    · rcases hF i hi with ⟨_, h⟩ | ⟨h, _⟩
      · exact h
      · exact absurd e h
    · rcases hF i hi with ⟨h, _⟩ | ⟨_, h1, h2⟩
      · exact absurd h e
      · exact ⟨h1, h2, by rw [← srchC_seek hF e]; exact hO i hi e⟩
/-- What the program asks of a table whose numbers are as they should be. -/
structure OkI (l o : List Ce) (mv : Nat) : Prop where
  f1 : FitC l
  f2 : FitC o
  none : 0 < cntN l l.length
  gone : ∀ i (h : i < o.length), i < mv → o[i].h = -2
  s1 : Found l
  s2 : Found o
  apart : ∀ i (h : i < o.length), (srchC l o[i].key).1 = Option.none
theorem okT_iff {l o : List Ce} {mv : Nat} (hs : l.length = 4 ∨ l.length = 8 ∨ l.length = 16 ∨ l.length = 32 ∨ l.length = 64) (hh : o.length = 0 ∨ 2 * o.length = l.length) (hm : mv ≤ o.length) : OkT l o (mv : Int) ↔ OkI l o mv := by
  constructor
  · intro h
    obtain ⟨f1, s1⟩ := ok_iff.1 h.cells.1
    obtain ⟨f2, s2⟩ := ok_iff.1 h.olds.1
    refine ⟨f1, f2, by rw [cntN_noneN f1]; exact noneN_need.2 (h.cells.2 rfl), fun i hi hlt => ((h.old i hi).1 (by omega)).2, s1, s2, fun i hi => ?_⟩
    by_cases e : o[i].key.toList = []
    · exact srchC_none e
    · rw [srchC_seek f1 e]; exact (h.old i hi).2 e
  · intro h
    refine ⟨hs, hh, ⟨by omega, by omega⟩, ⟨ok_iff.2 ⟨h.f1, h.s1⟩, fun _ => noneN_need.1 (by rw [← cntN_noneN h.f1]; exact h.none)⟩, ⟨ok_iff.2 ⟨h.f2, h.s2⟩, fun e => by cases e⟩, fun i hi => ⟨fun hlt => ?_, fun e => ?_⟩⟩
    · have hg := h.gone i hi (by omega)
      refine ⟨?_, hg⟩
      rcases h.f2 i hi with ⟨h1, _⟩ | ⟨_, _, h1⟩
      · exact h1
      · omega
    · rw [← srchC_seek h.f1 e]; exact h.apart i hi
/-- Laying a key that is not there is the model's putting. -/
theorem putC_srch {l : List Ce} {key : ByteArray} (hF : FitC l) (h0 : (srchC l key).1 = none) (h : Int) :
    putC l key h = match (srchC l key).2 with
      | none => none
      | some k => match l[k]? with
        | some x => if x.h = -1 ∧ cntN l l.length = 1 then none else some (l.set k ⟨key, h⟩)
        | none => none := by
  rw [putC, ← srchC_free hF h0]
  cases (srchC l key).2 with
  | none => rfl
  | some k =>
    simp only []
    cases hx : l[k]? with
    | none => rfl
    | some x =>
      simp only []
      rw [cntN_noneN hF]
      by_cases e : x.h = -1
      · obtain ⟨h1, h2⟩ := List.getElem?_eq_some_iff.1 hx
        have hem : isNone l[k] := by
          rcases hF k h1 with ⟨h, _⟩ | ⟨_, _, h⟩
          · exact ⟨h, by rw [h2]; exact e⟩
          · rw [h2] at h; omega
        have hp := noneN_pos _ k h1 h1 hem
        by_cases e2 : noneN l l.length = 1
        · rw [if_pos ⟨by omega, e⟩, if_pos ⟨e, e2⟩]
        · rw [if_neg (fun h => by omega), if_neg (fun h => e2 h.2)]
      · rw [if_neg (fun h => e h.2), if_neg (fun h => e h.1)]
end Go.Proofs.YtenmpciimocggaaGreat
namespace Go.Proofs.YtenmpciimocggaaGreat
open Go.RowKit
end Go.Proofs.YtenmpciimocggaaGreat
