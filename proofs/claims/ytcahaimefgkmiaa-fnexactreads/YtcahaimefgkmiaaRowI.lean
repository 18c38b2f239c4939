/- Rows of elements of several cells: a copy that one more is put behind, as steps of a region. -/
import Derived.Test.YtcahaimefgkmiaaRowH
namespace Go.Proofs.Ytcahaimefgkmiaa
open Go.RowKit
set_option linter.unusedVariables false

/-- Blocks that were made, wherever the order is drawn. -/
theorem blkE1 (u : World) (t : TypeId) {cs : Array Value} : Blk (u.alloc (.cells cs t)).drew u.heap.size t cs.toList := Blk.new u t cs
theorem blkE2 (u : World) (t : TypeId) (o : Obj) {cs : Array Value} : Blk ((u.alloc (.cells cs t)).alloc o).drew u.heap.size t cs.toList := Blk.more (Blk.new u t cs) o
theorem blkE3 (u : World) (t : TypeId) (o : Obj) {cs : Array Value} : Blk ((u.alloc o).alloc (.cells cs t)).drew (u.heap.size + 1) t cs.toList := by
  have := Blk.new (u.alloc o) t cs
  rw [World.size_alloc] at this
  exact this
theorem zM1 {u w7 : World} {c d : Array Value} {t s : TypeId} (hb : ((u.alloc (.cells c t)).alloc (.cells d s)).grownBy w7 (some u.heap.size)) : Blk w7 (u.heap.size + 1) s d.toList := gblk hb (blkN2 u c d t s).2.1 (by intro e; injection e; omega)
theorem zM2 {u w7 : World} {c d : Array Value} {t s : TypeId} (hb : ((u.alloc (.cells c t)).alloc (.cells d s)).grownBy w7 (some (u.heap.size + 1))) : Blk w7 u.heap.size t c.toList := gblk hb (blkN2 u c d t s).1 (by intro e; injection e; omega)
theorem zM1D {u w7 : World} {c d : Array Value} {t s : TypeId} (hb : ((u.alloc (.cells c t)).alloc (.cells d s)).drew.grownBy w7 (some u.heap.size)) : Blk w7 (u.heap.size + 1) s d.toList := gblk (w := ((u.alloc (.cells c t)).alloc (.cells d s)).drew) hb (blkN2 u c d t s).2.1 (by intro e; injection e; omega)
theorem zM2D {u w7 : World} {c d : Array Value} {t s : TypeId} (hb : ((u.alloc (.cells c t)).alloc (.cells d s)).drew.grownBy w7 (some (u.heap.size + 1))) : Blk w7 u.heap.size t c.toList := gblk (w := ((u.alloc (.cells c t)).alloc (.cells d s)).drew) hb (blkN2 u c d t s).1 (by intro e; injection e; omega)
section
variable {P : Program} {α : Type} {enc : α → List Value} {k : Nat} {t e : TypeId}
theorem own_none {w : World} {base g : Nat} (hE : Blk w g e []) (hg : base ≤ g) : w.ownsRow base e k (.slice (some ⟨g, 0, none⟩) 0 0) 0 (rowG enc ([] : List α)) :=
  ⟨by simp [rowG], .inr ⟨g, 0, #[], rfl, hg, hE, Nat.le_refl _, Nat.zero_le _, by simp, by simp [rowG]⟩⟩
theorem own_len {w : World} {base n : Nat} {v : Value} {l : List α} (E : EncK enc k) (hk : 0 < k) (h : w.ownsRow base e k v n (rowG enc l)) : l.length = n := by
  have := h.1
  rw [rowG_length enc k E.len] at this
  exact Nat.eq_of_mul_eq_mul_right hk this
theorem rd_one {w : World} {q : Nat} {y : α} (E : EncK enc k) (hM : Blk w q e (enc y)) : RdG enc k w (some ⟨q, 0, none⟩) [y] := by
  intro i hi
  have hi : i = 0 := by simp at hi; omega
  subst hi
  refine ⟨q, 0, rfl, hM.lt, fun j hj => ?_⟩
  rw [Nat.zero_mul, Nat.zero_add, hM.cell j]
  rfl
theorem form_of {w : World} {base n : Nat} {v : Value} {xs : List Value} (h : w.ownsRow base e k v n xs) : ∃ a ca, v = .slice a n ca := by
  rcases h.2 with ⟨rfl, h0⟩ | ⟨g, cap, cur, rfl, _⟩
  · exact ⟨none, 0, by rw [h0]⟩
  · exact ⟨_, _, rfl⟩
theorem step_copyG {ops : Array Oper} {o : Oper} {a : Act} {w : World} {K : Act → World → Prop} {Q : Exit → Act → World → Prop} {D : Prop} (E : EncK enc k) (R : RowK P t e k) (hgd : o.guard = none) (s x : Operand)
    (ho : o.op = .call { callee := .builtin .append, args := #[s, x], argTypes := #[t, t] }) (base g : Nat) (hs : a.eval s = .slice (some ⟨g, 0, none⟩) 0 0) (hE : Blk w g e []) (hg : base ≤ g) (ao : Option Addr) (m c : Nat) (l2 : List α) (hx : a.eval x = .slice ao m c) (hm : l2.length = m) (hA : RdG enc k w ao l2) (hlen : m ≤ 1048576)
    (h : ∀ b' c' w', w'.ownsRow base e k (.slice b' m c') m (rowG enc l2) → Below base w w' → w.grownBy w' (some g) → K (a.put o.dst (.slice b' m c')) w') :
    if Region.wanted o (yielded ops a.tmps) = true then Oper.wp P o a w K Q else D := by
  have hb : base ≤ w.heap.size := Nat.le_trans hg (Nat.le_of_lt hE.lt)
  refine step_appG E R hgd s x ho base _ 0 [] hs (own_none hE hg) ao m c l2 hx hm hA (by omega) hb ?_
  intro v' w' h1 h2
  rw [Nat.zero_add, List.nil_append] at h1
  obtain ⟨b', c', rfl⟩ := form_of h1
  exact h b' c' w' h1 (gbelow h2 (fun q hq => by
    have : (some g : Option Nat) = some q := hq
    injection this with this
    omega) hb) h2
theorem step_pushG {ops : Array Oper} {o : Oper} {a : Act} {w : World} {K : Act → World → Prop} {Q : Exit → Act → World → Prop} {D : Prop} (E : EncK enc k) (R : RowK P t e k) (hgd : o.guard = none) (s x : Operand)
    (ho : o.op = .call { callee := .builtin .append, args := #[s, x], argTypes := #[t, t] }) (base : Nat) (b : Option Addr) (n c : Nat) (l1 : List α) (hs : a.eval s = .slice b n c) (hown : w.ownsRow base e k (.slice b n c) n (rowG enc l1)) (q : Nat) (y : α) (hx : a.eval x = .slice (some ⟨q, 0, none⟩) 1 1) (hM : Blk w q e (enc y)) (hlen : n ≤ 1000000) (hbase : base ≤ w.heap.size)
    (h : ∀ b' c' w', w'.ownsRow base e k (.slice b' (n + 1) c') (n + 1) (rowG enc (l1 ++ [y])) → Below base w w' → K (a.put o.dst (.slice b' (n + 1) c')) w') :
    if Region.wanted o (yielded ops a.tmps) = true then Oper.wp P o a w K Q else D := by
  refine step_appG E R hgd s x ho base _ n l1 hs hown (some ⟨q, 0, none⟩) 1 1 [y] hx rfl (rd_one E hM) (by omega) hbase ?_
  intro v' w' h1 h2
  obtain ⟨b', c', rfl⟩ := form_of h1
  exact h b' c' w' h1 (gbelow h2 (fun g hg => (hown.lt g hg).1) hbase)
theorem wpList_copyG {ops : Array Oper} {rest : List Oper} {o : Oper} {a : Act} {w : World} {Q : Exit → Act → World → Prop} (E : EncK enc k) (R : RowK P t e k) (hgd : o.guard = none) (s x : Operand)
    (ho : o.op = .call { callee := .builtin .append, args := #[s, x], argTypes := #[t, t] }) (base g : Nat) (hs : a.eval s = .slice (some ⟨g, 0, none⟩) 0 0) (hE : Blk w g e []) (hg : base ≤ g) (ao : Option Addr) (m c : Nat) (l2 : List α) (hx : a.eval x = .slice ao m c) (hm : l2.length = m) (hA : RdG enc k w ao l2) (hlen : m ≤ 1048576)
    (h : ∀ b' c' w', w'.ownsRow base e k (.slice b' m c') m (rowG enc l2) → Below base w w' → w.grownBy w' (some g) → wpList P ops Q rest (a.put o.dst (.slice b' m c')) w') : wpList P ops Q (o :: rest) a w := by
  have hb : base ≤ w.heap.size := Nat.le_trans hg (Nat.le_of_lt hE.lt)
  refine wpList_appG E R hgd s x ho base _ 0 [] hs (own_none hE hg) ao m c l2 hx hm hA (by omega) hb ?_
  intro v' w' h1 h2
  rw [Nat.zero_add, List.nil_append] at h1
  obtain ⟨b', c', rfl⟩ := form_of h1
  exact h b' c' w' h1 (gbelow h2 (fun q hq => by
    have : (some g : Option Nat) = some q := hq
    injection this with this
    omega) hb) h2
theorem wpList_push1G {ops : Array Oper} {rest : List Oper} {o : Oper} {a : Act} {w : World} {Q : Exit → Act → World → Prop} (E : EncK enc k) (R : RowK P t e k) (hgd : o.guard = none) (s x : Operand)
    (ho : o.op = .call { callee := .builtin .append, args := #[s, x], argTypes := #[t, t] }) (base : Nat) (b : Option Addr) (n c : Nat) (l1 : List α) (hs : a.eval s = .slice b n c) (hown : w.ownsRow base e k (.slice b n c) n (rowG enc l1)) (q : Nat) (y : α) (hx : a.eval x = .slice (some ⟨q, 0, none⟩) 1 1) (hM : Blk w q e (enc y)) (hlen : n ≤ 1000000) (hbase : base ≤ w.heap.size)
    (h : ∀ b' c' w', w'.ownsRow base e k (.slice b' (n + 1) c') (n + 1) (rowG enc (l1 ++ [y])) → Below base w w' → wpList P ops Q rest (a.put o.dst (.slice b' (n + 1) c')) w') : wpList P ops Q (o :: rest) a w := by
  refine wpList_appG E R hgd s x ho base _ n l1 hs hown (some ⟨q, 0, none⟩) 1 1 [y] hx rfl (rd_one E hM) (by omega) hbase ?_
  intro v' w' h1 h2
  obtain ⟨b', c', rfl⟩ := form_of h1
  exact h b' c' w' h1 (gbelow h2 (fun g hg => (hown.lt g hg).1) hbase)
end
end Go.Proofs.Ytcahaimefgkmiaa
