/- Rows of elements of several cells, joined: 'append(row, others...)'. -/
import Derived.Test.YtelmchifpgaibaaDoorSAF
import Derived.Test.YtelmchifpgaibaaDoorSAB
import Derived.Deep.RegionLaw
import Derived.ArgAppend
namespace Go.Proofs.YtelmchifpgaibaaDoor
open Go.RowKit
set_option linter.unusedVariables false

/-- What a type's elements are, for rows of them. -/
structure RowK (P : Program) (t e : TypeId) (k : Nat) : Prop where
  sl : P.underlying t = some (.slice e)
  inf : ∃ i z b, P.info? e = some i ∧ i.zero = some z ∧ i.size = k ∧ i.bytes = b ∧ z.cells.size = k ∧ b ≤ 256
  pos : 0 < k
structure EncK {α : Type} (enc : α → List Value) (k : Nat) : Prop where
  len : ∀ x, (enc x).length = k
  one : ∀ x, ∀ u ∈ enc x, u.oneCell' = true
theorem rowG_join {α : Type} (enc : α → List Value) (a b : List α) : rowG enc (a ++ b) = rowG enc a ++ rowG enc b := by simp [rowG]
theorem rowG_one {α : Type} {enc : α → List Value} {k : Nat} (E : EncK enc k) (l : List α) : ∀ u ∈ rowG enc l, u.oneCell' = true := by
  intro u hu
  obtain ⟨x, _, hx⟩ := List.mem_flatMap.1 hu
  exact E.one x u hx
section
variable {P : Program} {α : Type} {enc : α → List Value} {k : Nat} {t e : TypeId}
theorem appG_run (E : EncK enc k) (R : RowK P t e k) (w : World) (ty : TypeId) (base : Nat) (v : Value) (n : Nat) (l1 : List α) (hown : w.ownsRow base e k v n (rowG enc l1)) (ao : Option Addr) (m c : Nat) (l2 : List α) (hm : l2.length = m) (hA : RdG enc k w ao l2) (hlen : n + m ≤ 1048576) (hbase : base ≤ w.heap.size) :
    ∃ v' w', (Builtin.append_ #[t, t] ty #[v, .slice ao m c]).run P w = .ok v' w' ∧ w'.ownsRow base e k v' (n + m) (rowG enc (l1 ++ l2)) ∧ w.grownBy w' v.ownBlock := by
  obtain ⟨i0, z, b, hi, hz0, hz1, hz2, hz3, hb⟩ := R.inf
  by_cases h0 : m = 0
  · subst h0
    have e0 : l2 = [] := List.eq_nil_of_length_eq_zero hm
    subst e0
    refine ⟨v, w, ?_, by simpa using hown, gnew (Below.refl _ _)⟩
    rcases hown.2 with ⟨rfl, rfl⟩ | ⟨g, cap, cur, rfl, _, _, hnc, _⟩
    · cases ao <;> simp [Builtin.append_, run_underlying R.sl, sizeOf, typeInfo, hi, Builtin.lenOf, Builtin.firstCells, loadCells, loadCellsFrom]
    · cases ao <;> simp [Builtin.append_, run_underlying R.sl, sizeOf, typeInfo, hi, Builtin.lenOf, Builtin.firstCells, loadCells, loadCellsFrom, hnc, storeCells]
  · obtain ⟨g, o, rfl, hg, _⟩ := hA 0 (by omega)
    have hl : (rowG enc l2).length = m * k := by rw [rowG_length enc k E.len, hm]
    have hAt : ∀ j v, (rowG enc l2)[j]? = some v → w.cell? ((⟨g, o, none⟩ : Addr).add j) = some v := fun j v hj => by
      have hj' : j < m * k := by have := (List.getElem?_eq_some_iff.1 hj).1; omega
      have hk0 := R.pos
      have hd : j / k < l2.length := by rw [hm]; exact Nat.div_lt_of_lt_mul (by rw [Nat.mul_comm]; exact hj')
      have hr : j % k < k := Nat.mod_lt _ hk0
      have hjk : j = j / k * k + j % k := by rw [Nat.mul_comm]; exact (Nat.div_add_mod j k).symm
      obtain ⟨b', o', e', _, h⟩ := hA (j / k) hd
      simp only [Option.some.injEq, Addr.mk.injEq, and_true] at e'
      obtain ⟨rfl, rfl⟩ := e'
      have h1 := h (j % k) hr
      have h2 := rowG_at enc k E.len l2 (j / k) (j % k) hd hr
      rw [← hjk] at h2
      rw [Addr.add_lit, show o + j = o + j / k * k + j % k by omega, h1, ← h2]
      exact hj
    have hbl : (n + m) * b ≤ (n + m) * 256 := Nat.mul_le_mul_left _ hb
    obtain ⟨v', w', h1, h2, h3, _⟩ := run_append_own (P := P) w base t ty e i0 z k b R.sl hi hz0 hz1 hz2 hz3 R.pos v n (rowG enc l1) hown ⟨g, o, none⟩ m c (rowG enc l2) hl hAt (rowG_one E l2) (by unfold maxLen; omega) (by omega) hbase
    exact ⟨v', w', h1, by rw [rowG_join]; exact h2, h3⟩
theorem wpList_appG {ops : Array Oper} {rest : List Oper} {o : Oper} {a : Act} {w : World} {Q : Exit → Act → World → Prop} (E : EncK enc k) (R : RowK P t e k) (hgd : o.guard = none) (s x : Operand)
    (ho : o.op = .call { callee := .builtin .append, args := #[s, x], argTypes := #[t, t] }) (base : Nat) (v : Value) (n : Nat) (l1 : List α) (hs : a.eval s = v) (hown : w.ownsRow base e k v n (rowG enc l1)) (ao : Option Addr) (m c : Nat) (l2 : List α) (hx : a.eval x = .slice ao m c) (hm : l2.length = m) (hA : RdG enc k w ao l2) (hlen : n + m ≤ 1048576) (hbase : base ≤ w.heap.size)
    (h : ∀ v' w', w'.ownsRow base e k v' (n + m) (rowG enc (l1 ++ l2)) → w.grownBy w' v.ownBlock → wpList P ops Q rest (a.put o.dst v') w') : wpList P ops Q (o :: rest) a w := by
  refine wpList_plain hgd fun K hK => ?_
  obtain ⟨v', w', hrun, h1, h2⟩ := appG_run E R w o.type base v n l1 hown ao m c l2 hm hA hlen hbase
  unfold Oper.wp
  simp only [execOp, ho, resolve, invoke, builtin, Sem.run_bind, Sem.run_pure, Result.andThen_ok, List.map_toArray, List.map_cons, List.map_nil, hs, hx, hrun]
  exact hK _ _ (h v' w' h1 h2)
theorem step_appG {ops : Array Oper} {o : Oper} {a : Act} {w : World} {K : Act → World → Prop} {Q : Exit → Act → World → Prop} {D : Prop} (E : EncK enc k) (R : RowK P t e k) (hgd : o.guard = none) (s x : Operand)
    (ho : o.op = .call { callee := .builtin .append, args := #[s, x], argTypes := #[t, t] }) (base : Nat) (v : Value) (n : Nat) (l1 : List α) (hs : a.eval s = v) (hown : w.ownsRow base e k v n (rowG enc l1)) (ao : Option Addr) (m c : Nat) (l2 : List α) (hx : a.eval x = .slice ao m c) (hm : l2.length = m) (hA : RdG enc k w ao l2) (hlen : n + m ≤ 1048576) (hbase : base ≤ w.heap.size)
    (h : ∀ v' w', w'.ownsRow base e k v' (n + m) (rowG enc (l1 ++ l2)) → w.grownBy w' v.ownBlock → K (a.put o.dst v') w') :
    if Region.wanted o (yielded ops a.tmps) = true then Oper.wp P o a w K Q else D := by
  have hw : Region.wanted o (yielded ops a.tmps) = true := by simp [Region.wanted, hgd]
  rw [if_pos hw]
  obtain ⟨v', w', hrun, h1, h2⟩ := appG_run E R w o.type base v n l1 hown ao m c l2 hm hA hlen hbase
  unfold Oper.wp
  simp only [execOp, ho, resolve, invoke, builtin, Sem.run_bind, Sem.run_pure, Result.andThen_ok, List.map_toArray, List.map_cons, List.map_nil, hs, hx, hrun]
  exact h v' w' h1 h2
end
end Go.Proofs.YtelmchifpgaibaaDoor
namespace Go.Proofs.YtelmchifpgaibaaDoor
open Go.RowKit
set_option linter.unusedVariables false

/-- Blocks that were made, wherever the order is drawn. -/
theorem blkE1 (u : World) (t : TypeId) {cs : Array Value} : Blk (u.alloc (.cells cs t)).drew u.heap.size t cs.toList := Blk.new u t cs
theorem blkE2 (u : World) (t : TypeId) (o : Obj) {cs : Array Value} : Blk ((u.alloc (.cells cs t)).alloc o).drew u.heap.size t cs.toList := Blk.more (Blk.new u t cs) o
theorem blkE3 (u : World) (t : TypeId) (o : Obj) {cs : Array Value} : Blk ((u.alloc o).alloc (.cells cs t)).drew (u.heap.size + 1) t cs.toList := by
  have := Blk.new (u.alloc o) t cs
  rw [World.size_alloc] at this
  exact this
theorem zM1 {u w7 : World} {c d : Array Value} {t s : TypeId} (hb : ((u.alloc (.cells c t)).alloc (.cells d s)).grownBy w7 (some u.heap.size)) : Blk w7 (u.heap.size + 1) s d.toList := gblk hb (blkN2 u c d t s).2.1 (by intro e; injection e; omega)
theorem zM2 {u w7 : World} {c d : Array Value} {t s : TypeId} (hb : ((u.alloc (.cells c t)).alloc (.cells d s)).grownBy w7 (some (u.heap.size + 1))) : Blk w7 u.heap.size t c.toList := gblk hb (blkN2 u c d t s).1 (by intro e; injection e; omega)
theorem zM1D {u w7 : World} {c d : Array Value} {t s : TypeId} (hb : ((u.alloc (.cells c t)).alloc (.cells d s)).drew.grownBy w7 (some u.heap.size)) : Blk w7 (u.heap.size + 1) s d.toList := gblk (w := ((u.alloc (.cells c t)).alloc (.cells d s)).drew) hb (blkN2 u c d t s).2.1 (by intro e; injection e; omega)
theorem zM2D {u w7 : World} {c d : Array Value} {t s : TypeId} (hb : ((u.alloc (.cells c t)).alloc (.cells d s)).drew.grownBy w7 (some (u.heap.size + 1))) : Blk w7 u.heap.size t c.toList := gblk (w := ((u.alloc (.cells c t)).alloc (.cells d s)).drew) hb (blkN2 u c d t s).1 (by intro e; injection e; omega)
section
variable {P : Program} {α : Type} {enc : α → List Value} {k : Nat} {t e : TypeId}
theorem own_none {w : World} {base g : Nat} (hE : Blk w g e []) (hg : base ≤ g) : w.ownsRow base e k (.slice (some ⟨g, 0, none⟩) 0 0) 0 (rowG enc ([] : List α)) :=
  ⟨by simp [rowG], .inr ⟨g, 0, #[], rfl, hg, hE, Nat.le_refl _, Nat.zero_le _, by simp, by simp [rowG]⟩⟩
theorem own_len {w : World} {base n : Nat} {v : Value} {l : List α} (E : EncK enc k) (hk : 0 < k) (h : w.ownsRow base e k v n (rowG enc l)) : l.length = n := by
  have := h.1
  rw [rowG_length enc k E.len] at this
  exact Nat.eq_of_mul_eq_mul_right hk this
theorem rd_one {w : World} {q : Nat} {y : α} (E : EncK enc k) (hM : Blk w q e (enc y)) : RdG enc k w (some ⟨q, 0, none⟩) [y] := by
  intro i hi
  have hi : i = 0 := by simp at hi; omega
  subst hi
  refine ⟨q, 0, rfl, hM.lt, fun j hj => ?_⟩
  rw [Nat.zero_mul, Nat.zero_add, hM.cell j]
  rfl
theorem form_of {w : World} {base n : Nat} {v : Value} {xs : List Value} (h : w.ownsRow base e k v n xs) : ∃ a ca, v = .slice a n ca := by
  rcases h.2 with ⟨rfl, h0⟩ | ⟨g, cap, cur, rfl, _⟩
  · exact ⟨none, 0, by rw [h0]⟩
  · exact ⟨_, _, rfl⟩
theorem step_copyG {ops : Array Oper} {o : Oper} {a : Act} {w : World} {K : Act → World → Prop} {Q : Exit → Act → World → Prop} {D : Prop} (E : EncK enc k) (R : RowK P t e k) (hgd : o.guard = none) (s x : Operand)
    (ho : o.op = .call { callee := .builtin .append, args := #[s, x], argTypes := #[t, t] }) (base g : Nat) (hs : a.eval s = .slice (some ⟨g, 0, none⟩) 0 0) (hE : Blk w g e []) (hg : base ≤ g) (ao : Option Addr) (m c : Nat) (l2 : List α) (hx : a.eval x = .slice ao m c) (hm : l2.length = m) (hA : RdG enc k w ao l2) (hlen : m ≤ 1048576)
    (h : ∀ b' c' w', w'.ownsRow base e k (.slice b' m c') m (rowG enc l2) → Below base w w' → w.grownBy w' (some g) → K (a.put o.dst (.slice b' m c')) w') :
    if Region.wanted o (yielded ops a.tmps) = true then Oper.wp P o a w K Q else D := by
  have hb : base ≤ w.heap.size := Nat.le_trans hg (Nat.le_of_lt hE.lt)
  refine step_appG E R hgd s x ho base _ 0 [] hs (own_none hE hg) ao m c l2 hx hm hA (by omega) hb ?_
  intro v' w' h1 h2
  rw [Nat.zero_add, List.nil_append] at h1
  obtain ⟨b', c', rfl⟩ := form_of h1
  exact h b' c' w' h1 (gbelow h2 (fun q hq => by
    have : (some g : Option Nat) = some q := hq
    injection this with this
    omega) hb) h2
theorem step_pushG {ops : Array Oper} {o : Oper} {a : Act} {w : World} {K : Act → World → Prop} {Q : Exit → Act → World → Prop} {D : Prop} (E : EncK enc k) (R : RowK P t e k) (hgd : o.guard = none) (s x : Operand)
    (ho : o.op = .call { callee := .builtin .append, args := #[s, x], argTypes := #[t, t] }) (base : Nat) (b : Option Addr) (n c : Nat) (l1 : List α) (hs : a.eval s = .slice b n c) (hown : w.ownsRow base e k (.slice b n c) n (rowG enc l1)) (q : Nat) (y : α) (hx : a.eval x = .slice (some ⟨q, 0, none⟩) 1 1) (hM : Blk w q e (enc y)) (hlen : n ≤ 1000000) (hbase : base ≤ w.heap.size)
    (h : ∀ b' c' w', w'.ownsRow base e k (.slice b' (n + 1) c') (n + 1) (rowG enc (l1 ++ [y])) → Below base w w' → K (a.put o.dst (.slice b' (n + 1) c')) w') :
    if Region.wanted o (yielded ops a.tmps) = true then Oper.wp P o a w K Q else D := by
  refine step_appG E R hgd s x ho base _ n l1 hs hown (some ⟨q, 0, none⟩) 1 1 [y] hx rfl (rd_one E hM) (by omega) hbase ?_
  intro v' w' h1 h2
  obtain ⟨b', c', rfl⟩ := form_of h1
  exact h b' c' w' h1 (gbelow h2 (fun g hg => (hown.lt g hg).1) hbase)
theorem wpList_copyG {ops : Array Oper} {rest : List Oper} {o : Oper} {a : Act} {w : World} {Q : Exit → Act → World → Prop} (E : EncK enc k) (R : RowK P t e k) (hgd : o.guard = none) (s x : Operand)
    (ho : o.op = .call { callee := .builtin .append, args := #[s, x], argTypes := #[t, t] }) (base g : Nat) (hs : a.eval s = .slice (some ⟨g, 0, none⟩) 0 0) (hE : Blk w g e []) (hg : base ≤ g) (ao : Option Addr) (m c : Nat) (l2 : List α) (hx : a.eval x = .slice ao m c) (hm : l2.length = m) (hA : RdG enc k w ao l2) (hlen : m ≤ 1048576)
    (h : ∀ b' c' w', w'.ownsRow base e k (.slice b' m c') m (rowG enc l2) → Below base w w' → w.grownBy w' (some g) → wpList P ops Q rest (a.put o.dst (.slice b' m c')) w') : wpList P ops Q (o :: rest) a w := by
  have hb : base ≤ w.heap.size := Nat.le_trans hg (Nat.le_of_lt hE.lt)
  refine wpList_appG E R hgd s x ho base _ 0 [] hs (own_none hE hg) ao m c l2 hx hm hA (by omega) hb ?_
  intro v' w' h1 h2
  rw [Nat.zero_add, List.nil_append] at h1
  obtain ⟨b', c', rfl⟩ := form_of h1
  exact h b' c' w' h1 (gbelow h2 (fun q hq => by
    have : (some g : Option Nat) = some q := hq
    injection this with this
    omega) hb) h2
theorem wpList_push1G {ops : Array Oper} {rest : List Oper} {o : Oper} {a : Act} {w : World} {Q : Exit → Act → World → Prop} (E : EncK enc k) (R : RowK P t e k) (hgd : o.guard = none) (s x : Operand)
    (ho : o.op = .call { callee := .builtin .append, args := #[s, x], argTypes := #[t, t] }) (base : Nat) (b : Option Addr) (n c : Nat) (l1 : List α) (hs : a.eval s = .slice b n c) (hown : w.ownsRow base e k (.slice b n c) n (rowG enc l1)) (q : Nat) (y : α) (hx : a.eval x = .slice (some ⟨q, 0, none⟩) 1 1) (hM : Blk w q e (enc y)) (hlen : n ≤ 1000000) (hbase : base ≤ w.heap.size)
    (h : ∀ b' c' w', w'.ownsRow base e k (.slice b' (n + 1) c') (n + 1) (rowG enc (l1 ++ [y])) → Below base w w' → wpList P ops Q rest (a.put o.dst (.slice b' (n + 1) c')) w') : wpList P ops Q (o :: rest) a w := by
  refine wpList_appG E R hgd s x ho base _ n l1 hs hown (some ⟨q, 0, none⟩) 1 1 [y] hx rfl (rd_one E hM) (by omega) hbase ?_
  intro v' w' h1 h2
  obtain ⟨b', c', rfl⟩ := form_of h1
  exact h b' c' w' h1 (gbelow h2 (fun g hg => (hown.lt g hg).1) hbase)
end
end Go.Proofs.YtelmchifpgaibaaDoor
namespace Go.Proofs.YtelmchifpgaibaaDoor
open Go.RowKit
set_option linter.unusedVariables false

theorem cnt_set (l : Array Bool) (i : Nat) (h : l.getD i true = false) : (l.setIfInBounds i true).toList.count false + 1 = l.toList.count false := by
  have hi : i < l.size := by
    by_cases c : i < l.size
    · exact c
    · rw [Array.getD_eq_getD_getElem?, Array.getElem?_eq_none (by omega)] at h
      cases h
  have hv : l.toList[i]'(by simpa using hi) = false := by
    rw [Array.getD_eq_getD_getElem?, Array.getElem?_eq_getElem hi] at h
    simpa using h
  rw [Array.toList_setIfInBounds, List.count_set (by simpa using hi), hv]
  have hp : 0 < l.toList.count false := List.count_pos_iff.2 (hv ▸ List.getElem_mem _)
  rw [if_pos (by rfl), if_neg (by decide)]
  omega
theorem set_at {l : Array Bool} {i k : Nat} (h : (l.setIfInBounds i true).getD k false = true) (hk : k ≠ i) : l.getD k false = true := by
  rw [Array.getD_eq_getD_getElem?, Array.getElem?_setIfInBounds, if_neg (fun e => hk e.symm)] at h
  rwa [Array.getD_eq_getD_getElem?]
theorem set_get {l : Array Bool} {i k : Nat} : (l.setIfInBounds i true).getD k false = true → k = i ∨ l.getD k false = true := fun h => by
  by_cases c : k = i
  · exact .inl c
  · exact .inr (set_at h c)
section
variable {P : Program} {ops : Array Oper} {Q : Exit → Act → World → Prop} {md : Region.Mode}
theorem ready_at {l : Array Bool} {i : Nat} (h : i ∈ Region.ready md ops l) : i < ops.size ∧ l.getD i true = false ∧ ∃ o, ops[i]? = some o ∧ ∀ e ∈ o.after, Region.binds md e = true → l.getD e.on false = true := by
  unfold Region.ready at h
  rw [List.mem_filter, List.mem_range] at h
  obtain ⟨h1, h2⟩ := h
  rw [Bool.and_eq_true] at h2
  obtain ⟨h2, h3⟩ := h2
  refine ⟨h1, by simpa using h2, ?_⟩
  cases ho : ops[i]? with
  | none => rw [ho] at h3; cases h3
  | some o =>
    rw [ho] at h3
    refine ⟨o, rfl, fun e he hb => ?_⟩
    simp only [Option.map_some, Option.getD_some, Array.all_eq_true'] at h3
    have := h3 e he
    rw [hb] at this
    simpa using this
theorem ready_nil {l : Array Bool} (h : Region.ready md ops l = []) {i : Nat} {o : Oper} (ho : ops[i]? = some o) (hd : ∀ e ∈ o.after, l.getD e.on false = true) : l.getD i true = true := by
  have hi : i < ops.size := (Array.getElem?_eq_some_iff.1 ho).1
  cases c : l.getD i true with
  | true => rfl
  | false =>
    have : i ∈ Region.ready md ops l := by
      unfold Region.ready
      rw [List.mem_filter, List.mem_range]
      refine ⟨hi, ?_⟩
      rw [c, ho]
      simp only [Bool.not_false, Bool.true_and, Option.map_some, Option.getD_some, Array.all_eq_true']
      intro e he
      rw [hd e he]
      simp
    rw [h] at this
    cases this
theorem getD_tt {l : Array Bool} {i : Nat} (hi : i < l.size) (h : l.getD i true = true) : l.getD i false = true := by
  rw [Array.getD_eq_getD_getElem?, Array.getElem?_eq_getElem hi] at h ⊢
  simpa using h
/-- What holds at the beginning and is kept by each operation that may come up, holds at the end. -/
theorem wpAny_inv (I : Array Bool → Act → World → Prop)
    (hs : ∀ l a w i, l.size = ops.size → I l a w → i ∈ Region.ready md ops l → wpOp P ops Q i (fun a w => I (l.setIfInBounds i true) a w) a w)
    (hf : ∀ l a w, l.size = ops.size → I l a w → Region.ready md ops l = [] → Q .normal a w) :
    ∀ (fuel : Nat) (l : Array Bool) (a : Act) (w : World), l.size = ops.size → l.toList.count false ≤ fuel → I l a w → wpAny P md ops Q fuel l a w
  | 0, l, a, w, hl, hc, h => by
    have hn : Region.ready md ops l = [] := by
      cases hr : Region.ready md ops l with
      | nil => rfl
      | cons i t =>
        have hi : i ∈ Region.ready md ops l := by rw [hr]; simp
        obtain ⟨_, h2, _⟩ := ready_at hi
        have := cnt_set l i h2
        omega
    exact ⟨hn, hf l a w hl h hn⟩
  | fuel + 1, l, a, w, hl, hc, h => by
    refine ⟨fun hn => hf l a w hl h hn, fun i hi => ?_⟩
    obtain ⟨_, h2, _⟩ := ready_at hi
    have := cnt_set l i h2
    exact wpOp_mono (fun a w h' => wpAny_inv I hs hf fuel _ a w (by rw [Array.size_setIfInBounds]; exact hl) (by omega) h') (hs l a w i hl h hi)
end
section
variable {P : Program} {α : Type} {enc : α → List Value} {k : Nat} {t e : TypeId}
theorem own_leI {w : World} {base n ca : Nat} {a : Option Addr} {xs : List Value} (h : w.ownsRow base e k (.slice a n ca) n xs) : n ≤ ca := by
  rcases h.2 with ⟨hv, h0⟩ | ⟨g, cap, cur, hv, _, _, hc, _⟩
  · omega
  · injection hv with h1 h2 h3
    omega
/-- Others put behind an empty row that has no room: new memory alone. -/
theorem cpE_run (E : EncK enc k) (R : RowK P t e k) (w : World) (ty : TypeId) (g : Nat) (ao : Option Addr) (m c : Nat) (l : List α) (hm : l.length = m) (hA : RdG enc k w ao l) (hlen : m ≤ 1048576) :
    ∃ b' c' w', (Builtin.append_ #[t, t] ty #[.slice (some ⟨g, 0, none⟩) 0 0, .slice ao m c]).run P w = .ok (.slice b' m c') w' ∧ RdG enc k w' b' l ∧ Below w.heap.size w w' ∧ (∀ b o, b' = some ⟨b, o, none⟩ → 0 < m → w.heap.size ≤ b) ∧ m ≤ c' := by
  obtain ⟨i0, z, b, hi, hz0, hz1, hz2, hz3, hb⟩ := R.inf
  by_cases h0 : m = 0
  · subst h0
    have e0 : l = [] := List.eq_nil_of_length_eq_zero hm
    subst e0
    refine ⟨some ⟨g, 0, none⟩, 0, w, ?_, RdG.nil _ _, Below.refl _ _, fun _ _ _ h => by omega, Nat.le_refl _⟩
    cases ao <;> simp [Builtin.append_, run_underlying R.sl, sizeOf, typeInfo, hi, Builtin.lenOf, Builtin.firstCells, loadCells, loadCellsFrom, storeCells]
  · obtain ⟨g2, o, rfl, hg, _⟩ := hA 0 (by omega)
    have hl : (rowG enc l).length = m * k := by rw [rowG_length enc k E.len, hm]
    have hAt : ∀ j v, (rowG enc l)[j]? = some v → w.cell? ((⟨g2, o, none⟩ : Addr).add j) = some v := fun j v hj => by
      have hj' : j < m * k := by have := (List.getElem?_eq_some_iff.1 hj).1; omega
      have hk0 := R.pos
      have hd : j / k < l.length := by rw [hm]; exact Nat.div_lt_of_lt_mul (by rw [Nat.mul_comm]; exact hj')
      have hr : j % k < k := Nat.mod_lt _ hk0
      have hjk : j = j / k * k + j % k := by rw [Nat.mul_comm]; exact (Nat.div_add_mod j k).symm
      obtain ⟨b', o', e', _, h⟩ := hA (j / k) hd
      simp only [Option.some.injEq, Addr.mk.injEq, and_true] at e'
      obtain ⟨rfl, rfl⟩ := e'
      have h1 := h (j % k) hr
      have h2 := rowG_at enc k E.len l (j / k) (j % k) hd hr
      rw [← hjk] at h2
      rw [Addr.add_lit, show o + j = o + j / k * k + j % k by omega, h1, ← h2]
      exact hj
    have hbl : (0 + m) * b ≤ (0 + m) * 256 := Nat.mul_le_mul_left _ hb
    obtain ⟨v', w', h1, h2, h3⟩ := run_append_arg_grows (P := P) (w := w) t ty e i0 z k b R.sl hi hz0 hz1 hz2 hz3 R.pos ⟨g, 0, none⟩ 0 0 [] (by simp) (by simp) ⟨g2, o, none⟩ m c (rowG enc l) hl hAt (by omega) (by unfold maxLen; omega) (by omega)
    rw [Nat.zero_add, List.nil_append] at h2
    obtain ⟨b', c', rfl⟩ := form_of h2
    refine ⟨b', c', w', h1, rdG_of_own E.len h2 hm, gbelow h3 (fun q hq => by cases hq) (Nat.le_refl _), fun b2 o2 hb2 _ => (h2.lt b2 (by subst hb2; rfl)).1, own_leI h2⟩
end
end Go.Proofs.YtelmchifpgaibaaDoor
