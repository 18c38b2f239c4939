/- Rows of elements of several cells: others put behind them, and where the row lies then. -/
import Derived.Test.YtcahaimefgkmiaaRowI
import Derived.Maps.AppendAt
namespace Go.Proofs.Ytcahaimefgkmiaa
open Go.RowKit
set_option linter.unusedVariables false

section
variable {P : Program} {α : Type} {enc : α → List Value} {k : Nat} {t e : TypeId}
theorem appA_run (E : EncK enc k) (R : RowK P t e k) (w : World) (ty : TypeId) (base : Nat) (v : Value) (n : Nat) (l1 : List α) (hown : w.ownsRow base e k v n (rowG enc l1)) (ao : Option Addr) (m c : Nat) (l2 : List α) (hm : l2.length = m) (hA : RdG enc k w ao l2) (hlen : n + m ≤ 4194304) (hbase : base ≤ w.heap.size) :
    ∃ b' c' w', (Builtin.append_ #[t, t] ty #[v, .slice ao m c]).run P w = .ok (.slice b' (n + m) c') w' ∧ w'.ownsRow base e k (.slice b' (n + m) c') (n + m) (rowG enc (l1 ++ l2)) ∧ w.grownBy w' v.ownBlock ∧ ∀ x, b' = some x → v.ownBlock = some x.block ∨ w.heap.size ≤ x.block := by
  obtain ⟨i0, z, b, hi, hz0, hz1, hz2, hz3, hb⟩ := R.inf
  by_cases h0 : m = 0
  · subst h0
    have e0 : l2 = [] := List.eq_nil_of_length_eq_zero hm
    subst e0
    obtain ⟨b', c', rfl⟩ := form_of hown
    refine ⟨b', c', w, ?_, by simpa using hown, gnew (Below.refl _ _), fun x hx => .inl (by subst hx; rfl)⟩
    rcases hown.2 with ⟨hv, rfl⟩ | ⟨g, cap, cur, hv, _, _, hnc, _⟩
    · rw [hv]
      cases ao <;> simp [Builtin.append_, run_underlying R.sl, sizeOf, typeInfo, hi, Builtin.lenOf, Builtin.firstCells, loadCells, loadCellsFrom] at hv ⊢
      all_goals exact hv.symm
    · rw [hv]
      cases ao <;> simp [Builtin.append_, run_underlying R.sl, sizeOf, typeInfo, hi, Builtin.lenOf, Builtin.firstCells, loadCells, loadCellsFrom, hnc, storeCells] at hv ⊢
      all_goals exact ⟨hv.1.symm, hv.2.symm⟩
  · obtain ⟨g, o, rfl, hg, _⟩ := hA 0 (by omega)
    have hl : (rowG enc l2).length = m * k := by rw [rowG_length enc k E.len, hm]
    have hAt : ∀ j v, (rowG enc l2)[j]? = some v → w.cell? ((⟨g, o, none⟩ : Addr).add j) = some v := fun j v hj => by
      have hj' : j < m * k := by have := (List.getElem?_eq_some_iff.1 hj).1; omega
      have hk0 := R.pos
      have hd : j / k < l2.length := by rw [hm]; exact Nat.div_lt_of_lt_mul (by rw [Nat.mul_comm]; exact hj')
      have hr : j % k < k := Nat.mod_lt _ hk0
      have hjk : j = j / k * k + j % k := by rw [Nat.mul_comm]; exact (Nat.div_add_mod j k).symm
      obtain ⟨b', o', e', _, h⟩ := hA (j / k) hd
      simp only [Option.some.injEq, Addr.mk.injEq, and_true] at e'
      obtain ⟨rfl, rfl⟩ := e'
      have h1 := h (j % k) hr
      have h2 := rowG_at enc k E.len l2 (j / k) (j % k) hd hr
      rw [← hjk] at h2
      rw [Addr.add_lit, show o + j = o + j / k * k + j % k by omega, h1, ← h2]
      exact hj
    have hbl : (n + m) * b ≤ (n + m) * 256 := Nat.mul_le_mul_left _ hb
    obtain ⟨v', w', h1, h2, h3, _, h5⟩ := run_append_own_at (P := P) w base t ty e i0 z k b R.sl hi hz0 hz1 hz2 hz3 R.pos v n (rowG enc l1) hown ⟨g, o, none⟩ m c (rowG enc l2) hl hAt (rowG_one E l2) (by unfold maxLen; omega) (by omega) hbase
    obtain ⟨b', c', rfl⟩ := form_of h2
    refine ⟨b', c', w', h1, by rw [rowG_join]; exact h2, h3, fun x hx => ?_⟩
    subst hx
    rcases h5 with h5 | h5
    · exact .inl h5.symm
    · have h5 : some x.block = some w.heap.size := h5
      injection h5 with h5
      exact .inr (by omega)
theorem wpList_appA {ops : Array Oper} {rest : List Oper} {o : Oper} {a : Act} {w : World} {Q : Exit → Act → World → Prop} (E : EncK enc k) (R : RowK P t e k) (hgd : o.guard = none) (s x : Operand)
    (ho : o.op = .call { callee := .builtin .append, args := #[s, x], argTypes := #[t, t] }) (base : Nat) (v : Value) (n : Nat) (l1 : List α) (hs : a.eval s = v) (hown : w.ownsRow base e k v n (rowG enc l1)) (ao : Option Addr) (m c : Nat) (l2 : List α) (hx : a.eval x = .slice ao m c) (hm : l2.length = m) (hA : RdG enc k w ao l2) (hlen : n + m ≤ 4194304) (hbase : base ≤ w.heap.size)
    (h : ∀ b' c' w', w'.ownsRow base e k (.slice b' (n + m) c') (n + m) (rowG enc (l1 ++ l2)) → w.grownBy w' v.ownBlock → (∀ x, b' = some x → v.ownBlock = some x.block ∨ w.heap.size ≤ x.block) → wpList P ops Q rest (a.put o.dst (.slice b' (n + m) c')) w') : wpList P ops Q (o :: rest) a w := by
  refine wpList_plain hgd fun K hK => ?_
  obtain ⟨b', c', w', hrun, h1, h2, h3⟩ := appA_run E R w o.type base v n l1 hown ao m c l2 hm hA hlen hbase
  unfold Oper.wp
  simp only [execOp, ho, resolve, invoke, builtin, Sem.run_bind, Sem.run_pure, Result.andThen_ok, List.map_toArray, List.map_cons, List.map_nil, hs, hx, hrun]
  exact hK _ _ (h b' c' w' h1 h2 h3)
theorem step_appA {ops : Array Oper} {o : Oper} {a : Act} {w : World} {K : Act → World → Prop} {Q : Exit → Act → World → Prop} {D : Prop} (E : EncK enc k) (R : RowK P t e k) (hgd : o.guard = none) (s x : Operand)
    (ho : o.op = .call { callee := .builtin .append, args := #[s, x], argTypes := #[t, t] }) (base : Nat) (v : Value) (n : Nat) (l1 : List α) (hs : a.eval s = v) (hown : w.ownsRow base e k v n (rowG enc l1)) (ao : Option Addr) (m c : Nat) (l2 : List α) (hx : a.eval x = .slice ao m c) (hm : l2.length = m) (hA : RdG enc k w ao l2) (hlen : n + m ≤ 4194304) (hbase : base ≤ w.heap.size)
    (h : ∀ b' c' w', w'.ownsRow base e k (.slice b' (n + m) c') (n + m) (rowG enc (l1 ++ l2)) → w.grownBy w' v.ownBlock → (∀ x, b' = some x → v.ownBlock = some x.block ∨ w.heap.size ≤ x.block) → K (a.put o.dst (.slice b' (n + m) c')) w') :
    if Region.wanted o (yielded ops a.tmps) = true then Oper.wp P o a w K Q else D := by
  have hw : Region.wanted o (yielded ops a.tmps) = true := by simp [Region.wanted, hgd]
  rw [if_pos hw]
  obtain ⟨b', c', w', hrun, h1, h2, h3⟩ := appA_run E R w o.type base v n l1 hown ao m c l2 hm hA hlen hbase
  unfold Oper.wp
  simp only [execOp, ho, resolve, invoke, builtin, Sem.run_bind, Sem.run_pure, Result.andThen_ok, List.map_toArray, List.map_cons, List.map_nil, hs, hx, hrun]
  exact h b' c' w' h1 h2 h3
end
end Go.Proofs.Ytcahaimefgkmiaa
