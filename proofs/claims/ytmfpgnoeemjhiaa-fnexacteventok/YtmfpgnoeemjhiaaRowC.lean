/- Rows of elements of several cells: copied into a row of the call's own; others put behind a row that is full. -/
import Derived.Test.YtmfpgnoeemjhiaaRowJ
import Derived.ArgAppend
namespace Go.Proofs.Ytmfpgnoeemjhiaa
open Go.RowKit
set_option linter.unusedVariables false

theorem setCells_putC (g : Nat) : ∀ (vs : List Value) (w : World) (m : Nat), w.setCells g m vs = putG w g m vs
  | [], _, _ => rfl
  | v :: vs, w, m => setCells_putC g vs (w.setCell ⟨g, m, none⟩ v) (m + 1)
theorem putC_grown : ∀ (vs : List Value) (w : World) (g m : Nat), w.grownBy (putG w g m vs) (some g)
  | [], w, g, m => World.grownBy.refl _ _
  | v :: vs, w, g, m => (gset (World.grownBy.refl w (some g)) m v).trans (putC_grown vs _ g (m + 1))
section
variable {P : Program} {α : Type} {enc : α → List Value} {k : Nat} {t e : TypeId}
theorem rdG_cells (E : EncK enc k) (hk0 : 0 < k) {w : World} {g o : Nat} {l : List α} (hA : RdG enc k w (some ⟨g, o, none⟩) l) (j : Nat) (v : Value) (hj : (rowG enc l)[j]? = some v) : w.cell? ((⟨g, o, none⟩ : Addr).add j) = some v := by
  have hj' : j < l.length * k := by have := (List.getElem?_eq_some_iff.1 hj).1; rw [rowG_length enc k E.len] at this; omega
  have hd : j / k < l.length := Nat.div_lt_of_lt_mul (by rw [Nat.mul_comm]; exact hj')
  have hr : j % k < k := Nat.mod_lt _ hk0
  have hjk : j = j / k * k + j % k := by rw [Nat.mul_comm]; exact (Nat.div_add_mod j k).symm
  obtain ⟨b', o', e', _, h⟩ := hA (j / k) hd
  simp only [Option.some.injEq, Addr.mk.injEq, and_true] at e'
  obtain ⟨rfl, rfl⟩ := e'
  have h1 := h (j % k) hr
  have h2 := rowG_at enc k E.len l (j / k) (j % k) hd hr
  rw [← hjk] at h2
  rw [Addr.add_lit, show o + j = o + j / k * k + j % k by omega, h1, ← h2]
  exact hj
theorem copyK_run (E : EncK enc k) (R : RowK P t e k) (w : World) (ty : TypeId) (base n g cap off dl dc : Nat) (xs : List Value) (hown : w.ownsRow base e k (.slice (some ⟨g, 0, none⟩) n cap) n xs) (l : List α) (m : Nat) (hm : l.length = m) (ao : Option Addr) (sc : Nat) (hA : RdG enc k w ao l) (hd : m ≤ dl) (hoff : off + m ≤ n) (dp : Option Addr) (hdp : m ≠ 0 → dp = some ⟨g, off * k, none⟩) :
    (Builtin.copy_ #[t, t] ty #[.slice dp dl dc, .slice ao m sc]).run P w = .ok (.int .i64 (m : Int)) (putG w g (off * k) (rowG enc l)) := by
  obtain ⟨i0, z, b, hi, hz0, hz1, hz2, hz3, hb⟩ := R.inf
  have hmin : Nat.min m dl = m := Nat.min_eq_left hd
  have hl : (rowG enc l).length = m * k := by rw [rowG_length enc k E.len, hm]
  by_cases h0 : m = 0
  · subst h0
    have e0 : l = [] := List.eq_nil_of_length_eq_zero hm
    subst e0
    have hll := fun a => run_loadCells_list (P := P) w a [] (fun j v h => by cases h)
    simp only [List.length_nil] at hll
    cases dp <;> cases ao <;> simp [Builtin.copy_, run_underlying R.sl, Builtin.lenOf, Builtin.firstCells, sizeOf, typeInfo, hi, hll, storeCells, rowG, putG, goInt]
  · rw [hdp h0]
    obtain ⟨b', o, rfl, hbb, _⟩ := hA 0 (by omega)
    have hll := run_loadCells_list (P := P) w ⟨b', o, none⟩ (rowG enc l) (rdG_cells E R.pos hA)
    have hmk : off * k + m * k ≤ n * k := by rw [← Nat.add_mul]; exact Nat.mul_le_mul_right _ hoff
    have hst := run_storeCells_cells (P := P) g (off * k) (rowG enc l) 0 w (fun j hj => by
      obtain ⟨u, hu⟩ := own_some hown (off * k + j) (by omega)
      rw [Nat.add_zero, hu]; rfl) (fun j hj => hown.frozenAt _) (rowG_one E l)
    simp only [Nat.add_zero] at hst
    rw [hl] at hll
    rw [← setCells_putC]
    have hq : i0.size = k := hz1
    simp [Builtin.copy_, run_underlying R.sl, Builtin.lenOf, Builtin.firstCells, sizeOf, typeInfo, hi, hq, hmin, hll, hst, goInt]
theorem wpList_copyK {ops : Array Oper} {rest : List Oper} {o : Oper} {a : Act} {w : World} {Q : Exit → Act → World → Prop} (E : EncK enc k) (R : RowK P t e k) (hgd : o.guard = none) (d s : Operand)
    (ho : o.op = .call { callee := .builtin .copy, args := #[d, s], argTypes := #[t, t] }) (base n g cap off dl dc : Nat) (xs : List Value) (hown : w.ownsRow base e k (.slice (some ⟨g, 0, none⟩) n cap) n xs) (l : List α) (m : Nat) (hm : l.length = m) (ao : Option Addr) (sc : Nat) (hA : RdG enc k w ao l) (hd : m ≤ dl) (hoff : off + m ≤ n) (dp : Option Addr) (hdp : m ≠ 0 → dp = some ⟨g, off * k, none⟩)
    (e1 : a.eval d = .slice dp dl dc) (e2 : a.eval s = .slice ao m sc)
    (h : (putG w g (off * k) (rowG enc l)).ownsRow base e k (.slice (some ⟨g, 0, none⟩) n cap) n (setL xs (off * k) (rowG enc l)) → w.grownBy (putG w g (off * k) (rowG enc l)) (some g) → wpList P ops Q rest (a.put o.dst (.int .i64 (m : Int))) (putG w g (off * k) (rowG enc l))) : wpList P ops Q (o :: rest) a w := by
  refine wpList_plain hgd fun K hK => ?_
  have hrun := copyK_run E R w o.type base n g cap off dl dc xs hown l m hm ao sc hA hd hoff dp hdp
  unfold Oper.wp
  simp only [execOp, ho, resolve, invoke, builtin, Sem.run_bind, Sem.run_pure, Result.andThen_ok, List.map_toArray, List.map_cons, List.map_nil, e1, e2, hrun]
  exact hK _ _ (h (own_putG _ _ hown) (putC_grown _ _ _ _))
theorem step_copyK {ops : Array Oper} {o : Oper} {a : Act} {w : World} {K : Act → World → Prop} {Q : Exit → Act → World → Prop} {D : Prop} (E : EncK enc k) (R : RowK P t e k) (hgd : o.guard = none) (d s : Operand)
    (ho : o.op = .call { callee := .builtin .copy, args := #[d, s], argTypes := #[t, t] }) (base n g cap off dl dc : Nat) (xs : List Value) (hown : w.ownsRow base e k (.slice (some ⟨g, 0, none⟩) n cap) n xs) (l : List α) (m : Nat) (hm : l.length = m) (ao : Option Addr) (sc : Nat) (hA : RdG enc k w ao l) (hd : m ≤ dl) (hoff : off + m ≤ n) (dp : Option Addr) (hdp : m ≠ 0 → dp = some ⟨g, off * k, none⟩)
    (e1 : a.eval d = .slice dp dl dc) (e2 : a.eval s = .slice ao m sc)
    (h : (putG w g (off * k) (rowG enc l)).ownsRow base e k (.slice (some ⟨g, 0, none⟩) n cap) n (setL xs (off * k) (rowG enc l)) → w.grownBy (putG w g (off * k) (rowG enc l)) (some g) → K (a.put o.dst (.int .i64 (m : Int))) (putG w g (off * k) (rowG enc l))) :
    if Region.wanted o (yielded ops a.tmps) = true then Oper.wp P o a w K Q else D := by
  have hw : Region.wanted o (yielded ops a.tmps) = true := by simp [Region.wanted, hgd]
  rw [if_pos hw]
  have hrun := copyK_run E R w o.type base n g cap off dl dc xs hown l m hm ao sc hA hd hoff dp hdp
  unfold Oper.wp
  simp only [execOp, ho, resolve, invoke, builtin, Sem.run_bind, Sem.run_pure, Result.andThen_ok, List.map_toArray, List.map_cons, List.map_nil, e1, e2, hrun]
  exact h (own_putG _ _ hown) (putC_grown _ _ _ _)
theorem appN_run (E : EncK enc k) (R : RowK P t e k) (w : World) (ty : TypeId) (g o n cap : Nat) (l1 : List α) (h1 : l1.length = n) (hold : RdG enc k w (some ⟨g, o, none⟩) l1) (ao : Option Addr) (m c : Nat) (l2 : List α) (hm : l2.length = m) (hA : RdG enc k w ao l2) (hg : cap < n + m) (hm0 : 0 < m) (hlen : n + m ≤ 4194304) :
    ∃ q c' w', (Builtin.append_ #[t, t] ty #[.slice (some ⟨g, o, none⟩) n cap, .slice ao m c]).run P w = .ok (.slice (some ⟨q, 0, none⟩) (n + m) c') w' ∧ w'.ownsRow w.heap.size e k (.slice (some ⟨q, 0, none⟩) (n + m) c') (n + m) (rowG enc (l1 ++ l2)) ∧ Below w.heap.size w w' ∧ w.heap.size ≤ q := by
  obtain ⟨i0, z, b, hi, hz0, hz1, hz2, hz3, hb⟩ := R.inf
  obtain ⟨b', o', rfl, hbb, _⟩ := hA 0 (by omega)
  have hbl : (n + m) * b ≤ (n + m) * 256 := Nat.mul_le_mul_left _ hb
  obtain ⟨v', w', r1, r2, r3⟩ := run_append_arg_grows (P := P) w t ty e i0 z k b R.sl hi hz0 hz1 hz2 hz3 R.pos ⟨g, o, none⟩ n cap (rowG enc l1) (by rw [rowG_length enc k E.len, h1]) (rdG_cells E R.pos hold) ⟨b', o', none⟩ m c (rowG enc l2) (by rw [rowG_length enc k E.len, hm]) (rdG_cells E R.pos hA) hg (by unfold maxLen; omega) (by omega)
  rw [← rowG_join] at r2
  have hB : Below w.heap.size w w' := Below.grown (Below.refl _ _) r3 (Nat.le_refl _) (by intro k hk; cases hk)
  rcases r2.2 with ⟨hv, hn⟩ | ⟨q, cap', cur, hv, hbq, rest⟩
  · exfalso; omega
  · subst hv
    exact ⟨q, cap', w', r1, r2, hB, hbq⟩
theorem wpList_appN {ops : Array Oper} {rest : List Oper} {o : Oper} {a : Act} {w : World} {Q : Exit → Act → World → Prop} (E : EncK enc k) (R : RowK P t e k) (hgd : o.guard = none) (s x : Operand)
    (ho : o.op = .call { callee := .builtin .append, args := #[s, x], argTypes := #[t, t] }) (g of n cap : Nat) (l1 : List α) (h1 : l1.length = n) (hold : RdG enc k w (some ⟨g, of, none⟩) l1) (ao : Option Addr) (m c : Nat) (l2 : List α) (hm : l2.length = m) (hA : RdG enc k w ao l2) (hg : cap < n + m) (hm0 : 0 < m) (hlen : n + m ≤ 4194304) (e1 : a.eval s = .slice (some ⟨g, of, none⟩) n cap) (e2 : a.eval x = .slice ao m c)
    (h : ∀ q c' w', w'.ownsRow w.heap.size e k (.slice (some ⟨q, 0, none⟩) (n + m) c') (n + m) (rowG enc (l1 ++ l2)) → Below w.heap.size w w' → w.heap.size ≤ q → wpList P ops Q rest (a.put o.dst (.slice (some ⟨q, 0, none⟩) (n + m) c')) w') : wpList P ops Q (o :: rest) a w := by
  refine wpList_plain hgd fun K hK => ?_
  obtain ⟨q, c', w', hrun, r1, r2, r3⟩ := appN_run E R w o.type g of n cap l1 h1 hold ao m c l2 hm hA hg hm0 hlen
  unfold Oper.wp
  simp only [execOp, ho, resolve, invoke, builtin, Sem.run_bind, Sem.run_pure, Result.andThen_ok, List.map_toArray, List.map_cons, List.map_nil, e1, e2, hrun]
  exact hK _ _ (h q c' w' r1 r2 r3)
end
end Go.Proofs.Ytmfpgnoeemjhiaa
