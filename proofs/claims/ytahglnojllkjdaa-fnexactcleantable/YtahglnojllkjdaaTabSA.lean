/- Tables copied, by the model. -/
import Derived.Test.YtahglnojllkjdaaTabAC
namespace Go.Proofs.Ytahglnojllkjdaa
open Go.RowKit

/-- 'append([]Cell{}, row...)' of some cells: a new row. -/
theorem app_run (w : World) (ty : TypeId) (b : Addr) (ao : Option Addr) (m c : Nat) (nb : List Ce) (hm : nb.length = m) (h0 : 0 < m) (hA : RdJ w ao nb) (hlen : m ≤ 1048576) :
    ∃ c' w', (Builtin.append_ #[24, 24] ty #[.slice (some b) 0 0, .slice ao m c]).run Try.prog w = .ok (.slice (some ⟨w.heap.size, 0, none⟩) m c') w' ∧ w'.ownsRow w.heap.size 65 2 (.slice (some ⟨w.heap.size, 0, none⟩) m c') m (ces nb) ∧ Below w.heap.size w w' := by
  obtain ⟨i0, hi, hz0, hz1, hz2⟩ := info_parts Try.infoCell
  obtain ⟨g, o, rfl, hg, _⟩ := hA 0 (by omega)
  have hAt : ∀ i (h : i < nb.length), cellO w g o i nb[i] := fun i hi => by obtain ⟨b', o', e, _, h⟩ := hA i hi; simp at e; obtain ⟨rfl, rfl⟩ := e; exact h
  have hl : (ces nb).length = m * i0.size := by rw [ces_length, hz1, hm]
  have hr := run_append_grow (P := Try.prog) w 24 ty 65 i0 (ceV zC) Try.underlying24 hi hz0 b 0 0 [] (by simp) (fun j v h => by cases h) ⟨g, o, none⟩ m c (ces nb) hl (fun j v hv => by rw [Addr.add_lit]; exact rdJ_cells hAt j v hv) (by omega) (by omega) (by rw [Nat.zero_add, nextslicecap_zero h0, hz2]; omega)
  rw [Nat.zero_add] at hr
  have hge := grownCap_ge w m 0 65
  refine ⟨_, _, hr, ⟨by rw [ces_length, hm], .inr ⟨w.heap.size, _, _, rfl, Nat.le_refl _, heap_alloc_new w.drew _, hge, grownCap_le_maxLen w m 0 65 (by unfold maxLen; omega), ?_, ?_⟩⟩, (Below.refl _ _).drew.alloc (Nat.le_refl _) _⟩
  · have e : (ceV zC).cells.size = 2 := rfl
    simp only [Array.size_append, List.size_toArray, List.length_nil, size_zeroCells, hl, hz1, e, Nat.zero_add]
    generalize grownCap w m 0 65 = G at hge ⊢
    omega
  · simp only [Array.toList_append, List.nil_append]
    rw [List.take_left' (by rw [ces_length, hm])]
theorem app_run0 (w : World) (ty : TypeId) (b : Addr) (ao : Option Addr) (c : Nat) :
    (Builtin.append_ #[24, 24] ty #[.slice (some b) 0 0, .slice ao 0 c]).run Try.prog w = .ok (.slice (some b) 0 0) w := by
  obtain ⟨i0, hi, hz0, hz1, hz2⟩ := info_parts Try.infoCell
  cases ao <;> simp [Builtin.append_, run_underlying Try.underlying24, sizeOf, typeInfo, hi, Builtin.lenOf, Builtin.firstCells, loadCells, loadCellsFrom, storeCells]

theorem step_app {ops : Array Oper} {o : Oper} {a : Act} {w : World} {K : Act → World → Prop} {Q : Exit → Act → World → Prop} {E : Prop} (hgd : o.guard = none) (s x : Operand)
    (ho : o.op = .call { callee := .builtin .append, args := #[s, x], argTypes := #[24, 24] }) (b : Addr) (ao : Option Addr) (m c : Nat) (nb : List Ce)
    (hs : a.eval s = .slice (some b) 0 0) (hx : a.eval x = .slice ao m c) (hm : nb.length = m) (h0 : 0 < m) (hA : RdJ w ao nb) (hlen : m ≤ 1048576)
    (h : ∀ b' c' w', w.heap.size ≤ b' → w'.ownsRow w.heap.size 65 2 (.slice (some ⟨b', 0, none⟩) m c') m (ces nb) → Below w.heap.size w w' → K (a.put o.dst (.slice (some ⟨b', 0, none⟩) m c')) w') :
    if Region.wanted o (yielded ops a.tmps) = true then Oper.wp Try.prog o a w K Q else E := by
  have hw : Region.wanted o (yielded ops a.tmps) = true := by simp [Region.wanted, hgd]
  rw [if_pos hw]
  obtain ⟨c', w', hrun, h1, h2⟩ := app_run w o.type b ao m c nb hm h0 hA hlen
  unfold Oper.wp
  simp only [execOp, ho, resolve, invoke, builtin, Sem.run_bind, Sem.run_pure, Result.andThen_ok, List.map_toArray, List.map_cons, List.map_nil, hs, hx, hrun]
  exact h _ c' w' (Nat.le_refl _) h1 h2
theorem step_app0 {ops : Array Oper} {o : Oper} {a : Act} {w : World} {K : Act → World → Prop} {Q : Exit → Act → World → Prop} {E : Prop} (hgd : o.guard = none) (s x : Operand)
    (ho : o.op = .call { callee := .builtin .append, args := #[s, x], argTypes := #[24, 24] }) (b : Addr) (ao : Option Addr) (c : Nat)
    (hs : a.eval s = .slice (some b) 0 0) (hx : a.eval x = .slice ao 0 c)
    (h : K (a.put o.dst (.slice (some b) 0 0)) w) :
    if Region.wanted o (yielded ops a.tmps) = true then Oper.wp Try.prog o a w K Q else E := by
  have hw : Region.wanted o (yielded ops a.tmps) = true := by simp [Region.wanted, hgd]
  rw [if_pos hw]
  have hrun := app_run0 w o.type b ao c
  unfold Oper.wp
  simp only [execOp, ho, resolve, invoke, builtin, Sem.run_bind, Sem.run_pure, Result.andThen_ok, List.map_toArray, List.map_cons, List.map_nil, hs, hx, hrun]
  exact h
end Go.Proofs.Ytahglnojllkjdaa
