/- 'append(row, make(row, m)...)' where there is no room: a new row, zeros behind what was there. -/
import Derived.Test.YtbkhhkknhbddeaaRowC
namespace Go.Proofs.Ytbkhhkknhbddeaa
open Go.RowKit
set_option linter.unusedVariables false

theorem run_append_zeros {P : Program} (w : World) (t tn ty e : TypeId) (i : TypeInfo) (z : Value) (kn : IntKind) (ht : P.underlying t = some (.slice e)) (htn : P.underlying tn = some (.int kn)) (hi : P.info? e = some i) (hz : i.zero = some z)
    (b : Addr) (n cap : Nat) (olds : List Value) (hlo : olds.length = n * i.size) (holds : ∀ j v, olds[j]? = some v → w.cell? (b.add j) = some v)
    (m : Nat) (hm0 : 0 < m) (hs : 0 < i.size) (hg : cap < n + m) (h63 : ((n + m : Nat) : Int) ≤ 9223372036854775807) (hb : m * i.bytes ≤ 281474976710656) (hfit : Builtin.nextslicecap (n + m) cap * i.bytes ≤ 281474976710656) :
    (Builtin.append_ #[t, tn] ty #[.slice (some b) n cap, .int .i64 (m : Int)]).run P w =
      .ok (.slice (some ⟨w.heap.size, 0, none⟩) (n + m) (grownCap w (n + m) cap e))
        (w.drew.alloc (.cells (olds.toArray ++ Builtin.zeroCells z.cells m ++ Builtin.zeroCells z.cells (grownCap w (n + m) cap e - (n + m))) e)) := by
  have hn : ¬ (n + m ≤ cap) := by omega
  have hm : m ≠ 0 := by omega
  have hw : IntKind.i64.wrap (m : Int) = m := by rw [IntKind.wrap_i64]; omega
  have h63' : ¬ (9223372036854775807 < ((n : Int) + (m : Int))) := by omega
  have h48' : ¬ (281474976710656 < Builtin.nextslicecap (n + m) cap * i.bytes) := by omega
  have h48i : ¬ (281474976710656 < (m : Int) * (i.bytes : Int)) := by rw [← Int.natCast_mul]; omega
  have hneg : ¬ ((m : Int) < 0) := by omega
  have hns : ¬ (m * i.size = 0) := Nat.mul_ne_zero hm (by omega)
  have hfo := run_firstCells_some (P := P) w.drew i.size n b n cap olds hlo (by simpa using holds)
  simp [Builtin.append_, run_underlying ht, run_underlying htn, sizeOf, typeInfo, zeroValue, hi, hz, asInt, asIntOf, hw, hn, hneg, hns, h63', h48', h48i, Question.forced, hfo, newRow, grownCap]
section
variable {P : Program} {α : Type} {enc : α → List Value} {k : Nat} {t e : TypeId}
theorem appZ_grow (E : EncK enc k) (R : RowK P t e k) (w : World) (tn ty : TypeId) (kn : IntKind) (htn : P.underlying tn = some (.int kn)) (g o n cap : Nat) (l1 : List α) (h1 : l1.length = n) (hold : RdG enc k w (some ⟨g, o, none⟩) l1) (m : Nat) (hg : cap < n + m) (hm0 : 0 < m) (hlen : n + m ≤ 4194304) :
    ∃ q c' zs w', (Builtin.append_ #[t, tn] ty #[.slice (some ⟨g, o, none⟩) n cap, .int .i64 (m : Int)]).run P w = .ok (.slice (some ⟨q, 0, none⟩) (n + m) c') w' ∧ zs.length = m * k ∧ w'.ownsRow w.heap.size e k (.slice (some ⟨q, 0, none⟩) (n + m) c') (n + m) (rowG enc l1 ++ zs) ∧ Below w.heap.size w w' ∧ w.heap.size ≤ q ∧ n + m ≤ c' := by
  obtain ⟨i0, z, b, hi, hz0, hz1, hz2, hz3, hb⟩ := R.inf
  have hk := R.pos
  subst hz2
  subst hz1
  have hbl : (n + m) * i0.bytes ≤ (n + m) * 128 := Nat.mul_le_mul_left _ hb
  have hbm : m * i0.bytes ≤ m * 128 := Nat.mul_le_mul_left _ hb
  have hlo : (rowG enc l1).length = n * i0.size := by rw [rowG_length enc i0.size E.len, h1]
  have hr := run_append_zeros (P := P) w t tn ty e i0 z kn R.sl htn hi hz0 ⟨g, o, none⟩ n cap (rowG enc l1) hlo (rdG_cells E hk hold) m hm0 hk hg (by omega) (by omega) (growslice_fits hg (by omega))
  have hge := grownCap_ge w (n + m) cap e
  have hcm : grownCap w (n + m) cap e ≤ maxLen := grownCap_le_maxLen w (n + m) cap e (by unfold maxLen; omega)
  have hzl : (Builtin.zeroCells z.cells m).toList.length = m * i0.size := by rw [Array.length_toList, size_zeroCells, hz3]
  have hlen2 : (rowG enc l1 ++ (Builtin.zeroCells z.cells m).toList).length = (n + m) * i0.size := by rw [List.length_append, hlo, hzl, Nat.add_mul]
  refine ⟨w.heap.size, _, (Builtin.zeroCells z.cells m).toList, _, hr, hzl, ⟨hlen2, .inr ⟨w.heap.size, _, _, rfl, Nat.le_refl _, heap_alloc_new w.drew _, hge, hcm, ?_, ?_⟩⟩, (Below.refl w.heap.size w).drew.alloc (Nat.le_refl _) _, Nat.le_refl _, hge⟩
  · simp only [Array.size_append, List.size_toArray, size_zeroCells, hz3, hlo, ← Nat.add_mul]
    congr 1
    omega
  · simp only [Array.toList_append, List.append_assoc]
    rw [← List.append_assoc, ← hlen2]
    exact List.take_left
theorem wpList_appZr {ops : Array Oper} {rest : List Oper} {op : Oper} {a : Act} {w : World} {Q : Exit → Act → World → Prop} (E : EncK enc k) (R : RowK P t e k) (hgd : op.guard = none) (s x : Operand) (tn : TypeId) (kn : IntKind) (htn : P.underlying tn = some (.int kn))
    (ho : op.op = .call { callee := .builtin .append, args := #[s, x], argTypes := #[t, tn] }) (g o n cap : Nat) (l1 : List α) (h1 : l1.length = n) (hold : RdG enc k w (some ⟨g, o, none⟩) l1) (m : Nat) (hg : cap < n + m) (hm0 : 0 < m) (hlen : n + m ≤ 4194304) (e1 : a.eval s = .slice (some ⟨g, o, none⟩) n cap) (e2 : a.eval x = .int .i64 (m : Int))
    (h : ∀ q c' zs w', zs.length = m * k → w'.ownsRow w.heap.size e k (.slice (some ⟨q, 0, none⟩) (n + m) c') (n + m) (rowG enc l1 ++ zs) → Below w.heap.size w w' → w.heap.size ≤ q → n + m ≤ c' → wpList P ops Q rest (a.put op.dst (.slice (some ⟨q, 0, none⟩) (n + m) c')) w') : wpList P ops Q (op :: rest) a w := by
  refine wpList_plain hgd fun K hK => ?_
  obtain ⟨q, c', zs, w', hrun, r1, r2, r3, r4, r5⟩ := appZ_grow E R w tn op.type kn htn g o n cap l1 h1 hold m hg hm0 hlen
  unfold Oper.wp
  simp only [execOp, ho, resolve, invoke, builtin, Sem.run_bind, Sem.run_pure, Result.andThen_ok, List.map_toArray, List.map_cons, List.map_nil, e1, e2, hrun]
  exact hK _ _ (h q c' zs w' r1 r2 r3 r4 r5)
end
end Go.Proofs.Ytbkhhkknhbddeaa
