/- append upon an empty literal, as a step of a walk. -/
import Derived.Test.YtmfpgnoeemjhiaaInv
namespace Go.Proofs.Ytmfpgnoeemjhiaa
open Go.RowKit
set_option linter.unusedVariables false

theorem wpList_cpE {P : Program} {α : Type} {enc : α → List Value} {k : Nat} {t e : TypeId} {ops : Array Oper} {rest : List Oper} {o : Oper} {a : Act} {w : World} {Q : Exit → Act → World → Prop} (E : EncK enc k) (R : RowK P t e k) (hgd : o.guard = none) (s x : Operand)
    (ho : o.op = .call { callee := .builtin .append, args := #[s, x], argTypes := #[t, t] }) (g : Nat) (hs : a.eval s = .slice (some ⟨g, 0, none⟩) 0 0) (ao : Option Addr) (m c : Nat) (l : List α) (hx : a.eval x = .slice ao m c) (hm : l.length = m) (hA : RdG enc k w ao l) (hlen : m ≤ 1048576)
    (h : ∀ b' c' w', RdG enc k w' b' l → Below w.heap.size w w' → (∀ b o, b' = some ⟨b, o, none⟩ → 0 < m → w.heap.size ≤ b) → m ≤ c' → wpList P ops Q rest (a.put o.dst (.slice b' m c')) w') : wpList P ops Q (o :: rest) a w := by
  refine wpList_plain hgd fun K hK => ?_
  obtain ⟨b', c', w', hrun, h1, h2, h3, h4⟩ := cpE_run E R w o.type g ao m c l hm hA hlen
  unfold Oper.wp
  simp only [execOp, ho, resolve, invoke, builtin, Sem.run_bind, Sem.run_pure, Result.andThen_ok, List.map_toArray, List.map_cons, List.map_nil, hs, hx, hrun]
  exact hK _ _ (h b' c' w' h1 h2 h3 h4)
theorem RdG.ltI {α : Type} {enc : α → List Value} {k : Nat} {w : World} {a : Option Addr} {l : List α} (h : RdG enc k w a l) {b o : Nat} (ha : a = some ⟨b, o, none⟩) (hl : 0 < l.length) : b < w.heap.size := by
  obtain ⟨b', o', e, hg, _⟩ := h 0 hl
  rw [ha] at e
  injection e with e
  injection e with e1 e2
  omega
theorem RdG.laterI {α : Type} {enc : α → List Value} {k B : Nat} {w w' : World} {a : Option Addr} {l : List α} (h : RdG enc k w a l) (hb : Below B w w') (hB : ∀ b o, a = some ⟨b, o, none⟩ → 0 < l.length → b < B) : RdG enc k w' a l := by
  intro i hi
  obtain ⟨b, o, ha, hg, hc⟩ := h i hi
  refine ⟨b, o, ha, Nat.lt_of_lt_of_le hg hb.size, fun j hj => ?_⟩
  rw [← hc j hj]
  exact World.cell?_of_block (hb.block b (hB b o ha (by omega)))
end Go.Proofs.Ytmfpgnoeemjhiaa
