/- A region that draws and whose calls make new memory: whole structs are loaded in it. -/
import Derived.Test.YtcahaimefgkmiaaGrQ
import Derived.Test.YtcahaimefgkmiaaTB
namespace Go.Proofs.Ytcahaimefgkmiaa
open Go.RowKit
set_option linter.unusedVariables false

theorem quiet_loadA {P : Program} {C : World → Prop} {o : Oper} {a : Act} {K : Act → Prop} (ty : TypeId) (x : Operand) (ho : o.op = .load ty x)
    (b f : Nat) (hx : a.eval x = .pointer (some ⟨b, f, none⟩)) (cs : Array Value) (hS : ∀ w, C w → (Instr.loadAt ty (.pointer (some ⟨b, f, none⟩))).run P w = .ok (.agg cs) w) (h : K (a.put o.dst (.agg cs))) : o.quiet P a C K :=
  ⟨_, fun w hw => by
    unfold Oper.quietAt execOp
    simp only [ho, hx, Sem.run_bind, Sem.run_pure, Result.andThen_ok, hS w hw]
    exact ⟨rfl, rfl⟩, h⟩
theorem Gr.blk {u : World} (n : Gr u) {g : Nat} {t : TypeId} {cs : Array Value} (h : BlkA u g t cs) : BlkA n.w g t cs := h.below n.2 h.lt
theorem gr_load {P : Program} {u : World} {g : Nat} {t ty : TypeId} {cs : Array Value} {d : TypeDesc} (h : BlkA u g t cs) (hu : P.underlying ty = some d) (hd : (match d with | .struct _ | .array _ _ => true | _ => false) = true) (hi : (P.info? ty).map (·.size) = some cs.size) :
    ∀ w, (∃ n : Gr u, w = n.w) → (Instr.loadAt ty (.pointer (some ⟨g, 0, none⟩))).run P w = .ok (.agg cs) w := fun w ⟨n, e⟩ => by subst e; exact (n.blk h).load hu hd hi
end Go.Proofs.Ytcahaimefgkmiaa
