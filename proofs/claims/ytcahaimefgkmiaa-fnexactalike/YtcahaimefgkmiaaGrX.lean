/- A region that draws and whose calls make new memory: structs in rows are loaded in it. -/
import Derived.Test.YtcahaimefgkmiaaGrR
import Derived.Test.YtcahaimefgkmiaaTB
namespace Go.Proofs.Ytcahaimefgkmiaa
open Go.RowKit
set_option linter.unusedVariables false

theorem gr_loadX {P : Program} {u : World} {b o : Nat} {ty : TypeId} {cs : Array Value} {d : TypeDesc} (h : CsAt u b o cs) (hb : b < u.heap.size) (hu : P.underlying ty = some d) (hd : (match d with | .struct _ | .array _ _ => true | _ => false) = true) (hi : (P.info? ty).map (·.size) = some cs.size) :
    ∀ w, (∃ n : Gr u, w = n.w) → (Instr.loadAt ty (.pointer (some ⟨b, o, none⟩))).run P w = .ok (.agg cs) w := fun w ⟨n, e⟩ => by subst e; exact (h.later n.b hb).load hu hd hi
end Go.Proofs.Ytcahaimefgkmiaa
