/- A region that draws its order, whose operations read, and whose calls make new memory alone: one walk, in the order of the text. -/
import Derived.Test.YtcahaimefgkmiaaTA
import Derived.BigQuiet
namespace Go.Proofs.Ytcahaimefgkmiaa
open Go.RowKit
set_option linter.unusedVariables false

/-- The worlds that have grown out of u. -/
def Gr (u : World) : Type := {w' : World // Below u.heap.size u w'}
def Gr.w {u : World} (n : Gr u) : World := n.1
theorem Gr.b {u : World} (n : Gr u) : Below u.heap.size u n.w := n.2
instance (u : World) : Nonempty (Gr u) := ⟨⟨u, Below.refl _ _⟩⟩
theorem Gr.cell {u : World} (n : Gr u) {p : Addr} {v : Value} (h : u.cell? p = some v) : n.w.cell? p = some v := (n.2.cell (World.block_lt_of_cell? u _ h)).trans h
theorem wp_region_grown {P : Program} {id : Nat} {Q : Exit → Act → World → Prop} {a : Act} {u : World} {l : List Oper} (hm : P.follows .mixedOrders = true) (hB : Region.lexB .any l.toArray = true)
    (h : wpQuiet P l.toArray (fun w' => ∃ n : Gr u, w' = n.w) (fun a' => ∀ w', (∃ n : Gr u, w' = n.w) → Q .normal a' w') l a) : (Code.region id l.toArray true).wp P Q a u :=
  wp_region_quiet (C := fun w' => ∃ n : Gr u, w' = n.w) hm hB ⟨⟨{ u with drawn := u.drawn + 1 }, (Below.refl u.heap.size u).drew⟩, rfl⟩ (by simpa using h)
theorem quiet_grown {P : Program} {f : FuncId} {args : Array Value} {u : World} {n : Gr u} {v : Value} (h : Calls P f args n.w fun e w' => e = .returned v ∧ Below n.w.heap.size n.w w') : Calls P f args n.w fun e w'' => e = .returned v ∧ ∃ m : Gr u, w'' = m.w :=
  h.mono fun e w' he => ⟨he.1, ⟨w', n.2.trans (he.2.mono n.2.size)⟩, rfl⟩
theorem quiet_grownS {P : Program} {f : FuncId} {args : Array Value} {u : World} {n : Gr u} {v : Value} (h : Calls P f args n.w fun e w' => e = .returned v ∧ w' = n.w) : Calls P f args n.w fun e w'' => e = .returned v ∧ ∃ m : Gr u, w'' = m.w :=
  h.mono fun e w' he => ⟨he.1, n, he.2⟩
end Go.Proofs.Ytcahaimefgkmiaa
