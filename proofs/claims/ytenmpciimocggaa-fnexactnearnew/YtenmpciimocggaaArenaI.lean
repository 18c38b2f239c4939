/- What comes in as a place, opened. -/
import Derived.Test.YtenmpciimocggaaXB
import Derived.Deep.SlicePairs
import Derived.Lib.SmallJoins
import Derived.ProofKit
import Derived.OpenShut
namespace Go.Proofs.Ytenmpciimocggaa
open Go.ChangeShapes Go.WideShapes Go.ChangeAt Go.RowKit Go.Deep Go.Joins

instance : Inhabited Sl := ⟨zS⟩
/-- A slot whose numbers are ints and whose texts are texts. -/
def wfS (s : Sl) : Prop := (-9223372036854775808 ≤ s.gen ∧ s.gen ≤ 9223372036854775807) ∧ (-9223372036854775808 ≤ s.next ∧ s.next ≤ 9223372036854775807) ∧ s.key.size ≤ maxLen ∧ s.val.size ≤ maxLen

theorem eqArena_same (a b : Option Addr) (l : List Sl) (ca cb : Nat) (f : Int) (w : World) (hl : l.length ≤ 1048576) (ha : RdA w a l) (hb : RdA w b l) :
    Calls Try.prog 19 #[arV a l.length ca f, arV b l.length cb f] w fun e w' => e = .returned (.bool true) ∧ Below w.heap.size w w' := by
  refine (eqArena_any a b l l ca cb f f w hl ha hb).mono ?_
  rintro e w' ⟨x, rfl, hx, hb⟩
  obtain rfl : x = true := hx.2 ⟨rfl, rfl⟩
  exact ⟨rfl, hb⟩
end Go.Proofs.Ytenmpciimocggaa
