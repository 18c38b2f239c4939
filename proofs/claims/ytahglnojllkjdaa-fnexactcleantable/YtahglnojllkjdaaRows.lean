/-
  No cell of these rows narrows 'for every input' (looked for: loops, veiled, ifaces, maps, wideKeys, modest, calm, conditions, laid).
  DERIVED. THE GIVEN ROWS OF THIS SEAT. 10 by the template 'for every input the law returns true; each argument reads behind the call as it read before'; 0 by the template 'total and deterministic' (their statements: YtahglnojllkjdaaTotals.lean).
  GIVEN WITH THE SEED: the statements are not yours to turn. If you find one false, say at which input.
  Laid BY PROGRAM, IN A SANDBOX (cutbox-rows.mjs): the forced cells as the released guide's own fill.sh prints them over the translation ee2d0f39ac70c341… (all of the seat's roots in one cut). By AI agents, Wed Nov 11 2026. No macro, syntax, notation, axiom, sorry.
-/
import Derived.Test.YtahglnojllkjdaaChecked
import GoSem.Claim
import GoSem.ClaimJoined
import GoSem.ClaimMapViews
import Derived.JoinedTies
import Derived.KernelRfl
namespace Go.Proofs.Ytahglnojllkjdaa
/- THE CELL 'sum', in the pinned program and in every row, IS THE sha256 OF THE DUMP (.gsa) THAT YtahglnojllkjdaaProg.lean LOADS. Nothing in Lean hashes anything: it is a label: what it is worth is what the hold of that sum in a sandbox is worth. -/
noncomputable def Try.pinned : Pinned := { name := "ytahglnojllkjdaa", sum := "ee2d0f39ac70c34134fa8c624858039e9d2b29635e23562e24cf0c23bf0a9385", checked := Try.checked }
namespace Rows
def none {H : Type} : Left H := { results := [], args := [] }

/-- 'laws.FnExactHashOf': WHATEVER THE INPUT: true; the input reads as it did. -/
def fnExactHashOfSpec : ChangeSpec := { name := "fnExactHashOf", fn := fun _ => fun
  | [d1, d2] => { results := [.lit (.bool true)], args := [d1, d2] }
  | _ => none }
def fnExactHashOfRow : OpenClaim := { program := "ytahglnojllkjdaa", sum := "ee2d0f39ac70c34134fa8c624858039e9d2b29635e23562e24cf0c23bf0a9385", func := "loop.example/g00180/laws.FnExactHashOf", spec := "fnExactHashOf", apart := false }
def FnExactHashOfSaid : Prop := fnExactHashOfRow.holds Try.pinned (OpenSpec.ofChange fnExactHashOfSpec)

/-- ITS FALSE NEIGHBOUR: 'it returns false'. Refute it at one input. -/
def fnExactHashOfWrong : ChangeSpec := { name := "fnExactHashOf", fn := fun _ => fun
  | [d1, d2] => { results := [.lit (.bool false)], args := [d1, d2] }
  | _ => none }
def FnExactHashOfWrongFalsely : Prop := fnExactHashOfRow.holds Try.pinned (OpenSpec.ofChange fnExactHashOfWrong)

/-- 'laws.FnExactTableNew': WHATEVER THE INPUT: true; the input reads as it did. -/
def fnExactTableNewSpec : ChangeSpec := { name := "fnExactTableNew", fn := fun _ => fun
  | [d] => { results := [.lit (.bool true)], args := [d] }
  | _ => none }
def fnExactTableNewRow : OpenClaim := { program := "ytahglnojllkjdaa", sum := "ee2d0f39ac70c34134fa8c624858039e9d2b29635e23562e24cf0c23bf0a9385", func := "loop.example/g00180/laws.FnExactTableNew", spec := "fnExactTableNew", apart := false }
def FnExactTableNewSaid : Prop := fnExactTableNewRow.holds Try.pinned (OpenSpec.ofChange fnExactTableNewSpec)

/-- ITS FALSE NEIGHBOUR: 'it returns false'. Refute it at one input. -/
def fnExactTableNewWrong : ChangeSpec := { name := "fnExactTableNew", fn := fun _ => fun
  | [d] => { results := [.lit (.bool false)], args := [d] }
  | _ => none }
def FnExactTableNewWrongFalsely : Prop := fnExactTableNewRow.holds Try.pinned (OpenSpec.ofChange fnExactTableNewWrong)

/-- 'laws.FnExactTableOk': WHATEVER THE INPUT: true; the input reads as it did. -/
def fnExactTableOkSpec : ChangeSpec := { name := "fnExactTableOk", fn := fun _ => fun
  | [d] => { results := [.lit (.bool true)], args := [d] }
  | _ => none }
def fnExactTableOkRow : OpenClaim := { program := "ytahglnojllkjdaa", sum := "ee2d0f39ac70c34134fa8c624858039e9d2b29635e23562e24cf0c23bf0a9385", func := "loop.example/g00180/laws.FnExactTableOk", spec := "fnExactTableOk", apart := false }
def FnExactTableOkSaid : Prop := fnExactTableOkRow.holds Try.pinned (OpenSpec.ofChange fnExactTableOkSpec)

/-- ITS FALSE NEIGHBOUR: 'it returns false'. Refute it at one input. -/
def fnExactTableOkWrong : ChangeSpec := { name := "fnExactTableOk", fn := fun _ => fun
  | [d] => { results := [.lit (.bool false)], args := [d] }
  | _ => none }
def FnExactTableOkWrongFalsely : Prop := fnExactTableOkRow.holds Try.pinned (OpenSpec.ofChange fnExactTableOkWrong)

/-- 'laws.FnExactSeekKey': WHATEVER THE INPUT: true; the input reads as it did. -/
def fnExactSeekKeySpec : ChangeSpec := { name := "fnExactSeekKey", fn := fun _ => fun
  | [d1, d2] => { results := [.lit (.bool true)], args := [d1, d2] }
  | _ => none }
def fnExactSeekKeyRow : OpenClaim := { program := "ytahglnojllkjdaa", sum := "ee2d0f39ac70c34134fa8c624858039e9d2b29635e23562e24cf0c23bf0a9385", func := "loop.example/g00180/laws.FnExactSeekKey", spec := "fnExactSeekKey", apart := false }
def FnExactSeekKeySaid : Prop := fnExactSeekKeyRow.holds Try.pinned (OpenSpec.ofChange fnExactSeekKeySpec)

/-- ITS FALSE NEIGHBOUR: 'it returns false'. Refute it at one input. -/
def fnExactSeekKeyWrong : ChangeSpec := { name := "fnExactSeekKey", fn := fun _ => fun
  | [d1, d2] => { results := [.lit (.bool false)], args := [d1, d2] }
  | _ => none }
def FnExactSeekKeyWrongFalsely : Prop := fnExactSeekKeyRow.holds Try.pinned (OpenSpec.ofChange fnExactSeekKeyWrong)

/-- 'laws.FnExactPutKey': WHATEVER THE INPUT: true; the input reads as it did. -/
def fnExactPutKeySpec : ChangeSpec := { name := "fnExactPutKey", fn := fun _ => fun
  | [d1, d2, d3] => { results := [.lit (.bool true)], args := [d1, d2, d3] }
  | _ => none }
def fnExactPutKeyRow : OpenClaim := { program := "ytahglnojllkjdaa", sum := "ee2d0f39ac70c34134fa8c624858039e9d2b29635e23562e24cf0c23bf0a9385", func := "loop.example/g00180/laws.FnExactPutKey", spec := "fnExactPutKey", apart := false }
def FnExactPutKeySaid : Prop := fnExactPutKeyRow.holds Try.pinned (OpenSpec.ofChange fnExactPutKeySpec)

/-- ITS FALSE NEIGHBOUR: 'it returns false'. Refute it at one input. -/
def fnExactPutKeyWrong : ChangeSpec := { name := "fnExactPutKey", fn := fun _ => fun
  | [d1, d2, d3] => { results := [.lit (.bool false)], args := [d1, d2, d3] }
  | _ => none }
def FnExactPutKeyWrongFalsely : Prop := fnExactPutKeyRow.holds Try.pinned (OpenSpec.ofChange fnExactPutKeyWrong)

/-- 'laws.FnExactTakeKey': WHATEVER THE INPUT: true; the input reads as it did. -/
def fnExactTakeKeySpec : ChangeSpec := { name := "fnExactTakeKey", fn := fun _ => fun
  | [d1, d2] => { results := [.lit (.bool true)], args := [d1, d2] }
  | _ => none }
def fnExactTakeKeyRow : OpenClaim := { program := "ytahglnojllkjdaa", sum := "ee2d0f39ac70c34134fa8c624858039e9d2b29635e23562e24cf0c23bf0a9385", func := "loop.example/g00180/laws.FnExactTakeKey", spec := "fnExactTakeKey", apart := false }
def FnExactTakeKeySaid : Prop := fnExactTakeKeyRow.holds Try.pinned (OpenSpec.ofChange fnExactTakeKeySpec)

/-- ITS FALSE NEIGHBOUR: 'it returns false'. Refute it at one input. -/
def fnExactTakeKeyWrong : ChangeSpec := { name := "fnExactTakeKey", fn := fun _ => fun
  | [d1, d2] => { results := [.lit (.bool false)], args := [d1, d2] }
  | _ => none }
def FnExactTakeKeyWrongFalsely : Prop := fnExactTakeKeyRow.holds Try.pinned (OpenSpec.ofChange fnExactTakeKeyWrong)

/-- 'laws.FnExactGrowTable': WHATEVER THE INPUT: true; the input reads as it did. -/
def fnExactGrowTableSpec : ChangeSpec := { name := "fnExactGrowTable", fn := fun _ => fun
  | [d] => { results := [.lit (.bool true)], args := [d] }
  | _ => none }
def fnExactGrowTableRow : OpenClaim := { program := "ytahglnojllkjdaa", sum := "ee2d0f39ac70c34134fa8c624858039e9d2b29635e23562e24cf0c23bf0a9385", func := "loop.example/g00180/laws.FnExactGrowTable", spec := "fnExactGrowTable", apart := false }
def FnExactGrowTableSaid : Prop := fnExactGrowTableRow.holds Try.pinned (OpenSpec.ofChange fnExactGrowTableSpec)

/-- ITS FALSE NEIGHBOUR: 'it returns false'. Refute it at one input. -/
def fnExactGrowTableWrong : ChangeSpec := { name := "fnExactGrowTable", fn := fun _ => fun
  | [d] => { results := [.lit (.bool false)], args := [d] }
  | _ => none }
def FnExactGrowTableWrongFalsely : Prop := fnExactGrowTableRow.holds Try.pinned (OpenSpec.ofChange fnExactGrowTableWrong)

/-- 'laws.FnExactMoveSome': WHATEVER THE INPUT: true; the input reads as it did. -/
def fnExactMoveSomeSpec : ChangeSpec := { name := "fnExactMoveSome", fn := fun _ => fun
  | [d1, d2] => { results := [.lit (.bool true)], args := [d1, d2] }
  | _ => none }
def fnExactMoveSomeRow : OpenClaim := { program := "ytahglnojllkjdaa", sum := "ee2d0f39ac70c34134fa8c624858039e9d2b29635e23562e24cf0c23bf0a9385", func := "loop.example/g00180/laws.FnExactMoveSome", spec := "fnExactMoveSome", apart := false }
def FnExactMoveSomeSaid : Prop := fnExactMoveSomeRow.holds Try.pinned (OpenSpec.ofChange fnExactMoveSomeSpec)

/-- ITS FALSE NEIGHBOUR: 'it returns false'. Refute it at one input. -/
def fnExactMoveSomeWrong : ChangeSpec := { name := "fnExactMoveSome", fn := fun _ => fun
  | [d1, d2] => { results := [.lit (.bool false)], args := [d1, d2] }
  | _ => none }
def FnExactMoveSomeWrongFalsely : Prop := fnExactMoveSomeRow.holds Try.pinned (OpenSpec.ofChange fnExactMoveSomeWrong)

/-- 'laws.FnExactCleanTable': WHATEVER THE INPUT: true; the input reads as it did. -/
def fnExactCleanTableSpec : ChangeSpec := { name := "fnExactCleanTable", fn := fun _ => fun
  | [d] => { results := [.lit (.bool true)], args := [d] }
  | _ => none }
def fnExactCleanTableRow : OpenClaim := { program := "ytahglnojllkjdaa", sum := "ee2d0f39ac70c34134fa8c624858039e9d2b29635e23562e24cf0c23bf0a9385", func := "loop.example/g00180/laws.FnExactCleanTable", spec := "fnExactCleanTable", inPlace := ["internal/bytealg.abigen_runtime_cmpstring"], unfollowed := true, recurses := true, apart := false }
def FnExactCleanTableSaid : Prop := fnExactCleanTableRow.holds Try.pinned (OpenSpec.ofChange fnExactCleanTableSpec)

/-- ITS FALSE NEIGHBOUR: 'it returns false'. Refute it at one input. -/
def fnExactCleanTableWrong : ChangeSpec := { name := "fnExactCleanTable", fn := fun _ => fun
  | [d] => { results := [.lit (.bool false)], args := [d] }
  | _ => none }
def FnExactCleanTableWrongFalsely : Prop := fnExactCleanTableRow.holds Try.pinned (OpenSpec.ofChange fnExactCleanTableWrong)

/-- 'laws.FnExactKeysOf': WHATEVER THE INPUT: true; the input reads as it did. -/
def fnExactKeysOfSpec : ChangeSpec := { name := "fnExactKeysOf", fn := fun _ => fun
  | [d] => { results := [.lit (.bool true)], args := [d] }
  | _ => none }
def fnExactKeysOfRow : OpenClaim := { program := "ytahglnojllkjdaa", sum := "ee2d0f39ac70c34134fa8c624858039e9d2b29635e23562e24cf0c23bf0a9385", func := "loop.example/g00180/laws.FnExactKeysOf", spec := "fnExactKeysOf", inPlace := ["internal/bytealg.abigen_runtime_cmpstring"], unfollowed := true, recurses := true, apart := false }
def FnExactKeysOfSaid : Prop := fnExactKeysOfRow.holds Try.pinned (OpenSpec.ofChange fnExactKeysOfSpec)

/-- ITS FALSE NEIGHBOUR: 'it returns false'. Refute it at one input. -/
def fnExactKeysOfWrong : ChangeSpec := { name := "fnExactKeysOf", fn := fun _ => fun
  | [d] => { results := [.lit (.bool false)], args := [d] }
  | _ => none }
def FnExactKeysOfWrongFalsely : Prop := fnExactKeysOfRow.holds Try.pinned (OpenSpec.ofChange fnExactKeysOfWrong)

/- THE SECOND FORM. 'bulk': how many values and letters a reading holds, each counted each time it is reached (what is shared counts as often as it is met; a slice's spare places count too). A statement '..UptoSaid' is the law's where the arguments, and the package variables that the reading takes, are together of bulk at most 1048576: NARROWER than '..Said'. Prove '..Said' where nothing that the law and all that it calls make is longer than what came in: it says more and counts as full. Else prove '..UptoSaid'. A law counts once. -/
mutual
def uptoBulk {H : Type} : DataW H → Nat
  | .lit (.string bytes) => bytes.length + 1
  | .lit _ => 1
  | .nil => 1
  | .ptr d => uptoBulk d + 1
  | .slice elems spare => uptoBulkAll elems + uptoBulkAll spare + 1
  | .agg parts => uptoBulkAll parts + 1
  | .iface _ d => uptoBulk d + 1
  | .map entries => uptoBulkEntries entries + 1
  | .held _ => 1
def uptoBulkAll {H : Type} : List (DataW H) → Nat
  | [] => 0
  | d :: r => uptoBulk d + uptoBulkAll r
def uptoBulkEntries {H : Type} : List (Lit × DataW H) → Nat
  | [] => 0
  | x :: r => uptoBulkEntry x + uptoBulkEntries r
def uptoBulkEntry {H : Type} : Lit × DataW H → Nat
  | (.string bytes, d) => bytes.length + uptoBulk d + 1
  | (_, d) => uptoBulk d + 1
 end
def uptoSmall : (H : Type) → List (DataW H) → Bool := fun _ ds => decide (uptoBulkAll ds ≤ 1048576)
def OpenSpec.upto (s : _root_.Go.ChangeSpec) : _root_.Go.OpenSpec := { _root_.Go.OpenSpec.ofChange s with cond := some uptoSmall }

/-- 'laws.FnExactHashOf', WHERE WHAT IT READS IS OF BULK AT MOST 1048576: true; the input reads as it did. -/
def fnExactHashOfUptoRow : OpenClaim := { program := "ytahglnojllkjdaa", sum := "ee2d0f39ac70c34134fa8c624858039e9d2b29635e23562e24cf0c23bf0a9385", func := "loop.example/g00180/laws.FnExactHashOf", spec := "fnExactHashOf", apart := false, narrowed := true }
def FnExactHashOfUptoSaid : Prop := fnExactHashOfUptoRow.holds Try.pinned (OpenSpec.upto fnExactHashOfSpec)

/-- 'laws.FnExactTableNew', WHERE WHAT IT READS IS OF BULK AT MOST 1048576: true; the input reads as it did. -/
def fnExactTableNewUptoRow : OpenClaim := { program := "ytahglnojllkjdaa", sum := "ee2d0f39ac70c34134fa8c624858039e9d2b29635e23562e24cf0c23bf0a9385", func := "loop.example/g00180/laws.FnExactTableNew", spec := "fnExactTableNew", apart := false, narrowed := true }
def FnExactTableNewUptoSaid : Prop := fnExactTableNewUptoRow.holds Try.pinned (OpenSpec.upto fnExactTableNewSpec)

/-- 'laws.FnExactTableOk', WHERE WHAT IT READS IS OF BULK AT MOST 1048576: true; the input reads as it did. -/
def fnExactTableOkUptoRow : OpenClaim := { program := "ytahglnojllkjdaa", sum := "ee2d0f39ac70c34134fa8c624858039e9d2b29635e23562e24cf0c23bf0a9385", func := "loop.example/g00180/laws.FnExactTableOk", spec := "fnExactTableOk", apart := false, narrowed := true }
def FnExactTableOkUptoSaid : Prop := fnExactTableOkUptoRow.holds Try.pinned (OpenSpec.upto fnExactTableOkSpec)

/-- 'laws.FnExactSeekKey', WHERE WHAT IT READS IS OF BULK AT MOST 1048576: true; the input reads as it did. -/
def fnExactSeekKeyUptoRow : OpenClaim := { program := "ytahglnojllkjdaa", sum := "ee2d0f39ac70c34134fa8c624858039e9d2b29635e23562e24cf0c23bf0a9385", func := "loop.example/g00180/laws.FnExactSeekKey", spec := "fnExactSeekKey", apart := false, narrowed := true }
def FnExactSeekKeyUptoSaid : Prop := fnExactSeekKeyUptoRow.holds Try.pinned (OpenSpec.upto fnExactSeekKeySpec)

/-- 'laws.FnExactPutKey', WHERE WHAT IT READS IS OF BULK AT MOST 1048576: true; the input reads as it did. -/
def fnExactPutKeyUptoRow : OpenClaim := { program := "ytahglnojllkjdaa", sum := "ee2d0f39ac70c34134fa8c624858039e9d2b29635e23562e24cf0c23bf0a9385", func := "loop.example/g00180/laws.FnExactPutKey", spec := "fnExactPutKey", apart := false, narrowed := true }
def FnExactPutKeyUptoSaid : Prop := fnExactPutKeyUptoRow.holds Try.pinned (OpenSpec.upto fnExactPutKeySpec)

/-- 'laws.FnExactTakeKey', WHERE WHAT IT READS IS OF BULK AT MOST 1048576: true; the input reads as it did. -/
def fnExactTakeKeyUptoRow : OpenClaim := { program := "ytahglnojllkjdaa", sum := "ee2d0f39ac70c34134fa8c624858039e9d2b29635e23562e24cf0c23bf0a9385", func := "loop.example/g00180/laws.FnExactTakeKey", spec := "fnExactTakeKey", apart := false, narrowed := true }
def FnExactTakeKeyUptoSaid : Prop := fnExactTakeKeyUptoRow.holds Try.pinned (OpenSpec.upto fnExactTakeKeySpec)

/-- 'laws.FnExactGrowTable', WHERE WHAT IT READS IS OF BULK AT MOST 1048576: true; the input reads as it did. -/
def fnExactGrowTableUptoRow : OpenClaim := { program := "ytahglnojllkjdaa", sum := "ee2d0f39ac70c34134fa8c624858039e9d2b29635e23562e24cf0c23bf0a9385", func := "loop.example/g00180/laws.FnExactGrowTable", spec := "fnExactGrowTable", apart := false, narrowed := true }
def FnExactGrowTableUptoSaid : Prop := fnExactGrowTableUptoRow.holds Try.pinned (OpenSpec.upto fnExactGrowTableSpec)

/-- 'laws.FnExactMoveSome', WHERE WHAT IT READS IS OF BULK AT MOST 1048576: true; the input reads as it did. -/
def fnExactMoveSomeUptoRow : OpenClaim := { program := "ytahglnojllkjdaa", sum := "ee2d0f39ac70c34134fa8c624858039e9d2b29635e23562e24cf0c23bf0a9385", func := "loop.example/g00180/laws.FnExactMoveSome", spec := "fnExactMoveSome", apart := false, narrowed := true }
def FnExactMoveSomeUptoSaid : Prop := fnExactMoveSomeUptoRow.holds Try.pinned (OpenSpec.upto fnExactMoveSomeSpec)

/-- 'laws.FnExactCleanTable', WHERE WHAT IT READS IS OF BULK AT MOST 1048576: true; the input reads as it did. -/
def fnExactCleanTableUptoRow : OpenClaim := { program := "ytahglnojllkjdaa", sum := "ee2d0f39ac70c34134fa8c624858039e9d2b29635e23562e24cf0c23bf0a9385", func := "loop.example/g00180/laws.FnExactCleanTable", spec := "fnExactCleanTable", inPlace := ["internal/bytealg.abigen_runtime_cmpstring"], unfollowed := true, recurses := true, apart := false, narrowed := true }
def FnExactCleanTableUptoSaid : Prop := fnExactCleanTableUptoRow.holds Try.pinned (OpenSpec.upto fnExactCleanTableSpec)

/-- 'laws.FnExactKeysOf', WHERE WHAT IT READS IS OF BULK AT MOST 1048576: true; the input reads as it did. -/
def fnExactKeysOfUptoRow : OpenClaim := { program := "ytahglnojllkjdaa", sum := "ee2d0f39ac70c34134fa8c624858039e9d2b29635e23562e24cf0c23bf0a9385", func := "loop.example/g00180/laws.FnExactKeysOf", spec := "fnExactKeysOf", inPlace := ["internal/bytealg.abigen_runtime_cmpstring"], unfollowed := true, recurses := true, apart := false, narrowed := true }
def FnExactKeysOfUptoSaid : Prop := fnExactKeysOfUptoRow.holds Try.pinned (OpenSpec.upto fnExactKeysOfSpec)

end Rows
end Go.Proofs.Ytahglnojllkjdaa
