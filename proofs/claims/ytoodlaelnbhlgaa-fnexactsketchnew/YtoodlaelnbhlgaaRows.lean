/-
  No cell of these rows narrows 'for every input' (looked for: loops, veiled, ifaces, maps, wideKeys, modest, calm, conditions, laid).
  DERIVED. THE GIVEN ROWS OF THIS SEAT. 5 by the template 'for every input the law returns true; each argument reads behind the call as it read before'; 0 by the template 'total and deterministic' (their statements: YtoodlaelnbhlgaaTotals.lean).
  GIVEN WITH THE SEED: the statements are not yours to turn. If you find one false, say at which input.
  Laid BY PROGRAM, IN A SANDBOX (cutbox-rows.mjs): the forced cells as the released guide's own fill.sh prints them over the translation b74551784eb1dea5… (all of the seat's roots in one cut). By AI agents, Wed Nov 11 2026. No macro, syntax, notation, axiom, sorry.
-/
import Derived.Test.YtoodlaelnbhlgaaChecked
import GoSem.Claim
import GoSem.ClaimJoined
import GoSem.ClaimMapViews
import Derived.JoinedTies
import Derived.KernelRfl
namespace Go.Proofs.Ytoodlaelnbhlgaa
/- THE CELL 'sum', in the pinned program and in every row, IS THE sha256 OF THE DUMP (.gsa) THAT YtoodlaelnbhlgaaProg.lean LOADS. Nothing in Lean hashes anything: it is a label: what it is worth is what the hold of that sum in a sandbox is worth. -/
noncomputable def Try.pinned : Pinned := { name := "ytoodlaelnbhlgaa", sum := "b74551784eb1dea5f5f039f8abad4aef1db272da6db1d1c5d3e466403c03a60d", checked := Try.checked }
namespace Rows
def none {H : Type} : Left H := { results := [], args := [] }

/-- 'laws.FnExactSketchNew': WHATEVER THE INPUT: true; the input reads as it did. -/
def fnExactSketchNewSpec : ChangeSpec := { name := "fnExactSketchNew", fn := fun _ => fun
  | [] => { results := [.lit (.bool true)], args := [] }
  | _ => none }
def fnExactSketchNewRow : OpenClaim := { program := "ytoodlaelnbhlgaa", sum := "b74551784eb1dea5f5f039f8abad4aef1db272da6db1d1c5d3e466403c03a60d", func := "loop.example/g00180/laws.FnExactSketchNew", spec := "fnExactSketchNew", apart := false }
def FnExactSketchNewSaid : Prop := fnExactSketchNewRow.holds Try.pinned (OpenSpec.ofChange fnExactSketchNewSpec)

/-- ITS FALSE NEIGHBOUR: 'it returns false'. Refute it at one input. -/
def fnExactSketchNewWrong : ChangeSpec := { name := "fnExactSketchNew", fn := fun _ => fun
  | [] => { results := [.lit (.bool false)], args := [] }
  | _ => none }
def FnExactSketchNewWrongFalsely : Prop := fnExactSketchNewRow.holds Try.pinned (OpenSpec.ofChange fnExactSketchNewWrong)

/-- 'laws.FnExactSketchOk': WHATEVER THE INPUT: true; the input reads as it did. -/
def fnExactSketchOkSpec : ChangeSpec := { name := "fnExactSketchOk", fn := fun _ => fun
  | [d] => { results := [.lit (.bool true)], args := [d] }
  | _ => none }
def fnExactSketchOkRow : OpenClaim := { program := "ytoodlaelnbhlgaa", sum := "b74551784eb1dea5f5f039f8abad4aef1db272da6db1d1c5d3e466403c03a60d", func := "loop.example/g00180/laws.FnExactSketchOk", spec := "fnExactSketchOk", apart := false }
def FnExactSketchOkSaid : Prop := fnExactSketchOkRow.holds Try.pinned (OpenSpec.ofChange fnExactSketchOkSpec)

/-- ITS FALSE NEIGHBOUR: 'it returns false'. Refute it at one input. -/
def fnExactSketchOkWrong : ChangeSpec := { name := "fnExactSketchOk", fn := fun _ => fun
  | [d] => { results := [.lit (.bool false)], args := [d] }
  | _ => none }
def FnExactSketchOkWrongFalsely : Prop := fnExactSketchOkRow.holds Try.pinned (OpenSpec.ofChange fnExactSketchOkWrong)

/-- 'laws.FnExactCountKey': WHATEVER THE INPUT: true; the input reads as it did. -/
def fnExactCountKeySpec : ChangeSpec := { name := "fnExactCountKey", fn := fun _ => fun
  | [d1, d2] => { results := [.lit (.bool true)], args := [d1, d2] }
  | _ => none }
def fnExactCountKeyRow : OpenClaim := { program := "ytoodlaelnbhlgaa", sum := "b74551784eb1dea5f5f039f8abad4aef1db272da6db1d1c5d3e466403c03a60d", func := "loop.example/g00180/laws.FnExactCountKey", spec := "fnExactCountKey", apart := false }
def FnExactCountKeySaid : Prop := fnExactCountKeyRow.holds Try.pinned (OpenSpec.ofChange fnExactCountKeySpec)

/-- ITS FALSE NEIGHBOUR: 'it returns false'. Refute it at one input. -/
def fnExactCountKeyWrong : ChangeSpec := { name := "fnExactCountKey", fn := fun _ => fun
  | [d1, d2] => { results := [.lit (.bool false)], args := [d1, d2] }
  | _ => none }
def FnExactCountKeyWrongFalsely : Prop := fnExactCountKeyRow.holds Try.pinned (OpenSpec.ofChange fnExactCountKeyWrong)

/-- 'laws.FnExactGuessKey': WHATEVER THE INPUT: true; the input reads as it did. -/
def fnExactGuessKeySpec : ChangeSpec := { name := "fnExactGuessKey", fn := fun _ => fun
  | [d1, d2] => { results := [.lit (.bool true)], args := [d1, d2] }
  | _ => none }
def fnExactGuessKeyRow : OpenClaim := { program := "ytoodlaelnbhlgaa", sum := "b74551784eb1dea5f5f039f8abad4aef1db272da6db1d1c5d3e466403c03a60d", func := "loop.example/g00180/laws.FnExactGuessKey", spec := "fnExactGuessKey", apart := false }
def FnExactGuessKeySaid : Prop := fnExactGuessKeyRow.holds Try.pinned (OpenSpec.ofChange fnExactGuessKeySpec)

/-- ITS FALSE NEIGHBOUR: 'it returns false'. Refute it at one input. -/
def fnExactGuessKeyWrong : ChangeSpec := { name := "fnExactGuessKey", fn := fun _ => fun
  | [d1, d2] => { results := [.lit (.bool false)], args := [d1, d2] }
  | _ => none }
def FnExactGuessKeyWrongFalsely : Prop := fnExactGuessKeyRow.holds Try.pinned (OpenSpec.ofChange fnExactGuessKeyWrong)

/-- 'laws.FnExactHalveAll': WHATEVER THE INPUT: true; the input reads as it did. -/
def fnExactHalveAllSpec : ChangeSpec := { name := "fnExactHalveAll", fn := fun _ => fun
  | [d] => { results := [.lit (.bool true)], args := [d] }
  | _ => none }
def fnExactHalveAllRow : OpenClaim := { program := "ytoodlaelnbhlgaa", sum := "b74551784eb1dea5f5f039f8abad4aef1db272da6db1d1c5d3e466403c03a60d", func := "loop.example/g00180/laws.FnExactHalveAll", spec := "fnExactHalveAll", apart := false }
def FnExactHalveAllSaid : Prop := fnExactHalveAllRow.holds Try.pinned (OpenSpec.ofChange fnExactHalveAllSpec)

/-- ITS FALSE NEIGHBOUR: 'it returns false'. Refute it at one input. -/
def fnExactHalveAllWrong : ChangeSpec := { name := "fnExactHalveAll", fn := fun _ => fun
  | [d] => { results := [.lit (.bool false)], args := [d] }
  | _ => none }
def FnExactHalveAllWrongFalsely : Prop := fnExactHalveAllRow.holds Try.pinned (OpenSpec.ofChange fnExactHalveAllWrong)

/- THE SECOND FORM. 'bulk': how many values and letters a reading holds, each counted each time it is reached (what is shared counts as often as it is met; a slice's spare places count too). A statement '..UptoSaid' is the law's where the arguments, and the package variables that the reading takes, are together of bulk at most 1048576: NARROWER than '..Said'. Prove '..Said' where nothing that the law and all that it calls make is longer than what came in: it says more and counts as full. Else prove '..UptoSaid'. A law counts once. -/
mutual
def uptoBulk {H : Type} : DataW H → Nat
  | .lit (.string bytes) => bytes.length + 1
  | .lit _ => 1
  | .nil => 1
  | .ptr d => uptoBulk d + 1
  | .slice elems spare => uptoBulkAll elems + uptoBulkAll spare + 1
  | .agg parts => uptoBulkAll parts + 1
  | .iface _ d => uptoBulk d + 1
  | .map entries => uptoBulkEntries entries + 1
  | .held _ => 1
def uptoBulkAll {H : Type} : List (DataW H) → Nat
  | [] => 0
  | d :: r => uptoBulk d + uptoBulkAll r
def uptoBulkEntries {H : Type} : List (Lit × DataW H) → Nat
  | [] => 0
  | x :: r => uptoBulkEntry x + uptoBulkEntries r
def uptoBulkEntry {H : Type} : Lit × DataW H → Nat
  | (.string bytes, d) => bytes.length + uptoBulk d + 1
  | (_, d) => uptoBulk d + 1
 end
def uptoSmall : (H : Type) → List (DataW H) → Bool := fun _ ds => decide (uptoBulkAll ds ≤ 1048576)
def OpenSpec.upto (s : _root_.Go.ChangeSpec) : _root_.Go.OpenSpec := { _root_.Go.OpenSpec.ofChange s with cond := some uptoSmall }

/-- 'laws.FnExactSketchNew', WHERE WHAT IT READS IS OF BULK AT MOST 1048576: true; the input reads as it did. -/
def fnExactSketchNewUptoRow : OpenClaim := { program := "ytoodlaelnbhlgaa", sum := "b74551784eb1dea5f5f039f8abad4aef1db272da6db1d1c5d3e466403c03a60d", func := "loop.example/g00180/laws.FnExactSketchNew", spec := "fnExactSketchNew", apart := false, narrowed := true }
def FnExactSketchNewUptoSaid : Prop := fnExactSketchNewUptoRow.holds Try.pinned (OpenSpec.upto fnExactSketchNewSpec)

/-- 'laws.FnExactSketchOk', WHERE WHAT IT READS IS OF BULK AT MOST 1048576: true; the input reads as it did. -/
def fnExactSketchOkUptoRow : OpenClaim := { program := "ytoodlaelnbhlgaa", sum := "b74551784eb1dea5f5f039f8abad4aef1db272da6db1d1c5d3e466403c03a60d", func := "loop.example/g00180/laws.FnExactSketchOk", spec := "fnExactSketchOk", apart := false, narrowed := true }
def FnExactSketchOkUptoSaid : Prop := fnExactSketchOkUptoRow.holds Try.pinned (OpenSpec.upto fnExactSketchOkSpec)

/-- 'laws.FnExactCountKey', WHERE WHAT IT READS IS OF BULK AT MOST 1048576: true; the input reads as it did. -/
def fnExactCountKeyUptoRow : OpenClaim := { program := "ytoodlaelnbhlgaa", sum := "b74551784eb1dea5f5f039f8abad4aef1db272da6db1d1c5d3e466403c03a60d", func := "loop.example/g00180/laws.FnExactCountKey", spec := "fnExactCountKey", apart := false, narrowed := true }
def FnExactCountKeyUptoSaid : Prop := fnExactCountKeyUptoRow.holds Try.pinned (OpenSpec.upto fnExactCountKeySpec)

/-- 'laws.FnExactGuessKey', WHERE WHAT IT READS IS OF BULK AT MOST 1048576: true; the input reads as it did. -/
def fnExactGuessKeyUptoRow : OpenClaim := { program := "ytoodlaelnbhlgaa", sum := "b74551784eb1dea5f5f039f8abad4aef1db272da6db1d1c5d3e466403c03a60d", func := "loop.example/g00180/laws.FnExactGuessKey", spec := "fnExactGuessKey", apart := false, narrowed := true }
def FnExactGuessKeyUptoSaid : Prop := fnExactGuessKeyUptoRow.holds Try.pinned (OpenSpec.upto fnExactGuessKeySpec)

/-- 'laws.FnExactHalveAll', WHERE WHAT IT READS IS OF BULK AT MOST 1048576: true; the input reads as it did. -/
def fnExactHalveAllUptoRow : OpenClaim := { program := "ytoodlaelnbhlgaa", sum := "b74551784eb1dea5f5f039f8abad4aef1db272da6db1d1c5d3e466403c03a60d", func := "loop.example/g00180/laws.FnExactHalveAll", spec := "fnExactHalveAll", apart := false, narrowed := true }
def FnExactHalveAllUptoSaid : Prop := fnExactHalveAllUptoRow.holds Try.pinned (OpenSpec.upto fnExactHalveAllSpec)

end Rows
end Go.Proofs.Ytoodlaelnbhlgaa
