/-
  No cell of these rows narrows 'for every input' (looked for: loops, veiled, ifaces, maps, wideKeys, modest, calm, conditions, laid).
  DERIVED. THE GIVEN ROWS OF THIS SEAT. 5 by the template 'for every input the law returns true; each argument reads behind the call as it read before'; 0 by the template 'total and deterministic' (their statements: YtinjohpeanlalaaTotals.lean).
  GIVEN WITH THE SEED: the statements are not yours to turn. If you find one false, say at which input.
  Laid BY PROGRAM, IN A SANDBOX (cutbox-rows.mjs): the forced cells as the released guide's own fill.sh prints them over the translation 9f6aaa9c64454513… (all of the seat's roots in one cut). By AI agents, Wed Nov 11 2026. No macro, syntax, notation, axiom, sorry.
-/
import Derived.Test.YtinjohpeanlalaaChecked
import GoSem.Claim
import GoSem.ClaimJoined
import GoSem.ClaimMapViews
import Derived.JoinedTies
import Derived.KernelRfl
namespace Go.Proofs.Ytinjohpeanlalaa
/- THE CELL 'sum', in the pinned program and in every row, IS THE sha256 OF THE DUMP (.gsa) THAT YtinjohpeanlalaaProg.lean LOADS. Nothing in Lean hashes anything: it is a label: what it is worth is what the hold of that sum in a sandbox is worth. -/
noncomputable def Try.pinned : Pinned := { name := "ytinjohpeanlalaa", sum := "9f6aaa9c644545131a66ce44e976f3dc5a813f2faa245488ffaa478ce07c7f33", checked := Try.checked }
namespace Rows
def none {H : Type} : Left H := { results := [], args := [] }

/-- 'laws.FnHashes': WHATEVER THE INPUT: true; the input reads as it did. -/
def fnHashesSpec : ChangeSpec := { name := "fnHashes", fn := fun _ => fun
  | [d] => { results := [.lit (.bool true)], args := [d] }
  | _ => none }
def fnHashesRow : OpenClaim := { program := "ytinjohpeanlalaa", sum := "9f6aaa9c644545131a66ce44e976f3dc5a813f2faa245488ffaa478ce07c7f33", func := "loop.example/g00180/laws.FnHashes", spec := "fnHashes", apart := false }
def FnHashesSaid : Prop := fnHashesRow.holds Try.pinned (OpenSpec.ofChange fnHashesSpec)

/-- ITS FALSE NEIGHBOUR: 'it returns false'. Refute it at one input. -/
def fnHashesWrong : ChangeSpec := { name := "fnHashes", fn := fun _ => fun
  | [d] => { results := [.lit (.bool false)], args := [d] }
  | _ => none }
def FnHashesWrongFalsely : Prop := fnHashesRow.holds Try.pinned (OpenSpec.ofChange fnHashesWrong)

/-- 'laws.FnPuts': WHATEVER THE INPUT: true; the input reads as it did. -/
def fnPutsSpec : ChangeSpec := { name := "fnPuts", fn := fun _ => fun
  | [d] => { results := [.lit (.bool true)], args := [d] }
  | _ => none }
def fnPutsRow : OpenClaim := { program := "ytinjohpeanlalaa", sum := "9f6aaa9c644545131a66ce44e976f3dc5a813f2faa245488ffaa478ce07c7f33", func := "loop.example/g00180/laws.FnPuts", spec := "fnPuts", apart := false }
def FnPutsSaid : Prop := fnPutsRow.holds Try.pinned (OpenSpec.ofChange fnPutsSpec)

/-- ITS FALSE NEIGHBOUR: 'it returns false'. Refute it at one input. -/
def fnPutsWrong : ChangeSpec := { name := "fnPuts", fn := fun _ => fun
  | [d] => { results := [.lit (.bool false)], args := [d] }
  | _ => none }
def FnPutsWrongFalsely : Prop := fnPutsRow.holds Try.pinned (OpenSpec.ofChange fnPutsWrong)

/-- 'laws.FnGrows': WHATEVER THE INPUT: true; the input reads as it did. -/
def fnGrowsSpec : ChangeSpec := { name := "fnGrows", fn := fun _ => fun
  | [d] => { results := [.lit (.bool true)], args := [d] }
  | _ => none }
def fnGrowsRow : OpenClaim := { program := "ytinjohpeanlalaa", sum := "9f6aaa9c644545131a66ce44e976f3dc5a813f2faa245488ffaa478ce07c7f33", func := "loop.example/g00180/laws.FnGrows", spec := "fnGrows", inPlace := ["internal/bytealg.abigen_runtime_cmpstring"], unfollowed := true, recurses := true, apart := false }
def FnGrowsSaid : Prop := fnGrowsRow.holds Try.pinned (OpenSpec.ofChange fnGrowsSpec)

/-- ITS FALSE NEIGHBOUR: 'it returns false'. Refute it at one input. -/
def fnGrowsWrong : ChangeSpec := { name := "fnGrows", fn := fun _ => fun
  | [d] => { results := [.lit (.bool false)], args := [d] }
  | _ => none }
def FnGrowsWrongFalsely : Prop := fnGrowsRow.holds Try.pinned (OpenSpec.ofChange fnGrowsWrong)

/-- 'laws.FnCleans': WHATEVER THE INPUT: true; the input reads as it did. -/
def fnCleansSpec : ChangeSpec := { name := "fnCleans", fn := fun _ => fun
  | [d] => { results := [.lit (.bool true)], args := [d] }
  | _ => none }
def fnCleansRow : OpenClaim := { program := "ytinjohpeanlalaa", sum := "9f6aaa9c644545131a66ce44e976f3dc5a813f2faa245488ffaa478ce07c7f33", func := "loop.example/g00180/laws.FnCleans", spec := "fnCleans", inPlace := ["internal/bytealg.abigen_runtime_cmpstring"], unfollowed := true, recurses := true, apart := false }
def FnCleansSaid : Prop := fnCleansRow.holds Try.pinned (OpenSpec.ofChange fnCleansSpec)

/-- ITS FALSE NEIGHBOUR: 'it returns false'. Refute it at one input. -/
def fnCleansWrong : ChangeSpec := { name := "fnCleans", fn := fun _ => fun
  | [d] => { results := [.lit (.bool false)], args := [d] }
  | _ => none }
def FnCleansWrongFalsely : Prop := fnCleansRow.holds Try.pinned (OpenSpec.ofChange fnCleansWrong)

/-- 'laws.FnKeyLists': WHATEVER THE INPUT: true; the input reads as it did. -/
def fnKeyListsSpec : ChangeSpec := { name := "fnKeyLists", fn := fun _ => fun
  | [d] => { results := [.lit (.bool true)], args := [d] }
  | _ => none }
def fnKeyListsRow : OpenClaim := { program := "ytinjohpeanlalaa", sum := "9f6aaa9c644545131a66ce44e976f3dc5a813f2faa245488ffaa478ce07c7f33", func := "loop.example/g00180/laws.FnKeyLists", spec := "fnKeyLists", inPlace := ["internal/bytealg.abigen_runtime_cmpstring"], unfollowed := true, recurses := true, apart := false }
def FnKeyListsSaid : Prop := fnKeyListsRow.holds Try.pinned (OpenSpec.ofChange fnKeyListsSpec)

/-- ITS FALSE NEIGHBOUR: 'it returns false'. Refute it at one input. -/
def fnKeyListsWrong : ChangeSpec := { name := "fnKeyLists", fn := fun _ => fun
  | [d] => { results := [.lit (.bool false)], args := [d] }
  | _ => none }
def FnKeyListsWrongFalsely : Prop := fnKeyListsRow.holds Try.pinned (OpenSpec.ofChange fnKeyListsWrong)

/- THE SECOND FORM. 'bulk': how many values and letters a reading holds, each counted each time it is reached (what is shared counts as often as it is met; a slice's spare places count too). A statement '..UptoSaid' is the law's where the arguments, and the package variables that the reading takes, are together of bulk at most 1048576: NARROWER than '..Said'. Prove '..Said' where nothing that the law and all that it calls make is longer than what came in: it says more and counts as full. Else prove '..UptoSaid'. A law counts once. -/
mutual
def uptoBulk {H : Type} : DataW H → Nat
  | .lit (.string bytes) => bytes.length + 1
  | .lit _ => 1
  | .nil => 1
  | .ptr d => uptoBulk d + 1
  | .slice elems spare => uptoBulkAll elems + uptoBulkAll spare + 1
  | .agg parts => uptoBulkAll parts + 1
  | .iface _ d => uptoBulk d + 1
  | .map entries => uptoBulkEntries entries + 1
  | .held _ => 1
def uptoBulkAll {H : Type} : List (DataW H) → Nat
  | [] => 0
  | d :: r => uptoBulk d + uptoBulkAll r
def uptoBulkEntries {H : Type} : List (Lit × DataW H) → Nat
  | [] => 0
  | x :: r => uptoBulkEntry x + uptoBulkEntries r
def uptoBulkEntry {H : Type} : Lit × DataW H → Nat
  | (.string bytes, d) => bytes.length + uptoBulk d + 1
  | (_, d) => uptoBulk d + 1
 end
def uptoSmall : (H : Type) → List (DataW H) → Bool := fun _ ds => decide (uptoBulkAll ds ≤ 1048576)
def OpenSpec.upto (s : _root_.Go.ChangeSpec) : _root_.Go.OpenSpec := { _root_.Go.OpenSpec.ofChange s with cond := some uptoSmall }

/-- 'laws.FnHashes', WHERE WHAT IT READS IS OF BULK AT MOST 1048576: true; the input reads as it did. -/
def fnHashesUptoRow : OpenClaim := { program := "ytinjohpeanlalaa", sum := "9f6aaa9c644545131a66ce44e976f3dc5a813f2faa245488ffaa478ce07c7f33", func := "loop.example/g00180/laws.FnHashes", spec := "fnHashes", apart := false, narrowed := true }
def FnHashesUptoSaid : Prop := fnHashesUptoRow.holds Try.pinned (OpenSpec.upto fnHashesSpec)

/-- 'laws.FnPuts', WHERE WHAT IT READS IS OF BULK AT MOST 1048576: true; the input reads as it did. -/
def fnPutsUptoRow : OpenClaim := { program := "ytinjohpeanlalaa", sum := "9f6aaa9c644545131a66ce44e976f3dc5a813f2faa245488ffaa478ce07c7f33", func := "loop.example/g00180/laws.FnPuts", spec := "fnPuts", apart := false, narrowed := true }
def FnPutsUptoSaid : Prop := fnPutsUptoRow.holds Try.pinned (OpenSpec.upto fnPutsSpec)

/-- 'laws.FnGrows', WHERE WHAT IT READS IS OF BULK AT MOST 1048576: true; the input reads as it did. -/
def fnGrowsUptoRow : OpenClaim := { program := "ytinjohpeanlalaa", sum := "9f6aaa9c644545131a66ce44e976f3dc5a813f2faa245488ffaa478ce07c7f33", func := "loop.example/g00180/laws.FnGrows", spec := "fnGrows", inPlace := ["internal/bytealg.abigen_runtime_cmpstring"], unfollowed := true, recurses := true, apart := false, narrowed := true }
def FnGrowsUptoSaid : Prop := fnGrowsUptoRow.holds Try.pinned (OpenSpec.upto fnGrowsSpec)

/-- 'laws.FnCleans', WHERE WHAT IT READS IS OF BULK AT MOST 1048576: true; the input reads as it did. -/
def fnCleansUptoRow : OpenClaim := { program := "ytinjohpeanlalaa", sum := "9f6aaa9c644545131a66ce44e976f3dc5a813f2faa245488ffaa478ce07c7f33", func := "loop.example/g00180/laws.FnCleans", spec := "fnCleans", inPlace := ["internal/bytealg.abigen_runtime_cmpstring"], unfollowed := true, recurses := true, apart := false, narrowed := true }
def FnCleansUptoSaid : Prop := fnCleansUptoRow.holds Try.pinned (OpenSpec.upto fnCleansSpec)

/-- 'laws.FnKeyLists', WHERE WHAT IT READS IS OF BULK AT MOST 1048576: true; the input reads as it did. -/
def fnKeyListsUptoRow : OpenClaim := { program := "ytinjohpeanlalaa", sum := "9f6aaa9c644545131a66ce44e976f3dc5a813f2faa245488ffaa478ce07c7f33", func := "loop.example/g00180/laws.FnKeyLists", spec := "fnKeyLists", inPlace := ["internal/bytealg.abigen_runtime_cmpstring"], unfollowed := true, recurses := true, apart := false, narrowed := true }
def FnKeyListsUptoSaid : Prop := fnKeyListsUptoRow.holds Try.pinned (OpenSpec.upto fnKeyListsSpec)

end Rows
end Go.Proofs.Ytinjohpeanlalaa
