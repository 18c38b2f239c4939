/-
  No cell of these rows narrows 'for every input' (looked for: loops, veiled, ifaces, maps, wideKeys, modest, calm, conditions, laid).
  DERIVED. THE GIVEN ROWS OF THIS SEAT. 7 by the template 'for every input the law returns true; each argument reads behind the call as it read before'; 0 by the template 'total and deterministic' (their statements: YtgehdgmllilmgaaTotals.lean).
  GIVEN WITH THE SEED: the statements are not yours to turn. If you find one false, say at which input.
  Laid BY PROGRAM, IN A SANDBOX (cutbox-rows.mjs): the forced cells as the released guide's own fill.sh prints them over the translation dd7b3fc112ee7c98… (all of the seat's roots in one cut). By AI agents, Wed Nov 11 2026. No macro, syntax, notation, axiom, sorry.
-/
import Derived.Test.YtgehdgmllilmgaaChecked
import GoSem.Claim
import GoSem.ClaimJoined
import GoSem.ClaimMapViews
import Derived.JoinedTies
import Derived.KernelRfl
namespace Go.Proofs.Ytgehdgmllilmgaa
/- THE CELL 'sum', in the pinned program and in every row, IS THE sha256 OF THE DUMP (.gsa) THAT YtgehdgmllilmgaaProg.lean LOADS. Nothing in Lean hashes anything: it is a label: what it is worth is what the hold of that sum in a sandbox is worth. -/
noncomputable def Try.pinned : Pinned := { name := "ytgehdgmllilmgaa", sum := "dd7b3fc112ee7c9879963b258572cb3fa9de4a57bedb523d4aa656cc6f12e0e1", checked := Try.checked }
namespace Rows
def none {H : Type} : Left H := { results := [], args := [] }

/-- 'laws.FnDecides': WHATEVER THE INPUT: true; the input reads as it did. -/
def fnDecidesSpec : ChangeSpec := { name := "fnDecides", fn := fun _ => fun
  | [d] => { results := [.lit (.bool true)], args := [d] }
  | _ => none }
def fnDecidesRow : OpenClaim := { program := "ytgehdgmllilmgaa", sum := "dd7b3fc112ee7c9879963b258572cb3fa9de4a57bedb523d4aa656cc6f12e0e1", func := "loop.example/g00180/laws.FnDecides", spec := "fnDecides", unfollowed := true, recurses := true, apart := false }
def FnDecidesSaid : Prop := fnDecidesRow.holds Try.pinned (OpenSpec.ofChange fnDecidesSpec)

/-- ITS FALSE NEIGHBOUR: 'it returns false'. Refute it at one input. -/
def fnDecidesWrong : ChangeSpec := { name := "fnDecides", fn := fun _ => fun
  | [d] => { results := [.lit (.bool false)], args := [d] }
  | _ => none }
def FnDecidesWrongFalsely : Prop := fnDecidesRow.holds Try.pinned (OpenSpec.ofChange fnDecidesWrong)

/-- 'laws.FnChosen': WHATEVER THE INPUT: true; the input reads as it did. -/
def fnChosenSpec : ChangeSpec := { name := "fnChosen", fn := fun _ => fun
  | [d] => { results := [.lit (.bool true)], args := [d] }
  | _ => none }
def fnChosenRow : OpenClaim := { program := "ytgehdgmllilmgaa", sum := "dd7b3fc112ee7c9879963b258572cb3fa9de4a57bedb523d4aa656cc6f12e0e1", func := "loop.example/g00180/laws.FnChosen", spec := "fnChosen", unfollowed := true, recurses := true, apart := false }
def FnChosenSaid : Prop := fnChosenRow.holds Try.pinned (OpenSpec.ofChange fnChosenSpec)

/-- ITS FALSE NEIGHBOUR: 'it returns false'. Refute it at one input. -/
def fnChosenWrong : ChangeSpec := { name := "fnChosen", fn := fun _ => fun
  | [d] => { results := [.lit (.bool false)], args := [d] }
  | _ => none }
def FnChosenWrongFalsely : Prop := fnChosenRow.holds Try.pinned (OpenSpec.ofChange fnChosenWrong)

/-- 'laws.FnAlone12': WHATEVER THE INPUT: true; the input reads as it did. -/
def fnAlone12Spec : ChangeSpec := { name := "fnAlone12", fn := fun _ => fun
  | [d] => { results := [.lit (.bool true)], args := [d] }
  | _ => none }
def fnAlone12Row : OpenClaim := { program := "ytgehdgmllilmgaa", sum := "dd7b3fc112ee7c9879963b258572cb3fa9de4a57bedb523d4aa656cc6f12e0e1", func := "loop.example/g00180/laws.FnAlone12", spec := "fnAlone12", unfollowed := true, recurses := true, apart := false }
def FnAlone12Said : Prop := fnAlone12Row.holds Try.pinned (OpenSpec.ofChange fnAlone12Spec)

/-- ITS FALSE NEIGHBOUR: 'it returns false'. Refute it at one input. -/
def fnAlone12Wrong : ChangeSpec := { name := "fnAlone12", fn := fun _ => fun
  | [d] => { results := [.lit (.bool false)], args := [d] }
  | _ => none }
def FnAlone12WrongFalsely : Prop := fnAlone12Row.holds Try.pinned (OpenSpec.ofChange fnAlone12Wrong)

/-- 'laws.FnCouncilNew': WHATEVER THE INPUT: true; the input reads as it did. -/
def fnCouncilNewSpec : ChangeSpec := { name := "fnCouncilNew", fn := fun _ => fun
  | [d] => { results := [.lit (.bool true)], args := [d] }
  | _ => none }
def fnCouncilNewRow : OpenClaim := { program := "ytgehdgmllilmgaa", sum := "dd7b3fc112ee7c9879963b258572cb3fa9de4a57bedb523d4aa656cc6f12e0e1", func := "loop.example/g00180/laws.FnCouncilNew", spec := "fnCouncilNew", apart := false }
def FnCouncilNewSaid : Prop := fnCouncilNewRow.holds Try.pinned (OpenSpec.ofChange fnCouncilNewSpec)

/-- ITS FALSE NEIGHBOUR: 'it returns false'. Refute it at one input. -/
def fnCouncilNewWrong : ChangeSpec := { name := "fnCouncilNew", fn := fun _ => fun
  | [d] => { results := [.lit (.bool false)], args := [d] }
  | _ => none }
def FnCouncilNewWrongFalsely : Prop := fnCouncilNewRow.holds Try.pinned (OpenSpec.ofChange fnCouncilNewWrong)

/-- 'laws.FnExactCouncilNew': WHATEVER THE INPUT: true; the input reads as it did. -/
def fnExactCouncilNewSpec : ChangeSpec := { name := "fnExactCouncilNew", fn := fun _ => fun
  | [d1, d2] => { results := [.lit (.bool true)], args := [d1, d2] }
  | _ => none }
def fnExactCouncilNewRow : OpenClaim := { program := "ytgehdgmllilmgaa", sum := "dd7b3fc112ee7c9879963b258572cb3fa9de4a57bedb523d4aa656cc6f12e0e1", func := "loop.example/g00180/laws.FnExactCouncilNew", spec := "fnExactCouncilNew", apart := false }
def FnExactCouncilNewSaid : Prop := fnExactCouncilNewRow.holds Try.pinned (OpenSpec.ofChange fnExactCouncilNewSpec)

/-- ITS FALSE NEIGHBOUR: 'it returns false'. Refute it at one input. -/
def fnExactCouncilNewWrong : ChangeSpec := { name := "fnExactCouncilNew", fn := fun _ => fun
  | [d1, d2] => { results := [.lit (.bool false)], args := [d1, d2] }
  | _ => none }
def FnExactCouncilNewWrongFalsely : Prop := fnExactCouncilNewRow.holds Try.pinned (OpenSpec.ofChange fnExactCouncilNewWrong)

/-- 'laws.FnExactRunCouncil': WHATEVER THE INPUT: true; the input reads as it did. -/
def fnExactRunCouncilSpec : ChangeSpec := { name := "fnExactRunCouncil", fn := fun _ => fun
  | [d1, d2, d3] => { results := [.lit (.bool true)], args := [d1, d2, d3] }
  | _ => none }
def fnExactRunCouncilRow : OpenClaim := { program := "ytgehdgmllilmgaa", sum := "dd7b3fc112ee7c9879963b258572cb3fa9de4a57bedb523d4aa656cc6f12e0e1", func := "loop.example/g00180/laws.FnExactRunCouncil", spec := "fnExactRunCouncil", unfollowed := true, recurses := true, apart := false }
def FnExactRunCouncilSaid : Prop := fnExactRunCouncilRow.holds Try.pinned (OpenSpec.ofChange fnExactRunCouncilSpec)

/-- ITS FALSE NEIGHBOUR: 'it returns false'. Refute it at one input. -/
def fnExactRunCouncilWrong : ChangeSpec := { name := "fnExactRunCouncil", fn := fun _ => fun
  | [d1, d2, d3] => { results := [.lit (.bool false)], args := [d1, d2, d3] }
  | _ => none }
def FnExactRunCouncilWrongFalsely : Prop := fnExactRunCouncilRow.holds Try.pinned (OpenSpec.ofChange fnExactRunCouncilWrong)

/-- 'laws.FnExactOneChosen': WHATEVER THE INPUT: true; the input reads as it did. -/
def fnExactOneChosenSpec : ChangeSpec := { name := "fnExactOneChosen", fn := fun _ => fun
  | [d] => { results := [.lit (.bool true)], args := [d] }
  | _ => none }
def fnExactOneChosenRow : OpenClaim := { program := "ytgehdgmllilmgaa", sum := "dd7b3fc112ee7c9879963b258572cb3fa9de4a57bedb523d4aa656cc6f12e0e1", func := "loop.example/g00180/laws.FnExactOneChosen", spec := "fnExactOneChosen", apart := false }
def FnExactOneChosenSaid : Prop := fnExactOneChosenRow.holds Try.pinned (OpenSpec.ofChange fnExactOneChosenSpec)

/-- ITS FALSE NEIGHBOUR: 'it returns false'. Refute it at one input. -/
def fnExactOneChosenWrong : ChangeSpec := { name := "fnExactOneChosen", fn := fun _ => fun
  | [d] => { results := [.lit (.bool false)], args := [d] }
  | _ => none }
def FnExactOneChosenWrongFalsely : Prop := fnExactOneChosenRow.holds Try.pinned (OpenSpec.ofChange fnExactOneChosenWrong)

/- THE SECOND FORM. 'bulk': how many values and letters a reading holds, each counted each time it is reached (what is shared counts as often as it is met; a slice's spare places count too). A statement '..UptoSaid' is the law's where the arguments, and the package variables that the reading takes, are together of bulk at most 1048576: NARROWER than '..Said'. Prove '..Said' where nothing that the law and all that it calls make is longer than what came in: it says more and counts as full. Else prove '..UptoSaid'. A law counts once. -/
mutual
def uptoBulk {H : Type} : DataW H → Nat
  | .lit (.string bytes) => bytes.length + 1
  | .lit _ => 1
  | .nil => 1
  | .ptr d => uptoBulk d + 1
  | .slice elems spare => uptoBulkAll elems + uptoBulkAll spare + 1
  | .agg parts => uptoBulkAll parts + 1
  | .iface _ d => uptoBulk d + 1
  | .map entries => uptoBulkEntries entries + 1
  | .held _ => 1
def uptoBulkAll {H : Type} : List (DataW H) → Nat
  | [] => 0
  | d :: r => uptoBulk d + uptoBulkAll r
def uptoBulkEntries {H : Type} : List (Lit × DataW H) → Nat
  | [] => 0
  | x :: r => uptoBulkEntry x + uptoBulkEntries r
def uptoBulkEntry {H : Type} : Lit × DataW H → Nat
  | (.string bytes, d) => bytes.length + uptoBulk d + 1
  | (_, d) => uptoBulk d + 1
 end
def uptoSmall : (H : Type) → List (DataW H) → Bool := fun _ ds => decide (uptoBulkAll ds ≤ 1048576)
def OpenSpec.upto (s : _root_.Go.ChangeSpec) : _root_.Go.OpenSpec := { _root_.Go.OpenSpec.ofChange s with cond := some uptoSmall }

/-- 'laws.FnDecides', WHERE WHAT IT READS IS OF BULK AT MOST 1048576: true; the input reads as it did. -/
def fnDecidesUptoRow : OpenClaim := { program := "ytgehdgmllilmgaa", sum := "dd7b3fc112ee7c9879963b258572cb3fa9de4a57bedb523d4aa656cc6f12e0e1", func := "loop.example/g00180/laws.FnDecides", spec := "fnDecides", unfollowed := true, recurses := true, apart := false, narrowed := true }
def FnDecidesUptoSaid : Prop := fnDecidesUptoRow.holds Try.pinned (OpenSpec.upto fnDecidesSpec)

/-- 'laws.FnChosen', WHERE WHAT IT READS IS OF BULK AT MOST 1048576: true; the input reads as it did. -/
def fnChosenUptoRow : OpenClaim := { program := "ytgehdgmllilmgaa", sum := "dd7b3fc112ee7c9879963b258572cb3fa9de4a57bedb523d4aa656cc6f12e0e1", func := "loop.example/g00180/laws.FnChosen", spec := "fnChosen", unfollowed := true, recurses := true, apart := false, narrowed := true }
def FnChosenUptoSaid : Prop := fnChosenUptoRow.holds Try.pinned (OpenSpec.upto fnChosenSpec)

/-- 'laws.FnAlone12', WHERE WHAT IT READS IS OF BULK AT MOST 1048576: true; the input reads as it did. -/
def fnAlone12UptoRow : OpenClaim := { program := "ytgehdgmllilmgaa", sum := "dd7b3fc112ee7c9879963b258572cb3fa9de4a57bedb523d4aa656cc6f12e0e1", func := "loop.example/g00180/laws.FnAlone12", spec := "fnAlone12", unfollowed := true, recurses := true, apart := false, narrowed := true }
def FnAlone12UptoSaid : Prop := fnAlone12UptoRow.holds Try.pinned (OpenSpec.upto fnAlone12Spec)

/-- 'laws.FnCouncilNew', WHERE WHAT IT READS IS OF BULK AT MOST 1048576: true; the input reads as it did. -/
def fnCouncilNewUptoRow : OpenClaim := { program := "ytgehdgmllilmgaa", sum := "dd7b3fc112ee7c9879963b258572cb3fa9de4a57bedb523d4aa656cc6f12e0e1", func := "loop.example/g00180/laws.FnCouncilNew", spec := "fnCouncilNew", apart := false, narrowed := true }
def FnCouncilNewUptoSaid : Prop := fnCouncilNewUptoRow.holds Try.pinned (OpenSpec.upto fnCouncilNewSpec)

/-- 'laws.FnExactCouncilNew', WHERE WHAT IT READS IS OF BULK AT MOST 1048576: true; the input reads as it did. -/
def fnExactCouncilNewUptoRow : OpenClaim := { program := "ytgehdgmllilmgaa", sum := "dd7b3fc112ee7c9879963b258572cb3fa9de4a57bedb523d4aa656cc6f12e0e1", func := "loop.example/g00180/laws.FnExactCouncilNew", spec := "fnExactCouncilNew", apart := false, narrowed := true }
def FnExactCouncilNewUptoSaid : Prop := fnExactCouncilNewUptoRow.holds Try.pinned (OpenSpec.upto fnExactCouncilNewSpec)

/-- 'laws.FnExactRunCouncil', WHERE WHAT IT READS IS OF BULK AT MOST 1048576: true; the input reads as it did. -/
def fnExactRunCouncilUptoRow : OpenClaim := { program := "ytgehdgmllilmgaa", sum := "dd7b3fc112ee7c9879963b258572cb3fa9de4a57bedb523d4aa656cc6f12e0e1", func := "loop.example/g00180/laws.FnExactRunCouncil", spec := "fnExactRunCouncil", unfollowed := true, recurses := true, apart := false, narrowed := true }
def FnExactRunCouncilUptoSaid : Prop := fnExactRunCouncilUptoRow.holds Try.pinned (OpenSpec.upto fnExactRunCouncilSpec)

/-- 'laws.FnExactOneChosen', WHERE WHAT IT READS IS OF BULK AT MOST 1048576: true; the input reads as it did. -/
def fnExactOneChosenUptoRow : OpenClaim := { program := "ytgehdgmllilmgaa", sum := "dd7b3fc112ee7c9879963b258572cb3fa9de4a57bedb523d4aa656cc6f12e0e1", func := "loop.example/g00180/laws.FnExactOneChosen", spec := "fnExactOneChosen", apart := false, narrowed := true }
def FnExactOneChosenUptoSaid : Prop := fnExactOneChosenUptoRow.holds Try.pinned (OpenSpec.upto fnExactOneChosenSpec)

end Rows
end Go.Proofs.Ytgehdgmllilmgaa
