/-
  No cell of these rows narrows 'for every input' (looked for: loops, veiled, ifaces, maps, wideKeys, modest, calm, conditions, laid).
  DERIVED. THE GIVEN ROWS OF THIS SEAT. 5 by the template 'for every input the law returns true; each argument reads behind the call as it read before'; 0 by the template 'total and deterministic' (their statements: YtcahaimefgkmiaaTotals.lean).
  GIVEN WITH THE SEED: the statements are not yours to turn. If you find one false, say at which input.
  Laid BY PROGRAM, IN A SANDBOX (cutbox-rows.mjs): the forced cells as the released guide's own fill.sh prints them over the translation 020cd77ce1d953f3… (all of the seat's roots in one cut). By AI agents, Wed Nov 11 2026. No macro, syntax, notation, axiom, sorry.
-/
import Derived.Test.YtcahaimefgkmiaaChecked
import GoSem.Claim
import GoSem.ClaimJoined
import GoSem.ClaimMapViews
import Derived.JoinedTies
import Derived.KernelRfl
namespace Go.Proofs.Ytcahaimefgkmiaa
/- THE CELL 'sum', in the pinned program and in every row, IS THE sha256 OF THE DUMP (.gsa) THAT YtcahaimefgkmiaaProg.lean LOADS. Nothing in Lean hashes anything: it is a label: what it is worth is what the hold of that sum in a sandbox is worth. -/
noncomputable def Try.pinned : Pinned := { name := "ytcahaimefgkmiaa", sum := "020cd77ce1d953f38372199d6d0e4b19116521cb4aa61d8f5bbb9208f666afad", checked := Try.checked }
namespace Rows
def none {H : Type} : Left H := { results := [], args := [] }

/-- 'laws.FnExactStamp': WHATEVER THE INPUT: true; the input reads as it did. -/
def fnExactStampSpec : ChangeSpec := { name := "fnExactStamp", fn := fun _ => fun
  | [d] => { results := [.lit (.bool true)], args := [d] }
  | _ => none }
def fnExactStampRow : OpenClaim := { program := "ytcahaimefgkmiaa", sum := "020cd77ce1d953f38372199d6d0e4b19116521cb4aa61d8f5bbb9208f666afad", func := "loop.example/g00180/laws.FnExactStamp", spec := "fnExactStamp", apart := false }
def FnExactStampSaid : Prop := fnExactStampRow.holds Try.pinned (OpenSpec.ofChange fnExactStampSpec)

/-- ITS FALSE NEIGHBOUR: 'it returns false'. Refute it at one input. -/
def fnExactStampWrong : ChangeSpec := { name := "fnExactStamp", fn := fun _ => fun
  | [d] => { results := [.lit (.bool false)], args := [d] }
  | _ => none }
def FnExactStampWrongFalsely : Prop := fnExactStampRow.holds Try.pinned (OpenSpec.ofChange fnExactStampWrong)

/-- 'laws.FnExactInTime': WHATEVER THE INPUT: true; the input reads as it did. -/
def fnExactInTimeSpec : ChangeSpec := { name := "fnExactInTime", fn := fun _ => fun
  | [d] => { results := [.lit (.bool true)], args := [d] }
  | _ => none }
def fnExactInTimeRow : OpenClaim := { program := "ytcahaimefgkmiaa", sum := "020cd77ce1d953f38372199d6d0e4b19116521cb4aa61d8f5bbb9208f666afad", func := "loop.example/g00180/laws.FnExactInTime", spec := "fnExactInTime", unfollowed := true, recurses := true, apart := false }
def FnExactInTimeSaid : Prop := fnExactInTimeRow.holds Try.pinned (OpenSpec.ofChange fnExactInTimeSpec)

/-- ITS FALSE NEIGHBOUR: 'it returns false'. Refute it at one input. -/
def fnExactInTimeWrong : ChangeSpec := { name := "fnExactInTime", fn := fun _ => fun
  | [d] => { results := [.lit (.bool false)], args := [d] }
  | _ => none }
def FnExactInTimeWrongFalsely : Prop := fnExactInTimeRow.holds Try.pinned (OpenSpec.ofChange fnExactInTimeWrong)

/-- 'laws.FnExactReads': WHATEVER THE INPUT: true; the input reads as it did. -/
def fnExactReadsSpec : ChangeSpec := { name := "fnExactReads", fn := fun _ => fun
  | [d] => { results := [.lit (.bool true)], args := [d] }
  | _ => none }
def fnExactReadsRow : OpenClaim := { program := "ytcahaimefgkmiaa", sum := "020cd77ce1d953f38372199d6d0e4b19116521cb4aa61d8f5bbb9208f666afad", func := "loop.example/g00180/laws.FnExactReads", spec := "fnExactReads", unfollowed := true, recurses := true, apart := false }
def FnExactReadsSaid : Prop := fnExactReadsRow.holds Try.pinned (OpenSpec.ofChange fnExactReadsSpec)

/-- ITS FALSE NEIGHBOUR: 'it returns false'. Refute it at one input. -/
def fnExactReadsWrong : ChangeSpec := { name := "fnExactReads", fn := fun _ => fun
  | [d] => { results := [.lit (.bool false)], args := [d] }
  | _ => none }
def FnExactReadsWrongFalsely : Prop := fnExactReadsRow.holds Try.pinned (OpenSpec.ofChange fnExactReadsWrong)

/-- 'laws.FnExactOneServes': WHATEVER THE INPUT: true; the input reads as it did. -/
def fnExactOneServesSpec : ChangeSpec := { name := "fnExactOneServes", fn := fun _ => fun
  | [d] => { results := [.lit (.bool true)], args := [d] }
  | _ => none }
def fnExactOneServesRow : OpenClaim := { program := "ytcahaimefgkmiaa", sum := "020cd77ce1d953f38372199d6d0e4b19116521cb4aa61d8f5bbb9208f666afad", func := "loop.example/g00180/laws.FnExactOneServes", spec := "fnExactOneServes", unfollowed := true, recurses := true, apart := false }
def FnExactOneServesSaid : Prop := fnExactOneServesRow.holds Try.pinned (OpenSpec.ofChange fnExactOneServesSpec)

/-- ITS FALSE NEIGHBOUR: 'it returns false'. Refute it at one input. -/
def fnExactOneServesWrong : ChangeSpec := { name := "fnExactOneServes", fn := fun _ => fun
  | [d] => { results := [.lit (.bool false)], args := [d] }
  | _ => none }
def FnExactOneServesWrongFalsely : Prop := fnExactOneServesRow.holds Try.pinned (OpenSpec.ofChange fnExactOneServesWrong)

/-- 'laws.FnExactAlike': WHATEVER THE INPUT: true; the input reads as it did. -/
def fnExactAlikeSpec : ChangeSpec := { name := "fnExactAlike", fn := fun _ => fun
  | [d] => { results := [.lit (.bool true)], args := [d] }
  | _ => none }
def fnExactAlikeRow : OpenClaim := { program := "ytcahaimefgkmiaa", sum := "020cd77ce1d953f38372199d6d0e4b19116521cb4aa61d8f5bbb9208f666afad", func := "loop.example/g00180/laws.FnExactAlike", spec := "fnExactAlike", unfollowed := true, recurses := true, apart := false }
def FnExactAlikeSaid : Prop := fnExactAlikeRow.holds Try.pinned (OpenSpec.ofChange fnExactAlikeSpec)

/-- ITS FALSE NEIGHBOUR: 'it returns false'. Refute it at one input. -/
def fnExactAlikeWrong : ChangeSpec := { name := "fnExactAlike", fn := fun _ => fun
  | [d] => { results := [.lit (.bool false)], args := [d] }
  | _ => none }
def FnExactAlikeWrongFalsely : Prop := fnExactAlikeRow.holds Try.pinned (OpenSpec.ofChange fnExactAlikeWrong)

/- THE SECOND FORM. 'bulk': how many values and letters a reading holds, each counted each time it is reached (what is shared counts as often as it is met; a slice's spare places count too). A statement '..UptoSaid' is the law's where the arguments, and the package variables that the reading takes, are together of bulk at most 1048576: NARROWER than '..Said'. Prove '..Said' where nothing that the law and all that it calls make is longer than what came in: it says more and counts as full. Else prove '..UptoSaid'. A law counts once. -/
mutual
def uptoBulk {H : Type} : DataW H → Nat
  | .lit (.string bytes) => bytes.length + 1
  | .lit _ => 1
  | .nil => 1
  | .ptr d => uptoBulk d + 1
  | .slice elems spare => uptoBulkAll elems + uptoBulkAll spare + 1
  | .agg parts => uptoBulkAll parts + 1
  | .iface _ d => uptoBulk d + 1
  | .map entries => uptoBulkEntries entries + 1
  | .held _ => 1
def uptoBulkAll {H : Type} : List (DataW H) → Nat
  | [] => 0
  | d :: r => uptoBulk d + uptoBulkAll r
def uptoBulkEntries {H : Type} : List (Lit × DataW H) → Nat
  | [] => 0
  | x :: r => uptoBulkEntry x + uptoBulkEntries r
def uptoBulkEntry {H : Type} : Lit × DataW H → Nat
  | (.string bytes, d) => bytes.length + uptoBulk d + 1
  | (_, d) => uptoBulk d + 1
 end
def uptoSmall : (H : Type) → List (DataW H) → Bool := fun _ ds => decide (uptoBulkAll ds ≤ 1048576)
def OpenSpec.upto (s : _root_.Go.ChangeSpec) : _root_.Go.OpenSpec := { _root_.Go.OpenSpec.ofChange s with cond := some uptoSmall }

/-- 'laws.FnExactStamp', WHERE WHAT IT READS IS OF BULK AT MOST 1048576: true; the input reads as it did. -/
def fnExactStampUptoRow : OpenClaim := { program := "ytcahaimefgkmiaa", sum := "020cd77ce1d953f38372199d6d0e4b19116521cb4aa61d8f5bbb9208f666afad", func := "loop.example/g00180/laws.FnExactStamp", spec := "fnExactStamp", apart := false, narrowed := true }
def FnExactStampUptoSaid : Prop := fnExactStampUptoRow.holds Try.pinned (OpenSpec.upto fnExactStampSpec)

/-- 'laws.FnExactInTime', WHERE WHAT IT READS IS OF BULK AT MOST 1048576: true; the input reads as it did. -/
def fnExactInTimeUptoRow : OpenClaim := { program := "ytcahaimefgkmiaa", sum := "020cd77ce1d953f38372199d6d0e4b19116521cb4aa61d8f5bbb9208f666afad", func := "loop.example/g00180/laws.FnExactInTime", spec := "fnExactInTime", unfollowed := true, recurses := true, apart := false, narrowed := true }
def FnExactInTimeUptoSaid : Prop := fnExactInTimeUptoRow.holds Try.pinned (OpenSpec.upto fnExactInTimeSpec)

/-- 'laws.FnExactReads', WHERE WHAT IT READS IS OF BULK AT MOST 1048576: true; the input reads as it did. -/
def fnExactReadsUptoRow : OpenClaim := { program := "ytcahaimefgkmiaa", sum := "020cd77ce1d953f38372199d6d0e4b19116521cb4aa61d8f5bbb9208f666afad", func := "loop.example/g00180/laws.FnExactReads", spec := "fnExactReads", unfollowed := true, recurses := true, apart := false, narrowed := true }
def FnExactReadsUptoSaid : Prop := fnExactReadsUptoRow.holds Try.pinned (OpenSpec.upto fnExactReadsSpec)

/-- 'laws.FnExactOneServes', WHERE WHAT IT READS IS OF BULK AT MOST 1048576: true; the input reads as it did. -/
def fnExactOneServesUptoRow : OpenClaim := { program := "ytcahaimefgkmiaa", sum := "020cd77ce1d953f38372199d6d0e4b19116521cb4aa61d8f5bbb9208f666afad", func := "loop.example/g00180/laws.FnExactOneServes", spec := "fnExactOneServes", unfollowed := true, recurses := true, apart := false, narrowed := true }
def FnExactOneServesUptoSaid : Prop := fnExactOneServesUptoRow.holds Try.pinned (OpenSpec.upto fnExactOneServesSpec)

/-- 'laws.FnExactAlike', WHERE WHAT IT READS IS OF BULK AT MOST 1048576: true; the input reads as it did. -/
def fnExactAlikeUptoRow : OpenClaim := { program := "ytcahaimefgkmiaa", sum := "020cd77ce1d953f38372199d6d0e4b19116521cb4aa61d8f5bbb9208f666afad", func := "loop.example/g00180/laws.FnExactAlike", spec := "fnExactAlike", unfollowed := true, recurses := true, apart := false, narrowed := true }
def FnExactAlikeUptoSaid : Prop := fnExactAlikeUptoRow.holds Try.pinned (OpenSpec.upto fnExactAlikeSpec)

end Rows
end Go.Proofs.Ytcahaimefgkmiaa
