/-
  No cell of these rows narrows 'for every input' (looked for: loops, veiled, ifaces, maps, wideKeys, modest, calm, conditions, laid).
  DERIVED. THE GIVEN ROWS OF THIS SEAT. 3 by the template 'for every input the law returns true; each argument reads behind the call as it read before'; 0 by the template 'total and deterministic' (their statements: YtdgpencendphbaaTotals.lean).
  GIVEN WITH THE SEED: the statements are not yours to turn. If you find one false, say at which input.
  Laid BY PROGRAM, IN A SANDBOX (cutbox-rows.mjs): the forced cells as the released guide's own fill.sh prints them over the translation 8ed45e3f3dff9eab… (all of the seat's roots in one cut). By AI agents, Wed Nov 11 2026. No macro, syntax, notation, axiom, sorry.
-/
import Derived.Test.YtdgpencendphbaaChecked
import GoSem.Claim
import GoSem.ClaimJoined
import GoSem.ClaimMapViews
import Derived.JoinedTies
import Derived.KernelRfl
namespace Go.Proofs.Ytdgpencendphbaa
/- THE CELL 'sum', in the pinned program and in every row, IS THE sha256 OF THE DUMP (.gsa) THAT YtdgpencendphbaaProg.lean LOADS. Nothing in Lean hashes anything: it is a label: what it is worth is what the hold of that sum in a sandbox is worth. -/
noncomputable def Try.pinned : Pinned := { name := "ytdgpencendphbaa", sum := "8ed45e3f3dff9eabea7a7a7ae0d60d026e434ab5655647c6e79f7c1d2776ef16", checked := Try.checked }
namespace Rows
def none {H : Type} : Left H := { results := [], args := [] }

/-- 'laws.FnExactHomeOf': WHATEVER THE INPUT: true; the input reads as it did. -/
def fnExactHomeOfSpec : ChangeSpec := { name := "fnExactHomeOf", fn := fun _ => fun
  | [d1, d2] => { results := [.lit (.bool true)], args := [d1, d2] }
  | _ => none }
def fnExactHomeOfRow : OpenClaim := { program := "ytdgpencendphbaa", sum := "8ed45e3f3dff9eabea7a7a7ae0d60d026e434ab5655647c6e79f7c1d2776ef16", func := "loop.example/g00180/laws.FnExactHomeOf", spec := "fnExactHomeOf", apart := false }
def FnExactHomeOfSaid : Prop := fnExactHomeOfRow.holds Try.pinned (OpenSpec.ofChange fnExactHomeOfSpec)

/-- ITS FALSE NEIGHBOUR: 'it returns false'. Refute it at one input. -/
def fnExactHomeOfWrong : ChangeSpec := { name := "fnExactHomeOf", fn := fun _ => fun
  | [d1, d2] => { results := [.lit (.bool false)], args := [d1, d2] }
  | _ => none }
def FnExactHomeOfWrongFalsely : Prop := fnExactHomeOfRow.holds Try.pinned (OpenSpec.ofChange fnExactHomeOfWrong)

/-- 'laws.FnExactHomesOf': WHATEVER THE INPUT: true; the input reads as it did. -/
def fnExactHomesOfSpec : ChangeSpec := { name := "fnExactHomesOf", fn := fun _ => fun
  | [d1, d2, d3] => { results := [.lit (.bool true)], args := [d1, d2, d3] }
  | _ => none }
def fnExactHomesOfRow : OpenClaim := { program := "ytdgpencendphbaa", sum := "8ed45e3f3dff9eabea7a7a7ae0d60d026e434ab5655647c6e79f7c1d2776ef16", func := "loop.example/g00180/laws.FnExactHomesOf", spec := "fnExactHomesOf", apart := false }
def FnExactHomesOfSaid : Prop := fnExactHomesOfRow.holds Try.pinned (OpenSpec.ofChange fnExactHomesOfSpec)

/-- ITS FALSE NEIGHBOUR: 'it returns false'. Refute it at one input. -/
def fnExactHomesOfWrong : ChangeSpec := { name := "fnExactHomesOf", fn := fun _ => fun
  | [d1, d2, d3] => { results := [.lit (.bool false)], args := [d1, d2, d3] }
  | _ => none }
def FnExactHomesOfWrongFalsely : Prop := fnExactHomesOfRow.holds Try.pinned (OpenSpec.ofChange fnExactHomesOfWrong)

/-- 'laws.FnExactMovedKeys': WHATEVER THE INPUT: true; the input reads as it did. -/
def fnExactMovedKeysSpec : ChangeSpec := { name := "fnExactMovedKeys", fn := fun _ => fun
  | [d1, d2, d3] => { results := [.lit (.bool true)], args := [d1, d2, d3] }
  | _ => none }
def fnExactMovedKeysRow : OpenClaim := { program := "ytdgpencendphbaa", sum := "8ed45e3f3dff9eabea7a7a7ae0d60d026e434ab5655647c6e79f7c1d2776ef16", func := "loop.example/g00180/laws.FnExactMovedKeys", spec := "fnExactMovedKeys", apart := false }
def FnExactMovedKeysSaid : Prop := fnExactMovedKeysRow.holds Try.pinned (OpenSpec.ofChange fnExactMovedKeysSpec)

/-- ITS FALSE NEIGHBOUR: 'it returns false'. Refute it at one input. -/
def fnExactMovedKeysWrong : ChangeSpec := { name := "fnExactMovedKeys", fn := fun _ => fun
  | [d1, d2, d3] => { results := [.lit (.bool false)], args := [d1, d2, d3] }
  | _ => none }
def FnExactMovedKeysWrongFalsely : Prop := fnExactMovedKeysRow.holds Try.pinned (OpenSpec.ofChange fnExactMovedKeysWrong)

/- THE SECOND FORM. 'bulk': how many values and letters a reading holds, each counted each time it is reached (what is shared counts as often as it is met; a slice's spare places count too). A statement '..UptoSaid' is the law's where the arguments, and the package variables that the reading takes, are together of bulk at most 1048576: NARROWER than '..Said'. Prove '..Said' where nothing that the law and all that it calls make is longer than what came in: it says more and counts as full. Else prove '..UptoSaid'. A law counts once. -/
mutual
def uptoBulk {H : Type} : DataW H → Nat
  | .lit (.string bytes) => bytes.length + 1
  | .lit _ => 1
  | .nil => 1
  | .ptr d => uptoBulk d + 1
  | .slice elems spare => uptoBulkAll elems + uptoBulkAll spare + 1
  | .agg parts => uptoBulkAll parts + 1
  | .iface _ d => uptoBulk d + 1
  | .map entries => uptoBulkEntries entries + 1
  | .held _ => 1
def uptoBulkAll {H : Type} : List (DataW H) → Nat
  | [] => 0
  | d :: r => uptoBulk d + uptoBulkAll r
def uptoBulkEntries {H : Type} : List (Lit × DataW H) → Nat
  | [] => 0
  | x :: r => uptoBulkEntry x + uptoBulkEntries r
def uptoBulkEntry {H : Type} : Lit × DataW H → Nat
  | (.string bytes, d) => bytes.length + uptoBulk d + 1
  | (_, d) => uptoBulk d + 1
 end
def uptoSmall : (H : Type) → List (DataW H) → Bool := fun _ ds => decide (uptoBulkAll ds ≤ 1048576)
def OpenSpec.upto (s : _root_.Go.ChangeSpec) : _root_.Go.OpenSpec := { _root_.Go.OpenSpec.ofChange s with cond := some uptoSmall }

/-- 'laws.FnExactHomeOf', WHERE WHAT IT READS IS OF BULK AT MOST 1048576: true; the input reads as it did. -/
def fnExactHomeOfUptoRow : OpenClaim := { program := "ytdgpencendphbaa", sum := "8ed45e3f3dff9eabea7a7a7ae0d60d026e434ab5655647c6e79f7c1d2776ef16", func := "loop.example/g00180/laws.FnExactHomeOf", spec := "fnExactHomeOf", apart := false, narrowed := true }
def FnExactHomeOfUptoSaid : Prop := fnExactHomeOfUptoRow.holds Try.pinned (OpenSpec.upto fnExactHomeOfSpec)

/-- 'laws.FnExactHomesOf', WHERE WHAT IT READS IS OF BULK AT MOST 1048576: true; the input reads as it did. -/
def fnExactHomesOfUptoRow : OpenClaim := { program := "ytdgpencendphbaa", sum := "8ed45e3f3dff9eabea7a7a7ae0d60d026e434ab5655647c6e79f7c1d2776ef16", func := "loop.example/g00180/laws.FnExactHomesOf", spec := "fnExactHomesOf", apart := false, narrowed := true }
def FnExactHomesOfUptoSaid : Prop := fnExactHomesOfUptoRow.holds Try.pinned (OpenSpec.upto fnExactHomesOfSpec)

/-- 'laws.FnExactMovedKeys', WHERE WHAT IT READS IS OF BULK AT MOST 1048576: true; the input reads as it did. -/
def fnExactMovedKeysUptoRow : OpenClaim := { program := "ytdgpencendphbaa", sum := "8ed45e3f3dff9eabea7a7a7ae0d60d026e434ab5655647c6e79f7c1d2776ef16", func := "loop.example/g00180/laws.FnExactMovedKeys", spec := "fnExactMovedKeys", apart := false, narrowed := true }
def FnExactMovedKeysUptoSaid : Prop := fnExactMovedKeysUptoRow.holds Try.pinned (OpenSpec.upto fnExactMovedKeysSpec)

end Rows
end Go.Proofs.Ytdgpencendphbaa
