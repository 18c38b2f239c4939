/-
  DERIVED. GIVEN WITH THE SEED: THE CARDS: each row of YtocoligcbgcanaaDoorRows.lean that lists a variable, with what it lists TIED to the program's text (the seventh form; the later family's looks); each row that meets fmt, with fmt's text TOLD by the authors' own Lean function (tested against real Go, not proved from fmt's source: count such statements apart). THE CARD IS WHAT COUNTS. Prove the row's statement (the work); the ties are given (YtocoligcbgcanaaDoorTie.lean); close each card by the builder's one call (the guide's Derived/Test/ToyasCard.lean, 'card_holds'). Laid BY PROGRAM, IN A SANDBOX (cutbox-door.mjs). By AI agents, Wed Nov 11 2026. No macro, syntax, notation, axiom, sorry.
-/
import Derived.Test.YtocoligcbgcanaaDoorRows
import GoSem.ClaimSeven
namespace Go.Proofs.YtocoligcbgcanaaDoor
namespace Rows

/-- THE TIED CARD OF 'laws.FnDoors'. -/
def fnDoorsCard : Claim7 := { stood := { row := fnDoorsRow, standIns := [], harness := (true, "9b6a9f76c4f31a86bbb8bcf5944587ed76f7f7dcb4626b5d3ad5ffdeca75e09c"), looks := false }, kinds := [], alts := [], laidByText := true, laidKinds := [.data], laidTests := true, laidLooks := .later }
def FnDoorsCardSaid : Prop := Claim7.holds Tryd.pinned (.plain (OpenSpec.ofChange fnDoorsSpec)) fnDoorsCard

/-- THE TIED CARD OF 'laws.FnExactSeenKey'. -/
def fnExactSeenKeyCard : Claim7 := { stood := { row := fnExactSeenKeyRow, standIns := [], harness := (true, "9b6a9f76c4f31a86bbb8bcf5944587ed76f7f7dcb4626b5d3ad5ffdeca75e09c"), looks := false }, kinds := [], alts := [], laidByText := true, laidKinds := [.data], laidTests := true, laidLooks := .later }
def FnExactSeenKeyCardSaid : Prop := Claim7.holds Tryd.pinned (.plain (OpenSpec.ofChange fnExactSeenKeySpec)) fnExactSeenKeyCard

/-- THE TIED CARD OF 'laws.FnExactMarkKey'. -/
def fnExactMarkKeyCard : Claim7 := { stood := { row := fnExactMarkKeyRow, standIns := [], harness := (true, "9b6a9f76c4f31a86bbb8bcf5944587ed76f7f7dcb4626b5d3ad5ffdeca75e09c"), looks := false }, kinds := [], alts := [], laidByText := true, laidKinds := [.data], laidTests := true, laidLooks := .later }
def FnExactMarkKeyCardSaid : Prop := Claim7.holds Tryd.pinned (.plain (OpenSpec.ofChange fnExactMarkKeySpec)) fnExactMarkKeyCard

/-- THE SECOND FORM's CARD OF 'laws.FnDoors'. -/
def fnDoorsUptoCard : Claim7 := { stood := { row := fnDoorsUptoRow, standIns := [], harness := (true, "9b6a9f76c4f31a86bbb8bcf5944587ed76f7f7dcb4626b5d3ad5ffdeca75e09c"), looks := false }, kinds := [], alts := [], laidByText := true, laidKinds := [.data], laidTests := true, laidLooks := .later }
def FnDoorsUptoCardSaid : Prop := Claim7.holds Tryd.pinned (.plain (OpenSpec.upto fnDoorsSpec)) fnDoorsUptoCard

/-- THE SECOND FORM's CARD OF 'laws.FnExactSeenKey'. -/
def fnExactSeenKeyUptoCard : Claim7 := { stood := { row := fnExactSeenKeyUptoRow, standIns := [], harness := (true, "9b6a9f76c4f31a86bbb8bcf5944587ed76f7f7dcb4626b5d3ad5ffdeca75e09c"), looks := false }, kinds := [], alts := [], laidByText := true, laidKinds := [.data], laidTests := true, laidLooks := .later }
def FnExactSeenKeyUptoCardSaid : Prop := Claim7.holds Tryd.pinned (.plain (OpenSpec.upto fnExactSeenKeySpec)) fnExactSeenKeyUptoCard

/-- THE SECOND FORM's CARD OF 'laws.FnExactMarkKey'. -/
def fnExactMarkKeyUptoCard : Claim7 := { stood := { row := fnExactMarkKeyUptoRow, standIns := [], harness := (true, "9b6a9f76c4f31a86bbb8bcf5944587ed76f7f7dcb4626b5d3ad5ffdeca75e09c"), looks := false }, kinds := [], alts := [], laidByText := true, laidKinds := [.data], laidTests := true, laidLooks := .later }
def FnExactMarkKeyUptoCardSaid : Prop := Claim7.holds Tryd.pinned (.plain (OpenSpec.upto fnExactMarkKeySpec)) fnExactMarkKeyUptoCard
end Rows
end Go.Proofs.YtocoligcbgcanaaDoor
