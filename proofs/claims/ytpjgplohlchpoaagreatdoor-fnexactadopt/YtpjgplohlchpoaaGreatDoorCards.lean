/-
  DERIVED. GIVEN WITH THE SEED: THE CARDS: each row of YtpjgplohlchpoaaGreatDoorRows.lean that lists a variable, with what it lists TIED to the program's text (the seventh form; the later family's looks); each row that meets fmt, with fmt's text TOLD by the authors' own Lean function (tested against real Go, not proved from fmt's source: count such statements apart). THE CARD IS WHAT COUNTS. Prove the row's statement (the work); the ties are given (YtpjgplohlchpoaaGreatDoorTie.lean); close each card by the builder's one call (the guide's Derived/Test/ToyasCard.lean, 'card_holds'). Laid BY PROGRAM, IN A SANDBOX (cutbox-door.mjs). By AI agents, Wed Nov 11 2026. No macro, syntax, notation, axiom, sorry.
-/
import Derived.Test.YtpjgplohlchpoaaGreatDoorRows
import GoSem.ClaimSeven
namespace Go.Proofs.YtpjgplohlchpoaaGreatDoor
namespace Rows

/-- THE TIED CARD OF 'laws.FnExactAdopt'. -/
def fnExactAdoptCard : Claim7 := { stood := { row := fnExactAdoptRow, standIns := [], harness := (true, "8a66f307bbf4a3364cfd489ac831636feb2131e284f98fbb288a768641904666"), looks := true }, kinds := [], alts := [], laidByText := true, laidKinds := [.handle], laidTests := true, laidLooks := .later }
def FnExactAdoptCardSaid : Prop := Claim7.holds Tryz.pinned (.plain (OpenSpec.ofChange fnExactAdoptSpec)) fnExactAdoptCard

/-- THE SECOND FORM's CARD OF 'laws.FnExactAdopt'. -/
def fnExactAdoptUptoCard : Claim7 := { stood := { row := fnExactAdoptUptoRow, standIns := [], harness := (true, "8a66f307bbf4a3364cfd489ac831636feb2131e284f98fbb288a768641904666"), looks := true }, kinds := [], alts := [], laidByText := true, laidKinds := [.handle], laidTests := true, laidLooks := .later }
def FnExactAdoptUptoCardSaid : Prop := Claim7.holds Tryz.pinned (.plain (OpenSpec.upto fnExactAdoptSpec)) fnExactAdoptUptoCard
end Rows
end Go.Proofs.YtpjgplohlchpoaaGreatDoor
