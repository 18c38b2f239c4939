/-
  DERIVED. GIVEN WITH THE SEED: THE CARDS: each row of YtigpjmmfelndkaaGreatDoorRows.lean that lists a variable, with what it lists TIED to the program's text (the seventh form; the later family's looks); each row that meets fmt, with fmt's text TOLD by the authors' own Lean function (tested against real Go, not proved from fmt's source: count such statements apart). THE CARD IS WHAT COUNTS. Prove the row's statement (the work); the ties are given (YtigpjmmfelndkaaGreatDoorTie.lean); close each card by the builder's one call (the guide's Derived/Test/ToyasCard.lean, 'card_holds'). Laid BY PROGRAM, IN A SANDBOX (cutbox-door.mjs). By AI agents, Wed Nov 11 2026. No macro, syntax, notation, axiom, sorry.
-/
import Derived.Test.YtigpjmmfelndkaaGreatDoorRows
import GoSem.ClaimSeven
namespace Go.Proofs.YtigpjmmfelndkaaGreatDoor
namespace Rows

/-- THE TIED CARD OF 'laws.FnKeeps'. -/
def fnKeepsCard : Claim7 := { stood := { row := fnKeepsRow, standIns := [], harness := (true, "397599aea2c1b79b89fbdee7811f34573830a5ed2669536234f2d89d67ff86cd"), looks := false }, kinds := [], alts := [], laidByText := true, laidKinds := [.data], laidTests := true, laidLooks := .later }
def FnKeepsCardSaid : Prop := Claim7.holds Tryz.pinned (.plain (OpenSpec.ofChange fnKeepsSpec)) fnKeepsCard

/-- THE TIED CARD OF 'laws.FnLives8'. -/
def fnLives8Card : Claim7 := { stood := { row := fnLives8Row, standIns := [], harness := (true, "397599aea2c1b79b89fbdee7811f34573830a5ed2669536234f2d89d67ff86cd"), looks := false }, kinds := [], alts := [], laidByText := true, laidKinds := [.data], laidTests := true, laidLooks := .later }
def FnLives8CardSaid : Prop := Claim7.holds Tryz.pinned (.plain (OpenSpec.ofChange fnLives8Spec)) fnLives8Card

/-- THE SECOND FORM's CARD OF 'laws.FnKeeps'. -/
def fnKeepsUptoCard : Claim7 := { stood := { row := fnKeepsUptoRow, standIns := [], harness := (true, "397599aea2c1b79b89fbdee7811f34573830a5ed2669536234f2d89d67ff86cd"), looks := false }, kinds := [], alts := [], laidByText := true, laidKinds := [.data], laidTests := true, laidLooks := .later }
def FnKeepsUptoCardSaid : Prop := Claim7.holds Tryz.pinned (.plain (OpenSpec.upto fnKeepsSpec)) fnKeepsUptoCard

/-- THE SECOND FORM's CARD OF 'laws.FnLives8'. -/
def fnLives8UptoCard : Claim7 := { stood := { row := fnLives8UptoRow, standIns := [], harness := (true, "397599aea2c1b79b89fbdee7811f34573830a5ed2669536234f2d89d67ff86cd"), looks := false }, kinds := [], alts := [], laidByText := true, laidKinds := [.data], laidTests := true, laidLooks := .later }
def FnLives8UptoCardSaid : Prop := Claim7.holds Tryz.pinned (.plain (OpenSpec.upto fnLives8Spec)) fnLives8UptoCard
end Rows
end Go.Proofs.YtigpjmmfelndkaaGreatDoor
