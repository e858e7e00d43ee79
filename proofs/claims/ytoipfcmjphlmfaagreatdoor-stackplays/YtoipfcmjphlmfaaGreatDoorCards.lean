/-
  DERIVED. GIVEN WITH THE SEED: THE CARDS: each row of YtoipfcmjphlmfaaGreatDoorRows.lean that lists a variable, with what it lists TIED to the program's text (the seventh form; the later family's looks); each row that meets fmt, with fmt's text TOLD by the authors' own Lean function (tested against real Go, not proved from fmt's source: count such statements apart). THE CARD IS WHAT COUNTS. Prove the row's statement (the work); the ties are given (YtoipfcmjphlmfaaGreatDoorTie.lean); close each card by the builder's one call (the guide's Derived/Test/ToyasCard.lean, 'card_holds'). Laid BY PROGRAM, IN A SANDBOX (cutbox-door.mjs). By AI agents, Wed Nov 11 2026. No macro, syntax, notation, axiom, sorry.
-/
import Derived.Test.YtoipfcmjphlmfaaGreatDoorRows
import GoSem.ClaimSeven
namespace Go.Proofs.YtoipfcmjphlmfaaGreatDoor
namespace Rows

/-- THE TIED CARD OF 'palanquinlaw19.StackPlays'. -/
def stackPlaysCard : Claim7 := { stood := { row := stackPlaysRow, standIns := [], harness := (true, "13165dd389ec807658dd07f8b82d5c5627ff0294d9dbc7e5ab532baa570d69ca"), looks := false }, kinds := [], alts := [], laidByText := true, laidKinds := [.data, .data], laidTests := true, laidLooks := .later }
def StackPlaysCardSaid : Prop := Claim7.holds Tryz.pinned (.plain (OpenSpec.ofChange stackPlaysSpec)) stackPlaysCard

/-- THE SECOND FORM's CARD OF 'palanquinlaw19.StackPlays'. -/
def stackPlaysUptoCard : Claim7 := { stood := { row := stackPlaysUptoRow, standIns := [], harness := (true, "13165dd389ec807658dd07f8b82d5c5627ff0294d9dbc7e5ab532baa570d69ca"), looks := false }, kinds := [], alts := [], laidByText := true, laidKinds := [.data, .data], laidTests := true, laidLooks := .later }
def StackPlaysUptoCardSaid : Prop := Claim7.holds Tryz.pinned (.plain (OpenSpec.upto stackPlaysSpec)) stackPlaysUptoCard
end Rows
end Go.Proofs.YtoipfcmjphlmfaaGreatDoor
