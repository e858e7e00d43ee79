/-
  DERIVED. GIVEN WITH THE SEED: THE CARDS: each row of YtfmkhjbahgcgiaaGreatDoorRows.lean that lists a variable, with what it lists TIED to the program's text (the seventh form; the later family's looks); each row that meets fmt, with fmt's text TOLD by the authors' own Lean function (tested against real Go, not proved from fmt's source: count such statements apart). THE CARD IS WHAT COUNTS. Prove the row's statement (the work); the ties are given (YtfmkhjbahgcgiaaGreatDoorTie.lean); close each card by the builder's one call (the guide's Derived/Test/ToyasCard.lean, 'card_holds'). Laid BY PROGRAM, IN A SANDBOX (cutbox-door.mjs). By AI agents, Wed Nov 11 2026. No macro, syntax, notation, axiom, sorry.
-/
import Derived.Test.YtfmkhjbahgcgiaaGreatDoorRows
import GoSem.ClaimSeven
namespace Go.Proofs.YtfmkhjbahgcgiaaGreatDoor
namespace Rows

/-- THE TIED CARD OF 'palanquinlaw15.PgtblPlays'. -/
def pgtblPlaysCard : Claim7 := { stood := { row := pgtblPlaysRow, standIns := [], harness := (true, "af9b97a60b492e5a57a8047db9bbde2476ec3b6d9439163b363516b8b3aa188d"), looks := false }, kinds := [], alts := [], laidByText := true, laidKinds := [.data, .data, .data], laidTests := true, laidLooks := .later }
def PgtblPlaysCardSaid : Prop := Claim7.holds Tryz.pinned (.plain (OpenSpec.ofChange pgtblPlaysSpec)) pgtblPlaysCard

/-- THE SECOND FORM's CARD OF 'palanquinlaw15.PgtblPlays'. -/
def pgtblPlaysUptoCard : Claim7 := { stood := { row := pgtblPlaysUptoRow, standIns := [], harness := (true, "af9b97a60b492e5a57a8047db9bbde2476ec3b6d9439163b363516b8b3aa188d"), looks := false }, kinds := [], alts := [], laidByText := true, laidKinds := [.data, .data, .data], laidTests := true, laidLooks := .later }
def PgtblPlaysUptoCardSaid : Prop := Claim7.holds Tryz.pinned (.plain (OpenSpec.upto pgtblPlaysSpec)) pgtblPlaysUptoCard
end Rows
end Go.Proofs.YtfmkhjbahgcgiaaGreatDoor
