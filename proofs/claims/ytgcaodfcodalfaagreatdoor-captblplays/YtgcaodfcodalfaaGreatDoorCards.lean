/-
  DERIVED. GIVEN WITH THE SEED: THE CARDS: each row of YtgcaodfcodalfaaGreatDoorRows.lean that lists a variable, with what it lists TIED to the program's text (the seventh form; the later family's looks); each row that meets fmt, with fmt's text TOLD by the authors' own Lean function (tested against real Go, not proved from fmt's source: count such statements apart). THE CARD IS WHAT COUNTS. Prove the row's statement (the work); the ties are given (YtgcaodfcodalfaaGreatDoorTie.lean); close each card by the builder's one call (the guide's Derived/Test/ToyasCard.lean, 'card_holds'). Laid BY PROGRAM, IN A SANDBOX (cutbox-door.mjs). By AI agents, Wed Nov 11 2026. No macro, syntax, notation, axiom, sorry.
-/
import Derived.Test.YtgcaodfcodalfaaGreatDoorRows
import GoSem.ClaimSeven
namespace Go.Proofs.YtgcaodfcodalfaaGreatDoor
namespace Rows

/-- THE TIED CARD OF 'palanquinlaw13.CaptblPlays'. -/
def captblPlaysCard : Claim7 := { stood := { row := captblPlaysRow, standIns := [], harness := (true, "274d472c9c14f987a10225d562e5c3ec65651d412d14606874a055ce726752d4"), looks := false }, kinds := [], alts := [], laidByText := true, laidKinds := [.data, .data, .data, .data], laidTests := true, laidLooks := .later }
def CaptblPlaysCardSaid : Prop := Claim7.holds Tryz.pinned (.plain (OpenSpec.ofChange captblPlaysSpec)) captblPlaysCard

/-- THE SECOND FORM's CARD OF 'palanquinlaw13.CaptblPlays'. -/
def captblPlaysUptoCard : Claim7 := { stood := { row := captblPlaysUptoRow, standIns := [], harness := (true, "274d472c9c14f987a10225d562e5c3ec65651d412d14606874a055ce726752d4"), looks := false }, kinds := [], alts := [], laidByText := true, laidKinds := [.data, .data, .data, .data], laidTests := true, laidLooks := .later }
def CaptblPlaysUptoCardSaid : Prop := Claim7.holds Tryz.pinned (.plain (OpenSpec.upto captblPlaysSpec)) captblPlaysUptoCard
end Rows
end Go.Proofs.YtgcaodfcodalfaaGreatDoor
