/-
  DERIVED. GIVEN WITH THE SEED: THE CARDS: each row of YtcoggdnpjpiacaaGreatDoorRows.lean that lists a variable, with what it lists TIED to the program's text (the seventh form; the later family's looks); each row that meets fmt, with fmt's text TOLD by the authors' own Lean function (tested against real Go, not proved from fmt's source: count such statements apart). THE CARD IS WHAT COUNTS. Prove the row's statement (the work); the ties are given (YtcoggdnpjpiacaaGreatDoorTie.lean); close each card by the builder's one call (the guide's Derived/Test/ToyasCard.lean, 'card_holds'). Laid BY PROGRAM, IN A SANDBOX (cutbox-door.mjs). By AI agents, Wed Nov 11 2026. No macro, syntax, notation, axiom, sorry.
-/
import Derived.Test.YtcoggdnpjpiacaaGreatDoorRows
import GoSem.ClaimSeven
namespace Go.Proofs.YtcoggdnpjpiacaaGreatDoor
namespace Rows

/-- THE TIED CARD OF 'palanquinlaw22.RcvPlays'. -/
def rcvPlaysCard : Claim7 := { stood := { row := rcvPlaysRow, standIns := [], harness := (true, "2e7bac7f2072dbde2d554276bd3c517b6247a0bc5aba2af266926183ce970cb2"), looks := false }, kinds := [], alts := [], laidByText := true, laidKinds := [.data, .data, .data], laidTests := true, laidLooks := .later }
def RcvPlaysCardSaid : Prop := Claim7.holds Tryz.pinned (.plain (OpenSpec.ofChange rcvPlaysSpec)) rcvPlaysCard

/-- THE SECOND FORM's CARD OF 'palanquinlaw22.RcvPlays'. -/
def rcvPlaysUptoCard : Claim7 := { stood := { row := rcvPlaysUptoRow, standIns := [], harness := (true, "2e7bac7f2072dbde2d554276bd3c517b6247a0bc5aba2af266926183ce970cb2"), looks := false }, kinds := [], alts := [], laidByText := true, laidKinds := [.data, .data, .data], laidTests := true, laidLooks := .later }
def RcvPlaysUptoCardSaid : Prop := Claim7.holds Tryz.pinned (.plain (OpenSpec.upto rcvPlaysSpec)) rcvPlaysUptoCard
end Rows
end Go.Proofs.YtcoggdnpjpiacaaGreatDoor
