/-
  DERIVED. GIVEN WITH THE SEED: THE CARDS: each row of YtaajacmbnigadaaGreatDoorRows.lean that lists a variable, with what it lists TIED to the program's text (the seventh form; the later family's looks); each row that meets fmt, with fmt's text TOLD by the authors' own Lean function (tested against real Go, not proved from fmt's source: count such statements apart). THE CARD IS WHAT COUNTS. Prove the row's statement (the work); the ties are given (YtaajacmbnigadaaGreatDoorTie.lean); close each card by the builder's one call (the guide's Derived/Test/ToyasCard.lean, 'card_holds'). Laid BY PROGRAM, IN A SANDBOX (cutbox-door.mjs). By AI agents, Wed Nov 11 2026. No macro, syntax, notation, axiom, sorry.
-/
import Derived.Test.YtaajacmbnigadaaGreatDoorRows
import GoSem.ClaimSeven
namespace Go.Proofs.YtaajacmbnigadaaGreatDoor
namespace Rows

/-- THE TIED CARD OF 'palanquinlaw18.ThdPlays'. -/
def thdPlaysCard : Claim7 := { stood := { row := thdPlaysRow, standIns := [], harness := (true, "d172b7e84b8739d0c153efe4d138b8c5ffe8c3cf1f75d7416dc96f9ecc3908d6"), looks := false }, kinds := [], alts := [], laidByText := true, laidKinds := [.data], laidTests := true, laidLooks := .later }
def ThdPlaysCardSaid : Prop := Claim7.holds Tryz.pinned (.plain (OpenSpec.ofChange thdPlaysSpec)) thdPlaysCard

/-- THE SECOND FORM's CARD OF 'palanquinlaw18.ThdPlays'. -/
def thdPlaysUptoCard : Claim7 := { stood := { row := thdPlaysUptoRow, standIns := [], harness := (true, "d172b7e84b8739d0c153efe4d138b8c5ffe8c3cf1f75d7416dc96f9ecc3908d6"), looks := false }, kinds := [], alts := [], laidByText := true, laidKinds := [.data], laidTests := true, laidLooks := .later }
def ThdPlaysUptoCardSaid : Prop := Claim7.holds Tryz.pinned (.plain (OpenSpec.upto thdPlaysSpec)) thdPlaysUptoCard
end Rows
end Go.Proofs.YtaajacmbnigadaaGreatDoor
