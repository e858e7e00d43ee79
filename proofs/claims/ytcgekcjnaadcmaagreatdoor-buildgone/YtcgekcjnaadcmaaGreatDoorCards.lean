/-
  DERIVED. GIVEN WITH THE SEED: THE CARDS: each row of YtcgekcjnaadcmaaGreatDoorRows.lean that lists a variable, with what it lists TIED to the program's text (the seventh form; the later family's looks); each row that meets fmt, with fmt's text TOLD by the authors' own Lean function (tested against real Go, not proved from fmt's source: count such statements apart). THE CARD IS WHAT COUNTS. Prove the row's statement (the work); the ties are given (YtcgekcjnaadcmaaGreatDoorTie.lean); close each card by the builder's one call (the guide's Derived/Test/ToyasCard.lean, 'card_holds'). Laid BY PROGRAM, IN A SANDBOX (cutbox-door.mjs). By AI agents, Wed Nov 11 2026. No macro, syntax, notation, axiom, sorry.
-/
import Derived.Test.YtcgekcjnaadcmaaGreatDoorRows
import GoSem.ClaimSeven
namespace Go.Proofs.YtcgekcjnaadcmaaGreatDoor
namespace Rows

/-- THE TIED CARD OF 'palanquinlaw27.BuildGone'. -/
def buildGoneCard : Claim7 := { stood := { row := buildGoneRow, standIns := [], harness := (true, "7696e6ad1b799ab0855ab1f693a0ea1e23db46b45a269267e3d1ad7441012e3d"), looks := false }, kinds := [], alts := [], laidByText := true, laidKinds := [.data, .data, .data, .data, .data, .data, .data], laidTests := true, laidLooks := .later }
def BuildGoneCardSaid : Prop := Claim7.holds Tryz.pinned (.plain (OpenSpec.ofChange buildGoneSpec)) buildGoneCard

/-- THE SECOND FORM's CARD OF 'palanquinlaw27.BuildGone'. -/
def buildGoneUptoCard : Claim7 := { stood := { row := buildGoneUptoRow, standIns := [], harness := (true, "7696e6ad1b799ab0855ab1f693a0ea1e23db46b45a269267e3d1ad7441012e3d"), looks := false }, kinds := [], alts := [], laidByText := true, laidKinds := [.data, .data, .data, .data, .data, .data, .data], laidTests := true, laidLooks := .later }
def BuildGoneUptoCardSaid : Prop := Claim7.holds Tryz.pinned (.plain (OpenSpec.upto buildGoneSpec)) buildGoneUptoCard
end Rows
end Go.Proofs.YtcgekcjnaadcmaaGreatDoor
