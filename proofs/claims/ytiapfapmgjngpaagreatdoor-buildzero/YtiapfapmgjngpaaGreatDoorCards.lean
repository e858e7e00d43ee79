/-
  DERIVED. GIVEN WITH THE SEED: THE CARDS: each row of YtiapfapmgjngpaaGreatDoorRows.lean that lists a variable, with what it lists TIED to the program's text (the seventh form; the later family's looks); each row that meets fmt, with fmt's text TOLD by the authors' own Lean function (tested against real Go, not proved from fmt's source: count such statements apart). THE CARD IS WHAT COUNTS. Prove the row's statement (the work); the ties are given (YtiapfapmgjngpaaGreatDoorTie.lean); close each card by the builder's one call (the guide's Derived/Test/ToyasCard.lean, 'card_holds'). Laid BY PROGRAM, IN A SANDBOX (cutbox-door.mjs). By AI agents, Wed Nov 11 2026. No macro, syntax, notation, axiom, sorry.
-/
import Derived.Test.YtiapfapmgjngpaaGreatDoorRows
import GoSem.ClaimSeven
namespace Go.Proofs.YtiapfapmgjngpaaGreatDoor
namespace Rows

/-- THE TIED CARD OF 'palanquinlaw27.BuildPlays'. -/
def buildPlaysCard : Claim7 := { stood := { row := buildPlaysRow, standIns := [], harness := (true, "78aec60eb55eba926e32d8b0954e6d88ba24804155eddfa819424c8391b425c5"), looks := false }, kinds := [], alts := [], laidByText := true, laidKinds := [.data, .data, .data, .data, .data, .data, .data], laidTests := true, laidLooks := .later }
def BuildPlaysCardSaid : Prop := Claim7.holds Tryz.pinned (.plain (OpenSpec.ofChange buildPlaysSpec)) buildPlaysCard

/-- THE TIED CARD OF 'palanquinlaw27.BuildGone'. -/
def buildGoneCard : Claim7 := { stood := { row := buildGoneRow, standIns := [], harness := (true, "78aec60eb55eba926e32d8b0954e6d88ba24804155eddfa819424c8391b425c5"), looks := false }, kinds := [], alts := [], laidByText := true, laidKinds := [.data, .data, .data, .data, .data, .data, .data], laidTests := true, laidLooks := .later }
def BuildGoneCardSaid : Prop := Claim7.holds Tryz.pinned (.plain (OpenSpec.ofChange buildGoneSpec)) buildGoneCard

/-- THE TIED CARD OF 'palanquinlaw27.BuildZero'. -/
def buildZeroCard : Claim7 := { stood := { row := buildZeroRow, standIns := [], harness := (true, "78aec60eb55eba926e32d8b0954e6d88ba24804155eddfa819424c8391b425c5"), looks := false }, kinds := [], alts := [], laidByText := true, laidKinds := [.data, .data, .data, .data, .data, .data, .data], laidTests := true, laidLooks := .later }
def BuildZeroCardSaid : Prop := Claim7.holds Tryz.pinned (.plain (OpenSpec.ofChange buildZeroSpec)) buildZeroCard

/-- THE SECOND FORM's CARD OF 'palanquinlaw27.BuildPlays'. -/
def buildPlaysUptoCard : Claim7 := { stood := { row := buildPlaysUptoRow, standIns := [], harness := (true, "78aec60eb55eba926e32d8b0954e6d88ba24804155eddfa819424c8391b425c5"), looks := false }, kinds := [], alts := [], laidByText := true, laidKinds := [.data, .data, .data, .data, .data, .data, .data], laidTests := true, laidLooks := .later }
def BuildPlaysUptoCardSaid : Prop := Claim7.holds Tryz.pinned (.plain (OpenSpec.upto buildPlaysSpec)) buildPlaysUptoCard

/-- THE SECOND FORM's CARD OF 'palanquinlaw27.BuildGone'. -/
def buildGoneUptoCard : Claim7 := { stood := { row := buildGoneUptoRow, standIns := [], harness := (true, "78aec60eb55eba926e32d8b0954e6d88ba24804155eddfa819424c8391b425c5"), looks := false }, kinds := [], alts := [], laidByText := true, laidKinds := [.data, .data, .data, .data, .data, .data, .data], laidTests := true, laidLooks := .later }
def BuildGoneUptoCardSaid : Prop := Claim7.holds Tryz.pinned (.plain (OpenSpec.upto buildGoneSpec)) buildGoneUptoCard

/-- THE SECOND FORM's CARD OF 'palanquinlaw27.BuildZero'. -/
def buildZeroUptoCard : Claim7 := { stood := { row := buildZeroUptoRow, standIns := [], harness := (true, "78aec60eb55eba926e32d8b0954e6d88ba24804155eddfa819424c8391b425c5"), looks := false }, kinds := [], alts := [], laidByText := true, laidKinds := [.data, .data, .data, .data, .data, .data, .data], laidTests := true, laidLooks := .later }
def BuildZeroUptoCardSaid : Prop := Claim7.holds Tryz.pinned (.plain (OpenSpec.upto buildZeroSpec)) buildZeroUptoCard
end Rows
end Go.Proofs.YtiapfapmgjngpaaGreatDoor
