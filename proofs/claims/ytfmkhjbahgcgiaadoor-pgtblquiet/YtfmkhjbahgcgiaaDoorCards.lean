/-
  DERIVED. GIVEN WITH THE SEED: THE CARDS: each row of YtfmkhjbahgcgiaaDoorRows.lean that lists a variable, with what it lists TIED to the program's text (the seventh form; the later family's looks); each row that meets fmt, with fmt's text TOLD by the authors' own Lean function (tested against real Go, not proved from fmt's source: count such statements apart). THE CARD IS WHAT COUNTS. Prove the row's statement (the work); the ties are given (YtfmkhjbahgcgiaaDoorTie.lean); close each card by the builder's one call (the guide's Derived/Test/ToyasCard.lean, 'card_holds'). Laid BY PROGRAM, IN A SANDBOX (cutbox-door.mjs). By AI agents, Wed Nov 11 2026. No macro, syntax, notation, axiom, sorry.
-/
import Derived.Test.YtfmkhjbahgcgiaaDoorRows
import GoSem.ClaimSeven
namespace Go.Proofs.YtfmkhjbahgcgiaaDoor
namespace Rows

/-- THE TIED CARD OF 'palanquinlaw15.PgtblQuiet'. -/
def pgtblQuietCard : Claim7 := { stood := { row := pgtblQuietRow, standIns := [], harness := (true, "546d9b7dede8255437f8621e86912b2a6f160eb7a3bdc1b3d40147787253c63e"), looks := false }, kinds := [], alts := [], laidByText := true, laidKinds := [.data, .data, .data], laidTests := true, laidLooks := .later }
def PgtblQuietCardSaid : Prop := Claim7.holds Tryd.pinned (.plain (OpenSpec.ofChange pgtblQuietSpec)) pgtblQuietCard

/-- THE TIED CARD OF 'palanquinlaw15.PgtblBeside'. -/
def pgtblBesideCard : Claim7 := { stood := { row := pgtblBesideRow, standIns := [], harness := (true, "546d9b7dede8255437f8621e86912b2a6f160eb7a3bdc1b3d40147787253c63e"), looks := false }, kinds := [], alts := [], laidByText := true, laidKinds := [.data, .data, .data], laidTests := true, laidLooks := .later }
def PgtblBesideCardSaid : Prop := Claim7.holds Tryd.pinned (.plain (OpenSpec.ofChange pgtblBesideSpec)) pgtblBesideCard

/-- THE SECOND FORM's CARD OF 'palanquinlaw15.PgtblQuiet'. -/
def pgtblQuietUptoCard : Claim7 := { stood := { row := pgtblQuietUptoRow, standIns := [], harness := (true, "546d9b7dede8255437f8621e86912b2a6f160eb7a3bdc1b3d40147787253c63e"), looks := false }, kinds := [], alts := [], laidByText := true, laidKinds := [.data, .data, .data], laidTests := true, laidLooks := .later }
def PgtblQuietUptoCardSaid : Prop := Claim7.holds Tryd.pinned (.plain (OpenSpec.upto pgtblQuietSpec)) pgtblQuietUptoCard

/-- THE SECOND FORM's CARD OF 'palanquinlaw15.PgtblBeside'. -/
def pgtblBesideUptoCard : Claim7 := { stood := { row := pgtblBesideUptoRow, standIns := [], harness := (true, "546d9b7dede8255437f8621e86912b2a6f160eb7a3bdc1b3d40147787253c63e"), looks := false }, kinds := [], alts := [], laidByText := true, laidKinds := [.data, .data, .data], laidTests := true, laidLooks := .later }
def PgtblBesideUptoCardSaid : Prop := Claim7.holds Tryd.pinned (.plain (OpenSpec.upto pgtblBesideSpec)) pgtblBesideUptoCard
end Rows
end Go.Proofs.YtfmkhjbahgcgiaaDoor
