/-
  DERIVED. GIVEN WITH THE SEED: THE CARDS: each row of YthmbipcfmciolaaDoorRows.lean that lists a variable, with what it lists TIED to the program's text (the seventh form; the later family's looks); each row that meets fmt, with fmt's text TOLD by the authors' own Lean function (tested against real Go, not proved from fmt's source: count such statements apart). THE CARD IS WHAT COUNTS. Prove the row's statement (the work); the ties are given (YthmbipcfmciolaaDoorTie.lean); close each card by the builder's one call (the guide's Derived/Test/ToyasCard.lean, 'card_holds'). Laid BY PROGRAM, IN A SANDBOX (cutbox-door.mjs). By AI agents, Wed Nov 11 2026. No macro, syntax, notation, axiom, sorry.
-/
import Derived.Test.YthmbipcfmciolaaDoorRows
import GoSem.ClaimSeven
namespace Go.Proofs.YthmbipcfmciolaaDoor
namespace Rows

/-- THE TIED CARD OF 'palanquinlaw14.PteTells'. -/
def pteTellsCard : Claim7 := { stood := { row := pteTellsRow, standIns := [], harness := (true, "6d8b4bd67cf4482a6d3453153a9e55ece2a044dc6ed1a0ed6c4ba496708c9cfb"), looks := false }, kinds := [], alts := [], laidByText := true, laidKinds := [.data], laidTests := true, laidLooks := .later }
def PteTellsCardSaid : Prop := Claim7.holds Tryd.pinned (.plain (OpenSpec.ofChange pteTellsSpec)) pteTellsCard

/-- THE TIED CARD OF 'palanquinlaw14.PteBack'. -/
def pteBackCard : Claim7 := { stood := { row := pteBackRow, standIns := [], harness := (true, "6d8b4bd67cf4482a6d3453153a9e55ece2a044dc6ed1a0ed6c4ba496708c9cfb"), looks := false }, kinds := [], alts := [], laidByText := true, laidKinds := [.data], laidTests := true, laidLooks := .later }
def PteBackCardSaid : Prop := Claim7.holds Tryd.pinned (.plain (OpenSpec.ofChange pteBackSpec)) pteBackCard

/-- THE SECOND FORM's CARD OF 'palanquinlaw14.PteTells'. -/
def pteTellsUptoCard : Claim7 := { stood := { row := pteTellsUptoRow, standIns := [], harness := (true, "6d8b4bd67cf4482a6d3453153a9e55ece2a044dc6ed1a0ed6c4ba496708c9cfb"), looks := false }, kinds := [], alts := [], laidByText := true, laidKinds := [.data], laidTests := true, laidLooks := .later }
def PteTellsUptoCardSaid : Prop := Claim7.holds Tryd.pinned (.plain (OpenSpec.upto pteTellsSpec)) pteTellsUptoCard

/-- THE SECOND FORM's CARD OF 'palanquinlaw14.PteBack'. -/
def pteBackUptoCard : Claim7 := { stood := { row := pteBackUptoRow, standIns := [], harness := (true, "6d8b4bd67cf4482a6d3453153a9e55ece2a044dc6ed1a0ed6c4ba496708c9cfb"), looks := false }, kinds := [], alts := [], laidByText := true, laidKinds := [.data], laidTests := true, laidLooks := .later }
def PteBackUptoCardSaid : Prop := Claim7.holds Tryd.pinned (.plain (OpenSpec.upto pteBackSpec)) pteBackUptoCard
end Rows
end Go.Proofs.YthmbipcfmciolaaDoor
