/-
  DERIVED. GIVEN WITH THE SEED: THE CARDS: each row of YtgcaodfcodalfaaDoorRows.lean that lists a variable, with what it lists TIED to the program's text (the seventh form; the later family's looks); each row that meets fmt, with fmt's text TOLD by the authors' own Lean function (tested against real Go, not proved from fmt's source: count such statements apart). THE CARD IS WHAT COUNTS. Prove the row's statement (the work); the ties are given (YtgcaodfcodalfaaDoorTie.lean); close each card by the builder's one call (the guide's Derived/Test/ToyasCard.lean, 'card_holds'). Laid BY PROGRAM, IN A SANDBOX (cutbox-door.mjs). By AI agents, Wed Nov 11 2026. No macro, syntax, notation, axiom, sorry.
-/
import Derived.Test.YtgcaodfcodalfaaDoorRows
import GoSem.ClaimSeven
namespace Go.Proofs.YtgcaodfcodalfaaDoor
namespace Rows

/-- THE TIED CARD OF 'palanquinlaw13.CaptblQuiet'. -/
def captblQuietCard : Claim7 := { stood := { row := captblQuietRow, standIns := [], harness := (true, "ddf01a2bfbbd869e09275b3559f493e5de1c144b558f6faf619bf569f0c780e8"), looks := false }, kinds := [], alts := [], laidByText := true, laidKinds := [.data, .data, .data, .data], laidTests := true, laidLooks := .later }
def CaptblQuietCardSaid : Prop := Claim7.holds Tryd.pinned (.plain (OpenSpec.ofChange captblQuietSpec)) captblQuietCard

/-- THE TIED CARD OF 'palanquinlaw13.CaptblLeaf'. -/
def captblLeafCard : Claim7 := { stood := { row := captblLeafRow, standIns := [], harness := (true, "ddf01a2bfbbd869e09275b3559f493e5de1c144b558f6faf619bf569f0c780e8"), looks := false }, kinds := [], alts := [], laidByText := true, laidKinds := [.data, .data, .data, .data], laidTests := true, laidLooks := .later }
def CaptblLeafCardSaid : Prop := Claim7.holds Tryd.pinned (.plain (OpenSpec.ofChange captblLeafSpec)) captblLeafCard

/-- THE TIED CARD OF 'palanquinlaw13.CaptblBeside'. -/
def captblBesideCard : Claim7 := { stood := { row := captblBesideRow, standIns := [], harness := (true, "ddf01a2bfbbd869e09275b3559f493e5de1c144b558f6faf619bf569f0c780e8"), looks := false }, kinds := [], alts := [], laidByText := true, laidKinds := [.data, .data, .data, .data], laidTests := true, laidLooks := .later }
def CaptblBesideCardSaid : Prop := Claim7.holds Tryd.pinned (.plain (OpenSpec.ofChange captblBesideSpec)) captblBesideCard

/-- THE SECOND FORM's CARD OF 'palanquinlaw13.CaptblQuiet'. -/
def captblQuietUptoCard : Claim7 := { stood := { row := captblQuietUptoRow, standIns := [], harness := (true, "ddf01a2bfbbd869e09275b3559f493e5de1c144b558f6faf619bf569f0c780e8"), looks := false }, kinds := [], alts := [], laidByText := true, laidKinds := [.data, .data, .data, .data], laidTests := true, laidLooks := .later }
def CaptblQuietUptoCardSaid : Prop := Claim7.holds Tryd.pinned (.plain (OpenSpec.upto captblQuietSpec)) captblQuietUptoCard

/-- THE SECOND FORM's CARD OF 'palanquinlaw13.CaptblLeaf'. -/
def captblLeafUptoCard : Claim7 := { stood := { row := captblLeafUptoRow, standIns := [], harness := (true, "ddf01a2bfbbd869e09275b3559f493e5de1c144b558f6faf619bf569f0c780e8"), looks := false }, kinds := [], alts := [], laidByText := true, laidKinds := [.data, .data, .data, .data], laidTests := true, laidLooks := .later }
def CaptblLeafUptoCardSaid : Prop := Claim7.holds Tryd.pinned (.plain (OpenSpec.upto captblLeafSpec)) captblLeafUptoCard

/-- THE SECOND FORM's CARD OF 'palanquinlaw13.CaptblBeside'. -/
def captblBesideUptoCard : Claim7 := { stood := { row := captblBesideUptoRow, standIns := [], harness := (true, "ddf01a2bfbbd869e09275b3559f493e5de1c144b558f6faf619bf569f0c780e8"), looks := false }, kinds := [], alts := [], laidByText := true, laidKinds := [.data, .data, .data, .data], laidTests := true, laidLooks := .later }
def CaptblBesideUptoCardSaid : Prop := Claim7.holds Tryd.pinned (.plain (OpenSpec.upto captblBesideSpec)) captblBesideUptoCard
end Rows
end Go.Proofs.YtgcaodfcodalfaaDoor
