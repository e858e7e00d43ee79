/-
  DERIVED. GIVEN WITH THE SEED: THE CARDS: each row of YtikhbohkmogffaaDoorRows.lean that lists a variable, with what it lists TIED to the program's text (the seventh form; the later family's looks); each row that meets fmt, with fmt's text TOLD by the authors' own Lean function (tested against real Go, not proved from fmt's source: count such statements apart). THE CARD IS WHAT COUNTS. Prove the row's statement (the work); the ties are given (YtikhbohkmogffaaDoorTie.lean); close each card by the builder's one call (the guide's Derived/Test/ToyasCard.lean, 'card_holds'). Laid BY PROGRAM, IN A SANDBOX (cutbox-door.mjs). By AI agents, Wed Nov 11 2026. No macro, syntax, notation, axiom, sorry.
-/
import Derived.Test.YtikhbohkmogffaaDoorRows
import GoSem.ClaimSeven
namespace Go.Proofs.YtikhbohkmogffaaDoor
namespace Rows

/-- THE TIED CARD OF 'palanquinlaw17.CompPlays'. -/
def compPlaysCard : Claim7 := { stood := { row := compPlaysRow, standIns := [], harness := (true, "a8e1256734d6604334e8fcd01af7973874451be0ea1514ced12b22ce751b64b1"), looks := false }, kinds := [], alts := [], laidByText := true, laidKinds := [.data, .data], laidTests := true, laidLooks := .later }
def CompPlaysCardSaid : Prop := Claim7.holds Tryd.pinned (.plain (OpenSpec.ofChange compPlaysSpec)) compPlaysCard

/-- THE TIED CARD OF 'palanquinlaw17.CompBack'. -/
def compBackCard : Claim7 := { stood := { row := compBackRow, standIns := [], harness := (true, "a8e1256734d6604334e8fcd01af7973874451be0ea1514ced12b22ce751b64b1"), looks := false }, kinds := [], alts := [], laidByText := true, laidKinds := [.data, .data], laidTests := true, laidLooks := .later }
def CompBackCardSaid : Prop := Claim7.holds Tryd.pinned (.plain (OpenSpec.ofChange compBackSpec)) compBackCard

/-- THE TIED CARD OF 'palanquinlaw17.CompWords'. -/
def compWordsCard : Claim7 := { stood := { row := compWordsRow, standIns := [], harness := (true, "a8e1256734d6604334e8fcd01af7973874451be0ea1514ced12b22ce751b64b1"), looks := false }, kinds := [], alts := [], laidByText := true, laidKinds := [.data, .data], laidTests := true, laidLooks := .later }
def CompWordsCardSaid : Prop := Claim7.holds Tryd.pinned (.plain (OpenSpec.ofChange compWordsSpec)) compWordsCard

/-- THE SECOND FORM's CARD OF 'palanquinlaw17.CompPlays'. -/
def compPlaysUptoCard : Claim7 := { stood := { row := compPlaysUptoRow, standIns := [], harness := (true, "a8e1256734d6604334e8fcd01af7973874451be0ea1514ced12b22ce751b64b1"), looks := false }, kinds := [], alts := [], laidByText := true, laidKinds := [.data, .data], laidTests := true, laidLooks := .later }
def CompPlaysUptoCardSaid : Prop := Claim7.holds Tryd.pinned (.plain (OpenSpec.upto compPlaysSpec)) compPlaysUptoCard

/-- THE SECOND FORM's CARD OF 'palanquinlaw17.CompBack'. -/
def compBackUptoCard : Claim7 := { stood := { row := compBackUptoRow, standIns := [], harness := (true, "a8e1256734d6604334e8fcd01af7973874451be0ea1514ced12b22ce751b64b1"), looks := false }, kinds := [], alts := [], laidByText := true, laidKinds := [.data, .data], laidTests := true, laidLooks := .later }
def CompBackUptoCardSaid : Prop := Claim7.holds Tryd.pinned (.plain (OpenSpec.upto compBackSpec)) compBackUptoCard

/-- THE SECOND FORM's CARD OF 'palanquinlaw17.CompWords'. -/
def compWordsUptoCard : Claim7 := { stood := { row := compWordsUptoRow, standIns := [], harness := (true, "a8e1256734d6604334e8fcd01af7973874451be0ea1514ced12b22ce751b64b1"), looks := false }, kinds := [], alts := [], laidByText := true, laidKinds := [.data, .data], laidTests := true, laidLooks := .later }
def CompWordsUptoCardSaid : Prop := Claim7.holds Tryd.pinned (.plain (OpenSpec.upto compWordsSpec)) compWordsUptoCard
end Rows
end Go.Proofs.YtikhbohkmogffaaDoor
