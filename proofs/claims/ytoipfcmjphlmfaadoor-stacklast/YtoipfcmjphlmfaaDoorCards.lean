/-
  DERIVED. GIVEN WITH THE SEED: THE CARDS: each row of YtoipfcmjphlmfaaDoorRows.lean that lists a variable, with what it lists TIED to the program's text (the seventh form; the later family's looks); each row that meets fmt, with fmt's text TOLD by the authors' own Lean function (tested against real Go, not proved from fmt's source: count such statements apart). THE CARD IS WHAT COUNTS. Prove the row's statement (the work); the ties are given (YtoipfcmjphlmfaaDoorTie.lean); close each card by the builder's one call (the guide's Derived/Test/ToyasCard.lean, 'card_holds'). Laid BY PROGRAM, IN A SANDBOX (cutbox-door.mjs). By AI agents, Wed Nov 11 2026. No macro, syntax, notation, axiom, sorry.
-/
import Derived.Test.YtoipfcmjphlmfaaDoorRows
import GoSem.ClaimSeven
namespace Go.Proofs.YtoipfcmjphlmfaaDoor
namespace Rows

/-- THE TIED CARD OF 'palanquinlaw19.StackLast'. -/
def stackLastCard : Claim7 := { stood := { row := stackLastRow, standIns := [], harness := (true, "e9bb26d0ccb7d5e856d476cedfe2db89a93130062b7cc42f1f1a08a81017e9cb"), looks := false }, kinds := [], alts := [], laidByText := true, laidKinds := [.data, .data], laidTests := true, laidLooks := .later }
def StackLastCardSaid : Prop := Claim7.holds Tryd.pinned (.plain (OpenSpec.ofChange stackLastSpec)) stackLastCard

/-- THE TIED CARD OF 'palanquinlaw19.StackBelow'. -/
def stackBelowCard : Claim7 := { stood := { row := stackBelowRow, standIns := [], harness := (true, "e9bb26d0ccb7d5e856d476cedfe2db89a93130062b7cc42f1f1a08a81017e9cb"), looks := false }, kinds := [], alts := [], laidByText := true, laidKinds := [.data, .data], laidTests := true, laidLooks := .later }
def StackBelowCardSaid : Prop := Claim7.holds Tryd.pinned (.plain (OpenSpec.ofChange stackBelowSpec)) stackBelowCard

/-- THE SECOND FORM's CARD OF 'palanquinlaw19.StackLast'. -/
def stackLastUptoCard : Claim7 := { stood := { row := stackLastUptoRow, standIns := [], harness := (true, "e9bb26d0ccb7d5e856d476cedfe2db89a93130062b7cc42f1f1a08a81017e9cb"), looks := false }, kinds := [], alts := [], laidByText := true, laidKinds := [.data, .data], laidTests := true, laidLooks := .later }
def StackLastUptoCardSaid : Prop := Claim7.holds Tryd.pinned (.plain (OpenSpec.upto stackLastSpec)) stackLastUptoCard

/-- THE SECOND FORM's CARD OF 'palanquinlaw19.StackBelow'. -/
def stackBelowUptoCard : Claim7 := { stood := { row := stackBelowUptoRow, standIns := [], harness := (true, "e9bb26d0ccb7d5e856d476cedfe2db89a93130062b7cc42f1f1a08a81017e9cb"), looks := false }, kinds := [], alts := [], laidByText := true, laidKinds := [.data, .data], laidTests := true, laidLooks := .later }
def StackBelowUptoCardSaid : Prop := Claim7.holds Tryd.pinned (.plain (OpenSpec.upto stackBelowSpec)) stackBelowUptoCard
end Rows
end Go.Proofs.YtoipfcmjphlmfaaDoor
