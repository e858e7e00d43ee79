/-
  DERIVED. GIVEN WITH THE SEED: THE CARDS: each row of YtkodanflobclhaaDoorRows.lean that lists a variable, with what it lists TIED to the program's text (the seventh form; the later family's looks); each row that meets fmt, with fmt's text TOLD by the authors' own Lean function (tested against real Go, not proved from fmt's source: count such statements apart). THE CARD IS WHAT COUNTS. Prove the row's statement (the work); the ties are given (YtkodanflobclhaaDoorTie.lean); close each card by the builder's one call (the guide's Derived/Test/ToyasCard.lean, 'card_holds'). Laid BY PROGRAM, IN A SANDBOX (cutbox-door.mjs). By AI agents, Wed Nov 11 2026. No macro, syntax, notation, axiom, sorry.
-/
import Derived.Test.YtkodanflobclhaaDoorRows
import GoSem.ClaimSeven
namespace Go.Proofs.YtkodanflobclhaaDoor
namespace Rows

/-- THE TIED CARD OF 'palanquinlaw11.SlotPlays'. -/
def slotPlaysCard : Claim7 := { stood := { row := slotPlaysRow, standIns := [], harness := (true, "7a05885a4eed03ea09005b5b7a2d0e0bb6a0481ae8bf86314714b423c23f920a"), looks := false }, kinds := [], alts := [], laidByText := true, laidKinds := [.data, .data], laidTests := true, laidLooks := .later }
def SlotPlaysCardSaid : Prop := Claim7.holds Tryd.pinned (.plain (OpenSpec.ofChange slotPlaysSpec)) slotPlaysCard

/-- THE TIED CARD OF 'palanquinlaw11.SlotOne'. -/
def slotOneCard : Claim7 := { stood := { row := slotOneRow, standIns := [], harness := (true, "7a05885a4eed03ea09005b5b7a2d0e0bb6a0481ae8bf86314714b423c23f920a"), looks := false }, kinds := [], alts := [], laidByText := true, laidKinds := [.data, .data], laidTests := true, laidLooks := .later }
def SlotOneCardSaid : Prop := Claim7.holds Tryd.pinned (.plain (OpenSpec.ofChange slotOneSpec)) slotOneCard

/-- THE TIED CARD OF 'palanquinlaw11.SlotFirst'. -/
def slotFirstCard : Claim7 := { stood := { row := slotFirstRow, standIns := [], harness := (true, "7a05885a4eed03ea09005b5b7a2d0e0bb6a0481ae8bf86314714b423c23f920a"), looks := false }, kinds := [], alts := [], laidByText := true, laidKinds := [.data, .data], laidTests := true, laidLooks := .later }
def SlotFirstCardSaid : Prop := Claim7.holds Tryd.pinned (.plain (OpenSpec.ofChange slotFirstSpec)) slotFirstCard

/-- THE SECOND FORM's CARD OF 'palanquinlaw11.SlotPlays'. -/
def slotPlaysUptoCard : Claim7 := { stood := { row := slotPlaysUptoRow, standIns := [], harness := (true, "7a05885a4eed03ea09005b5b7a2d0e0bb6a0481ae8bf86314714b423c23f920a"), looks := false }, kinds := [], alts := [], laidByText := true, laidKinds := [.data, .data], laidTests := true, laidLooks := .later }
def SlotPlaysUptoCardSaid : Prop := Claim7.holds Tryd.pinned (.plain (OpenSpec.upto slotPlaysSpec)) slotPlaysUptoCard

/-- THE SECOND FORM's CARD OF 'palanquinlaw11.SlotOne'. -/
def slotOneUptoCard : Claim7 := { stood := { row := slotOneUptoRow, standIns := [], harness := (true, "7a05885a4eed03ea09005b5b7a2d0e0bb6a0481ae8bf86314714b423c23f920a"), looks := false }, kinds := [], alts := [], laidByText := true, laidKinds := [.data, .data], laidTests := true, laidLooks := .later }
def SlotOneUptoCardSaid : Prop := Claim7.holds Tryd.pinned (.plain (OpenSpec.upto slotOneSpec)) slotOneUptoCard

/-- THE SECOND FORM's CARD OF 'palanquinlaw11.SlotFirst'. -/
def slotFirstUptoCard : Claim7 := { stood := { row := slotFirstUptoRow, standIns := [], harness := (true, "7a05885a4eed03ea09005b5b7a2d0e0bb6a0481ae8bf86314714b423c23f920a"), looks := false }, kinds := [], alts := [], laidByText := true, laidKinds := [.data, .data], laidTests := true, laidLooks := .later }
def SlotFirstUptoCardSaid : Prop := Claim7.holds Tryd.pinned (.plain (OpenSpec.upto slotFirstSpec)) slotFirstUptoCard
end Rows
end Go.Proofs.YtkodanflobclhaaDoor
