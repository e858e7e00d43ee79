/-
  DERIVED. GIVEN WITH THE SEED: THE CARDS: each row of YtdplailaolfpkaaDoorRows.lean that lists a variable, with what it lists TIED to the program's text (the seventh form; the later family's looks); each row that meets fmt, with fmt's text TOLD by the authors' own Lean function (tested against real Go, not proved from fmt's source: count such statements apart). THE CARD IS WHAT COUNTS. Prove the row's statement (the work); the ties are given (YtdplailaolfpkaaDoorTie.lean); close each card by the builder's one call (the guide's Derived/Test/ToyasCard.lean, 'card_holds'). Laid BY PROGRAM, IN A SANDBOX (cutbox-door.mjs). By AI agents, Wed Nov 11 2026. No macro, syntax, notation, axiom, sorry.
-/
import Derived.Test.YtdplailaolfpkaaDoorRows
import GoSem.ClaimSeven
namespace Go.Proofs.YtdplailaolfpkaaDoor
namespace Rows

/-- THE TIED CARD OF 'palanquinlaw21.RingPlays'. -/
def ringPlaysCard : Claim7 := { stood := { row := ringPlaysRow, standIns := [], harness := (true, "6f04746f20205cf6db4e4383bd12ed15ca478e3766395f8dac0aab42db23a01c"), looks := false }, kinds := [], alts := [], laidByText := true, laidKinds := [.data, .data], laidTests := true, laidLooks := .later }
def RingPlaysCardSaid : Prop := Claim7.holds Tryd.pinned (.plain (OpenSpec.ofChange ringPlaysSpec)) ringPlaysCard

/-- THE TIED CARD OF 'palanquinlaw21.RingOrder'. -/
def ringOrderCard : Claim7 := { stood := { row := ringOrderRow, standIns := [], harness := (true, "6f04746f20205cf6db4e4383bd12ed15ca478e3766395f8dac0aab42db23a01c"), looks := false }, kinds := [], alts := [], laidByText := true, laidKinds := [.data, .data], laidTests := true, laidLooks := .later }
def RingOrderCardSaid : Prop := Claim7.holds Tryd.pinned (.plain (OpenSpec.ofChange ringOrderSpec)) ringOrderCard

/-- THE TIED CARD OF 'palanquinlaw21.RingWords'. -/
def ringWordsCard : Claim7 := { stood := { row := ringWordsRow, standIns := [], harness := (true, "6f04746f20205cf6db4e4383bd12ed15ca478e3766395f8dac0aab42db23a01c"), looks := false }, kinds := [], alts := [], laidByText := true, laidKinds := [.data], laidTests := true, laidLooks := .later }
def RingWordsCardSaid : Prop := Claim7.holds Tryd.pinned (.plain (OpenSpec.ofChange ringWordsSpec)) ringWordsCard

/-- THE SECOND FORM's CARD OF 'palanquinlaw21.RingPlays'. -/
def ringPlaysUptoCard : Claim7 := { stood := { row := ringPlaysUptoRow, standIns := [], harness := (true, "6f04746f20205cf6db4e4383bd12ed15ca478e3766395f8dac0aab42db23a01c"), looks := false }, kinds := [], alts := [], laidByText := true, laidKinds := [.data, .data], laidTests := true, laidLooks := .later }
def RingPlaysUptoCardSaid : Prop := Claim7.holds Tryd.pinned (.plain (OpenSpec.upto ringPlaysSpec)) ringPlaysUptoCard

/-- THE SECOND FORM's CARD OF 'palanquinlaw21.RingOrder'. -/
def ringOrderUptoCard : Claim7 := { stood := { row := ringOrderUptoRow, standIns := [], harness := (true, "6f04746f20205cf6db4e4383bd12ed15ca478e3766395f8dac0aab42db23a01c"), looks := false }, kinds := [], alts := [], laidByText := true, laidKinds := [.data, .data], laidTests := true, laidLooks := .later }
def RingOrderUptoCardSaid : Prop := Claim7.holds Tryd.pinned (.plain (OpenSpec.upto ringOrderSpec)) ringOrderUptoCard

/-- THE SECOND FORM's CARD OF 'palanquinlaw21.RingWords'. -/
def ringWordsUptoCard : Claim7 := { stood := { row := ringWordsUptoRow, standIns := [], harness := (true, "6f04746f20205cf6db4e4383bd12ed15ca478e3766395f8dac0aab42db23a01c"), looks := false }, kinds := [], alts := [], laidByText := true, laidKinds := [.data], laidTests := true, laidLooks := .later }
def RingWordsUptoCardSaid : Prop := Claim7.holds Tryd.pinned (.plain (OpenSpec.upto ringWordsSpec)) ringWordsUptoCard
end Rows
end Go.Proofs.YtdplailaolfpkaaDoor
