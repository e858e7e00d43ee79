/-
  DERIVED. GIVEN WITH THE SEED: THE CARDS: each row of YtpjielhcdjjnoaaDoorRows.lean that lists a variable, with what it lists TIED to the program's text (the seventh form; the later family's looks); each row that meets fmt, with fmt's text TOLD by the authors' own Lean function (tested against real Go, not proved from fmt's source: count such statements apart). THE CARD IS WHAT COUNTS. Prove the row's statement (the work); the ties are given (YtpjielhcdjjnoaaDoorTie.lean); close each card by the builder's one call (the guide's Derived/Test/ToyasCard.lean, 'card_holds'). Laid BY PROGRAM, IN A SANDBOX (cutbox-door.mjs). By AI agents, Wed Nov 11 2026. No macro, syntax, notation, axiom, sorry.
-/
import Derived.Test.YtpjielhcdjjnoaaDoorRows
import GoSem.ClaimSeven
namespace Go.Proofs.YtpjielhcdjjnoaaDoor
namespace Rows

/-- THE TIED CARD OF 'palanquinlaw12.RadixTells'. -/
def radixTellsCard : Claim7 := { stood := { row := radixTellsRow, standIns := [], harness := (true, "3e575d6395765032c998a23e3a29bd131543fa888289edd599863d51810ae6ff"), looks := false }, kinds := [], alts := [], laidByText := true, laidKinds := [.data, .data], laidTests := true, laidLooks := .later }
def RadixTellsCardSaid : Prop := Claim7.holds Tryd.pinned (.plain (OpenSpec.ofChange radixTellsSpec)) radixTellsCard

/-- THE TIED CARD OF 'palanquinlaw12.RadixBack'. -/
def radixBackCard : Claim7 := { stood := { row := radixBackRow, standIns := [], harness := (true, "3e575d6395765032c998a23e3a29bd131543fa888289edd599863d51810ae6ff"), looks := false }, kinds := [], alts := [], laidByText := true, laidKinds := [.data, .data], laidTests := true, laidLooks := .later }
def RadixBackCardSaid : Prop := Claim7.holds Tryd.pinned (.plain (OpenSpec.ofChange radixBackSpec)) radixBackCard

/-- THE TIED CARD OF 'palanquinlaw12.RadixOrder'. -/
def radixOrderCard : Claim7 := { stood := { row := radixOrderRow, standIns := [], harness := (true, "3e575d6395765032c998a23e3a29bd131543fa888289edd599863d51810ae6ff"), looks := false }, kinds := [], alts := [], laidByText := true, laidKinds := [.data, .data], laidTests := true, laidLooks := .later }
def RadixOrderCardSaid : Prop := Claim7.holds Tryd.pinned (.plain (OpenSpec.ofChange radixOrderSpec)) radixOrderCard

/-- THE SECOND FORM's CARD OF 'palanquinlaw12.RadixTells'. -/
def radixTellsUptoCard : Claim7 := { stood := { row := radixTellsUptoRow, standIns := [], harness := (true, "3e575d6395765032c998a23e3a29bd131543fa888289edd599863d51810ae6ff"), looks := false }, kinds := [], alts := [], laidByText := true, laidKinds := [.data, .data], laidTests := true, laidLooks := .later }
def RadixTellsUptoCardSaid : Prop := Claim7.holds Tryd.pinned (.plain (OpenSpec.upto radixTellsSpec)) radixTellsUptoCard

/-- THE SECOND FORM's CARD OF 'palanquinlaw12.RadixBack'. -/
def radixBackUptoCard : Claim7 := { stood := { row := radixBackUptoRow, standIns := [], harness := (true, "3e575d6395765032c998a23e3a29bd131543fa888289edd599863d51810ae6ff"), looks := false }, kinds := [], alts := [], laidByText := true, laidKinds := [.data, .data], laidTests := true, laidLooks := .later }
def RadixBackUptoCardSaid : Prop := Claim7.holds Tryd.pinned (.plain (OpenSpec.upto radixBackSpec)) radixBackUptoCard

/-- THE SECOND FORM's CARD OF 'palanquinlaw12.RadixOrder'. -/
def radixOrderUptoCard : Claim7 := { stood := { row := radixOrderUptoRow, standIns := [], harness := (true, "3e575d6395765032c998a23e3a29bd131543fa888289edd599863d51810ae6ff"), looks := false }, kinds := [], alts := [], laidByText := true, laidKinds := [.data, .data], laidTests := true, laidLooks := .later }
def RadixOrderUptoCardSaid : Prop := Claim7.holds Tryd.pinned (.plain (OpenSpec.upto radixOrderSpec)) radixOrderUptoCard
end Rows
end Go.Proofs.YtpjielhcdjjnoaaDoor
