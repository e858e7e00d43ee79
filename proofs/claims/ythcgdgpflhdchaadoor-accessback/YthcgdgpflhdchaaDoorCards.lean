/-
  DERIVED. GIVEN WITH THE SEED: THE CARDS: each row of YthcgdgpflhdchaaDoorRows.lean that lists a variable, with what it lists TIED to the program's text (the seventh form; the later family's looks); each row that meets fmt, with fmt's text TOLD by the authors' own Lean function (tested against real Go, not proved from fmt's source: count such statements apart). THE CARD IS WHAT COUNTS. Prove the row's statement (the work); the ties are given (YthcgdgpflhdchaaDoorTie.lean); close each card by the builder's one call (the guide's Derived/Test/ToyasCard.lean, 'card_holds'). Laid BY PROGRAM, IN A SANDBOX (cutbox-door.mjs). By AI agents, Wed Nov 11 2026. No macro, syntax, notation, axiom, sorry.
-/
import Derived.Test.YthcgdgpflhdchaaDoorRows
import GoSem.ClaimSeven
namespace Go.Proofs.YthcgdgpflhdchaaDoor
namespace Rows

/-- THE TIED CARD OF 'palanquinlaw16.AccessBack'. -/
def accessBackCard : Claim7 := { stood := { row := accessBackRow, standIns := [], harness := (true, "3612c4deead0ba8be9c6a68d1fcf0783030533ec15a774a8dcac091102e249b6"), looks := false }, kinds := [], alts := [], laidByText := true, laidKinds := [.data, .data, .data, .data], laidTests := true, laidLooks := .later }
def AccessBackCardSaid : Prop := Claim7.holds Tryd.pinned (.plain (OpenSpec.ofChange accessBackSpec)) accessBackCard

/-- THE TIED CARD OF 'palanquinlaw16.AccessStale'. -/
def accessStaleCard : Claim7 := { stood := { row := accessStaleRow, standIns := [], harness := (true, "3612c4deead0ba8be9c6a68d1fcf0783030533ec15a774a8dcac091102e249b6"), looks := false }, kinds := [], alts := [], laidByText := true, laidKinds := [.data, .data, .data, .data], laidTests := true, laidLooks := .later }
def AccessStaleCardSaid : Prop := Claim7.holds Tryd.pinned (.plain (OpenSpec.ofChange accessStaleSpec)) accessStaleCard

/-- THE TIED CARD OF 'palanquinlaw16.AccessZero'. -/
def accessZeroCard : Claim7 := { stood := { row := accessZeroRow, standIns := [], harness := (true, "3612c4deead0ba8be9c6a68d1fcf0783030533ec15a774a8dcac091102e249b6"), looks := false }, kinds := [], alts := [], laidByText := true, laidKinds := [.data, .data, .data, .data], laidTests := true, laidLooks := .later }
def AccessZeroCardSaid : Prop := Claim7.holds Tryd.pinned (.plain (OpenSpec.ofChange accessZeroSpec)) accessZeroCard

/-- THE SECOND FORM's CARD OF 'palanquinlaw16.AccessBack'. -/
def accessBackUptoCard : Claim7 := { stood := { row := accessBackUptoRow, standIns := [], harness := (true, "3612c4deead0ba8be9c6a68d1fcf0783030533ec15a774a8dcac091102e249b6"), looks := false }, kinds := [], alts := [], laidByText := true, laidKinds := [.data, .data, .data, .data], laidTests := true, laidLooks := .later }
def AccessBackUptoCardSaid : Prop := Claim7.holds Tryd.pinned (.plain (OpenSpec.upto accessBackSpec)) accessBackUptoCard

/-- THE SECOND FORM's CARD OF 'palanquinlaw16.AccessStale'. -/
def accessStaleUptoCard : Claim7 := { stood := { row := accessStaleUptoRow, standIns := [], harness := (true, "3612c4deead0ba8be9c6a68d1fcf0783030533ec15a774a8dcac091102e249b6"), looks := false }, kinds := [], alts := [], laidByText := true, laidKinds := [.data, .data, .data, .data], laidTests := true, laidLooks := .later }
def AccessStaleUptoCardSaid : Prop := Claim7.holds Tryd.pinned (.plain (OpenSpec.upto accessStaleSpec)) accessStaleUptoCard

/-- THE SECOND FORM's CARD OF 'palanquinlaw16.AccessZero'. -/
def accessZeroUptoCard : Claim7 := { stood := { row := accessZeroUptoRow, standIns := [], harness := (true, "3612c4deead0ba8be9c6a68d1fcf0783030533ec15a774a8dcac091102e249b6"), looks := false }, kinds := [], alts := [], laidByText := true, laidKinds := [.data, .data, .data, .data], laidTests := true, laidLooks := .later }
def AccessZeroUptoCardSaid : Prop := Claim7.holds Tryd.pinned (.plain (OpenSpec.upto accessZeroSpec)) accessZeroUptoCard
end Rows
end Go.Proofs.YthcgdgpflhdchaaDoor
