/-
  DERIVED. GIVEN WITH THE SEED: THE CARDS: each row of YtkkclcihjojphaaGreatDoorRows.lean that lists a variable, with what it lists TIED to the program's text (the seventh form; the later family's looks); each row that meets fmt, with fmt's text TOLD by the authors' own Lean function (tested against real Go, not proved from fmt's source: count such statements apart). THE CARD IS WHAT COUNTS. Prove the row's statement (the work); the ties are given (YtkkclcihjojphaaGreatDoorTie.lean); close each card by the builder's one call (the guide's Derived/Test/ToyasCard.lean, 'card_holds'). Laid BY PROGRAM, IN A SANDBOX (cutbox-door.mjs). By AI agents, Wed Nov 11 2026. No macro, syntax, notation, axiom, sorry.
-/
import Derived.Test.YtkkclcihjojphaaGreatDoorRows
import GoSem.ClaimSeven
namespace Go.Proofs.YtkkclcihjojphaaGreatDoor
namespace Rows

/-- THE TIED CARD OF 'palanquinlaw29.PageZero'. -/
def pageZeroCard : Claim7 := { stood := { row := pageZeroRow, standIns := [], harness := (true, "0c9c343e479e3a1da612ed262390435b506d8ed7a667a8eae99f7f4852092ff4"), looks := false }, kinds := [], alts := [], laidByText := true, laidKinds := [.data, .data, .data, .data, .data, .data], laidTests := true, laidLooks := .later }
def PageZeroCardSaid : Prop := Claim7.holds Tryz.pinned (.plain (OpenSpec.ofChange pageZeroSpec)) pageZeroCard

/-- THE SECOND FORM's CARD OF 'palanquinlaw29.PageZero'. -/
def pageZeroUptoCard : Claim7 := { stood := { row := pageZeroUptoRow, standIns := [], harness := (true, "0c9c343e479e3a1da612ed262390435b506d8ed7a667a8eae99f7f4852092ff4"), looks := false }, kinds := [], alts := [], laidByText := true, laidKinds := [.data, .data, .data, .data, .data, .data], laidTests := true, laidLooks := .later }
def PageZeroUptoCardSaid : Prop := Claim7.holds Tryz.pinned (.plain (OpenSpec.upto pageZeroSpec)) pageZeroUptoCard
end Rows
end Go.Proofs.YtkkclcihjojphaaGreatDoor
