/-
  DERIVED. GIVEN WITH THE SEED: THE CARDS: each row of YtaajacmbnigadaaDoorRows.lean that lists a variable, with what it lists TIED to the program's text (the seventh form; the later family's looks); each row that meets fmt, with fmt's text TOLD by the authors' own Lean function (tested against real Go, not proved from fmt's source: count such statements apart). THE CARD IS WHAT COUNTS. Prove the row's statement (the work); the ties are given (YtaajacmbnigadaaDoorTie.lean); close each card by the builder's one call (the guide's Derived/Test/ToyasCard.lean, 'card_holds'). Laid BY PROGRAM, IN A SANDBOX (cutbox-door.mjs). By AI agents, Wed Nov 11 2026. No macro, syntax, notation, axiom, sorry.
-/
import Derived.Test.YtaajacmbnigadaaDoorRows
import GoSem.ClaimSeven
namespace Go.Proofs.YtaajacmbnigadaaDoor
namespace Rows

/-- THE TIED CARD OF 'palanquinlaw18.ThdBack'. -/
def thdBackCard : Claim7 := { stood := { row := thdBackRow, standIns := [], harness := (true, "c4d2a5b05cfe530c0c6cd7f56be8095a4f60e01431e6592d79a3abebbda7a3b2"), looks := false }, kinds := [], alts := [], laidByText := true, laidKinds := [.data], laidTests := true, laidLooks := .later }
def ThdBackCardSaid : Prop := Claim7.holds Tryd.pinned (.plain (OpenSpec.ofChange thdBackSpec)) thdBackCard

/-- THE TIED CARD OF 'palanquinlaw18.ThdZero'. -/
def thdZeroCard : Claim7 := { stood := { row := thdZeroRow, standIns := [], harness := (true, "c4d2a5b05cfe530c0c6cd7f56be8095a4f60e01431e6592d79a3abebbda7a3b2"), looks := false }, kinds := [], alts := [], laidByText := true, laidKinds := [.data], laidTests := true, laidLooks := .later }
def ThdZeroCardSaid : Prop := Claim7.holds Tryd.pinned (.plain (OpenSpec.ofChange thdZeroSpec)) thdZeroCard

/-- THE SECOND FORM's CARD OF 'palanquinlaw18.ThdBack'. -/
def thdBackUptoCard : Claim7 := { stood := { row := thdBackUptoRow, standIns := [], harness := (true, "c4d2a5b05cfe530c0c6cd7f56be8095a4f60e01431e6592d79a3abebbda7a3b2"), looks := false }, kinds := [], alts := [], laidByText := true, laidKinds := [.data], laidTests := true, laidLooks := .later }
def ThdBackUptoCardSaid : Prop := Claim7.holds Tryd.pinned (.plain (OpenSpec.upto thdBackSpec)) thdBackUptoCard

/-- THE SECOND FORM's CARD OF 'palanquinlaw18.ThdZero'. -/
def thdZeroUptoCard : Claim7 := { stood := { row := thdZeroUptoRow, standIns := [], harness := (true, "c4d2a5b05cfe530c0c6cd7f56be8095a4f60e01431e6592d79a3abebbda7a3b2"), looks := false }, kinds := [], alts := [], laidByText := true, laidKinds := [.data], laidTests := true, laidLooks := .later }
def ThdZeroUptoCardSaid : Prop := Claim7.holds Tryd.pinned (.plain (OpenSpec.upto thdZeroSpec)) thdZeroUptoCard
end Rows
end Go.Proofs.YtaajacmbnigadaaDoor
