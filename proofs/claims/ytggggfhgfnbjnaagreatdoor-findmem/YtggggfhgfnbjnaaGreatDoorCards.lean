/-
  DERIVED. GIVEN WITH THE SEED: THE CARDS: each row of YtggggfhgfnbjnaaGreatDoorRows.lean that lists a variable, with what it lists TIED to the program's text (the seventh form; the later family's looks); each row that meets fmt, with fmt's text TOLD by the authors' own Lean function (tested against real Go, not proved from fmt's source: count such statements apart). THE CARD IS WHAT COUNTS. Prove the row's statement (the work); the ties are given (YtggggfhgfnbjnaaGreatDoorTie.lean); close each card by the builder's one call (the guide's Derived/Test/ToyasCard.lean, 'card_holds'). Laid BY PROGRAM, IN A SANDBOX (cutbox-door.mjs). By AI agents, Wed Nov 11 2026. No macro, syntax, notation, axiom, sorry.
-/
import Derived.Test.YtggggfhgfnbjnaaGreatDoorRows
import GoSem.ClaimSeven
namespace Go.Proofs.YtggggfhgfnbjnaaGreatDoor
namespace Rows

/-- THE TIED CARD OF 'palanquinlaw26.FindTells'. -/
def findTellsCard : Claim7 := { stood := { row := findTellsRow, standIns := [], harness := (true, "765626ff53f28dabeb65ffe7f7c59ff85b041aa409e9beeb26858829376bfbcd"), looks := false }, kinds := [], alts := [], laidByText := true, laidKinds := [.data, .data, .data, .data, .data], laidTests := true, laidLooks := .later }
def FindTellsCardSaid : Prop := Claim7.holds Tryz.pinned (.plain (OpenSpec.ofChange findTellsSpec)) findTellsCard

/-- THE TIED CARD OF 'palanquinlaw26.FindFewer'. -/
def findFewerCard : Claim7 := { stood := { row := findFewerRow, standIns := [], harness := (true, "765626ff53f28dabeb65ffe7f7c59ff85b041aa409e9beeb26858829376bfbcd"), looks := false }, kinds := [], alts := [], laidByText := true, laidKinds := [.data, .data, .data, .data], laidTests := true, laidLooks := .later }
def FindFewerCardSaid : Prop := Claim7.holds Tryz.pinned (.plain (OpenSpec.ofChange findFewerSpec)) findFewerCard

/-- THE TIED CARD OF 'palanquinlaw26.FindZero'. -/
def findZeroCard : Claim7 := { stood := { row := findZeroRow, standIns := [], harness := (true, "765626ff53f28dabeb65ffe7f7c59ff85b041aa409e9beeb26858829376bfbcd"), looks := false }, kinds := [], alts := [], laidByText := true, laidKinds := [.data, .data, .data, .data, .data], laidTests := true, laidLooks := .later }
def FindZeroCardSaid : Prop := Claim7.holds Tryz.pinned (.plain (OpenSpec.ofChange findZeroSpec)) findZeroCard

/-- THE TIED CARD OF 'palanquinlaw26.FindMem'. -/
def findMemCard : Claim7 := { stood := { row := findMemRow, standIns := [], harness := (true, "765626ff53f28dabeb65ffe7f7c59ff85b041aa409e9beeb26858829376bfbcd"), looks := false }, kinds := [], alts := [], laidByText := true, laidKinds := [.data, .data, .data, .data], laidTests := true, laidLooks := .later }
def FindMemCardSaid : Prop := Claim7.holds Tryz.pinned (.plain (OpenSpec.ofChange findMemSpec)) findMemCard

/-- THE SECOND FORM's CARD OF 'palanquinlaw26.FindTells'. -/
def findTellsUptoCard : Claim7 := { stood := { row := findTellsUptoRow, standIns := [], harness := (true, "765626ff53f28dabeb65ffe7f7c59ff85b041aa409e9beeb26858829376bfbcd"), looks := false }, kinds := [], alts := [], laidByText := true, laidKinds := [.data, .data, .data, .data, .data], laidTests := true, laidLooks := .later }
def FindTellsUptoCardSaid : Prop := Claim7.holds Tryz.pinned (.plain (OpenSpec.upto findTellsSpec)) findTellsUptoCard

/-- THE SECOND FORM's CARD OF 'palanquinlaw26.FindFewer'. -/
def findFewerUptoCard : Claim7 := { stood := { row := findFewerUptoRow, standIns := [], harness := (true, "765626ff53f28dabeb65ffe7f7c59ff85b041aa409e9beeb26858829376bfbcd"), looks := false }, kinds := [], alts := [], laidByText := true, laidKinds := [.data, .data, .data, .data], laidTests := true, laidLooks := .later }
def FindFewerUptoCardSaid : Prop := Claim7.holds Tryz.pinned (.plain (OpenSpec.upto findFewerSpec)) findFewerUptoCard

/-- THE SECOND FORM's CARD OF 'palanquinlaw26.FindZero'. -/
def findZeroUptoCard : Claim7 := { stood := { row := findZeroUptoRow, standIns := [], harness := (true, "765626ff53f28dabeb65ffe7f7c59ff85b041aa409e9beeb26858829376bfbcd"), looks := false }, kinds := [], alts := [], laidByText := true, laidKinds := [.data, .data, .data, .data, .data], laidTests := true, laidLooks := .later }
def FindZeroUptoCardSaid : Prop := Claim7.holds Tryz.pinned (.plain (OpenSpec.upto findZeroSpec)) findZeroUptoCard

/-- THE SECOND FORM's CARD OF 'palanquinlaw26.FindMem'. -/
def findMemUptoCard : Claim7 := { stood := { row := findMemUptoRow, standIns := [], harness := (true, "765626ff53f28dabeb65ffe7f7c59ff85b041aa409e9beeb26858829376bfbcd"), looks := false }, kinds := [], alts := [], laidByText := true, laidKinds := [.data, .data, .data, .data], laidTests := true, laidLooks := .later }
def FindMemUptoCardSaid : Prop := Claim7.holds Tryz.pinned (.plain (OpenSpec.upto findMemSpec)) findMemUptoCard
end Rows
end Go.Proofs.YtggggfhgfnbjnaaGreatDoor
