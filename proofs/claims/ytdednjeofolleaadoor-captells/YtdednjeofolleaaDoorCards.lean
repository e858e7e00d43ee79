/-
  DERIVED. GIVEN WITH THE SEED: THE CARDS: each row of YtdednjeofolleaaDoorRows.lean that lists a variable, with what it lists TIED to the program's text (the seventh form; the later family's looks); each row that meets fmt, with fmt's text TOLD by the authors' own Lean function (tested against real Go, not proved from fmt's source: count such statements apart). THE CARD IS WHAT COUNTS. Prove the row's statement (the work); the ties are given (YtdednjeofolleaaDoorTie.lean); close each card by the builder's one call (the guide's Derived/Test/ToyasCard.lean, 'card_holds'). Laid BY PROGRAM, IN A SANDBOX (cutbox-door.mjs). By AI agents, Wed Nov 11 2026. No macro, syntax, notation, axiom, sorry.
-/
import Derived.Test.YtdednjeofolleaaDoorRows
import GoSem.ClaimSeven
namespace Go.Proofs.YtdednjeofolleaaDoor
namespace Rows

/-- THE TIED CARD OF 'palanquinlaw09.CapTells'. -/
def capTellsCard : Claim7 := { stood := { row := capTellsRow, standIns := [], harness := (true, "d5f88be2eaf5d1560f58489bfb54e48e94ffe99f7f0f18d7c6c9b7a1f5d33d37"), looks := false }, kinds := [], alts := [], laidByText := true, laidKinds := [.data, .data], laidTests := true, laidLooks := .later }
def CapTellsCardSaid : Prop := Claim7.holds Tryd.pinned (.plain (OpenSpec.ofChange capTellsSpec)) capTellsCard

/-- THE TIED CARD OF 'palanquinlaw09.CapBack'. -/
def capBackCard : Claim7 := { stood := { row := capBackRow, standIns := [], harness := (true, "d5f88be2eaf5d1560f58489bfb54e48e94ffe99f7f0f18d7c6c9b7a1f5d33d37"), looks := false }, kinds := [], alts := [], laidByText := true, laidKinds := [.data, .data], laidTests := true, laidLooks := .later }
def CapBackCardSaid : Prop := Claim7.holds Tryd.pinned (.plain (OpenSpec.ofChange capBackSpec)) capBackCard

/-- THE TIED CARD OF 'palanquinlaw09.CapUnder'. -/
def capUnderCard : Claim7 := { stood := { row := capUnderRow, standIns := [], harness := (true, "d5f88be2eaf5d1560f58489bfb54e48e94ffe99f7f0f18d7c6c9b7a1f5d33d37"), looks := false }, kinds := [], alts := [], laidByText := true, laidKinds := [.data], laidTests := true, laidLooks := .later }
def CapUnderCardSaid : Prop := Claim7.holds Tryd.pinned (.plain (OpenSpec.ofChange capUnderSpec)) capUnderCard

/-- THE SECOND FORM's CARD OF 'palanquinlaw09.CapTells'. -/
def capTellsUptoCard : Claim7 := { stood := { row := capTellsUptoRow, standIns := [], harness := (true, "d5f88be2eaf5d1560f58489bfb54e48e94ffe99f7f0f18d7c6c9b7a1f5d33d37"), looks := false }, kinds := [], alts := [], laidByText := true, laidKinds := [.data, .data], laidTests := true, laidLooks := .later }
def CapTellsUptoCardSaid : Prop := Claim7.holds Tryd.pinned (.plain (OpenSpec.upto capTellsSpec)) capTellsUptoCard

/-- THE SECOND FORM's CARD OF 'palanquinlaw09.CapBack'. -/
def capBackUptoCard : Claim7 := { stood := { row := capBackUptoRow, standIns := [], harness := (true, "d5f88be2eaf5d1560f58489bfb54e48e94ffe99f7f0f18d7c6c9b7a1f5d33d37"), looks := false }, kinds := [], alts := [], laidByText := true, laidKinds := [.data, .data], laidTests := true, laidLooks := .later }
def CapBackUptoCardSaid : Prop := Claim7.holds Tryd.pinned (.plain (OpenSpec.upto capBackSpec)) capBackUptoCard

/-- THE SECOND FORM's CARD OF 'palanquinlaw09.CapUnder'. -/
def capUnderUptoCard : Claim7 := { stood := { row := capUnderUptoRow, standIns := [], harness := (true, "d5f88be2eaf5d1560f58489bfb54e48e94ffe99f7f0f18d7c6c9b7a1f5d33d37"), looks := false }, kinds := [], alts := [], laidByText := true, laidKinds := [.data], laidTests := true, laidLooks := .later }
def CapUnderUptoCardSaid : Prop := Claim7.holds Tryd.pinned (.plain (OpenSpec.upto capUnderSpec)) capUnderUptoCard
end Rows
end Go.Proofs.YtdednjeofolleaaDoor
