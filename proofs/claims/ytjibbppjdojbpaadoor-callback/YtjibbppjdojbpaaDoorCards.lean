/-
  DERIVED. GIVEN WITH THE SEED: THE CARDS: each row of YtjibbppjdojbpaaDoorRows.lean that lists a variable, with what it lists TIED to the program's text (the seventh form; the later family's looks); each row that meets fmt, with fmt's text TOLD by the authors' own Lean function (tested against real Go, not proved from fmt's source: count such statements apart). THE CARD IS WHAT COUNTS. Prove the row's statement (the work); the ties are given (YtjibbppjdojbpaaDoorTie.lean); close each card by the builder's one call (the guide's Derived/Test/ToyasCard.lean, 'card_holds'). Laid BY PROGRAM, IN A SANDBOX (cutbox-door.mjs). By AI agents, Wed Nov 11 2026. No macro, syntax, notation, axiom, sorry.
-/
import Derived.Test.YtjibbppjdojbpaaDoorRows
import GoSem.ClaimSeven
namespace Go.Proofs.YtjibbppjdojbpaaDoor
namespace Rows

/-- THE TIED CARD OF 'palanquinlaw24.CallTells'. -/
def callTellsCard : Claim7 := { stood := { row := callTellsRow, standIns := [], harness := (true, "01976badee171dd2404334f40003e0fa4be57c3cad5fa81da6e9068c05ffdff1"), looks := false }, kinds := [], alts := [], laidByText := true, laidKinds := [.data, .data], laidTests := true, laidLooks := .later }
def CallTellsCardSaid : Prop := Claim7.holds Tryd.pinned (.plain (OpenSpec.ofChange callTellsSpec)) callTellsCard

/-- THE TIED CARD OF 'palanquinlaw24.CallBack'. -/
def callBackCard : Claim7 := { stood := { row := callBackRow, standIns := [], harness := (true, "01976badee171dd2404334f40003e0fa4be57c3cad5fa81da6e9068c05ffdff1"), looks := false }, kinds := [], alts := [], laidByText := true, laidKinds := [.data, .data], laidTests := true, laidLooks := .later }
def CallBackCardSaid : Prop := Claim7.holds Tryd.pinned (.plain (OpenSpec.ofChange callBackSpec)) callBackCard

/-- THE TIED CARD OF 'palanquinlaw24.CallNeeds'. -/
def callNeedsCard : Claim7 := { stood := { row := callNeedsRow, standIns := [], harness := (true, "01976badee171dd2404334f40003e0fa4be57c3cad5fa81da6e9068c05ffdff1"), looks := false }, kinds := [], alts := [], laidByText := true, laidKinds := [.data, .data], laidTests := true, laidLooks := .later }
def CallNeedsCardSaid : Prop := Claim7.holds Tryd.pinned (.plain (OpenSpec.ofChange callNeedsSpec)) callNeedsCard

/-- THE SECOND FORM's CARD OF 'palanquinlaw24.CallTells'. -/
def callTellsUptoCard : Claim7 := { stood := { row := callTellsUptoRow, standIns := [], harness := (true, "01976badee171dd2404334f40003e0fa4be57c3cad5fa81da6e9068c05ffdff1"), looks := false }, kinds := [], alts := [], laidByText := true, laidKinds := [.data, .data], laidTests := true, laidLooks := .later }
def CallTellsUptoCardSaid : Prop := Claim7.holds Tryd.pinned (.plain (OpenSpec.upto callTellsSpec)) callTellsUptoCard

/-- THE SECOND FORM's CARD OF 'palanquinlaw24.CallBack'. -/
def callBackUptoCard : Claim7 := { stood := { row := callBackUptoRow, standIns := [], harness := (true, "01976badee171dd2404334f40003e0fa4be57c3cad5fa81da6e9068c05ffdff1"), looks := false }, kinds := [], alts := [], laidByText := true, laidKinds := [.data, .data], laidTests := true, laidLooks := .later }
def CallBackUptoCardSaid : Prop := Claim7.holds Tryd.pinned (.plain (OpenSpec.upto callBackSpec)) callBackUptoCard

/-- THE SECOND FORM's CARD OF 'palanquinlaw24.CallNeeds'. -/
def callNeedsUptoCard : Claim7 := { stood := { row := callNeedsUptoRow, standIns := [], harness := (true, "01976badee171dd2404334f40003e0fa4be57c3cad5fa81da6e9068c05ffdff1"), looks := false }, kinds := [], alts := [], laidByText := true, laidKinds := [.data, .data], laidTests := true, laidLooks := .later }
def CallNeedsUptoCardSaid : Prop := Claim7.holds Tryd.pinned (.plain (OpenSpec.upto callNeedsSpec)) callNeedsUptoCard
end Rows
end Go.Proofs.YtjibbppjdojbpaaDoor
