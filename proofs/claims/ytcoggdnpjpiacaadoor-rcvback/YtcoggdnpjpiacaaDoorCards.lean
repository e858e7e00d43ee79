/-
  DERIVED. GIVEN WITH THE SEED: THE CARDS: each row of YtcoggdnpjpiacaaDoorRows.lean that lists a variable, with what it lists TIED to the program's text (the seventh form; the later family's looks); each row that meets fmt, with fmt's text TOLD by the authors' own Lean function (tested against real Go, not proved from fmt's source: count such statements apart). THE CARD IS WHAT COUNTS. Prove the row's statement (the work); the ties are given (YtcoggdnpjpiacaaDoorTie.lean); close each card by the builder's one call (the guide's Derived/Test/ToyasCard.lean, 'card_holds'). Laid BY PROGRAM, IN A SANDBOX (cutbox-door.mjs). By AI agents, Wed Nov 11 2026. No macro, syntax, notation, axiom, sorry.
-/
import Derived.Test.YtcoggdnpjpiacaaDoorRows
import GoSem.ClaimSeven
namespace Go.Proofs.YtcoggdnpjpiacaaDoor
namespace Rows

/-- THE TIED CARD OF 'palanquinlaw22.RcvCounts'. -/
def rcvCountsCard : Claim7 := { stood := { row := rcvCountsRow, standIns := [], harness := (true, "2cec5add56b1e832135b4abe8280ccf6f0a3b752dfed9d72f770eb3a2ca5f619"), looks := false }, kinds := [], alts := [], laidByText := true, laidKinds := [.data, .data, .data], laidTests := true, laidLooks := .later }
def RcvCountsCardSaid : Prop := Claim7.holds Tryd.pinned (.plain (OpenSpec.ofChange rcvCountsSpec)) rcvCountsCard

/-- THE TIED CARD OF 'palanquinlaw22.RcvBack'. -/
def rcvBackCard : Claim7 := { stood := { row := rcvBackRow, standIns := [], harness := (true, "2cec5add56b1e832135b4abe8280ccf6f0a3b752dfed9d72f770eb3a2ca5f619"), looks := false }, kinds := [], alts := [], laidByText := true, laidKinds := [.data, .data, .data], laidTests := true, laidLooks := .later }
def RcvBackCardSaid : Prop := Claim7.holds Tryd.pinned (.plain (OpenSpec.ofChange rcvBackSpec)) rcvBackCard

/-- THE SECOND FORM's CARD OF 'palanquinlaw22.RcvCounts'. -/
def rcvCountsUptoCard : Claim7 := { stood := { row := rcvCountsUptoRow, standIns := [], harness := (true, "2cec5add56b1e832135b4abe8280ccf6f0a3b752dfed9d72f770eb3a2ca5f619"), looks := false }, kinds := [], alts := [], laidByText := true, laidKinds := [.data, .data, .data], laidTests := true, laidLooks := .later }
def RcvCountsUptoCardSaid : Prop := Claim7.holds Tryd.pinned (.plain (OpenSpec.upto rcvCountsSpec)) rcvCountsUptoCard

/-- THE SECOND FORM's CARD OF 'palanquinlaw22.RcvBack'. -/
def rcvBackUptoCard : Claim7 := { stood := { row := rcvBackUptoRow, standIns := [], harness := (true, "2cec5add56b1e832135b4abe8280ccf6f0a3b752dfed9d72f770eb3a2ca5f619"), looks := false }, kinds := [], alts := [], laidByText := true, laidKinds := [.data, .data, .data], laidTests := true, laidLooks := .later }
def RcvBackUptoCardSaid : Prop := Claim7.holds Tryd.pinned (.plain (OpenSpec.upto rcvBackSpec)) rcvBackUptoCard
end Rows
end Go.Proofs.YtcoggdnpjpiacaaDoor
