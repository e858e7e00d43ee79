/-
  DERIVED. GIVEN WITH THE SEED: THE CARDS: each row of YtlnckhebikiclaaDoorRows.lean that lists a variable, with what it lists TIED to the program's text (the seventh form; the later family's looks); each row that meets fmt, with fmt's text TOLD by the authors' own Lean function (tested against real Go, not proved from fmt's source: count such statements apart). THE CARD IS WHAT COUNTS. Prove the row's statement (the work); the ties are given (YtlnckhebikiclaaDoorTie.lean); close each card by the builder's one call (the guide's Derived/Test/ToyasCard.lean, 'card_holds'). Laid BY PROGRAM, IN A SANDBOX (cutbox-door.mjs). By AI agents, Wed Nov 11 2026. No macro, syntax, notation, axiom, sorry.
-/
import Derived.Test.YtlnckhebikiclaaDoorRows
import GoSem.ClaimSeven
namespace Go.Proofs.YtlnckhebikiclaaDoor
namespace Rows

/-- THE TIED CARD OF 'palanquinlaw20.TcapPlays'. -/
def tcapPlaysCard : Claim7 := { stood := { row := tcapPlaysRow, standIns := [], harness := (true, "326a0a07963f224e336ecdb7f51aa7f1d39f33c9898f99a5d8ab3bd66cd425f3"), looks := false }, kinds := [], alts := [], laidByText := true, laidKinds := [.data], laidTests := true, laidLooks := .later }
def TcapPlaysCardSaid : Prop := Claim7.holds Tryd.pinned (.plain (OpenSpec.ofChange tcapPlaysSpec)) tcapPlaysCard

/-- THE TIED CARD OF 'palanquinlaw20.TcapSum'. -/
def tcapSumCard : Claim7 := { stood := { row := tcapSumRow, standIns := [], harness := (true, "326a0a07963f224e336ecdb7f51aa7f1d39f33c9898f99a5d8ab3bd66cd425f3"), looks := false }, kinds := [], alts := [], laidByText := true, laidKinds := [.data], laidTests := true, laidLooks := .later }
def TcapSumCardSaid : Prop := Claim7.holds Tryd.pinned (.plain (OpenSpec.ofChange tcapSumSpec)) tcapSumCard

/-- THE TIED CARD OF 'palanquinlaw20.TcapTwice'. -/
def tcapTwiceCard : Claim7 := { stood := { row := tcapTwiceRow, standIns := [], harness := (true, "326a0a07963f224e336ecdb7f51aa7f1d39f33c9898f99a5d8ab3bd66cd425f3"), looks := false }, kinds := [], alts := [], laidByText := true, laidKinds := [.data], laidTests := true, laidLooks := .later }
def TcapTwiceCardSaid : Prop := Claim7.holds Tryd.pinned (.plain (OpenSpec.ofChange tcapTwiceSpec)) tcapTwiceCard

/-- THE SECOND FORM's CARD OF 'palanquinlaw20.TcapPlays'. -/
def tcapPlaysUptoCard : Claim7 := { stood := { row := tcapPlaysUptoRow, standIns := [], harness := (true, "326a0a07963f224e336ecdb7f51aa7f1d39f33c9898f99a5d8ab3bd66cd425f3"), looks := false }, kinds := [], alts := [], laidByText := true, laidKinds := [.data], laidTests := true, laidLooks := .later }
def TcapPlaysUptoCardSaid : Prop := Claim7.holds Tryd.pinned (.plain (OpenSpec.upto tcapPlaysSpec)) tcapPlaysUptoCard

/-- THE SECOND FORM's CARD OF 'palanquinlaw20.TcapSum'. -/
def tcapSumUptoCard : Claim7 := { stood := { row := tcapSumUptoRow, standIns := [], harness := (true, "326a0a07963f224e336ecdb7f51aa7f1d39f33c9898f99a5d8ab3bd66cd425f3"), looks := false }, kinds := [], alts := [], laidByText := true, laidKinds := [.data], laidTests := true, laidLooks := .later }
def TcapSumUptoCardSaid : Prop := Claim7.holds Tryd.pinned (.plain (OpenSpec.upto tcapSumSpec)) tcapSumUptoCard

/-- THE SECOND FORM's CARD OF 'palanquinlaw20.TcapTwice'. -/
def tcapTwiceUptoCard : Claim7 := { stood := { row := tcapTwiceUptoRow, standIns := [], harness := (true, "326a0a07963f224e336ecdb7f51aa7f1d39f33c9898f99a5d8ab3bd66cd425f3"), looks := false }, kinds := [], alts := [], laidByText := true, laidKinds := [.data], laidTests := true, laidLooks := .later }
def TcapTwiceUptoCardSaid : Prop := Claim7.holds Tryd.pinned (.plain (OpenSpec.upto tcapTwiceSpec)) tcapTwiceUptoCard
end Rows
end Go.Proofs.YtlnckhebikiclaaDoor
