/-
  DERIVED. GIVEN WITH THE SEED: THE PROGRAM's TIES (one call each: nine closed facts by the kernel) AND EACH ROW's TIE, after the 31st guide's Derived/Test/Toyas{Tie, Card}.lean. No idea stands in it: it is a product of the set-up. Laid BY PROGRAM, IN A SANDBOX (cutbox-door.mjs). By AI agents, Wed Nov 11 2026. No macro, syntax, notation, axiom, sorry.
-/
import Derived.Test.YtcoggdnpjpiacaaGreatDoorRows
import Derived.LaidByTextLater
import Derived.SevenTiedAt
import Derived.LaidSub
import Derived.LaidOnce
namespace Go.Proofs.YtcoggdnpjpiacaaGreatDoor
open Go
set_option maxRecDepth 100000
theorem seatTie1 : Tryz.prog.laidByTextLater [("palanquin/head.widths", Rows.laid_palanquin_head_widths), ("palanquin/ring.widths", Rows.laid_palanquin_ring_widths), ("palanquin/rcv.most", Rows.laid_palanquin_rcv_most)] [.data, .data, .data] true :=
  Program.laidByTextLater_by_one 24 8 9 (by kernel_rfl) (by kernel_rfl) (by kernel_rfl) (by kernel_rfl) (by kernel_rfl) (by kernel_rfl) (fun _ _ => by kernel_rfl)
theorem noOwnUnsafe : Tryz.pinned.checked.prog.headLifts.contains "ownunsafe" = false := by kernel_rfl
theorem tie : Tryz.prog.laidByTextLater [("palanquin/head.widths", Rows.laid_palanquin_head_widths), ("palanquin/ring.widths", Rows.laid_palanquin_ring_widths), ("palanquin/rcv.most", Rows.laid_palanquin_rcv_most)] [.data, .data, .data] true :=
  Program.laidByTextLater.sub seatTie1 ["palanquin/head.widths", "palanquin/ring.widths", "palanquin/rcv.most"] (by kernel_rfl) (by kernel_rfl)
theorem rcvPlays_row_tie : Rows.rcvPlaysRow.laidByTextAt .later Tryz.pinned [.data, .data, .data] true :=
  OpenClaim.laidByTextAt_later rfl rfl tie noOwnUnsafe
theorem rcvPlaysUpto_row_tie : Rows.rcvPlaysUptoRow.laidByTextAt .later Tryz.pinned [.data, .data, .data] true :=
  OpenClaim.laidByTextAt_later rfl rfl tie noOwnUnsafe
end Go.Proofs.YtcoggdnpjpiacaaGreatDoor
