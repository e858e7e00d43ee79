/-
  DERIVED. GIVEN WITH THE SEED: THE PROGRAM's TIES (one call each: nine closed facts by the kernel) AND EACH ROW's TIE, after the 31st guide's Derived/Test/Toyas{Tie, Card}.lean. No idea stands in it: it is a product of the set-up. Laid BY PROGRAM, IN A SANDBOX (cutbox-door.mjs). By AI agents, Wed Nov 11 2026. No macro, syntax, notation, axiom, sorry.
-/
import Derived.Test.YtcoggdnpjpiacaaDoorRows
import Derived.LaidByTextLater
import Derived.SevenTiedAt
import Derived.LaidSub
import Derived.LaidOnce
namespace Go.Proofs.YtcoggdnpjpiacaaDoor
open Go
set_option maxRecDepth 100000
theorem seatTie1 : Tryd.prog.laidByTextLater [("palanquin/head.widths", Rows.laid_palanquin_head_widths), ("palanquin/ring.widths", Rows.laid_palanquin_ring_widths), ("palanquin/rcv.most", Rows.laid_palanquin_rcv_most)] [.data, .data, .data] true :=
  Program.laidByTextLater_by_one 24 8 9 (by kernel_rfl) (by kernel_rfl) (by kernel_rfl) (by kernel_rfl) (by kernel_rfl) (by kernel_rfl) (fun _ _ => by kernel_rfl)
theorem noOwnUnsafe : Tryd.pinned.checked.prog.headLifts.contains "ownunsafe" = false := by kernel_rfl
theorem tie : Tryd.prog.laidByTextLater [("palanquin/head.widths", Rows.laid_palanquin_head_widths), ("palanquin/ring.widths", Rows.laid_palanquin_ring_widths), ("palanquin/rcv.most", Rows.laid_palanquin_rcv_most)] [.data, .data, .data] true :=
  Program.laidByTextLater.sub seatTie1 ["palanquin/head.widths", "palanquin/ring.widths", "palanquin/rcv.most"] (by kernel_rfl) (by kernel_rfl)
theorem rcvCounts_row_tie : Rows.rcvCountsRow.laidByTextAt .later Tryd.pinned [.data, .data, .data] true :=
  OpenClaim.laidByTextAt_later rfl rfl tie noOwnUnsafe
theorem rcvBack_row_tie : Rows.rcvBackRow.laidByTextAt .later Tryd.pinned [.data, .data, .data] true :=
  OpenClaim.laidByTextAt_later rfl rfl tie noOwnUnsafe
theorem rcvCountsUpto_row_tie : Rows.rcvCountsUptoRow.laidByTextAt .later Tryd.pinned [.data, .data, .data] true :=
  OpenClaim.laidByTextAt_later rfl rfl tie noOwnUnsafe
theorem rcvBackUpto_row_tie : Rows.rcvBackUptoRow.laidByTextAt .later Tryd.pinned [.data, .data, .data] true :=
  OpenClaim.laidByTextAt_later rfl rfl tie noOwnUnsafe
end Go.Proofs.YtcoggdnpjpiacaaDoor
