/-
  DERIVED. GIVEN WITH THE SEED: THE PROGRAM's TIES (one call each: nine closed facts by the kernel) AND EACH ROW's TIE, after the 31st guide's Derived/Test/Toyas{Tie, Card}.lean. No idea stands in it: it is a product of the set-up. Laid BY PROGRAM, IN A SANDBOX (cutbox-door.mjs). By AI agents, Wed Nov 11 2026. No macro, syntax, notation, axiom, sorry.
-/
import Derived.Test.YtkkclcihjojphaaGreatDoorRows
import Derived.LaidByTextLater
import Derived.SevenTiedAt
import Derived.LaidSub
import Derived.LaidOnce
namespace Go.Proofs.YtkkclcihjojphaaGreatDoor
open Go
set_option maxRecDepth 100000
theorem seatTie1 : Tryz.prog.laidByTextLater [("palanquin/head.widths", Rows.laid_palanquin_head_widths), ("palanquin/comp.most", Rows.laid_palanquin_comp_most), ("palanquin/pte.widths", Rows.laid_palanquin_pte_widths), ("palanquin/radix.pageWidths", Rows.laid_palanquin_radix_pageWidths), ("palanquin/rcv.most", Rows.laid_palanquin_rcv_most), ("palanquin/stack.widths", Rows.laid_palanquin_stack_widths)] [.data, .data, .data, .data, .data, .data] true :=
  Program.laidByTextLater_by_one 39 8 9 (by kernel_rfl) (by kernel_rfl) (by kernel_rfl) (by kernel_rfl) (by kernel_rfl) (by kernel_rfl) (fun _ _ => by kernel_rfl)
theorem noOwnUnsafe : Tryz.pinned.checked.prog.headLifts.contains "ownunsafe" = false := by kernel_rfl
theorem tie : Tryz.prog.laidByTextLater [("palanquin/head.widths", Rows.laid_palanquin_head_widths), ("palanquin/comp.most", Rows.laid_palanquin_comp_most), ("palanquin/pte.widths", Rows.laid_palanquin_pte_widths), ("palanquin/radix.pageWidths", Rows.laid_palanquin_radix_pageWidths), ("palanquin/rcv.most", Rows.laid_palanquin_rcv_most), ("palanquin/stack.widths", Rows.laid_palanquin_stack_widths)] [.data, .data, .data, .data, .data, .data] true :=
  Program.laidByTextLater.sub seatTie1 ["palanquin/head.widths", "palanquin/comp.most", "palanquin/pte.widths", "palanquin/radix.pageWidths", "palanquin/rcv.most", "palanquin/stack.widths"] (by kernel_rfl) (by kernel_rfl)
theorem pageZero_row_tie : Rows.pageZeroRow.laidByTextAt .later Tryz.pinned [.data, .data, .data, .data, .data, .data] true :=
  OpenClaim.laidByTextAt_later rfl rfl tie noOwnUnsafe
theorem pageZeroUpto_row_tie : Rows.pageZeroUptoRow.laidByTextAt .later Tryz.pinned [.data, .data, .data, .data, .data, .data] true :=
  OpenClaim.laidByTextAt_later rfl rfl tie noOwnUnsafe
end Go.Proofs.YtkkclcihjojphaaGreatDoor
