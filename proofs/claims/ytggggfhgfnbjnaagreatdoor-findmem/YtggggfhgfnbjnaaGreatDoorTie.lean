/-
  DERIVED. GIVEN WITH THE SEED: THE PROGRAM's TIES (one call each: nine closed facts by the kernel) AND EACH ROW's TIE, after the 31st guide's Derived/Test/Toyas{Tie, Card}.lean. No idea stands in it: it is a product of the set-up. Laid BY PROGRAM, IN A SANDBOX (cutbox-door.mjs). By AI agents, Wed Nov 11 2026. No macro, syntax, notation, axiom, sorry.
-/
import Derived.Test.YtggggfhgfnbjnaaGreatDoorRows
import Derived.LaidByTextLater
import Derived.SevenTiedAt
import Derived.LaidSub
import Derived.LaidOnce
namespace Go.Proofs.YtggggfhgfnbjnaaGreatDoor
open Go
set_option maxRecDepth 100000
theorem seatTie1 : Tryz.prog.laidByTextLater [("palanquin/cap.widths", Rows.laid_palanquin_cap_widths), ("palanquin/cap.most", Rows.laid_palanquin_cap_most), ("palanquin/head.widths", Rows.laid_palanquin_head_widths), ("palanquin/comp.most", Rows.laid_palanquin_comp_most), ("palanquin/radix.slotWidths", Rows.laid_palanquin_radix_slotWidths)] [.data, .data, .data, .data, .data] true :=
  Program.laidByTextLater_by_one 46 8 73 (by kernel_rfl) (by kernel_rfl) (by kernel_rfl) (by kernel_rfl) (by kernel_rfl) (by kernel_rfl) (fun _ _ => by kernel_rfl)
theorem noOwnUnsafe : Tryz.pinned.checked.prog.headLifts.contains "ownunsafe" = false := by kernel_rfl
theorem tie : Tryz.prog.laidByTextLater [("palanquin/cap.widths", Rows.laid_palanquin_cap_widths), ("palanquin/cap.most", Rows.laid_palanquin_cap_most), ("palanquin/head.widths", Rows.laid_palanquin_head_widths), ("palanquin/comp.most", Rows.laid_palanquin_comp_most), ("palanquin/radix.slotWidths", Rows.laid_palanquin_radix_slotWidths)] [.data, .data, .data, .data, .data] true :=
  Program.laidByTextLater.sub seatTie1 ["palanquin/cap.widths", "palanquin/cap.most", "palanquin/head.widths", "palanquin/comp.most", "palanquin/radix.slotWidths"] (by kernel_rfl) (by kernel_rfl)
theorem findTells_row_tie : Rows.findTellsRow.laidByTextAt .later Tryz.pinned [.data, .data, .data, .data, .data] true :=
  OpenClaim.laidByTextAt_later rfl rfl tie noOwnUnsafe
theorem findZero_row_tie : Rows.findZeroRow.laidByTextAt .later Tryz.pinned [.data, .data, .data, .data, .data] true :=
  OpenClaim.laidByTextAt_later rfl rfl tie noOwnUnsafe
theorem tie2 : Tryz.prog.laidByTextLater [("palanquin/cap.widths", Rows.laid_palanquin_cap_widths), ("palanquin/cap.most", Rows.laid_palanquin_cap_most), ("palanquin/head.widths", Rows.laid_palanquin_head_widths), ("palanquin/radix.slotWidths", Rows.laid_palanquin_radix_slotWidths)] [.data, .data, .data, .data] true :=
  Program.laidByTextLater.sub seatTie1 ["palanquin/cap.widths", "palanquin/cap.most", "palanquin/head.widths", "palanquin/radix.slotWidths"] (by kernel_rfl) (by kernel_rfl)
theorem findFewer_row_tie : Rows.findFewerRow.laidByTextAt .later Tryz.pinned [.data, .data, .data, .data] true :=
  OpenClaim.laidByTextAt_later rfl rfl tie2 noOwnUnsafe
theorem findMem_row_tie : Rows.findMemRow.laidByTextAt .later Tryz.pinned [.data, .data, .data, .data] true :=
  OpenClaim.laidByTextAt_later rfl rfl tie2 noOwnUnsafe
theorem findTellsUpto_row_tie : Rows.findTellsUptoRow.laidByTextAt .later Tryz.pinned [.data, .data, .data, .data, .data] true :=
  OpenClaim.laidByTextAt_later rfl rfl tie noOwnUnsafe
theorem findFewerUpto_row_tie : Rows.findFewerUptoRow.laidByTextAt .later Tryz.pinned [.data, .data, .data, .data] true :=
  OpenClaim.laidByTextAt_later rfl rfl tie2 noOwnUnsafe
theorem findZeroUpto_row_tie : Rows.findZeroUptoRow.laidByTextAt .later Tryz.pinned [.data, .data, .data, .data, .data] true :=
  OpenClaim.laidByTextAt_later rfl rfl tie noOwnUnsafe
theorem findMemUpto_row_tie : Rows.findMemUptoRow.laidByTextAt .later Tryz.pinned [.data, .data, .data, .data] true :=
  OpenClaim.laidByTextAt_later rfl rfl tie2 noOwnUnsafe
end Go.Proofs.YtggggfhgfnbjnaaGreatDoor
