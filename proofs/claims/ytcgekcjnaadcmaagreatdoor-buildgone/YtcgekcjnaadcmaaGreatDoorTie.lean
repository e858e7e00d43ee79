/-
  DERIVED. GIVEN WITH THE SEED: THE PROGRAM's TIES (one call each: nine closed facts by the kernel) AND EACH ROW's TIE, after the 31st guide's Derived/Test/Toyas{Tie, Card}.lean. No idea stands in it: it is a product of the set-up. Laid BY PROGRAM, IN A SANDBOX (cutbox-door.mjs). By AI agents, Wed Nov 11 2026. No macro, syntax, notation, axiom, sorry.
-/
import Derived.Test.YtcgekcjnaadcmaaGreatDoorRows
import Derived.LaidByTextLater
import Derived.SevenTiedAt
import Derived.LaidSub
import Derived.LaidOnce
namespace Go.Proofs.YtcgekcjnaadcmaaGreatDoor
open Go
set_option maxRecDepth 100000
theorem seatTie1 : Tryz.prog.laidByTextLater [("palanquin/cap.widths", Rows.laid_palanquin_cap_widths), ("palanquin/cap.most", Rows.laid_palanquin_cap_most), ("palanquin/head.widths", Rows.laid_palanquin_head_widths), ("palanquin/comp.most", Rows.laid_palanquin_comp_most), ("palanquin/pte.widths", Rows.laid_palanquin_pte_widths), ("palanquin/rcv.most", Rows.laid_palanquin_rcv_most), ("palanquin/stack.widths", Rows.laid_palanquin_stack_widths)] [.data, .data, .data, .data, .data, .data, .data] true :=
  Program.laidByTextLater_by_one 56 8 73 (by kernel_rfl) (by kernel_rfl) (by kernel_rfl) (by kernel_rfl) (by kernel_rfl) (by kernel_rfl) (fun _ _ => by kernel_rfl)
theorem noOwnUnsafe : Tryz.pinned.checked.prog.headLifts.contains "ownunsafe" = false := by kernel_rfl
theorem tie : Tryz.prog.laidByTextLater [("palanquin/cap.widths", Rows.laid_palanquin_cap_widths), ("palanquin/cap.most", Rows.laid_palanquin_cap_most), ("palanquin/head.widths", Rows.laid_palanquin_head_widths), ("palanquin/comp.most", Rows.laid_palanquin_comp_most), ("palanquin/pte.widths", Rows.laid_palanquin_pte_widths), ("palanquin/rcv.most", Rows.laid_palanquin_rcv_most), ("palanquin/stack.widths", Rows.laid_palanquin_stack_widths)] [.data, .data, .data, .data, .data, .data, .data] true :=
  Program.laidByTextLater.sub seatTie1 ["palanquin/cap.widths", "palanquin/cap.most", "palanquin/head.widths", "palanquin/comp.most", "palanquin/pte.widths", "palanquin/rcv.most", "palanquin/stack.widths"] (by kernel_rfl) (by kernel_rfl)
theorem buildGone_row_tie : Rows.buildGoneRow.laidByTextAt .later Tryz.pinned [.data, .data, .data, .data, .data, .data, .data] true :=
  OpenClaim.laidByTextAt_later rfl rfl tie noOwnUnsafe
theorem buildGoneUpto_row_tie : Rows.buildGoneUptoRow.laidByTextAt .later Tryz.pinned [.data, .data, .data, .data, .data, .data, .data] true :=
  OpenClaim.laidByTextAt_later rfl rfl tie noOwnUnsafe
end Go.Proofs.YtcgekcjnaadcmaaGreatDoor
