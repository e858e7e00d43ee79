/-
  DERIVED. GIVEN WITH THE SEED: THE PROGRAM's TIES (one call each: nine closed facts by the kernel) AND EACH ROW's TIE, after the 31st guide's Derived/Test/Toyas{Tie, Card}.lean. No idea stands in it: it is a product of the set-up. Laid BY PROGRAM, IN A SANDBOX (cutbox-door.mjs). By AI agents, Wed Nov 11 2026. No macro, syntax, notation, axiom, sorry.
-/
import Derived.Test.YtdednjeofolleaaDoorRows
import Derived.LaidByTextLater
import Derived.SevenTiedAt
import Derived.LaidSub
import Derived.LaidOnce
namespace Go.Proofs.YtdednjeofolleaaDoor
open Go
set_option maxRecDepth 100000
theorem seatTie1 : Tryd.prog.laidByTextLater [("palanquin/cap.widths", Rows.laid_palanquin_cap_widths), ("palanquin/cap.most", Rows.laid_palanquin_cap_most)] [.data, .data] true :=
  Program.laidByTextLater_by_one 31 8 73 (by kernel_rfl) (by kernel_rfl) (by kernel_rfl) (by kernel_rfl) (by kernel_rfl) (by kernel_rfl) (fun _ _ => by kernel_rfl)
theorem noOwnUnsafe : Tryd.pinned.checked.prog.headLifts.contains "ownunsafe" = false := by kernel_rfl
theorem tie : Tryd.prog.laidByTextLater [("palanquin/cap.widths", Rows.laid_palanquin_cap_widths), ("palanquin/cap.most", Rows.laid_palanquin_cap_most)] [.data, .data] true :=
  Program.laidByTextLater.sub seatTie1 ["palanquin/cap.widths", "palanquin/cap.most"] (by kernel_rfl) (by kernel_rfl)
theorem capTells_row_tie : Rows.capTellsRow.laidByTextAt .later Tryd.pinned [.data, .data] true :=
  OpenClaim.laidByTextAt_later rfl rfl tie noOwnUnsafe
theorem capBack_row_tie : Rows.capBackRow.laidByTextAt .later Tryd.pinned [.data, .data] true :=
  OpenClaim.laidByTextAt_later rfl rfl tie noOwnUnsafe
theorem tie2 : Tryd.prog.laidByTextLater [("palanquin/cap.most", Rows.laid_palanquin_cap_most)] [.data] true :=
  Program.laidByTextLater.sub seatTie1 ["palanquin/cap.most"] (by kernel_rfl) (by kernel_rfl)
theorem capUnder_row_tie : Rows.capUnderRow.laidByTextAt .later Tryd.pinned [.data] true :=
  OpenClaim.laidByTextAt_later rfl rfl tie2 noOwnUnsafe
theorem capTellsUpto_row_tie : Rows.capTellsUptoRow.laidByTextAt .later Tryd.pinned [.data, .data] true :=
  OpenClaim.laidByTextAt_later rfl rfl tie noOwnUnsafe
theorem capBackUpto_row_tie : Rows.capBackUptoRow.laidByTextAt .later Tryd.pinned [.data, .data] true :=
  OpenClaim.laidByTextAt_later rfl rfl tie noOwnUnsafe
theorem capUnderUpto_row_tie : Rows.capUnderUptoRow.laidByTextAt .later Tryd.pinned [.data] true :=
  OpenClaim.laidByTextAt_later rfl rfl tie2 noOwnUnsafe
end Go.Proofs.YtdednjeofolleaaDoor
