/- Budgets in blocks. -/
import Derived.Test.YtiapfapmgjngpaaGreatDoorTcpG
import Derived.Test.YtiapfapmgjngpaaGreatDoorBunBase
namespace Go.Proofs.YtiapfapmgjngpaaGreatDoor.Ptcap
open Go.Proofs.YtiapfapmgjngpaaGreatDoor.Pbase Go.Proofs.YtiapfapmgjngpaaGreatDoor.Play Go.Proofs.YtiapfapmgjngpaaGreatDoor.Pmem
open Go.RowKit
set_option linter.unusedVariables false

/-- A budget in a block. -/
structure RowB (w : World) (B : Nat) (x : Bd) : Prop where
  row : w.heap[B]? = some (.cells #[.bool x.inf, .int .i64 x.lf, .int .i64 x.pr] 140 (0, 0))
section
variable {w w' : World} {B : Nat} {x : Bd}
theorem RowB.lt (h : RowB w B x) : B < w.heap.size := (Array.getElem?_eq_some_iff.1 h.row).1
theorem RowB.c0 (h : RowB w B x) : w.cell? ⟨B, 0, none⟩ = some (.bool x.inf) := (cell_of_row _ _ _ _ _ _ h.row).trans rfl
theorem RowB.c1 (h : RowB w B x) : w.cell? ⟨B, 1, none⟩ = some (.int .i64 x.lf) := (cell_of_row _ _ _ _ _ _ h.row).trans rfl
theorem RowB.c2 (h : RowB w B x) : w.cell? ⟨B, 2, none⟩ = some (.int .i64 x.pr) := (cell_of_row _ _ _ _ _ _ h.row).trans rfl
theorem RowB.fz (h : RowB w B x) (j : Nat) : w.frozen? ⟨B, j, none⟩ = false := frozen_of_row _ _ _ _ _ h.row
theorem RowB.on (h : RowB w B x) (hB : Below w.heap.size w w') : RowB w' B x := ⟨(hB.block B h.lt).trans h.row⟩
theorem RowB.but {b : Nat} (h : RowB w B x) (hB : But b w w') (hn : B ≠ b) : RowB w' B x := ⟨(hB.block B h.lt hn).trans h.row⟩
theorem rowB_new (w : World) (x : Bd) : RowB (w.alloc (.cells #[.bool x.inf, .int .i64 x.lf, .int .i64 x.pr] 140)) w.heap.size x := ⟨heap_alloc_new w _⟩
end
end Go.Proofs.YtiapfapmgjngpaaGreatDoor.Ptcap
