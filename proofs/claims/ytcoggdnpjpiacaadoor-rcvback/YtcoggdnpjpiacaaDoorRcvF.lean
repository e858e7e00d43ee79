/- Endpoints in blocks. -/
import Derived.Test.YtcoggdnpjpiacaaDoorRcvG
import Derived.Test.YtcoggdnpjpiacaaDoorBunRing
namespace Go.Proofs.YtcoggdnpjpiacaaDoor.Prcv
open Go.Proofs.YtcoggdnpjpiacaaDoor.Pbase Go.Proofs.YtcoggdnpjpiacaaDoor.Pfield Go.Proofs.YtcoggdnpjpiacaaDoor.Play Go.Proofs.YtcoggdnpjpiacaaDoor.Pmem Go.Proofs.YtcoggdnpjpiacaaDoor.Pring
open Go.RowKit M
set_option linter.unusedVariables false

/-- An endpoint in a block. -/
structure RowW (w : World) (B : Nat) (x : Rv) : Prop where
  row : w.heap[B]? = some (.cells #[.int .i64 x.th, .int .i64 x.pa, .int .i64 x.co, .bool x.wa, .int .i64 x.lo] 31 (0, 0))
section
variable {w w' : World} {B : Nat} {x : Rv}
theorem RowW.lt (h : RowW w B x) : B < w.heap.size := (Array.getElem?_eq_some_iff.1 h.row).1
theorem RowW.c0 (h : RowW w B x) : w.cell? ⟨B, 0, none⟩ = some (.int .i64 x.th) := (cell_of_row _ _ _ _ _ _ h.row).trans rfl
theorem RowW.c1 (h : RowW w B x) : w.cell? ⟨B, 1, none⟩ = some (.int .i64 x.pa) := (cell_of_row _ _ _ _ _ _ h.row).trans rfl
theorem RowW.c2 (h : RowW w B x) : w.cell? ⟨B, 2, none⟩ = some (.int .i64 x.co) := (cell_of_row _ _ _ _ _ _ h.row).trans rfl
theorem RowW.c3 (h : RowW w B x) : w.cell? ⟨B, 3, none⟩ = some (.bool x.wa) := (cell_of_row _ _ _ _ _ _ h.row).trans rfl
theorem RowW.c4 (h : RowW w B x) : w.cell? ⟨B, 4, none⟩ = some (.int .i64 x.lo) := (cell_of_row _ _ _ _ _ _ h.row).trans rfl
theorem RowW.fz (h : RowW w B x) (j : Nat) : w.frozen? ⟨B, j, none⟩ = false := frozen_of_row _ _ _ _ _ h.row
theorem RowW.on (h : RowW w B x) (hB : Below w.heap.size w w') : RowW w' B x := ⟨(hB.block B h.lt).trans h.row⟩
theorem RowW.but {b : Nat} (h : RowW w B x) (hB : But b w w') (hn : B ≠ b) : RowW w' B x := ⟨(hB.block B h.lt hn).trans h.row⟩
theorem RowW.keep (h : RowW w B x) (k : KeepT w w') : RowW w' B x := ⟨k _ _ _ (by decide) h.row⟩
theorem RowW.set2 (h : RowW w B x) (v : Int) : RowW (w.setCell ⟨B, 2, none⟩ (.int .i64 v)) B ⟨x.th, x.pa, v, x.wa, x.lo⟩ := by
  refine ⟨?_⟩
  rw [heap_setCell_same _ _ _ _ _ _ h.row]
  simp
theorem RowW.set3 (h : RowW w B x) (v : Bool) : RowW (w.setCell ⟨B, 3, none⟩ (.bool v)) B ⟨x.th, x.pa, x.co, v, x.lo⟩ := by
  refine ⟨?_⟩
  rw [heap_setCell_same _ _ _ _ _ _ h.row]
  simp
theorem RowW.set4 (h : RowW w B x) (v : Int) : RowW (w.setCell ⟨B, 4, none⟩ (.int .i64 v)) B ⟨x.th, x.pa, x.co, x.wa, v⟩ := by
  refine ⟨?_⟩
  rw [heap_setCell_same _ _ _ _ _ _ h.row]
  simp
theorem rowW_new (w : World) (x : Rv) : RowW (w.alloc (.cells #[.int .i64 x.th, .int .i64 x.pa, .int .i64 x.co, .bool x.wa, .int .i64 x.lo] 31)) w.heap.size x := ⟨heap_alloc_new w _⟩
end
end Go.Proofs.YtcoggdnpjpiacaaDoor.Prcv
