/- What the document's right, Check, words, Make and Put of layer 18 answer and do, over its own memory (written by mk_doc.py). -/
import Derived.Test.YtaajacmbnigadaaDoorThdG
import Derived.Test.YtaajacmbnigadaaDoorBunLay
import Derived.Test.YtaajacmbnigadaaDoorBunHead
import Derived.BigRegion
import Derived.Deep.RegionHeld3
namespace Go.Proofs.YtaajacmbnigadaaDoor.Pthd
open Go.Proofs.YtaajacmbnigadaaDoor.Pbase Go.Proofs.YtaajacmbnigadaaDoor.Pfield Go.Proofs.YtaajacmbnigadaaDoor.Play Go.Proofs.YtaajacmbnigadaaDoor.Pmem
open Go.RowKit M
set_option linter.unusedVariables false

/-- A thread in a block. -/
structure RowT (w : World) (B : Nat) (x : Th) : Prop where
  row : w.heap[B]? = some (.cells #[.int .i64 x.st, .int .i64 x.co, .int .i64 x.tc, .int .i64 x.rc, .int .i64 x.de] 23 (0, 0))
section
variable {w w' : World} {B : Nat} {x : Th}
theorem RowT.lt (h : RowT w B x) : B < w.heap.size := (Array.getElem?_eq_some_iff.1 h.row).1
theorem RowT.c0 (h : RowT w B x) : w.cell? ⟨B, 0, none⟩ = some (.int .i64 x.st) := (cell_of_row _ _ _ _ _ _ h.row).trans rfl
theorem RowT.c1 (h : RowT w B x) : w.cell? ⟨B, 1, none⟩ = some (.int .i64 x.co) := (cell_of_row _ _ _ _ _ _ h.row).trans rfl
theorem RowT.c2 (h : RowT w B x) : w.cell? ⟨B, 2, none⟩ = some (.int .i64 x.tc) := (cell_of_row _ _ _ _ _ _ h.row).trans rfl
theorem RowT.c3 (h : RowT w B x) : w.cell? ⟨B, 3, none⟩ = some (.int .i64 x.rc) := (cell_of_row _ _ _ _ _ _ h.row).trans rfl
theorem RowT.c4 (h : RowT w B x) : w.cell? ⟨B, 4, none⟩ = some (.int .i64 x.de) := (cell_of_row _ _ _ _ _ _ h.row).trans rfl
theorem RowT.fz (h : RowT w B x) (j : Nat) : w.frozen? ⟨B, j, none⟩ = false := frozen_of_row _ _ _ _ _ h.row
theorem RowT.on (h : RowT w B x) (hB : Below w.heap.size w w') : RowT w' B x := ⟨(hB.block B h.lt).trans h.row⟩
theorem RowT.but {b : Nat} (h : RowT w B x) (hB : But b w w') (hn : B ≠ b) : RowT w' B x := ⟨(hB.block B h.lt hn).trans h.row⟩
theorem rowT_new (w : World) (x : Th) : RowT (w.alloc (.cells #[.int .i64 x.st, .int .i64 x.co, .int .i64 x.tc, .int .i64 x.rc, .int .i64 x.de] 23)) w.heap.size x := ⟨heap_alloc_new w _⟩
end
/-! ### right, Check -/
theorem toB_in (c : Th) : toB c = (inB c.st 0 3 && inB c.co 0 3 && inB c.tc 0 63 && inB c.rc 0 64 && inB c.de 0 6) := rfl
/-! ### words -/
/-! ### Make, Put -/
end Go.Proofs.YtaajacmbnigadaaDoor.Pthd
