/- A block told by a list of values. -/
import Derived.Test.YtlnckhebikiclaaDoorBunBase
import Derived.Test.YtlnckhebikiclaaDoorBunLay
namespace Go.Proofs.YtlnckhebikiclaaDoor.Play
open Go.Proofs.YtlnckhebikiclaaDoor.Pbase Go.Proofs.YtlnckhebikiclaaDoor.Pmem
open Go.RowKit
set_option linter.unusedVariables false

/-! ### a block of values -/
structure RowV (w : World) (B : Nat) (vs : List Value) : Prop where
  row : ∃ t, w.heap[B]? = some (.cells vs.toArray t (0, 0))
section
variable {w w' : World} {B : Nat} {vs : List Value}
theorem RowV.lt (h : RowV w B vs) : B < w.heap.size := by
  obtain ⟨t, h⟩ := h.row
  exact (Array.getElem?_eq_some_iff.1 h).1
theorem RowV.cell (h : RowV w B vs) (j : Nat) : w.cell? ⟨B, j, none⟩ = vs[j]? := by
  obtain ⟨t, h⟩ := h.row
  rw [cell_of_row _ _ _ _ _ _ h]
  simp
theorem RowV.fz (h : RowV w B vs) (j : Nat) : w.frozen? ⟨B, j, none⟩ = false := by
  obtain ⟨t, h⟩ := h.row
  exact frozen_of_row _ _ _ _ _ h
theorem RowV.on (h : RowV w B vs) (hB : Below w.heap.size w w') : RowV w' B vs := by
  have hl := h.lt
  obtain ⟨t, h⟩ := h.row
  exact ⟨t, (hB.block B hl).trans h⟩
theorem RowV.but {b : Nat} (h : RowV w B vs) (hB : But b w w') (hn : B ≠ b) : RowV w' B vs := by
  have hl := h.lt
  obtain ⟨t, h⟩ := h.row
  exact ⟨t, (hB.block B hl hn).trans h⟩
theorem RowV.set (h : RowV w B vs) (j : Nat) (v : Value) : RowV (w.setCell ⟨B, j, none⟩ v) B (vs.set j v) := by
  obtain ⟨t, h⟩ := h.row
  refine ⟨t, ?_⟩
  rw [heap_setCell_same _ _ _ _ _ _ h]
  simp
theorem RowV.other (h : RowV w B vs) {q : Nat} (hq : B ≠ q) (j : Nat) (v : Value) : RowV (w.setCell ⟨q, j, none⟩ v) B vs := by
  obtain ⟨t, h⟩ := h.row
  exact ⟨t, (heap_setCell_other _ _ _ _ hq).trans h⟩
theorem rowV_new (w : World) (vs : List Value) (t : TypeId) : RowV (w.alloc (.cells vs.toArray t)) w.heap.size vs := ⟨t, heap_alloc_new w _⟩
end
end Go.Proofs.YtlnckhebikiclaaDoor.Play
