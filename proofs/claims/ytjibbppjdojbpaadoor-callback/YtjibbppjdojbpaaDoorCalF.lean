/- Calls in blocks; rows of integers and of texts that a call has made (written by mk_g.py). -/
import Derived.Test.YtjibbppjdojbpaaDoorCalG
import Derived.Test.YtjibbppjdojbpaaDoorBunBase
namespace Go.Proofs.YtjibbppjdojbpaaDoor.Pcall
open Go.Proofs.YtjibbppjdojbpaaDoor.Pbase Go.Proofs.YtjibbppjdojbpaaDoor.Pfield
open Go.RowKit M
set_option linter.unusedVariables false

theorem chide {p : Prop} (h : p) : Hid p := h
structure RowC (w : World) (B : Nat) (x : Cl) : Prop where
  row : w.heap[B]? = some (.cells #[.int .i64 x.n, .int .i64 x.a, .int .i64 x.b, .int .i64 x.c, .int .i64 x.d, .int .i64 x.e] 24 (0, 0))
section
variable {w w' : World} {B : Nat} {x : Cl}
theorem RowC.lt (h : RowC w B x) : B < w.heap.size := (Array.getElem?_eq_some_iff.1 h.row).1
theorem RowC.c0 (h : RowC w B x) : w.cell? ⟨B, 0, none⟩ = some (.int .i64 x.n) := (cell_of_row _ _ _ _ _ _ h.row).trans rfl
theorem RowC.c1 (h : RowC w B x) : w.cell? ⟨B, 1, none⟩ = some (.int .i64 x.a) := (cell_of_row _ _ _ _ _ _ h.row).trans rfl
theorem RowC.c2 (h : RowC w B x) : w.cell? ⟨B, 2, none⟩ = some (.int .i64 x.b) := (cell_of_row _ _ _ _ _ _ h.row).trans rfl
theorem RowC.c3 (h : RowC w B x) : w.cell? ⟨B, 3, none⟩ = some (.int .i64 x.c) := (cell_of_row _ _ _ _ _ _ h.row).trans rfl
theorem RowC.c4 (h : RowC w B x) : w.cell? ⟨B, 4, none⟩ = some (.int .i64 x.d) := (cell_of_row _ _ _ _ _ _ h.row).trans rfl
theorem RowC.c5 (h : RowC w B x) : w.cell? ⟨B, 5, none⟩ = some (.int .i64 x.e) := (cell_of_row _ _ _ _ _ _ h.row).trans rfl
theorem RowC.fz (h : RowC w B x) (j : Nat) : w.frozen? ⟨B, j, none⟩ = false := frozen_of_row _ _ _ _ _ h.row
theorem RowC.on (h : RowC w B x) (hB : Below w.heap.size w w') : RowC w' B x := ⟨(hB.block B h.lt).trans h.row⟩
theorem RowC.drew (h : RowC w B x) : RowC w.drew B x := ⟨h.row⟩
theorem RowC.but {b : Nat} (h : RowC w B x) (hB : But b w w') (hn : B ≠ b) : RowC w' B x := ⟨(hB.block B h.lt hn).trans h.row⟩
theorem RowC.other (h : RowC w B x) {q : Nat} (hq : B ≠ q) (j : Nat) (v : Value) : RowC (w.setCell ⟨q, j, none⟩ v) B x := ⟨(heap_setCell_other _ _ _ _ hq).trans h.row⟩
theorem RowC.set0 (h : RowC w B x) (v : Int) : RowC (w.setCell ⟨B, 0, none⟩ (.int .i64 v)) B ⟨v, x.a, x.b, x.c, x.d, x.e⟩ := by
  refine ⟨?_⟩
  rw [heap_setCell_same _ _ _ _ _ _ h.row]
  rfl
theorem RowC.set1 (h : RowC w B x) (v : Int) : RowC (w.setCell ⟨B, 1, none⟩ (.int .i64 v)) B ⟨x.n, v, x.b, x.c, x.d, x.e⟩ := by
  refine ⟨?_⟩
  rw [heap_setCell_same _ _ _ _ _ _ h.row]
  rfl
theorem RowC.set2 (h : RowC w B x) (v : Int) : RowC (w.setCell ⟨B, 2, none⟩ (.int .i64 v)) B ⟨x.n, x.a, v, x.c, x.d, x.e⟩ := by
  refine ⟨?_⟩
  rw [heap_setCell_same _ _ _ _ _ _ h.row]
  rfl
theorem RowC.set3 (h : RowC w B x) (v : Int) : RowC (w.setCell ⟨B, 3, none⟩ (.int .i64 v)) B ⟨x.n, x.a, x.b, v, x.d, x.e⟩ := by
  refine ⟨?_⟩
  rw [heap_setCell_same _ _ _ _ _ _ h.row]
  rfl
theorem RowC.set4 (h : RowC w B x) (v : Int) : RowC (w.setCell ⟨B, 4, none⟩ (.int .i64 v)) B ⟨x.n, x.a, x.b, x.c, v, x.e⟩ := by
  refine ⟨?_⟩
  rw [heap_setCell_same _ _ _ _ _ _ h.row]
  rfl
theorem RowC.set5 (h : RowC w B x) (v : Int) : RowC (w.setCell ⟨B, 5, none⟩ (.int .i64 v)) B ⟨x.n, x.a, x.b, x.c, x.d, v⟩ := by
  refine ⟨?_⟩
  rw [heap_setCell_same _ _ _ _ _ _ h.row]
  rfl
theorem rowC_new (w : World) (x : Cl) : RowC (w.alloc (.cells #[.int .i64 x.n, .int .i64 x.a, .int .i64 x.b, .int .i64 x.c, .int .i64 x.d, .int .i64 x.e] 24)) w.heap.size x := ⟨heap_alloc_new w _⟩
end
/-! ### rows -/
structure RowX (w : World) (B : Nat) (vs : List Value) : Prop where
  row : ∃ t, w.heap[B]? = some (.cells vs.toArray t (0, 0))
section
variable {w w' : World} {B : Nat} {vs : List Value}
theorem RowX.lt (h : RowX w B vs) : B < w.heap.size := by
  obtain ⟨t, h⟩ := h.row
  exact (Array.getElem?_eq_some_iff.1 h).1
theorem RowX.cell (h : RowX w B vs) (j : Nat) : w.cell? ⟨B, j, none⟩ = vs[j]? := by
  obtain ⟨t, h⟩ := h.row
  rw [cell_of_row _ _ _ _ _ _ h]
  simp
theorem RowX.on (h : RowX w B vs) (hB : Below w.heap.size w w') : RowX w' B vs := by
  have hl := h.lt
  obtain ⟨t, h⟩ := h.row
  exact ⟨t, (hB.block B hl).trans h⟩
theorem rowX_new (w : World) (vs : List Value) (t : TypeId) : RowX (w.alloc (.cells vs.toArray t)) w.heap.size vs := ⟨t, heap_alloc_new w _⟩
end
def ndV : List Value := ndL.map fun z => .int .i64 z
def wsV : List Value := wsL.map fun t => .string t
theorem ndV_at {k : Nat} (h : k ≤ 29) : ndV[k]? = some (.int .i64 (ndI k)) := by
  have hl : k < ndL.length := by show k < 30; omega
  rw [ndI_at h]
  unfold ndV
  rw [List.getElem?_map, List.getElem?_eq_getElem hl]
  rfl
theorem wsV_at {k : Nat} (h : k ≤ 29) : wsV[k]? = some (.string (wsL[k]?.getD noT)) := by
  have hl : k < wsL.length := by rw [wsL_len]; omega
  unfold wsV
  rw [List.getElem?_map, List.getElem?_eq_getElem hl]
  rfl
end Go.Proofs.YtjibbppjdojbpaaDoor.Pcall
