/- Records and places in blocks; the table of widths; a memory, the table of head and the table of widths. -/
import Derived.Test.YtoipfcmjphlmfaaDoorStkG
import Derived.Test.YtoipfcmjphlmfaaDoorBunThd
import Derived.Test.YtoipfcmjphlmfaaDoorBunField
namespace Go.Proofs.YtoipfcmjphlmfaaDoor.Pstack
open Go.Proofs.YtoipfcmjphlmfaaDoor.Pbase Go.Proofs.YtoipfcmjphlmfaaDoor.Pfield Go.Proofs.YtoipfcmjphlmfaaDoor.Play Go.Proofs.YtoipfcmjphlmfaaDoor.Pmem Go.Proofs.YtoipfcmjphlmfaaDoor.Pthd
open Go.RowKit M
set_option linter.unusedVariables false

/-- A record in a block. -/
structure RowR (w : World) (B : Nat) (x : Rc) : Prop where
  row : w.heap[B]? = some (.cells #[.int .i64 x.co, .int .i64 x.tb, .int .i64 x.pg, .int .i64 x.l, .int .i64 x.e, .int .i64 x.ip] 32 (0, 0))
section
variable {w w' : World} {B : Nat} {x : Rc}
theorem RowR.lt (h : RowR w B x) : B < w.heap.size := (Array.getElem?_eq_some_iff.1 h.row).1
theorem RowR.c0 (h : RowR w B x) : w.cell? ⟨B, 0, none⟩ = some (.int .i64 x.co) := (cell_of_row _ _ _ _ _ _ h.row).trans rfl
theorem RowR.c1 (h : RowR w B x) : w.cell? ⟨B, 1, none⟩ = some (.int .i64 x.tb) := (cell_of_row _ _ _ _ _ _ h.row).trans rfl
theorem RowR.c2 (h : RowR w B x) : w.cell? ⟨B, 2, none⟩ = some (.int .i64 x.pg) := (cell_of_row _ _ _ _ _ _ h.row).trans rfl
theorem RowR.c3 (h : RowR w B x) : w.cell? ⟨B, 3, none⟩ = some (.int .i64 x.l) := (cell_of_row _ _ _ _ _ _ h.row).trans rfl
theorem RowR.c4 (h : RowR w B x) : w.cell? ⟨B, 4, none⟩ = some (.int .i64 x.e) := (cell_of_row _ _ _ _ _ _ h.row).trans rfl
theorem RowR.c5 (h : RowR w B x) : w.cell? ⟨B, 5, none⟩ = some (.int .i64 x.ip) := (cell_of_row _ _ _ _ _ _ h.row).trans rfl
theorem RowR.fz (h : RowR w B x) (j : Nat) : w.frozen? ⟨B, j, none⟩ = false := frozen_of_row _ _ _ _ _ h.row
theorem RowR.on (h : RowR w B x) (hB : Below w.heap.size w w') : RowR w' B x := ⟨(hB.block B h.lt).trans h.row⟩
theorem RowR.but {b : Nat} (h : RowR w B x) (hB : But b w w') (hn : B ≠ b) : RowR w' B x := ⟨(hB.block B h.lt hn).trans h.row⟩
theorem rowR_new (w : World) (x : Rc) : RowR (w.alloc (.cells #[.int .i64 x.co, .int .i64 x.tb, .int .i64 x.pg, .int .i64 x.l, .int .i64 x.e, .int .i64 x.ip] 32)) w.heap.size x := ⟨heap_alloc_new w _⟩
end
/-- A place in a block. -/
structure RowL (w : World) (B p : Nat) (f i : Int) : Prop where
  row : w.heap[B]? = some (.cells #[.pointer (some ⟨p, 0, none⟩), .int .i64 f, .int .i64 i] 53 (0, 0))
section
variable {w w' : World} {B p : Nat} {f i : Int}
theorem RowL.lt (h : RowL w B p f i) : B < w.heap.size := (Array.getElem?_eq_some_iff.1 h.row).1
theorem RowL.c0 (h : RowL w B p f i) : w.cell? ⟨B, 0, none⟩ = some (.pointer (some ⟨p, 0, none⟩)) := (cell_of_row _ _ _ _ _ _ h.row).trans rfl
theorem RowL.c1 (h : RowL w B p f i) : w.cell? ⟨B, 1, none⟩ = some (.int .i64 f) := (cell_of_row _ _ _ _ _ _ h.row).trans rfl
theorem RowL.c2 (h : RowL w B p f i) : w.cell? ⟨B, 2, none⟩ = some (.int .i64 i) := (cell_of_row _ _ _ _ _ _ h.row).trans rfl
theorem RowL.on (h : RowL w B p f i) (hB : Below w.heap.size w w') : RowL w' B p f i := ⟨(hB.block B h.lt).trans h.row⟩
theorem RowL.but {b : Nat} (h : RowL w B p f i) (hB : But b w w') (hn : B ≠ b) : RowL w' B p f i := ⟨(hB.block B h.lt hn).trans h.row⟩
theorem rowL_new (w : World) (p : Nat) (f i : Int) : RowL (w.alloc (.cells #[.pointer (some ⟨p, 0, none⟩), .int .i64 f, .int .i64 i] 53)) w.heap.size p f i := ⟨heap_alloc_new w _⟩
end
/-! ### the table of widths -/
structure TabR (w : World) : Prop where
  lt : 0 < w.heap.size
  row : ∃ t fr, w.heap[(0 : Nat)]? = some (.cells #[.int .i64 6, .int .i64 6, .int .i64 6, .int .i64 6, .int .i64 16] t fr)
theorem TabR.on {w w' : World} (h : TabR w) (hB : Below w.heap.size w w') : TabR w' :=
  ⟨Nat.lt_of_lt_of_le h.lt hB.size, by obtain ⟨t, fr, hr⟩ := h.row; exact ⟨t, fr, (hB.block 0 h.lt).trans hr⟩⟩
theorem TabR.but {w w' : World} {b : Nat} (h : TabR w) (hB : But b w w') (hn : 0 ≠ b) : TabR w' :=
  ⟨Nat.lt_of_lt_of_le h.lt hB.size, by obtain ⟨t, fr, hr⟩ := h.row; exact ⟨t, fr, (hB.block 0 h.lt hn).trans hr⟩⟩
theorem tabR_ne {w : World} {p b N : Nat} {M : Nat → Nat → Int} (hM : MemIs w p b N M) (hW : TabR w) : 0 ≠ b := by
  intro e
  obtain ⟨t, fr, hr⟩ := hW.row
  rw [e, hM.row] at hr
  simp only [Option.some.injEq, Obj.cells.injEq] at hr
  have := congrArg Array.size hr.1
  rw [cellsM_size] at this
  simp at this
  omega
theorem TabR.cells {w : World} (h : TabR w) : w.cell? ⟨0, 0, none⟩ = some (.int .i64 6) ∧ w.cell? ⟨0, 1, none⟩ = some (.int .i64 6) ∧ w.cell? ⟨0, 2, none⟩ = some (.int .i64 6) ∧ w.cell? ⟨0, 3, none⟩ = some (.int .i64 6) ∧ w.cell? ⟨0, 4, none⟩ = some (.int .i64 16) := by
  obtain ⟨t, fr, hr⟩ := h.row
  exact ⟨(cell_of_row _ _ 0 _ _ _ hr).trans rfl, (cell_of_row _ _ 1 _ _ _ hr).trans rfl, (cell_of_row _ _ 2 _ _ _ hr).trans rfl, (cell_of_row _ _ 3 _ _ _ hr).trans rfl, (cell_of_row _ _ 4 _ _ _ hr).trans rfl⟩
/-- Both tables. -/
structure Ts (w : World) : Prop where
  hd : Phead.TabW w
  wd : TabR w
theorem Ts.on {w w' : World} (h : Ts w) (hB : Below w.heap.size w w') : Ts w' := ⟨h.hd.on hB, h.wd.on hB⟩
/-- A memory and the tables. -/
structure Sx (w : World) (p b N : Nat) (M : Nat → Nat → Int) : Prop where
  mx : Pthd.Mx w p b N M
  tb : TabR w
theorem Sx.on {w w' : World} {p b N : Nat} {M : Nat → Nat → Int} (h : Sx w p b N M) (hB : Below w.heap.size w w') : Sx w' p b N M := ⟨h.mx.on hB, h.tb.on hB⟩
theorem Sx.but {w w' : World} {p b N : Nat} {M M' : Nat → Nat → Int} (h : Sx w p b N M) (hX : Pthd.Mx w' p b N M') (hB : But b w w') : Sx w' p b N M' := ⟨hX, h.tb.but hB (tabR_ne h.mx.mem h.tb)⟩
theorem Sx.ltb {w : World} {p b N : Nat} {M : Nat → Nat → Int} (h : Sx w p b N M) : b < w.heap.size := h.mx.mem.lt.2
theorem sx_of {w W : World} {p b N : Nat} {M : Nat → Nat → Int} (hT : Ts w) (hB : Below w.heap.size w W) (hM : MemIs W p b N M) (hF : Fit M) (h1 : 1 ≤ N) (h2 : N ≤ 64) : Sx W p b N M := ⟨⟨hM, hT.hd.on hB, hF, h1, h2⟩, hT.wd.on hB⟩
/-! ### more plain words -/
theorem ly_gt {N : Nat} {M : Nat → Nat → Int} {f : Int} {i : Nat} {x : Rc} (hf : okF N f = true) (hi : i < 6) : gtE N (lyR N M f i x) f = gtE N M f := by
  unfold gtE
  rw [ly_is hf hi, ly_th hf hi]
/-- A depth put, told by thd's Put. -/
theorem dp_put {N : Nat} {M : Nat → Nat → Int} {f : Int} {d : Nat} (hg : gtE N M f = 0) (hd : d ≤ 6) : Pthd.puE N M f (dpX (thOf M f) (d : Int)) = 0 ∧ Pthd.puM N M f (dpX (thOf M f) (d : Int)) = stW N M f 8 (d : Int) ∧ To (dpX (thOf M f) (d : Int)) := by
  obtain ⟨hf, hde, h6⟩ := gt_dp hg
  obtain ⟨h1, h2, _⟩ := gt_yes hg
  have hto : To (dpX (thOf M f) (d : Int)) := by
    unfold To at h2 ⊢
    unfold dpX
    dsimp only
    omega
  have e1 : Pthd.puE N M f (dpX (thOf M f) (d : Int)) = 0 := by
    unfold Pthd.puE
    rw [if_pos (toB_yes hto), if_pos h1]
  refine ⟨e1, ?_, hto⟩
  unfold Pthd.puM
  rw [if_pos e1]
  exact lay_dp hf _
end Go.Proofs.YtoipfcmjphlmfaaDoor.Pstack
