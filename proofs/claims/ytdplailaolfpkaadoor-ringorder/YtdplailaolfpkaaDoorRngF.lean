/- Events and rings in blocks; the table of widths of package ring; a memory and both tables. -/
import Derived.Test.YtdplailaolfpkaaDoorRngG
import Derived.Test.YtdplailaolfpkaaDoorBunLay
import Derived.Test.YtdplailaolfpkaaDoorBunHead
import Derived.Test.YtdplailaolfpkaaDoorBunField
namespace Go.Proofs.YtdplailaolfpkaaDoor.Pring
open Go.Proofs.YtdplailaolfpkaaDoor.Pbase Go.Proofs.YtdplailaolfpkaaDoor.Pfield Go.Proofs.YtdplailaolfpkaaDoor.Play Go.Proofs.YtdplailaolfpkaaDoor.Pmem
open Go.RowKit M
set_option linter.unusedVariables false

/-- An event in a block. -/
structure RowE (w : World) (B : Nat) (x : Ev) : Prop where
  row : w.heap[B]? = some (.cells #[.int .i64 x.k, .int .i64 x.t] 32 (0, 0))
section
variable {w w' : World} {B : Nat} {x : Ev}
theorem RowE.lt (h : RowE w B x) : B < w.heap.size := (Array.getElem?_eq_some_iff.1 h.row).1
theorem RowE.c0 (h : RowE w B x) : w.cell? ⟨B, 0, none⟩ = some (.int .i64 x.k) := (cell_of_row _ _ _ _ _ _ h.row).trans rfl
theorem RowE.c1 (h : RowE w B x) : w.cell? ⟨B, 1, none⟩ = some (.int .i64 x.t) := (cell_of_row _ _ _ _ _ _ h.row).trans rfl
theorem RowE.fz (h : RowE w B x) (j : Nat) : w.frozen? ⟨B, j, none⟩ = false := frozen_of_row _ _ _ _ _ h.row
theorem RowE.on (h : RowE w B x) (hB : Below w.heap.size w w') : RowE w' B x := ⟨(hB.block B h.lt).trans h.row⟩
theorem RowE.but {b : Nat} (h : RowE w B x) (hB : But b w w') (hn : B ≠ b) : RowE w' B x := ⟨(hB.block B h.lt hn).trans h.row⟩
theorem RowE.keep (h : RowE w B x) (k : KeepT w w') : RowE w' B x := ⟨k _ _ _ (by decide) h.row⟩
theorem RowE.put (h : RowE w B x) (y : Ev) : RowE ((w.setCell ⟨B, 0, none⟩ (.int .i64 y.k)).setCell ⟨B, 1, none⟩ (.int .i64 y.t)) B y := by
  refine ⟨?_⟩
  rw [heap_setCell_same _ _ _ _ _ _ (heap_setCell_same _ _ _ _ _ _ h.row)]
  simp
theorem rowE_new (w : World) (x : Ev) : RowE (w.alloc (.cells #[.int .i64 x.k, .int .i64 x.t] 32)) w.heap.size x := ⟨heap_alloc_new w _⟩
end
/-- A ring in a block. -/
structure RowN (w : World) (B p : Nat) (f a n : Int) : Prop where
  row : w.heap[B]? = some (.cells #[.pointer (some ⟨p, 0, none⟩), .int .i64 f, .int .u64 a, .int .u64 n] 77 (0, 0))
section
variable {w w' : World} {B p : Nat} {f a n : Int}
theorem RowN.lt (h : RowN w B p f a n) : B < w.heap.size := (Array.getElem?_eq_some_iff.1 h.row).1
theorem RowN.c0 (h : RowN w B p f a n) : w.cell? ⟨B, 0, none⟩ = some (.pointer (some ⟨p, 0, none⟩)) := (cell_of_row _ _ _ _ _ _ h.row).trans rfl
theorem RowN.c1 (h : RowN w B p f a n) : w.cell? ⟨B, 1, none⟩ = some (.int .i64 f) := (cell_of_row _ _ _ _ _ _ h.row).trans rfl
theorem RowN.c2 (h : RowN w B p f a n) : w.cell? ⟨B, 2, none⟩ = some (.int .u64 a) := (cell_of_row _ _ _ _ _ _ h.row).trans rfl
theorem RowN.c3 (h : RowN w B p f a n) : w.cell? ⟨B, 3, none⟩ = some (.int .u64 n) := (cell_of_row _ _ _ _ _ _ h.row).trans rfl
theorem RowN.fz (h : RowN w B p f a n) (j : Nat) : w.frozen? ⟨B, j, none⟩ = false := frozen_of_row _ _ _ _ _ h.row
theorem RowN.on (h : RowN w B p f a n) (hB : Below w.heap.size w w') : RowN w' B p f a n := ⟨(hB.block B h.lt).trans h.row⟩
theorem RowN.but {b : Nat} (h : RowN w B p f a n) (hB : But b w w') (hn : B ≠ b) : RowN w' B p f a n := ⟨(hB.block B h.lt hn).trans h.row⟩
theorem rowN_new (w : World) (p : Nat) (f a n : Int) : RowN (w.alloc (.cells #[.pointer (some ⟨p, 0, none⟩), .int .i64 f, .int .u64 a, .int .u64 n] 77)) w.heap.size p f a n := ⟨heap_alloc_new w _⟩
end
/-! ### the table of widths -/
structure TabR (w : World) : Prop where
  lt : 0 < w.heap.size
  row : ∃ t fr, w.heap[(0 : Nat)]? = some (.cells #[.int .i64 4, .int .i64 6] t fr)
theorem TabR.on {w w' : World} (h : TabR w) (hB : Below w.heap.size w w') : TabR w' :=
  ⟨Nat.lt_of_lt_of_le h.lt hB.size, by obtain ⟨t, fr, hr⟩ := h.row; exact ⟨t, fr, (hB.block 0 h.lt).trans hr⟩⟩
theorem TabR.but {w w' : World} {b : Nat} (h : TabR w) (hB : But b w w') (hn : 0 ≠ b) : TabR w' :=
  ⟨Nat.lt_of_lt_of_le h.lt hB.size, by obtain ⟨t, fr, hr⟩ := h.row; exact ⟨t, fr, (hB.block 0 h.lt hn).trans hr⟩⟩
theorem tabR_ne {w : World} {p b N : Nat} {M : Nat → Nat → Int} (hM : MemIs w p b N M) (hN : 1 ≤ N) (hW : TabR w) : 0 ≠ b := by
  intro e
  obtain ⟨t, fr, hr⟩ := hW.row
  rw [e, hM.row] at hr
  simp only [Option.some.injEq, Obj.cells.injEq] at hr
  have := congrArg Array.size hr.1
  rw [cellsM_size] at this
  simp at this
  omega
theorem TabR.cells {w : World} (h : TabR w) : w.cell? ⟨0, 0, none⟩ = some (.int .i64 4) ∧ w.cell? ⟨0, 1, none⟩ = some (.int .i64 6) := by
  obtain ⟨t, fr, hr⟩ := h.row
  exact ⟨(cell_of_row _ _ 0 _ _ _ hr).trans rfl, (cell_of_row _ _ 1 _ _ _ hr).trans rfl⟩
/-- Both tables. -/
structure Ts (w : World) : Prop where
  hd : Phead.TabW w
  wd : TabR w
theorem Ts.on {w w' : World} (h : Ts w) (hB : Below w.heap.size w w') : Ts w' := ⟨h.hd.on hB, h.wd.on hB⟩
/-- A memory and the tables. -/
structure Mx (w : World) (p b N : Nat) (M : Nat → Nat → Int) : Prop where
  mem : MemIs w p b N M
  hd : Phead.TabW w
  wd : TabR w
  fit : Fit M
  n1 : 1 ≤ N
  n64 : N ≤ 64
theorem Mx.on {w w' : World} {p b N : Nat} {M : Nat → Nat → Int} (h : Mx w p b N M) (hB : Below w.heap.size w w') : Mx w' p b N M := ⟨h.mem.grown hB, h.hd.on hB, h.wd.on hB, h.fit, h.n1, h.n64⟩
theorem Mx.but {w w' : World} {p b N : Nat} {M M' : Nat → Nat → Int} (h : Mx w p b N M) (hM : MemIs w' p b N M') (hF : Fit M') (hB : But b w w') : Mx w' p b N M' :=
  ⟨hM, h.hd.but hB (Phead.tab_ne h.mem h.hd), h.wd.but hB (tabR_ne h.mem h.n1 h.wd), hF, h.n1, h.n64⟩
theorem Mx.ltb {w : World} {p b N : Nat} {M : Nat → Nat → Int} (h : Mx w p b N M) : b < w.heap.size := h.mem.lt.2
theorem mx_of {w W : World} {p b N : Nat} {M : Nat → Nat → Int} (hT : Ts w) (hB : Below w.heap.size w W) (hM : MemIs W p b N M) (hF : Fit M) (h1 : 1 ≤ N) (h2 : N ≤ 64) : Mx W p b N M := ⟨hM, hT.hd.on hB, hT.wd.on hB, hF, h1, h2⟩
/-! ### widths and parts in blocks -/
theorem ints_ews (w : World) (ty : TypeId) : Ints .i64 (w.alloc (.cells #[.int .i64 4, .int .i64 6] ty)).heap.size (w.alloc (.cells #[.int .i64 4, .int .i64 6] ty)) (.slice (some ⟨w.heap.size, 0, none⟩) 2 2) ews := by
  refine .inr ⟨w.heap.size, 0, 2, rfl, by simp, fun j hj => ?_⟩
  rw [Nat.zero_add, cell_of_row _ _ j _ _ _ (heap_alloc_new w _)]
  match j, hj with
  | 0, _ | 1, _ => rfl
theorem ints_vs (w : World) (x : Ev) (ty : TypeId) : Ints .u64 (w.alloc (.cells #[.int .u64 x.k, .int .u64 x.t] ty)).heap.size (w.alloc (.cells #[.int .u64 x.k, .int .u64 x.t] ty)) (.slice (some ⟨w.heap.size, 0, none⟩) 2 2) x.vs := by
  refine .inr ⟨w.heap.size, 0, 2, rfl, by simp, fun j hj => ?_⟩
  rw [Nat.zero_add, cell_of_row _ _ j _ _ _ (heap_alloc_new w _)]
  match j, hj with
  | 0, _ | 1, _ => rfl
/-- The two parts of a word in a block. -/
structure Two (w : World) (b o : Nat) (a : Int) : Prop where
  lt : b < w.heap.size
  c0 : w.cell? ⟨b, o, none⟩ = some (.int .u64 (egN a 0))
  c1 : w.cell? ⟨b, o + 1, none⟩ = some (.int .u64 (egN a 1))
theorem Two.on {w w' : World} {b o : Nat} {a : Int} (h : Two w b o a) (hB : Below w.heap.size w w') : Two w' b o a :=
  ⟨Nat.lt_of_lt_of_le h.lt hB.size, (World.cell?_of_block (hB.block b h.lt)).trans h.c0, (World.cell?_of_block (hB.block b h.lt)).trans h.c1⟩
theorem two_of {w : World} {a : Option Addr} {c : Nat} {x : Int} (h : Ints .u64 w.heap.size w (.slice a ews.length c) (getsI x ews)) : ∃ b o, a = some ⟨b, o, none⟩ ∧ Two w b o x := by
  have hl := getsI_length x ews
  rcases h with ⟨_, _, e1, e2⟩ | ⟨b, o, cap, e1, hb, hc⟩
  · rw [e2, ews_length] at hl; cases hl
  · cases e1
    rw [hl, ews_length] at hc
    exact ⟨b, o, rfl, hb, hc 0 (by omega), hc 1 (by omega)⟩
theorem two_ne {w : World} {b o B : Nat} {a : Int} {x : Ev} (h : Two w b o a) (k : RowE w B x) : b ≠ B := by
  rintro rfl
  have hc := h.c0
  rw [cell_of_row _ _ _ _ _ _ k.row] at hc
  match o, hc with
  | 0, hc | 1, hc => simp at hc
  | o + 2, hc => simp at hc
end Go.Proofs.YtdplailaolfpkaaDoor.Pring
