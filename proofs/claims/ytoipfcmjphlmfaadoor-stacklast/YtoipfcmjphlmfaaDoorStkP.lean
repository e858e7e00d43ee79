/- The widths and the parts of a word in blocks (written by mk_doc.py). -/
import Derived.Test.YtoipfcmjphlmfaaDoorStkF
import Derived.Test.YtoipfcmjphlmfaaDoorBunField
namespace Go.Proofs.YtoipfcmjphlmfaaDoor.Pstack
open Go.Proofs.YtoipfcmjphlmfaaDoor.Pbase Go.Proofs.YtoipfcmjphlmfaaDoor.Pfield Go.Proofs.YtoipfcmjphlmfaaDoor.Play Go.Proofs.YtoipfcmjphlmfaaDoor.Pmem Go.Proofs.YtoipfcmjphlmfaaDoor.Pthd
open Go.RowKit M
set_option linter.unusedVariables false

theorem ints_rws (w : World) (ty : TypeId) : Ints .i64 (w.alloc (.cells #[.int .i64 6, .int .i64 6, .int .i64 6, .int .i64 6, .int .i64 16] ty)).heap.size (w.alloc (.cells #[.int .i64 6, .int .i64 6, .int .i64 6, .int .i64 6, .int .i64 16] ty)) (.slice (some ⟨w.heap.size, 0, none⟩) 5 5) rws := by
  refine .inr ⟨w.heap.size, 0, 5, rfl, by simp, fun j hj => ?_⟩
  rw [Nat.zero_add, cell_of_row _ _ j _ _ _ (heap_alloc_new w _)]
  match j, hj with
  | 0, _ | 1, _ | 2, _ | 3, _ | 4, _ => rfl
theorem ints_vs (w : World) (x : Rc) (ty : TypeId) : Ints .u64 (w.alloc (.cells #[.int .u64 x.co, .int .u64 x.tb, .int .u64 x.pg, .int .u64 x.l, .int .u64 x.e] ty)).heap.size (w.alloc (.cells #[.int .u64 x.co, .int .u64 x.tb, .int .u64 x.pg, .int .u64 x.l, .int .u64 x.e] ty)) (.slice (some ⟨w.heap.size, 0, none⟩) 5 5) x.vs := by
  refine .inr ⟨w.heap.size, 0, 5, rfl, by simp, fun j hj => ?_⟩
  rw [Nat.zero_add, cell_of_row _ _ j _ _ _ (heap_alloc_new w _)]
  match j, hj with
  | 0, _ | 1, _ | 2, _ | 3, _ | 4, _ => rfl
structure Fiv (w : World) (b o : Nat) (a : Int) : Prop where
  lt : b < w.heap.size
  c0 : w.cell? ⟨b, o, none⟩ = some (.int .u64 (rgN a 0))
  c1 : w.cell? ⟨b, o + 1, none⟩ = some (.int .u64 (rgN a 1))
  c2 : w.cell? ⟨b, o + 2, none⟩ = some (.int .u64 (rgN a 2))
  c3 : w.cell? ⟨b, o + 3, none⟩ = some (.int .u64 (rgN a 3))
  c4 : w.cell? ⟨b, o + 4, none⟩ = some (.int .u64 (rgN a 4))
theorem fiv_of {w : World} {a : Option Addr} {c : Nat} {x : Int} (h : Ints .u64 w.heap.size w (.slice a rws.length c) (getsI x rws)) : ∃ b o, a = some ⟨b, o, none⟩ ∧ Fiv w b o x := by
  have hl := getsI_length x rws
  rcases h with ⟨_, _, e1, e2⟩ | ⟨b, o, cap, e1, hb, hc⟩
  · rw [e2, rws_length] at hl; cases hl
  · cases e1
    rw [hl, rws_length] at hc
    exact ⟨b, o, rfl, hb, hc 0 (by omega), hc 1 (by omega), hc 2 (by omega), hc 3 (by omega), hc 4 (by omega)⟩
theorem fiv_ne {w : World} {b o B : Nat} {a : Int} {x : Rc} (h : Fiv w b o a) (k : RowR w B x) : b ≠ B := by
  rintro rfl
  have hc := h.c0
  rw [cell_of_row _ _ _ _ _ _ k.row] at hc
  match o, hc with
  | 0, hc | 1, hc | 2, hc | 3, hc | 4, hc | 5, hc => simp at hc
  | o + 6, hc => simp at hc
/-- Six stores into another block leave five cells. -/
theorem fiv_put {w : World} {b o B : Nat} {a : Int} (hn : b ≠ B) (h : Fiv w b o a) (u0 u1 u2 u3 u4 u5 : Value) : (w.setCell ⟨B, 0, none⟩ u0 |>.setCell ⟨B, 1, none⟩ u1 |>.setCell ⟨B, 2, none⟩ u2 |>.setCell ⟨B, 3, none⟩ u3 |>.setCell ⟨B, 4, none⟩ u4 |>.setCell ⟨B, 5, none⟩ u5).cell? ⟨b, o, none⟩ = some (.int .u64 (rgN a 0)) ∧ (w.setCell ⟨B, 0, none⟩ u0 |>.setCell ⟨B, 1, none⟩ u1 |>.setCell ⟨B, 2, none⟩ u2 |>.setCell ⟨B, 3, none⟩ u3 |>.setCell ⟨B, 4, none⟩ u4 |>.setCell ⟨B, 5, none⟩ u5).cell? ⟨b, o + 1, none⟩ = some (.int .u64 (rgN a 1)) ∧ (w.setCell ⟨B, 0, none⟩ u0 |>.setCell ⟨B, 1, none⟩ u1 |>.setCell ⟨B, 2, none⟩ u2 |>.setCell ⟨B, 3, none⟩ u3 |>.setCell ⟨B, 4, none⟩ u4 |>.setCell ⟨B, 5, none⟩ u5).cell? ⟨b, o + 2, none⟩ = some (.int .u64 (rgN a 2)) ∧ (w.setCell ⟨B, 0, none⟩ u0 |>.setCell ⟨B, 1, none⟩ u1 |>.setCell ⟨B, 2, none⟩ u2 |>.setCell ⟨B, 3, none⟩ u3 |>.setCell ⟨B, 4, none⟩ u4 |>.setCell ⟨B, 5, none⟩ u5).cell? ⟨b, o + 3, none⟩ = some (.int .u64 (rgN a 3)) ∧ (w.setCell ⟨B, 0, none⟩ u0 |>.setCell ⟨B, 1, none⟩ u1 |>.setCell ⟨B, 2, none⟩ u2 |>.setCell ⟨B, 3, none⟩ u3 |>.setCell ⟨B, 4, none⟩ u4 |>.setCell ⟨B, 5, none⟩ u5).cell? ⟨b, o + 4, none⟩ = some (.int .u64 (rgN a 4)) := by
  have k : ∀ j, (w.setCell ⟨B, 0, none⟩ u0 |>.setCell ⟨B, 1, none⟩ u1 |>.setCell ⟨B, 2, none⟩ u2 |>.setCell ⟨B, 3, none⟩ u3 |>.setCell ⟨B, 4, none⟩ u4 |>.setCell ⟨B, 5, none⟩ u5).cell? ⟨b, j, none⟩ = w.cell? ⟨b, j, none⟩ := fun j => by
    refine World.cell?_of_block ?_
    rw [heap_setCell_other _ _ _ _ hn, heap_setCell_other _ _ _ _ hn, heap_setCell_other _ _ _ _ hn, heap_setCell_other _ _ _ _ hn, heap_setCell_other _ _ _ _ hn, heap_setCell_other _ _ _ _ hn]
  exact ⟨(k _).trans h.c0, (k _).trans h.c1, (k _).trans h.c2, (k _).trans h.c3, (k _).trans h.c4⟩
theorem cell_drew (w : World) (q : Addr) : w.drew.cell? q = w.cell? q := rfl
theorem fiv_putd {w : World} {b o B : Nat} {a : Int} (hn : b ≠ B) (h : Fiv w b o a) (u0 u1 u2 u3 u4 u5 : Value) : (w.setCell ⟨B, 0, none⟩ u0 |>.setCell ⟨B, 1, none⟩ u1 |>.setCell ⟨B, 2, none⟩ u2 |>.setCell ⟨B, 3, none⟩ u3 |>.setCell ⟨B, 4, none⟩ u4 |>.setCell ⟨B, 5, none⟩ u5).drew.cell? ⟨b, o, none⟩ = some (.int .u64 (rgN a 0)) ∧ (w.setCell ⟨B, 0, none⟩ u0 |>.setCell ⟨B, 1, none⟩ u1 |>.setCell ⟨B, 2, none⟩ u2 |>.setCell ⟨B, 3, none⟩ u3 |>.setCell ⟨B, 4, none⟩ u4 |>.setCell ⟨B, 5, none⟩ u5).drew.cell? ⟨b, o + 1, none⟩ = some (.int .u64 (rgN a 1)) ∧ (w.setCell ⟨B, 0, none⟩ u0 |>.setCell ⟨B, 1, none⟩ u1 |>.setCell ⟨B, 2, none⟩ u2 |>.setCell ⟨B, 3, none⟩ u3 |>.setCell ⟨B, 4, none⟩ u4 |>.setCell ⟨B, 5, none⟩ u5).drew.cell? ⟨b, o + 2, none⟩ = some (.int .u64 (rgN a 2)) ∧ (w.setCell ⟨B, 0, none⟩ u0 |>.setCell ⟨B, 1, none⟩ u1 |>.setCell ⟨B, 2, none⟩ u2 |>.setCell ⟨B, 3, none⟩ u3 |>.setCell ⟨B, 4, none⟩ u4 |>.setCell ⟨B, 5, none⟩ u5).drew.cell? ⟨b, o + 3, none⟩ = some (.int .u64 (rgN a 3)) ∧ (w.setCell ⟨B, 0, none⟩ u0 |>.setCell ⟨B, 1, none⟩ u1 |>.setCell ⟨B, 2, none⟩ u2 |>.setCell ⟨B, 3, none⟩ u3 |>.setCell ⟨B, 4, none⟩ u4 |>.setCell ⟨B, 5, none⟩ u5).drew.cell? ⟨b, o + 4, none⟩ = some (.int .u64 (rgN a 4)) := by
  simp only [cell_drew]
  exact fiv_put hn h u0 u1 u2 u3 u4 u5
end Go.Proofs.YtoipfcmjphlmfaaDoor.Pstack
