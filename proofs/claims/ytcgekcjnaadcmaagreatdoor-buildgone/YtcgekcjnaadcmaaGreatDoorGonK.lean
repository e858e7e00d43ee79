/- Small words on worlds and needs. -/
import Derived.Test.YtcgekcjnaadcmaaGreatDoorBunBase
import Derived.WalkKit
import Derived.Below
import Derived.Shelf.Abstract
import Derived.RangeFuncNested
import Derived.RangeFuncBound
import Derived.RangeFuncBox
import Derived.RangeFuncCalls
import Derived.RangeFuncLeaves
import Derived.RangeFuncWrites
import Derived.TacticsInMore
import Derived.LoopNIn
import Derived.LoopIn
import Derived.RegionIn
import Derived.Stop.RegionWithIn
namespace Go.Proofs.YtcgekcjnaadcmaaGreatDoor.Pbuild
open Go.Proofs.YtcgekcjnaadcmaaGreatDoor.Pbase
open Go.RowKit Go.Shelf
attribute [local go_sem] Oper.semAt_some
set_option linter.unusedVariables false
set_option linter.unusedSimpArgs false

theorem nhide {p : Prop} (h : p) : Hid p := h
theorem bdr {w x : World} (h : Below w.heap.size w x) : Below w.heap.size w x.drew := ⟨h.os, h.tape, h.output, h.size, h.block⟩
theorem nxt {W X w1 : World} (h : Below W.heap.size W X) (h1 : Below X.heap.size X w1) : Below W.heap.size W w1 := h.trans (h1.mono h.size)
theorem alz {A w2 : World} {o : Obj} (h : Below (A.alloc o).heap.size (A.alloc o) w2) : w2.heap[A.heap.size]? = some o := (h.block _ (by simp)).trans (heap_alloc_new A o)
theorem alzd {A w2 : World} {o : Obj} (h : Below (A.alloc o).drew.heap.size (A.alloc o).drew w2) : w2.heap[A.heap.size]? = some o := (h.block _ (by show A.heap.size < (A.alloc o).heap.size; simp)).trans (heap_alloc_new A o)
theorem keeps_below {W W' : World} (h : Below W.heap.size W W') : KeepsOthers W W' := ⟨h.size, fun k o hk _ => (h.block k (Array.getElem?_eq_some_iff.1 hk).1).trans hk⟩
theorem kpz {X w2 : World} {k : Nat} {o : Obj} (h : Below X.heap.size X w2) (hk : X.heap[k]? = some o) : w2.heap[k]? = some o := (h.block _ (Array.getElem?_eq_some_iff.1 hk).1).trans hk
theorem frz_row {w : World} {b : Nat} {cs : Array Value} {t : TypeId} (j : Nat) (h : w.heap[b]? = some (.cells cs t (0, 0))) : w.frozen? ⟨b, j, none⟩ = false := by simp [World.frozen?, h]
theorem z8 {w : World} {b : Nat} {t : TypeId} (h : w.heap[b]? = some (.cells #[.int .i64 0, .int .i64 0, .bool false, .int .i64 0] t (0, 0))) :
    w.cell? ⟨b, 0, none⟩ = some (.int .i64 0) ∧ w.cell? ⟨b, 1, none⟩ = some (.int .i64 0) ∧ w.cell? ⟨b, 2, none⟩ = some (.bool false) ∧ w.cell? ⟨b, 3, none⟩ = some (.int .i64 0) ∧
    w.frozen? ⟨b, 0, none⟩ = false ∧ w.frozen? ⟨b, 1, none⟩ = false ∧ w.frozen? ⟨b, 2, none⟩ = false ∧ w.frozen? ⟨b, 3, none⟩ = false :=
  ⟨(cell_of_row _ _ 0 _ _ _ h).trans rfl, (cell_of_row _ _ 1 _ _ _ h).trans rfl, (cell_of_row _ _ 2 _ _ _ h).trans rfl, (cell_of_row _ _ 3 _ _ _ h).trans rfl, frz_row 0 h, frz_row 1 h, frz_row 2 h, frz_row 3 h⟩
/-- Needs that keep a condition. -/
def encG {G : Int × Int → Prop} (x : { x : Int × Int // G x }) : Array Value := #[.agg #[.int .i64 x.1.1, .int .i64 x.1.2]]
end Go.Proofs.YtcgekcjnaadcmaaGreatDoor.Pbuild
