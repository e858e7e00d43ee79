/- Package-level tables out of a row's condition: the cells of an array of integers. -/
import Derived.Test.YtkodanflobclhaaDoorBasI
import Derived.Test.YtkodanflobclhaaDoorRows
import Derived.ProofKit
import Derived.OpenShut
import Derived.Carry
import Derived.LaidMore
namespace Go.Proofs.YtkodanflobclhaaDoor.Pbase
open Go.RowKit Go.ChangeShapes Go.WideShapes
set_option linter.unusedVariables false

theorem cellsInt : Tryd.prog.cellsOf 3 = 1 := by kernel_rfl
/-- The cells of an array of integers are what its datum says. -/
theorem array_ints {w : World} {fuel n : Nat} {t : TypeId} {cs : List Value} {zs : List Int} {p : List MemPlace} (ht : Tryd.prog.underlying t = some (.array n 3)) (hn : Tryd.prog.cellsOf t = n)
    (h : DataW.trod (fun _ => ()) Tryd.prog w 0 (fun _ => true) false fuel t cs = some (.agg (zs.map fun z => .lit (.int .i64 z)), p)) : zs.length = n ∧ cs.length = n ∧ ∀ j, j < n → cs[j]? = some (.int .i64 (zs[j]?.getD 0)) := by
  obtain ⟨xs, m, _, hx, hl, hxl, hel⟩ := DataW.trod_array ht h
  simp only [Prod.mk.injEq, DataW.agg.injEq] at hx
  have hz : zs.length = n := by have := congrArg List.length hx.1; simpa [hxl] using this
  refine ⟨hz, hl.trans hn, fun j hj => ?_⟩
  have hj' := hel j hj
  have hxj : j < xs.length := by omega
  rw [List.getElem?_eq_getElem hxj, cellsInt, Nat.mul_one] at hj'
  obtain ⟨k, e1, e2, _⟩ := DataW.trod_int Tryd.underlying3 hj'
  have hjc : j < cs.length := by omega
  rw [List.drop_eq_getElem_cons hjc, List.take_succ_cons, List.take_zero, List.cons.injEq] at e1
  rw [List.getElem?_eq_getElem hjc, e1.1]
  have hh := congrArg (fun l => l[j]?) hx.1
  simp [hxj, show j < zs.length by omega] at hh
  rw [e2] at hh
  simp at hh
  simp [show j < zs.length by omega, hh]
theorem var_block {W : World} {n : String} {g : Nat} {cs : Array Value} (hg : Tryd.prog.globalNamed n = some g) (hv : W.var? Tryd.prog n = some cs) : ∃ t fr, W.heap[g]? = some (.cells cs t fr) := by
  simp only [World.var?, hg, Option.bind_some] at hv
  split at hv
  · rename_i c t fr hb
    simp only [Option.some.injEq] at hv
    subst hv
    exact ⟨t, fr, hb⟩
  · cases hv
theorem block_lt {W : World} {g : Nat} {o : Obj} (h : W.heap[g]? = some o) : g < W.heap.size := (Array.getElem?_eq_some_iff.1 h).1
end Go.Proofs.YtkodanflobclhaaDoor.Pbase
