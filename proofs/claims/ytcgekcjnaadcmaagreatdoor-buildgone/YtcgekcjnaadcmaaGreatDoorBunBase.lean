/- Texts on finished packages, joined. -/
import Derived.WalkKit
import Derived.Below
import Derived.Laws.Rows
import Derived.Laws.CopyRow
import Derived.Deep.MidRow
import Derived.Laws.CopyOwn
import Derived.OpenShut
import Derived.Deep.QuietTactic
import Derived.BigQuiet
import Derived.ChangeOld
import Derived.Test.YtcgekcjnaadcmaaGreatDoorRows
import Derived.ProofKit
import Derived.Carry
import Derived.LaidMore

/- What worlds keep, and small facts on integers: plain lemmas; no program is named. -/
namespace Go.Proofs.YtcgekcjnaadcmaaGreatDoor.Pbase
open Go.RowKit
set_option linter.unusedVariables false

theorem bal {w x : World} (h : Below w.heap.size w x) (o : Obj) : Below w.heap.size w (x.alloc o) := h.alloc h.size o
theorem bst {w x : World} (h : Below w.heap.size w x) {b : Nat} (hp : w.heap.size ≤ b) (j : Nat) (v : Value) : Below w.heap.size w (x.setCell ⟨b, j, none⟩ v) := h.setCell (p := ⟨b, j, none⟩) hp v
theorem below_drew' (B : Nat) (w : World) (n : Nat) : Below B w (w.drewN n) := ⟨rfl, rfl, rfl, Nat.le_refl _, fun _ _ => rfl⟩
/-- Nothing that was there changes but block b. -/
structure But (b : Nat) (w w' : World) : Prop where
  os : w'.os = w.os
  tape : w'.tape = w.tape
  output : w'.output = w.output
  size : w.heap.size ≤ w'.heap.size
  block : ∀ i, i < w.heap.size → i ≠ b → w'.heap[i]? = w.heap[i]?
theorem But.refl (b : Nat) (w : World) : But b w w := ⟨rfl, rfl, rfl, Nat.le_refl _, fun _ _ _ => rfl⟩
theorem But.below {b B : Nat} {w w' : World} (h : But b w w') (hB : B ≤ b) (hw : B ≤ w.heap.size) : Below B w w' := ⟨h.os, h.tape, h.output, h.size, fun i hi => h.block i (by omega) (by omega)⟩
theorem But.of_below {w w' : World} (b : Nat) (h : Below w.heap.size w w') : But b w w' := ⟨h.os, h.tape, h.output, h.size, fun i hi _ => h.block i hi⟩
theorem But.trans {b : Nat} {a w w' : World} (h : But b a w) (k : But b w w') : But b a w' :=
  ⟨k.os.trans h.os, k.tape.trans h.tape, k.output.trans h.output, Nat.le_trans h.size k.size, fun i hi hb => (k.block i (Nat.lt_of_lt_of_le hi h.size) hb).trans (h.block i hi hb)⟩
theorem But.setRow {b : Nat} {a w : World} (h : But b a w) (cs : Array Value) : But b a (w.setRow b cs) :=
  h.trans ⟨(below_setRow (Below.refl 0 w) (Nat.zero_le b) cs).os, (below_setRow (Below.refl 0 w) (Nat.zero_le b) cs).tape, (below_setRow (Below.refl 0 w) (Nat.zero_le b) cs).output, (below_setRow (Below.refl 0 w) (Nat.zero_le b) cs).size, fun i _ hb => setRow_other w b i cs hb⟩
theorem But.cell {b : Nat} {w w' : World} (h : But b w w') {q j : Nat} (hq : q < w.heap.size) (hb : q ≠ b) : w'.cell? ⟨q, j, none⟩ = w.cell? ⟨q, j, none⟩ := World.cell?_of_block (w := w) (h.block q hq hb)
theorem But.frozen {b : Nat} {w w' : World} (h : But b w w') {q j : Nat} (hq : q < w.heap.size) (hb : q ≠ b) : w'.frozen? ⟨q, j, none⟩ = w.frozen? ⟨q, j, none⟩ := World.frozen?_of_block (w := w) (h.block q hq hb)

theorem or_right {a b c : Prop} (h : a ∨ b) (f : b → c) : a ∨ c := by
  rcases h with h | h
  · exact .inl h
  · exact .inr (f h)
theorem wrapu_small {x : Int} (h0 : 0 ≤ x) (h1 : x ≤ 18446744073709551615) : IntKind.u64.wrap x = x := by
  rw [IntKind.wrap_u64]
  omega
theorem wrapi_small {z : Int} (h0 : 0 ≤ z) (h1 : z ≤ 9223372036854775807) : IntKind.i64.wrap z = z := by
  unfold IntKind.wrap
  simp [IntKind.bits, IntKind.signed]
  omega
theorem wrapi_back {y v : Int} (hy : 0 ≤ y ∧ y ≤ 18446744073709551615) (hv : v = IntKind.i64.wrap y) (h0 : 0 ≤ v) : v = y := by
  subst hv
  unfold IntKind.wrap at *
  simp [IntKind.bits, IntKind.signed] at *
  omega
end Go.Proofs.YtcgekcjnaadcmaaGreatDoor.Pbase

/- Slices of integers and of bools that came in, as a walk asks them: their cells, by index. No program is named. -/
namespace Go.Proofs.YtcgekcjnaadcmaaGreatDoor.Pbase
open Go.RowKit
set_option linter.unusedVariables false

end Go.Proofs.YtcgekcjnaadcmaaGreatDoor.Pbase

/- Package-level tables out of a row's condition: the cells of an array of integers. -/
namespace Go.Proofs.YtcgekcjnaadcmaaGreatDoor.Pbase
open Go.RowKit Go.ChangeShapes Go.WideShapes
set_option linter.unusedVariables false

theorem cellsInt : Tryz.prog.cellsOf 3 = 1 := by kernel_rfl
/-- The cells of an array of integers are what its datum says. -/
theorem array_ints {w : World} {fuel n : Nat} {t : TypeId} {cs : List Value} {zs : List Int} {p : List MemPlace} (ht : Tryz.prog.underlying t = some (.array n 3)) (hn : Tryz.prog.cellsOf t = n)
    (h : DataW.trod (fun _ => ()) Tryz.prog w 0 (fun _ => true) false fuel t cs = some (.agg (zs.map fun z => .lit (.int .i64 z)), p)) : zs.length = n ∧ cs.length = n ∧ ∀ j, j < n → cs[j]? = some (.int .i64 (zs[j]?.getD 0)) := by
  obtain ⟨xs, m, _, hx, hl, hxl, hel⟩ := DataW.trod_array ht h
  simp only [Prod.mk.injEq, DataW.agg.injEq] at hx
  have hz : zs.length = n := by have := congrArg List.length hx.1; simpa [hxl] using this
  refine ⟨hz, hl.trans hn, fun j hj => ?_⟩
  have hj' := hel j hj
  have hxj : j < xs.length := by omega
  rw [List.getElem?_eq_getElem hxj, cellsInt, Nat.mul_one] at hj'
  obtain ⟨k, e1, e2, _⟩ := DataW.trod_int Tryz.underlying3 hj'
  have hjc : j < cs.length := by omega
  rw [List.drop_eq_getElem_cons hjc, List.take_succ_cons, List.take_zero, List.cons.injEq] at e1
  rw [List.getElem?_eq_getElem hjc, e1.1]
  have hh := congrArg (fun l => l[j]?) hx.1
  simp [hxj, show j < zs.length by omega] at hh
  rw [e2] at hh
  simp at hh
  simp [show j < zs.length by omega, hh]
theorem var_block {W : World} {n : String} {g : Nat} {cs : Array Value} (hg : Tryz.prog.globalNamed n = some g) (hv : W.var? Tryz.prog n = some cs) : ∃ t fr, W.heap[g]? = some (.cells cs t fr) := by
  simp only [World.var?, hg, Option.bind_some] at hv
  split at hv
  · rename_i c t fr hb
    simp only [Option.some.injEq] at hv
    subst hv
    exact ⟨t, fr, hb⟩
  · cases hv
theorem block_lt {W : World} {g : Nat} {o : Obj} (h : W.heap[g]? = some o) : g < W.heap.size := (Array.getElem?_eq_some_iff.1 h).1
end Go.Proofs.YtcgekcjnaadcmaaGreatDoor.Pbase
