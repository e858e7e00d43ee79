/- What worlds keep, and small facts on integers: plain lemmas; no program is named. -/
import Derived.WalkKit
import Derived.Below
import Derived.Laws.Rows
import Derived.Laws.CopyRow
import Derived.Deep.MidRow
import Derived.Laws.CopyOwn
import Derived.OpenShut
import Derived.Deep.QuietTactic
import Derived.BigQuiet
namespace Go.Proofs.YtkodanflobclhaaDoor.Pbase
open Go.RowKit
set_option linter.unusedVariables false

theorem bal {w x : World} (h : Below w.heap.size w x) (o : Obj) : Below w.heap.size w (x.alloc o) := h.alloc h.size o
theorem bst {w x : World} (h : Below w.heap.size w x) {b : Nat} (hp : w.heap.size ≤ b) (j : Nat) (v : Value) : Below w.heap.size w (x.setCell ⟨b, j, none⟩ v) := h.setCell (p := ⟨b, j, none⟩) hp v
theorem below_drew' (B : Nat) (w : World) (n : Nat) : Below B w (w.drewN n) := ⟨rfl, rfl, rfl, Nat.le_refl _, fun _ _ => rfl⟩
/-- Nothing that was there changes but block b. -/
structure But (b : Nat) (w w' : World) : Prop where
  os : w'.os = w.os
  tape : w'.tape = w.tape
  output : w'.output = w.output
  size : w.heap.size ≤ w'.heap.size
  block : ∀ i, i < w.heap.size → i ≠ b → w'.heap[i]? = w.heap[i]?
theorem But.refl (b : Nat) (w : World) : But b w w := ⟨rfl, rfl, rfl, Nat.le_refl _, fun _ _ _ => rfl⟩
theorem But.below {b B : Nat} {w w' : World} (h : But b w w') (hB : B ≤ b) (hw : B ≤ w.heap.size) : Below B w w' := ⟨h.os, h.tape, h.output, h.size, fun i hi => h.block i (by omega) (by omega)⟩
theorem But.of_below {w w' : World} (b : Nat) (h : Below w.heap.size w w') : But b w w' := ⟨h.os, h.tape, h.output, h.size, fun i hi _ => h.block i hi⟩
theorem But.trans {b : Nat} {a w w' : World} (h : But b a w) (k : But b w w') : But b a w' :=
  ⟨k.os.trans h.os, k.tape.trans h.tape, k.output.trans h.output, Nat.le_trans h.size k.size, fun i hi hb => (k.block i (Nat.lt_of_lt_of_le hi h.size) hb).trans (h.block i hi hb)⟩
theorem But.setRow {b : Nat} {a w : World} (h : But b a w) (cs : Array Value) : But b a (w.setRow b cs) :=
  h.trans ⟨(below_setRow (Below.refl 0 w) (Nat.zero_le b) cs).os, (below_setRow (Below.refl 0 w) (Nat.zero_le b) cs).tape, (below_setRow (Below.refl 0 w) (Nat.zero_le b) cs).output, (below_setRow (Below.refl 0 w) (Nat.zero_le b) cs).size, fun i _ hb => setRow_other w b i cs hb⟩
theorem But.cell {b : Nat} {w w' : World} (h : But b w w') {q j : Nat} (hq : q < w.heap.size) (hb : q ≠ b) : w'.cell? ⟨q, j, none⟩ = w.cell? ⟨q, j, none⟩ := World.cell?_of_block (w := w) (h.block q hq hb)
theorem But.frozen {b : Nat} {w w' : World} (h : But b w w') {q j : Nat} (hq : q < w.heap.size) (hb : q ≠ b) : w'.frozen? ⟨q, j, none⟩ = w.frozen? ⟨q, j, none⟩ := World.frozen?_of_block (w := w) (h.block q hq hb)

theorem wrapu_small {x : Int} (h0 : 0 ≤ x) (h1 : x ≤ 18446744073709551615) : IntKind.u64.wrap x = x := by
  rw [IntKind.wrap_u64]
  omega
theorem wrapi_small {z : Int} (h0 : 0 ≤ z) (h1 : z ≤ 9223372036854775807) : IntKind.i64.wrap z = z := by
  unfold IntKind.wrap
  simp [IntKind.bits, IntKind.signed]
  omega
theorem wrapi_back {y v : Int} (hy : 0 ≤ y ∧ y ≤ 18446744073709551615) (hv : v = IntKind.i64.wrap y) (h0 : 0 ≤ v) : v = y := by
  subst hv
  unfold IntKind.wrap at *
  simp [IntKind.bits, IntKind.signed] at *
  omega
theorem bounds_u8 {z : Int} (h : (Lit.int .u8 z).wf = true) : 0 ≤ z ∧ z ≤ 255 := by
  have h' : (decide (IntKind.u8.min ≤ z) && decide (z ≤ IntKind.u8.max)) = true := h
  have e1 : IntKind.u8.min = 0 := by decide
  have e2 : IntKind.u8.max = 255 := by decide
  rw [e1, e2] at h'
  simpa using h'
theorem rem_u8 {z : Int} (h : (Lit.int .u8 z).wf = true) (n : Nat) (hn : 1 ≤ n) : ∃ r : Nat, z.tmod n = r ∧ r < n := by
  have hz := bounds_u8 h
  have h1 := Int.emod_nonneg z (show (n : Int) ≠ 0 by omega)
  have h2 := Int.emod_lt_of_pos z (show (0 : Int) < n by omega)
  exact ⟨(z.tmod n).toNat, by rw [Int.tmod_eq_emod_of_nonneg hz.1]; omega, by rw [Int.tmod_eq_emod_of_nonneg hz.1]; omega⟩
end Go.Proofs.YtkodanflobclhaaDoor.Pbase
