/- Texts on finished packages, joined. -/
import Derived.WalkKit
import Derived.Below
import Derived.Laws.Rows
import Derived.Laws.CopyRow
import Derived.Deep.MidRow
import Derived.Laws.CopyOwn
import Derived.OpenShut
import Derived.Deep.QuietTactic
import Derived.BigQuiet
import Derived.ChangeOld
import Derived.Test.YtiapfapmgjngpaaGreatDoorRows
import Derived.ProofKit
import Derived.Carry
import Derived.LaidMore

/- What worlds keep, and small facts on integers: plain lemmas; no program is named. -/
namespace Go.Proofs.YtiapfapmgjngpaaGreatDoor.Pbase
open Go.RowKit
set_option linter.unusedVariables false

theorem bal {w x : World} (h : Below w.heap.size w x) (o : Obj) : Below w.heap.size w (x.alloc o) := h.alloc h.size o
theorem bst {w x : World} (h : Below w.heap.size w x) {b : Nat} (hp : w.heap.size ≤ b) (j : Nat) (v : Value) : Below w.heap.size w (x.setCell ⟨b, j, none⟩ v) := h.setCell (p := ⟨b, j, none⟩) hp v
theorem below_drew' (B : Nat) (w : World) (n : Nat) : Below B w (w.drewN n) := ⟨rfl, rfl, rfl, Nat.le_refl _, fun _ _ => rfl⟩
/-- Nothing that was there changes but block b. -/
structure But (b : Nat) (w w' : World) : Prop where
  os : w'.os = w.os
  tape : w'.tape = w.tape
  output : w'.output = w.output
  size : w.heap.size ≤ w'.heap.size
  block : ∀ i, i < w.heap.size → i ≠ b → w'.heap[i]? = w.heap[i]?
theorem But.refl (b : Nat) (w : World) : But b w w := ⟨rfl, rfl, rfl, Nat.le_refl _, fun _ _ _ => rfl⟩
theorem But.below {b B : Nat} {w w' : World} (h : But b w w') (hB : B ≤ b) (hw : B ≤ w.heap.size) : Below B w w' := ⟨h.os, h.tape, h.output, h.size, fun i hi => h.block i (by omega) (by omega)⟩
theorem But.of_below {w w' : World} (b : Nat) (h : Below w.heap.size w w') : But b w w' := ⟨h.os, h.tape, h.output, h.size, fun i hi _ => h.block i hi⟩
theorem But.trans {b : Nat} {a w w' : World} (h : But b a w) (k : But b w w') : But b a w' :=
  ⟨k.os.trans h.os, k.tape.trans h.tape, k.output.trans h.output, Nat.le_trans h.size k.size, fun i hi hb => (k.block i (Nat.lt_of_lt_of_le hi h.size) hb).trans (h.block i hi hb)⟩
theorem But.setRow {b : Nat} {a w : World} (h : But b a w) (cs : Array Value) : But b a (w.setRow b cs) :=
  h.trans ⟨(below_setRow (Below.refl 0 w) (Nat.zero_le b) cs).os, (below_setRow (Below.refl 0 w) (Nat.zero_le b) cs).tape, (below_setRow (Below.refl 0 w) (Nat.zero_le b) cs).output, (below_setRow (Below.refl 0 w) (Nat.zero_le b) cs).size, fun i _ hb => setRow_other w b i cs hb⟩
theorem But.cell {b : Nat} {w w' : World} (h : But b w w') {q j : Nat} (hq : q < w.heap.size) (hb : q ≠ b) : w'.cell? ⟨q, j, none⟩ = w.cell? ⟨q, j, none⟩ := World.cell?_of_block (w := w) (h.block q hq hb)
theorem But.frozen {b : Nat} {w w' : World} (h : But b w w') {q j : Nat} (hq : q < w.heap.size) (hb : q ≠ b) : w'.frozen? ⟨q, j, none⟩ = w.frozen? ⟨q, j, none⟩ := World.frozen?_of_block (w := w) (h.block q hq hb)

theorem But.drew {b : Nat} {a w : World} (h : But b a w) : But b a w.drew := ⟨h.os, h.tape, h.output, h.size, h.block⟩
theorem But.drewN {b : Nat} {a w : World} (h : But b a w) (n : Nat) : But b a (w.drewN n) := ⟨h.os, h.tape, h.output, h.size, h.block⟩
theorem or_right {a b c : Prop} (h : a ∨ b) (f : b → c) : a ∨ c := by
  rcases h with h | h
  · exact .inl h
  · exact .inr (f h)
theorem wrapu_small {x : Int} (h0 : 0 ≤ x) (h1 : x ≤ 18446744073709551615) : IntKind.u64.wrap x = x := by
  rw [IntKind.wrap_u64]
  omega
theorem wrapi_small {z : Int} (h0 : 0 ≤ z) (h1 : z ≤ 9223372036854775807) : IntKind.i64.wrap z = z := by
  unfold IntKind.wrap
  simp [IntKind.bits, IntKind.signed]
  omega
theorem wrapi_back {y v : Int} (hy : 0 ≤ y ∧ y ≤ 18446744073709551615) (hv : v = IntKind.i64.wrap y) (h0 : 0 ≤ v) : v = y := by
  subst hv
  unfold IntKind.wrap at *
  simp [IntKind.bits, IntKind.signed] at *
  omega
theorem bounds_u8 {z : Int} (h : (Lit.int .u8 z).wf = true) : 0 ≤ z ∧ z ≤ 255 := by
  have h' : (decide (IntKind.u8.min ≤ z) && decide (z ≤ IntKind.u8.max)) = true := h
  have e1 : IntKind.u8.min = 0 := by decide
  have e2 : IntKind.u8.max = 255 := by decide
  rw [e1, e2] at h'
  simpa using h'
theorem rem_u8 {z : Int} (h : (Lit.int .u8 z).wf = true) (n : Nat) (hn : 1 ≤ n) : ∃ r : Nat, z.tmod n = r ∧ r < n := by
  have hz := bounds_u8 h
  have h1 := Int.emod_nonneg z (show (n : Int) ≠ 0 by omega)
  have h2 := Int.emod_lt_of_pos z (show (0 : Int) < n by omega)
  exact ⟨(z.tmod n).toNat, by rw [Int.tmod_eq_emod_of_nonneg hz.1]; omega, by rw [Int.tmod_eq_emod_of_nonneg hz.1]; omega⟩
end Go.Proofs.YtiapfapmgjngpaaGreatDoor.Pbase

/- Slices of integers and of bools that came in, as a walk asks them: their cells, by index. No program is named. -/
namespace Go.Proofs.YtiapfapmgjngpaaGreatDoor.Pbase
open Go.RowKit
set_option linter.unusedVariables false

/-- The slice of len integers at a lies in blocks below n₀ of W, each integer fitting its kind. -/
def Came (q : IntKind) (n₀ : Nat) (W : World) (a : Option Addr) (len : Nat) : Prop :=
  len = 0 ∨ ∃ b off, a = some ⟨b, off, none⟩ ∧ b < n₀ ∧ ∀ j, j < len → ∃ z, W.cell? ⟨b, off + j, none⟩ = some (.int q z) ∧ (Lit.int q z).wf = true
theorem Came.at {q : IntKind} {n₀ : Nat} {W W' : World} {a : Option Addr} {len : Nat} (h : Came q n₀ W a len) (hB : Below n₀ W W') {j : Nat} (hj : j < len) :
    ∃ b off z, a = some ⟨b, off, none⟩ ∧ W'.cell? ⟨b, off + j, none⟩ = some (.int q z) ∧ Hid ((Lit.int q z).wf = true) := by
  rcases h with h | ⟨b, off, e, hb, hc⟩
  · omega
  · obtain ⟨z, h1, h2⟩ := hc j hj
    exact ⟨b, off, z, e, (hB.cell (p := ⟨b, off + j, none⟩) hb).trans h1, h2⟩
theorem Came.at2 {q : IntKind} {n₀ : Nat} {W W' : World} {a : Option Addr} {len : Nat} (h : Came q n₀ W a len) (hB : Below n₀ W W') {j : Nat} (hj : j < len) :
    ∃ b off z, a = some ⟨b, off, none⟩ ∧ b < n₀ ∧ W'.cell? ⟨b, off + j, none⟩ = some (.int q z) := by
  rcases h with h | ⟨b, off, e, hb, hc⟩
  · omega
  · obtain ⟨z, h1, _⟩ := hc j hj
    exact ⟨b, off, z, e, hb, (hB.cell (p := ⟨b, off + j, none⟩) hb).trans h1⟩
theorem Came.at3 {q : IntKind} {n₀ : Nat} {W W' : World} {a : Option Addr} {len : Nat} (h : Came q n₀ W a len) (hB : Below n₀ W W') {j : Nat} (hj : j < len) :
    ∃ b off z, a = some ⟨b, off, none⟩ ∧ b < n₀ ∧ W'.cell? ⟨b, off + j, none⟩ = some (.int q z) ∧ Hid ((Lit.int q z).wf = true) := by
  rcases h with h | ⟨b, off, e, hb, hc⟩
  · omega
  · obtain ⟨z, h1, h2⟩ := hc j hj
    exact ⟨b, off, z, e, hb, (hB.cell (p := ⟨b, off + j, none⟩) hb).trans h1, h2⟩
theorem came_addr {W : World} {zs : List Int} {k : IntKind} {x : Addr} (hc : ∀ i, i < zs.length → W.cell? (x.add i) = some (.int k (zs.getD i 0))) (h1 : 0 < zs.length) :
    ∃ b off, x = ⟨b, off, none⟩ ∧ ∀ j, j < zs.length → W.cell? ⟨b, off + j, none⟩ = some (.int k (zs.getD j 0)) := by
  obtain ⟨b, off, s⟩ := x
  cases s with
  | none => exact ⟨b, off, rfl, fun j hj => by have := hc j hj; rwa [Addr.add_lit] at this⟩
  | some s =>
    have := hc 0 h1
    rw [Addr.add_zero'] at this
    unfold World.cell? at this
    split at this <;> simp at this
theorem came_of_row {q : IntKind} {W : World} {a : Option Addr} {len cap : Nat} {zs : List Int}
    (h : (a = none ∧ len = 0 ∧ cap = 0 ∧ zs = []) ∨ ∃ x, a = some x ∧ len ≤ cap ∧ cap ≤ maxLen ∧ zs.length = cap ∧ (∀ i, i < zs.length → W.cell? (x.add i) = some (.int q (zs.getD i 0))) ∧ ∀ n ∈ zs, (Lit.int q n).wf = true) :
    Came q W.heap.size W a len ∧ len ≤ 9223372036854775807 := by
  rcases h with ⟨rfl, rfl, rfl, rfl⟩ | ⟨x, rfl, h1, h2, h3, h4, h5⟩
  · exact ⟨.inl rfl, by omega⟩
  · refine ⟨?_, by unfold maxLen at h2; omega⟩
    by_cases h0 : len = 0
    · exact .inl h0
    · obtain ⟨b, off, rfl, hc⟩ := came_addr h4 (by omega)
      have hb : b < W.heap.size := by
        have := hc 0 (by omega)
        exact World.block_lt_of_cell? W _ this
      refine .inr ⟨b, off, rfl, hb, fun j hj => ⟨_, hc j (by omega), ?_⟩⟩
      have hj' : j < zs.length := by omega
      rw [List.getD_eq_getElem?_getD, List.getElem?_eq_getElem hj', Option.getD_some]
      exact h5 _ (List.getElem_mem hj')

theorem addr_plain {W : World} {x : Addr} {v : Value} (h : W.cell? x = some v) : ∃ b off, x = ⟨b, off, none⟩ := by
  obtain ⟨b, off, s⟩ := x
  cases s with
  | none => exact ⟨b, off, rfl⟩
  | some s =>
    unfold World.cell? at h
    split at h <;> simp at h
/-- The integer at j, as any later world has it. -/
theorem Came.any {q : IntKind} {n₀ : Nat} {W : World} {a : Option Addr} {len : Nat} (h : Came q n₀ W a len) {j : Nat} (hj : j < len) :
    ∃ b off z, a = some ⟨b, off, none⟩ ∧ Hid ((Lit.int q z).wf = true) ∧ Hid (∀ W', Below n₀ W W' → W'.cell? ⟨b, off + j, none⟩ = some (.int q z)) := by
  rcases h with h | ⟨b, off, e, hb, hc⟩
  · omega
  · obtain ⟨z, h1, h2⟩ := hc j hj
    exact ⟨b, off, z, e, h2, fun W' hB => (hB.cell (p := ⟨b, off + j, none⟩) hb).trans h1⟩

/-- A list that came in is read behind the first block as ahead of it. -/
theorem Came.on {q : IntKind} {w w' : World} {a : Option Addr} {len : Nat} (h : Came q w.heap.size w a len) (hB : Below w.heap.size w w') : Came q w'.heap.size w' a len := by
  rcases h with h | ⟨b, off, e, hb, hc⟩
  · exact .inl h
  · refine .inr ⟨b, off, e, Nat.lt_of_lt_of_le hb hB.size, fun j hj => ?_⟩
    obtain ⟨z, h1, h2⟩ := hc j hj
    exact ⟨z, (hB.cell (p := ⟨b, off + j, none⟩) hb).trans h1, h2⟩
end Go.Proofs.YtiapfapmgjngpaaGreatDoor.Pbase

/- Package-level tables out of a row's condition: the cells of an array of integers. -/
namespace Go.Proofs.YtiapfapmgjngpaaGreatDoor.Pbase
open Go.RowKit Go.ChangeShapes Go.WideShapes
set_option linter.unusedVariables false

theorem cellsInt : Tryz.prog.cellsOf 3 = 1 := by kernel_rfl
/-- The cells of an array of integers are what its datum says. -/
theorem array_ints {w : World} {fuel n : Nat} {t : TypeId} {cs : List Value} {zs : List Int} {p : List MemPlace} (ht : Tryz.prog.underlying t = some (.array n 3)) (hn : Tryz.prog.cellsOf t = n)
    (h : DataW.trod (fun _ => ()) Tryz.prog w 0 (fun _ => true) false fuel t cs = some (.agg (zs.map fun z => .lit (.int .i64 z)), p)) : zs.length = n ∧ cs.length = n ∧ ∀ j, j < n → cs[j]? = some (.int .i64 (zs[j]?.getD 0)) := by
  obtain ⟨xs, m, _, hx, hl, hxl, hel⟩ := DataW.trod_array ht h
  simp only [Prod.mk.injEq, DataW.agg.injEq] at hx
  have hz : zs.length = n := by have := congrArg List.length hx.1; simpa [hxl] using this
  refine ⟨hz, hl.trans hn, fun j hj => ?_⟩
  have hj' := hel j hj
  have hxj : j < xs.length := by omega
  rw [List.getElem?_eq_getElem hxj, cellsInt, Nat.mul_one] at hj'
  obtain ⟨k, e1, e2, _⟩ := DataW.trod_int Tryz.underlying3 hj'
  have hjc : j < cs.length := by omega
  rw [List.drop_eq_getElem_cons hjc, List.take_succ_cons, List.take_zero, List.cons.injEq] at e1
  rw [List.getElem?_eq_getElem hjc, e1.1]
  have hh := congrArg (fun l => l[j]?) hx.1
  simp [hxj, show j < zs.length by omega] at hh
  rw [e2] at hh
  simp at hh
  simp [show j < zs.length by omega, hh]
theorem var_block {W : World} {n : String} {g : Nat} {cs : Array Value} (hg : Tryz.prog.globalNamed n = some g) (hv : W.var? Tryz.prog n = some cs) : ∃ t fr, W.heap[g]? = some (.cells cs t fr) := by
  simp only [World.var?, hg, Option.bind_some] at hv
  split at hv
  · rename_i c t fr hb
    simp only [Option.some.injEq] at hv
    subst hv
    exact ⟨t, fr, hb⟩
  · cases hv
theorem block_lt {W : World} {g : Nat} {o : Obj} (h : W.heap[g]? = some o) : g < W.heap.size := (Array.getElem?_eq_some_iff.1 h).1
end Go.Proofs.YtiapfapmgjngpaaGreatDoor.Pbase
