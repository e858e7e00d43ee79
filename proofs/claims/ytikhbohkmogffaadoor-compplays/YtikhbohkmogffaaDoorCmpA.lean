/- The table of comp, a memory with it and head's; components held against each other. -/
import Derived.Test.YtikhbohkmogffaaDoorCmpG
import Derived.Test.YtikhbohkmogffaaDoorBunHead
import Derived.Below
import Derived.OwnWalk
namespace Go.Proofs.YtikhbohkmogffaaDoor.Pcomp
open Go.Proofs.YtikhbohkmogffaaDoor.Pbase Go.Proofs.YtikhbohkmogffaaDoor.Pfield Go.Proofs.YtikhbohkmogffaaDoor.Pmem
open Go.RowKit M
set_option linter.unusedVariables false

/-- The most that each part may be. -/
def mostL : List Int := [63, 63, 63, 65535, 64, 1073741824]
structure TabC (w : World) : Prop where
  lt : 0 < w.heap.size
  row : ∃ t fr, w.heap[(0 : Nat)]? = some (.cells #[.int .u64 63, .int .u64 63, .int .u64 63, .int .u64 65535, .int .u64 64, .int .u64 1073741824] t fr)
theorem TabC.on {w w' : World} (h : TabC w) (hB : Below w.heap.size w w') : TabC w' :=
  ⟨Nat.lt_of_lt_of_le h.lt hB.size, by obtain ⟨t, fr, hr⟩ := h.row; exact ⟨t, fr, (hB.block 0 h.lt).trans hr⟩⟩
theorem TabC.but {w w' : World} {b : Nat} (h : TabC w) (hB : But b w w') (hne : 0 ≠ b) : TabC w' :=
  ⟨Nat.lt_of_lt_of_le h.lt hB.size, by obtain ⟨t, fr, hr⟩ := h.row; exact ⟨t, fr, (hB.block 0 h.lt hne).trans hr⟩⟩
theorem tabC_ne {w : World} {p b N : Nat} {M : Nat → Nat → Int} (hM : MemIs w p b N M) (hW : TabC w) : 0 ≠ b := by
  intro e
  obtain ⟨t, fr, hr⟩ := hW.row
  rw [e, hM.row] at hr
  simp only [Option.some.injEq, Obj.cells.injEq] at hr
  have := congrArg Array.size hr.1
  rw [cellsM_size] at this
  simp at this
  omega
/-- Both tables. -/
structure Tc (w : World) : Prop where
  th : Phead.TabW w
  tc : TabC w
theorem Tc.on {w w' : World} (h : Tc w) (hB : Below w.heap.size w w') : Tc w' := ⟨h.th.on hB, h.tc.on hB⟩
/-- A memory and the tables. -/
structure Mx (w : World) (p b N : Nat) (M : Nat → Nat → Int) : Prop where
  mem : MemIs w p b N M
  tb : Tc w
  fit : Fit M
  n1 : 1 ≤ N
  n64 : N ≤ 64
theorem Mx.on {w w' : World} {p b N : Nat} {M : Nat → Nat → Int} (h : Mx w p b N M) (hB : Below w.heap.size w w') : Mx w' p b N M :=
  ⟨h.mem.grown hB, h.tb.on hB, h.fit, h.n1, h.n64⟩
theorem Mx.but {w w' : World} {p b N : Nat} {M M' : Nat → Nat → Int} (h : Mx w p b N M) (hM : MemIs w' p b N M') (hF : Fit M') (hB : But b w w') : Mx w' p b N M' :=
  ⟨hM, ⟨h.tb.th.but hB (Phead.tab_ne h.mem h.tb.th), h.tb.tc.but hB (tabC_ne h.mem h.tb.tc)⟩, hF, h.n1, h.n64⟩
theorem but_on {b : Nat} {a w w' : World} (h : But b a w) (hB : Below a.heap.size w w') : But b a w' :=
  ⟨hB.os.trans h.os, hB.tape.trans h.tape, hB.output.trans h.output, Nat.le_trans h.size hB.size, fun i hi hn => (hB.block i hi).trans (h.block i hi hn)⟩
/-- A component as a value. -/
def Cp.v (x : Cp) : Value := .agg #[.int .i64 x.tb, .int .i64 x.pg, .int .i64 x.l, .int .i64 x.e, .int .i64 x.fa, .int .i64 x.wh]
/-- A component held against itself. -/
theorem eqP (x : Cp) (w : World) : (Op.equalIn 10000 33 (.agg #[.int .i64 x.tb, .int .i64 x.pg, .int .i64 x.l, .int .i64 x.e, .int .i64 x.fa, .int .i64 x.wh]) (.agg #[.int .i64 x.tb, .int .i64 x.pg, .int .i64 x.l, .int .i64 x.e, .int .i64 x.fa, .int .i64 x.wh])).run Tryd.prog w = .ok true w := by
  show (Op.equalIn (9998 + 1 + 1) 33 (.agg #[.int .i64 x.tb, .int .i64 x.pg, .int .i64 x.l, .int .i64 x.e, .int .i64 x.fa, .int .i64 x.wh]) (.agg #[.int .i64 x.tb, .int .i64 x.pg, .int .i64 x.l, .int .i64 x.e, .int .i64 x.fa, .int .i64 x.wh])).run _ _ = _
  rw [run_equalIn_agg (P := Tryd.prog) w _ _ _ _ (by kernel_rfl) (by kernel_rfl)]
  have hf : (Tryd.prog.fieldsOf 33).toList = [⟨ "Tbl", 3, 0, false, "", "", 0⟩, ⟨ "Pgt", 3, 1, false, "", "", 8⟩, ⟨ "L", 3, 2, false, "", "", 16⟩, ⟨ "E", 3, 3, false, "", "", 24⟩, ⟨ "Fault", 3, 4, false, "", "", 32⟩, ⟨ "At", 3, 5, false, "", "", 40⟩] := by kernel_rfl
  rw [hf]
  have p0 : (part 3 #[.int .i64 x.tb, .int .i64 x.pg, .int .i64 x.l, .int .i64 x.e, .int .i64 x.fa, .int .i64 x.wh] 0).run Tryd.prog w = .ok (.int .i64 x.tb) w := by kernel_rfl
  have p1 : (part 3 #[.int .i64 x.tb, .int .i64 x.pg, .int .i64 x.l, .int .i64 x.e, .int .i64 x.fa, .int .i64 x.wh] 1).run Tryd.prog w = .ok (.int .i64 x.pg) w := by kernel_rfl
  have p2 : (part 3 #[.int .i64 x.tb, .int .i64 x.pg, .int .i64 x.l, .int .i64 x.e, .int .i64 x.fa, .int .i64 x.wh] 2).run Tryd.prog w = .ok (.int .i64 x.l) w := by kernel_rfl
  have p3 : (part 3 #[.int .i64 x.tb, .int .i64 x.pg, .int .i64 x.l, .int .i64 x.e, .int .i64 x.fa, .int .i64 x.wh] 3).run Tryd.prog w = .ok (.int .i64 x.e) w := by kernel_rfl
  have p4 : (part 3 #[.int .i64 x.tb, .int .i64 x.pg, .int .i64 x.l, .int .i64 x.e, .int .i64 x.fa, .int .i64 x.wh] 4).run Tryd.prog w = .ok (.int .i64 x.fa) w := by kernel_rfl
  have p5 : (part 3 #[.int .i64 x.tb, .int .i64 x.pg, .int .i64 x.l, .int .i64 x.e, .int .i64 x.fa, .int .i64 x.wh] 5).run Tryd.prog w = .ok (.int .i64 x.wh) w := by kernel_rfl
  have q : ∀ (x : Int), (Op.equalIn (9998 + 1) 3 (.int .i64 x) (.int .i64 x)).run Tryd.prog w = .ok true w := fun x => by
    rw [run_equalIn_int w 9998 3 .i64 .i64 x x Tryd.underlying3]
    simp
  simp only [Op.eqFields, Sem.run_bind, Sem.run_ite, p0, p1, p2, p3, p4, p5, q, Result.andThen_ok, Sem.run_pure]
  simp
theorem eqlP (x : Cp) (w : World) : (binOp .eql 33 (.agg #[.int .i64 x.tb, .int .i64 x.pg, .int .i64 x.l, .int .i64 x.e, .int .i64 x.fa, .int .i64 x.wh]) (.agg #[.int .i64 x.tb, .int .i64 x.pg, .int .i64 x.l, .int .i64 x.e, .int .i64 x.fa, .int .i64 x.wh])).run Tryd.prog w = .ok (.bool true) w := by
  rw [run_eql_struct, eqP]
  simp
theorem neqP (x : Cp) (w : World) : (binOp .neq 33 (.agg #[.int .i64 x.tb, .int .i64 x.pg, .int .i64 x.l, .int .i64 x.e, .int .i64 x.fa, .int .i64 x.wh]) (.agg #[.int .i64 x.tb, .int .i64 x.pg, .int .i64 x.l, .int .i64 x.e, .int .i64 x.fa, .int .i64 x.wh])).run Tryd.prog w = .ok (.bool false) w := by
  rw [run_neq_struct, eqP]
  simp
end Go.Proofs.YtikhbohkmogffaaDoor.Pcomp
