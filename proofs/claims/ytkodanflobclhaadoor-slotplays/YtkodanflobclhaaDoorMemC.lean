/- What Same of package mem answers, for every argument that its types allow. -/
import Derived.Test.YtkodanflobclhaaDoorMemB
namespace Go.Proofs.YtkodanflobclhaaDoor.Pmem
open Go.Proofs.YtkodanflobclhaaDoor.Pbase
open Go.RowKit
set_option linter.unusedVariables false

/-! ### Same -/
theorem infoWordM' : ∃ i, Tryd.prog.info? 58 = some i := by
  obtain ⟨i, hi, _⟩ := info_parts infoWordM
  exact ⟨i, hi⟩
theorem wpQuiet_value {P : Program} {ops : Array Oper} {C : World → Prop} {Q : Act → Prop} {a : Act} {o : Oper} {rest : List Oper} (hw : Region.wanted o (yielded ops a.tmps) = true) (v : Value)
    (hrun : ∀ w, C w → (execOp a.eval o).run P w = .ok (.value v) w) (h : wpQuiet P ops C Q rest (a.put o.dst v)) : wpQuiet P ops C Q (o :: rest) a := by
  refine wpQuiet_step fun K hK => ?_
  rw [if_pos hw]
  refine ⟨v, fun w hC => ?_, hK _ h⟩
  unfold Oper.quietAt
  rw [hrun w hC]
  exact ⟨rfl, rfl⟩
theorem run_load_op {P : Program} {o : Oper} {ρ : Operand → Value} {ty : TypeId} {x : Operand} (ho : o.op = .load ty x) {ad : Addr} (hx : ρ x = .pointer (some ad)) {v : Value} {w : World} (h : (loadVar ty ad).run P w = .ok v w) : (execOp ρ o).run P w = .ok (.value v) w := by
  unfold execOp
  simp only [ho, hx, Instr.loadAt, Instr.sureAddr, Sem.run_bind, Sem.run_pure, Result.andThen_ok, h]
theorem run_eql_op {P : Program} {o : Oper} {ρ : Operand → Value} {t u : TypeId} {x y : Operand} (ho : o.op = .binOp .eql t x y u) {A B : Array Value} (hx : ρ x = .agg A) (hy : ρ y = .agg B) (hm : P.eqGuardType P.depth t = false) {v : Value} {w : World} (h : (binOp .eql t (.agg A) (.agg B)).run P w = .ok v w) : (execOp ρ o).run P w = .ok (.value v) w := by
  unfold execOp
  simp only [ho, hx, hy, Sem.run_bind, run_eqGuard_agg w .eql t x y A B hm, Sem.run_pure, Result.andThen_ok, h]
theorem MemIs.drewN {w : World} {p b N : Nat} {M : Nat → Nat → Int} (h : MemIs w p b N M) (n : Nat) : MemIs (w.drewN n) p b N M := ⟨h.head, h.row⟩
end Go.Proofs.YtkodanflobclhaaDoor.Pmem
