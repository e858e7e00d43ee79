/- Capabilities held against each other; what a Put leaves of a frame that can be read. -/
import Derived.Test.YtkodanflobclhaaDoorSltE
import Derived.Test.YtkodanflobclhaaDoorSltI
namespace Go.Proofs.YtkodanflobclhaaDoor.Pslot
open Go.Proofs.YtkodanflobclhaaDoor.Pbase Go.Proofs.YtkodanflobclhaaDoor.Pcap Go.Proofs.YtkodanflobclhaaDoor.Pfield Go.Proofs.YtkodanflobclhaaDoor.Pmem
open Go.RowKit M
set_option linter.unusedVariables false

set_option maxRecDepth 100000 in
/-- A capability held against itself. -/
theorem eqC (k r t l e a : Int) (w : World) : (Op.equalIn 10000 32 (.agg #[.int .i64 k, .int .i64 r, .int .i64 t, .int .i64 l, .int .i64 e, .int .i64 a]) (.agg #[.int .i64 k, .int .i64 r, .int .i64 t, .int .i64 l, .int .i64 e, .int .i64 a])).run Tryd.prog w = .ok true w := by
  show (Op.equalIn (9998 + 1 + 1) 32 (.agg #[.int .i64 k, .int .i64 r, .int .i64 t, .int .i64 l, .int .i64 e, .int .i64 a]) (.agg #[.int .i64 k, .int .i64 r, .int .i64 t, .int .i64 l, .int .i64 e, .int .i64 a])).run _ _ = _
  rw [run_equalIn_agg (P := Tryd.prog) w _ _ _ _ (by kernel_rfl) (by kernel_rfl)]
  have hf : (Tryd.prog.fieldsOf 32).toList = [⟨ "K", 3, 0, false, "", "", 0⟩, ⟨ "R", 3, 1, false, "", "", 8⟩, ⟨ "T", 3, 2, false, "", "", 16⟩, ⟨ "L", 3, 3, false, "", "", 24⟩, ⟨ "E", 3, 4, false, "", "", 32⟩, ⟨ "A", 3, 5, false, "", "", 40⟩] := by kernel_rfl
  rw [hf]
  have p0 : (part 3 #[.int .i64 k, .int .i64 r, .int .i64 t, .int .i64 l, .int .i64 e, .int .i64 a] 0).run Tryd.prog w = .ok (.int .i64 k) w := by kernel_rfl
  have p1 : (part 3 #[.int .i64 k, .int .i64 r, .int .i64 t, .int .i64 l, .int .i64 e, .int .i64 a] 1).run Tryd.prog w = .ok (.int .i64 r) w := by kernel_rfl
  have p2 : (part 3 #[.int .i64 k, .int .i64 r, .int .i64 t, .int .i64 l, .int .i64 e, .int .i64 a] 2).run Tryd.prog w = .ok (.int .i64 t) w := by kernel_rfl
  have p3 : (part 3 #[.int .i64 k, .int .i64 r, .int .i64 t, .int .i64 l, .int .i64 e, .int .i64 a] 3).run Tryd.prog w = .ok (.int .i64 l) w := by kernel_rfl
  have p4 : (part 3 #[.int .i64 k, .int .i64 r, .int .i64 t, .int .i64 l, .int .i64 e, .int .i64 a] 4).run Tryd.prog w = .ok (.int .i64 e) w := by kernel_rfl
  have p5 : (part 3 #[.int .i64 k, .int .i64 r, .int .i64 t, .int .i64 l, .int .i64 e, .int .i64 a] 5).run Tryd.prog w = .ok (.int .i64 a) w := by kernel_rfl
  have q : ∀ (x : Int), (Op.equalIn (9998 + 1) 3 (.int .i64 x) (.int .i64 x)).run Tryd.prog w = .ok true w := fun x => by
    rw [run_equalIn_int w 9998 3 .i64 .i64 x x Tryd.underlying3]
    simp
  simp only [Op.eqFields, Sem.run_bind, Sem.run_ite, p0, p1, p2, p3, p4, p5, q, Result.andThen_ok, Sem.run_pure]
  simp
theorem neqC (k r t l e a : Int) (w : World) : (binOp .neq 32 (.agg #[.int .i64 k, .int .i64 r, .int .i64 t, .int .i64 l, .int .i64 e, .int .i64 a]) (.agg #[.int .i64 k, .int .i64 r, .int .i64 t, .int .i64 l, .int .i64 e, .int .i64 a])).run Tryd.prog w = .ok (.bool false) w := by
  rw [run_neq_struct, eqC]
  simp
/-- What can be read can be read behind a Put. -/
theorem all_put {N : Nat} {M : Nat → Nat → Int} {f i k r t l e a : Int} (h : ∀ m : Nat, m < 16 → sE N M f (m : Nat) = 0) : ∀ m : Nat, m < 16 → sE N (pM N M f i k r t l e a) f (m : Nat) = 0 := by
  intro m hm
  by_cases hp : pE N f i k r t l e a = 0
  · by_cases hi : (m : Int) = i
    · rw [hi]; exact (put_got hp).1
    · rw [(put_other hm (.inr hi)).1]; exact h m hm
  · rw [(put_other hm (.inl hp)).1]; exact h m hm
theorem all_yes {N : Nat} {M : Nat → Nat → Int} {f : Int} (h : ∀ m : Nat, m < 16 → sE N M f (m : Nat) = 0) : aE N M f = 0 ∧ aN N M f = 16 := by
  have ho : okA N M f = true := (okA_iff N M f).2 h
  simp [aN, aE, ho]
end Go.Proofs.YtkodanflobclhaaDoor.Pslot
