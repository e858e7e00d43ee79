/- Six zeros stored over six zeros. -/
import Derived.Test.YtiapfapmgjngpaaGreatDoorBldF
namespace Go.Proofs.YtiapfapmgjngpaaGreatDoor.Pbuild
open Go.Proofs.YtiapfapmgjngpaaGreatDoor.Pbase
open Go.RowKit Go.Shelf
set_option linter.unusedVariables false

theorem sc6 {w : World} {A : Nat} {t : TypeId} (j : Nat) (hj : j < 6) (h : RowB w A t #[.int .i64 0, .int .i64 0, .int .i64 0, .int .i64 0, .int .i64 0, .int .i64 0]) : RowB (w.setCell ⟨A, j, none⟩ (.int .i64 0)) A t #[.int .i64 0, .int .i64 0, .int .i64 0, .int .i64 0, .int .i64 0, .int .i64 0] := by
  obtain ⟨hlt, hk⟩ := Array.getElem?_eq_some_iff.1 h
  show (w.heap.modify A _)[A]? = _
  rw [Array.getElem?_eq_getElem (by rw [Array.size_modify]; exact hlt), Array.getElem_modify_self, hk]
  match j, hj with
  | 0, _ | 1, _ | 2, _ | 3, _ | 4, _ | 5, _ => rfl
end Go.Proofs.YtiapfapmgjngpaaGreatDoor.Pbuild
