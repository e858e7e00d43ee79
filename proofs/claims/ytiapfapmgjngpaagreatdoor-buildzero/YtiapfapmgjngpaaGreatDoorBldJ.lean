/- The closed facts of BuildZero's row, each a lemma of its own. -/
import Derived.Test.YtiapfapmgjngpaaGreatDoorRows
import Derived.Test.YtiapfapmgjngpaaGreatDoorChecked
import Derived.JoinedOf
import Derived.WalkKit
namespace Go.Proofs.YtiapfapmgjngpaaGreatDoor
open Go.RowKit
set_option maxHeartbeats 20000000 in
theorem closedZero : joinedFacts Tryz.prog 5 Tryz.f5 Rows.buildZeroSpec Rows.buildZeroRow = true := by
  unfold joinedFacts
  simp only [Bool.and_eq_true]
  repeat' apply And.intro
  all_goals (as_aux_lemma => kernel_rfl)
end Go.Proofs.YtiapfapmgjngpaaGreatDoor
