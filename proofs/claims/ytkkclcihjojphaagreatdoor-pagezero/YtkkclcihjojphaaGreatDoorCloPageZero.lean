import Derived.Test.YtkkclcihjojphaaGreatDoorRows
import Derived.Test.YtkkclcihjojphaaGreatDoorChecked
import Derived.JoinedOf
import Derived.WalkKit
set_option linter.unusedVariables false
set_option linter.unusedSimpArgs false
set_option maxRecDepth 100000
set_option maxHeartbeats 20000000
namespace Go.Proofs.YtkkclcihjojphaaGreatDoor
section Zz
open Go.RowKit
theorem closedPageZero : joinedFacts Tryz.prog 3 Tryz.f3 Rows.pageZeroSpec Rows.pageZeroRow = true := by
 unfold joinedFacts
 simp only [Bool.and_eq_true]
 repeat' apply And.intro
 all_goals (as_aux_lemma => kernel_rfl)
end Zz
end Go.Proofs.YtkkclcihjojphaaGreatDoor
