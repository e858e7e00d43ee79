/- The closed facts of BuildGone's row, each a lemma of its own. -/
import Derived.Test.YtcgekcjnaadcmaaGreatDoorRows
import Derived.Test.YtcgekcjnaadcmaaGreatDoorChecked
import Derived.JoinedOf
import Derived.WalkKit
namespace Go.Proofs.YtcgekcjnaadcmaaGreatDoor
open Go.RowKit
set_option maxHeartbeats 20000000 in
theorem closedGone : joinedFacts Tryz.prog 3 Tryz.f3 Rows.buildGoneSpec Rows.buildGoneRow = true := by
  unfold joinedFacts
  simp only [Bool.and_eq_true]
  repeat' apply And.intro
  all_goals (as_aux_lemma => kernel_rfl)
end Go.Proofs.YtcgekcjnaadcmaaGreatDoor
