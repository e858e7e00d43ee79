/- The document's memory: what Copy and Words answer and do, for every argument. -/
import Derived.Test.YtkodanflobclhaaDoorMemT
import Derived.BigRegion
namespace Go.Proofs.YtkodanflobclhaaDoor.Pmem
open Go.Proofs.YtkodanflobclhaaDoor.Pbase
open Go.RowKit
set_option linter.unusedVariables false

theorem copy_step {f t k h b : Nat} {M : Nat → Nat → Int} : (if h = t ∧ b = k then M f k else if h = t ∧ b < k then M f b else M h b) = if h = t ∧ b < k + 1 then M f b else M h b := by
  by_cases e1 : h = t
  · by_cases e2 : b = k
    · subst e2; simp [e1]
    · by_cases e3 : b < k
      · simp [e1, e2, e3, Nat.lt_succ_of_lt e3]
      · have : ¬ b < k + 1 := by omega
        simp [e1, e2, e3, this]
  · simp [e1]
/-! ### Words -/
end Go.Proofs.YtkodanflobclhaaDoor.Pmem
