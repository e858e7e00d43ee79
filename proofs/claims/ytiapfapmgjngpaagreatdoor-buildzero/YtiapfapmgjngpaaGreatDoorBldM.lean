/- The table of head out of the condition of the rows of stage 27. -/
import Derived.Test.YtiapfapmgjngpaaGreatDoorBunHead
namespace Go.Proofs.YtiapfapmgjngpaaGreatDoor.Pbuild
open Go.Proofs.YtiapfapmgjngpaaGreatDoor.Pbase Go.Proofs.YtiapfapmgjngpaaGreatDoor.Pmem
open Go.RowKit Go.ChangeShapes Go.WideShapes
set_option linter.unusedVariables false

/-- What the condition on seven tables gives the walk of BuildZero. -/
theorem of_laid7 {W : World} (h : laidMetH Tryz.prog Rows.buildZeroRow.laid W) : Phead.TabW W := by
  rw [MakeChecks.laidMetH_plain _ _ _ (by kernel_rfl)] at h
  obtain ⟨ps, ⟨g0, t0, cs0, f0, p0, q0, hg0, ht0, hv0, hd0, ⟨g1, t1, cs1, f1, p1, q1, hg1, ht1, hv1, hd1, ⟨g2, t2, cs2, f2, p2, q2, hg2, ht2, hv2, hd2, _, _⟩, _⟩, _⟩, _, _⟩ := h
  exact Phead.tabW_of (by kernel_rfl) hg2 ht2 hv2 hd2
end Go.Proofs.YtiapfapmgjngpaaGreatDoor.Pbuild
