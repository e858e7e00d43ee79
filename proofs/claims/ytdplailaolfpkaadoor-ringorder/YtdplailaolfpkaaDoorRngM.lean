/- The tables out of the condition of the rows of stage 21. -/
import Derived.Test.YtdplailaolfpkaaDoorRngO
namespace Go.Proofs.YtdplailaolfpkaaDoor.Pring
open Go.Proofs.YtdplailaolfpkaaDoor.Pbase Go.Proofs.YtdplailaolfpkaaDoor.Pfield Go.Proofs.YtdplailaolfpkaaDoor.Play Go.Proofs.YtdplailaolfpkaaDoor.Pmem
open Go.RowKit Go.ChangeShapes Go.WideShapes
set_option linter.unusedVariables false

/-- What the condition on the tables gives the walks. -/
theorem of_laid {W : World} (h : laidMetH Tryd.prog Rows.ringPlaysRow.laid W) : Ts W := by
  rw [MakeChecks.laidMetH_plain _ _ _ (by kernel_rfl)] at h
  obtain ⟨ps, ⟨g0, t0, cs0, f0, p0, q0, hg0, ht0, hv0, hd0, ⟨g1, t1, cs1, f1, p1, q1, hg1, ht1, hv1, hd1, _, _⟩, _⟩, _, _⟩ := h
  exact ⟨Phead.tabW_of (by kernel_rfl) hg0 ht0 hv0 hd0, tabR_of (by kernel_rfl) hg1 ht1 hv1 hd1⟩
theorem of_laid1 {W : World} (h : laidMetH Tryd.prog Rows.ringWordsRow.laid W) : TabR W := by
  rw [MakeChecks.laidMetH_plain _ _ _ (by kernel_rfl)] at h
  obtain ⟨ps, ⟨g0, t0, cs0, f0, p0, q0, hg0, ht0, hv0, hd0, _, _⟩, _, _⟩ := h
  exact tabR_of (by kernel_rfl) hg0 ht0 hv0 hd0
end Go.Proofs.YtdplailaolfpkaaDoor.Pring
