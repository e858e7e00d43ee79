/- The three tables out of the condition of the rows of stage 22 (seat D). -/
import Derived.Test.YtcoggdnpjpiacaaDoorRcvU
namespace Go.Proofs.YtcoggdnpjpiacaaDoor.Prcv
open Go.Proofs.YtcoggdnpjpiacaaDoor.Pbase Go.Proofs.YtcoggdnpjpiacaaDoor.Pfield Go.Proofs.YtcoggdnpjpiacaaDoor.Play Go.Proofs.YtcoggdnpjpiacaaDoor.Pmem Go.Proofs.YtcoggdnpjpiacaaDoor.Pring
open Go.RowKit Go.ChangeShapes Go.WideShapes
set_option linter.unusedVariables false

/-- What the condition on the tables gives the walks. -/
theorem of_laid {W : World} (h : laidMetH Tryd.prog Rows.rcvCountsRow.laid W) : Tv W := by
  rw [MakeChecks.laidMetH_plain _ _ _ (by kernel_rfl)] at h
  obtain ⟨ps, ⟨g0, t0, cs0, f0, p0, q0, hg0, ht0, hv0, hd0, ⟨g1, t1, cs1, f1, p1, q1, hg1, ht1, hv1, hd1, ⟨g2, t2, cs2, f2, p2, q2, hg2, ht2, hv2, hd2, _, _⟩, _⟩, _⟩, _, _⟩ := h
  exact ⟨⟨Phead.tabW_of (by kernel_rfl) hg0 ht0 hv0 hd0, Pring.tabR_of (by kernel_rfl) hg1 ht1 hv1 hd1⟩, tabV_of (by kernel_rfl) hg2 ht2 hv2 hd2⟩
end Go.Proofs.YtcoggdnpjpiacaaDoor.Prcv
