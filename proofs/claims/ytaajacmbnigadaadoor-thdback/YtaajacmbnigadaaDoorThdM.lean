/- The table of head out of the condition of the rows of stage 18 that lie in the seat of ThdBack and ThdZero. -/
import Derived.Test.YtaajacmbnigadaaDoorBunHead
import Derived.Test.YtaajacmbnigadaaDoorThdB
namespace Go.Proofs.YtaajacmbnigadaaDoor.Pthd
open Go.Proofs.YtaajacmbnigadaaDoor.Pbase Go.Proofs.YtaajacmbnigadaaDoor.Play Go.Proofs.YtaajacmbnigadaaDoor.Pmem
open Go.RowKit Go.ChangeShapes Go.WideShapes
set_option linter.unusedVariables false

/-- What the condition on the table gives the walks. -/
theorem of_laid {W : World} (h : laidMetH Tryd.prog Rows.thdBackRow.laid W) : Phead.TabW W := by
  rw [MakeChecks.laidMetH_plain _ _ _ (by kernel_rfl)] at h
  obtain ⟨ps, ⟨g0, t0, cs0, f0, p0, q0, hg0, ht0, hv0, hd0, _, _⟩, _, _⟩ := h
  exact Phead.tabW_of (by kernel_rfl) hg0 ht0 hv0 hd0
end Go.Proofs.YtaajacmbnigadaaDoor.Pthd
