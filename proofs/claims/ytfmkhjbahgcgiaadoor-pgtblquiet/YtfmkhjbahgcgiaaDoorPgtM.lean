/- The three tables out of the condition of the rows PgtblQuiet and PgtblBeside. -/
import Derived.Test.YtfmkhjbahgcgiaaDoorPgtA
import Derived.Test.YtfmkhjbahgcgiaaDoorBunHead
import Derived.Test.YtfmkhjbahgcgiaaDoorBunRadix
import Derived.Test.YtfmkhjbahgcgiaaDoorPteO
namespace Go.Proofs.YtfmkhjbahgcgiaaDoor.Ppgtbl
open Go.Proofs.YtfmkhjbahgcgiaaDoor.Pbase Go.Proofs.YtfmkhjbahgcgiaaDoor.Pmem Go.Proofs.YtfmkhjbahgcgiaaDoor.Pradix
open Go.RowKit Go.ChangeShapes Go.WideShapes
set_option linter.unusedVariables false

/-- What the condition on the tables gives the walks. -/
theorem of_laid {W : World} (h : laidMetH Tryd.prog Rows.pgtblQuietRow.laid W) : Tb W := by
  rw [MakeChecks.laidMetH_plain _ _ _ (by kernel_rfl)] at h
  obtain ⟨ps, ⟨g0, t0, cs0, f0, p0, q0, hg0, ht0, hv0, hd0, ⟨g1, t1, cs1, f1, p1, q1, hg1, ht1, hv1, hd1, ⟨g2, t2, cs2, f2, p2, q2, hg2, ht2, hv2, hd2, _, _⟩, _⟩, _⟩, _, _⟩ := h
  obtain ⟨s1, s2⟩ := tabP_of (by kernel_rfl) hg2 ht2 hv2 hd2
  exact ⟨Phead.tabW_of (by kernel_rfl) hg0 ht0 hv0 hd0, Ppte.tabW_of (by kernel_rfl) hg1 ht1 hv1 hd1, ⟨s1, s2⟩⟩
end Go.Proofs.YtfmkhjbahgcgiaaDoor.Ppgtbl
