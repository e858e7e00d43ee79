/- The four tables out of the condition of the row of AccessPlays. -/
import Derived.Test.YthcgdgpflhdchaaGreatDoorAccN
import Derived.Test.YthcgdgpflhdchaaGreatDoorBunHead
import Derived.Test.YthcgdgpflhdchaaGreatDoorBunRadix
import Derived.Test.YthcgdgpflhdchaaGreatDoorBunPte
namespace Go.Proofs.YthcgdgpflhdchaaGreatDoor.Paccess
open Go.Proofs.YthcgdgpflhdchaaGreatDoor.Pbase Go.Proofs.YthcgdgpflhdchaaGreatDoor.Pmem
open Go.RowKit Go.ChangeShapes Go.WideShapes
set_option linter.unusedVariables false

/-- What the condition on the tables gives the walks. -/
theorem of_laid {W : World} (h : laidMetH Tryz.prog Rows.accessPlaysRow.laid W) : Tx W := by
  rw [MakeChecks.laidMetH_plain _ _ _ (by kernel_rfl)] at h
  obtain ⟨ps, ⟨g0, t0, cs0, f0, p0, q0, hg0, ht0, hv0, hd0, ⟨g1, t1, cs1, f1, p1, q1, hg1, ht1, hv1, hd1, ⟨g2, t2, cs2, f2, p2, q2, hg2, ht2, hv2, hd2, ⟨g3, t3, cs3, f3, p3, q3, hg3, ht3, hv3, hd3, _, _⟩, _⟩, _⟩, _⟩, _, _⟩ := h
  obtain ⟨s1, s2⟩ := Pradix.tabP_of (by kernel_rfl) hg2 ht2 hv2 hd2
  exact ⟨⟨Phead.tabW_of (by kernel_rfl) hg0 ht0 hv0 hd0, Ppte.tabW_of (by kernel_rfl) hg1 ht1 hv1 hd1, ⟨s1, s2⟩⟩, tabN_of (by kernel_rfl) hg3 ht3 hv3 hd3⟩
end Go.Proofs.YthcgdgpflhdchaaGreatDoor.Paccess
