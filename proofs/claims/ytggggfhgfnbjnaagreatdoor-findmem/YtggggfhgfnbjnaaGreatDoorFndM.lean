/- The tables out of the condition of the rows of stage 26. -/
import Derived.Test.YtggggfhgfnbjnaaGreatDoorBunCaptbl
import Derived.Test.YtggggfhgfnbjnaaGreatDoorBunCap
import Derived.Test.YtggggfhgfnbjnaaGreatDoorBunHead
import Derived.Test.YtggggfhgfnbjnaaGreatDoorBunRadix
namespace Go.Proofs.YtggggfhgfnbjnaaGreatDoor.Pfind
open Go.Proofs.YtggggfhgfnbjnaaGreatDoor.Pbase Go.Proofs.YtggggfhgfnbjnaaGreatDoor.Pmem Go.Proofs.YtggggfhgfnbjnaaGreatDoor.Pradix Go.Proofs.YtggggfhgfnbjnaaGreatDoor.Pslot
open Go.RowKit Go.ChangeShapes Go.WideShapes
set_option linter.unusedVariables false

/-- What the condition on four tables gives the walks. -/
theorem of_laid4 {W : World} (h : laidMetH Tryz.prog Rows.findMemRow.laid W) : Pcaptbl.Tb W := by
  rw [MakeChecks.laidMetH_plain _ _ _ (by kernel_rfl)] at h
  obtain ⟨ps, ⟨g0, t0, cs0, f0, p0, q0, hg0, ht0, hv0, hd0, ⟨g1, t1, cs1, f1, p1, q1, hg1, ht1, hv1, hd1, ⟨g2, t2, cs2, f2, p2, q2, hg2, ht2, hv2, hd2, ⟨g3, t3, cs3, f3, p3, q3, hg3, ht3, hv3, hd3, _, _⟩, _⟩, _⟩, _⟩, _, _⟩ := h
  obtain ⟨s1, s2⟩ := tabS_of (by kernel_rfl) hg3 ht3 hv3 hd3
  exact ⟨Pcap.tabM_of (by kernel_rfl) hg1 ht1 hv1 hd1, Pcap.tabW_of (by kernel_rfl) hg0 ht0 hv0 hd0, Phead.tabW_of (by kernel_rfl) hg2 ht2 hv2 hd2, ⟨s1, s2⟩⟩
/-- What the condition on five tables gives them. -/
theorem of_laid5 {W : World} (h : laidMetH Tryz.prog Rows.findZeroRow.laid W) : Pcaptbl.Tb W := by
  rw [MakeChecks.laidMetH_plain _ _ _ (by kernel_rfl)] at h
  obtain ⟨ps, ⟨g0, t0, cs0, f0, p0, q0, hg0, ht0, hv0, hd0, ⟨g1, t1, cs1, f1, p1, q1, hg1, ht1, hv1, hd1, ⟨g2, t2, cs2, f2, p2, q2, hg2, ht2, hv2, hd2, ⟨g3, t3, cs3, f3, p3, q3, hg3, ht3, hv3, hd3, ⟨g4, t4, cs4, f4, p4, q4, hg4, ht4, hv4, hd4, _, _⟩, _⟩, _⟩, _⟩, _⟩, _, _⟩ := h
  obtain ⟨s1, s2⟩ := tabS_of (by kernel_rfl) hg4 ht4 hv4 hd4
  exact ⟨Pcap.tabM_of (by kernel_rfl) hg1 ht1 hv1 hd1, Pcap.tabW_of (by kernel_rfl) hg0 ht0 hv0 hd0, Phead.tabW_of (by kernel_rfl) hg2 ht2 hv2 hd2, ⟨s1, s2⟩⟩
end Go.Proofs.YtggggfhgfnbjnaaGreatDoor.Pfind
