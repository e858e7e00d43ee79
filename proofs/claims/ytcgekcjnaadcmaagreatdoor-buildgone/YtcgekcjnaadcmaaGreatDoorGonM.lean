/- The seven tables out of the condition of the row of BuildGone. -/
import Derived.Test.YtcgekcjnaadcmaaGreatDoorBunHead
import Derived.Test.YtcgekcjnaadcmaaGreatDoorBunCap
import Derived.Test.YtcgekcjnaadcmaaGreatDoorBunQcomp
import Derived.Test.YtcgekcjnaadcmaaGreatDoorBunQpte
import Derived.Test.YtcgekcjnaadcmaaGreatDoorBunQstack
import Derived.Test.YtcgekcjnaadcmaaGreatDoorRcvU
import Derived.Test.YtcgekcjnaadcmaaGreatDoorGonA
namespace Go.Proofs.YtcgekcjnaadcmaaGreatDoor.Pbuild
open Go.Proofs.YtcgekcjnaadcmaaGreatDoor.Pbase Go.Proofs.YtcgekcjnaadcmaaGreatDoor.Pmem
open Go.RowKit Go.ChangeShapes Go.WideShapes
set_option linter.unusedVariables false

/-- What the condition on seven tables gives the walk of BuildGone. -/
theorem of_laid_gone {W : World} (h : laidMetH Tryz.prog Rows.buildGoneRow.laid W) : Tz W := by
  rw [MakeChecks.laidMetH_plain _ _ _ (by kernel_rfl)] at h
  obtain ⟨ps, ⟨g0, t0, cs0, f0, p0, q0, hg0, ht0, hv0, hd0, ⟨g1, t1, cs1, f1, p1, q1, hg1, ht1, hv1, hd1, ⟨g2, t2, cs2, f2, p2, q2, hg2, ht2, hv2, hd2, ⟨g3, t3, cs3, f3, p3, q3, hg3, ht3, hv3, hd3, ⟨g4, t4, cs4, f4, p4, q4, hg4, ht4, hv4, hd4, ⟨g5, t5, cs5, f5, p5, q5, hg5, ht5, hv5, hd5, ⟨g6, t6, cs6, f6, p6, q6, hg6, ht6, hv6, hd6, _, _⟩, _⟩, _⟩, _⟩, _⟩, _⟩, _⟩, _, _⟩ := h
  exact ⟨Phead.tabW_of (by kernel_rfl) hg2 ht2 hv2 hd2, Pcomp.tabC_of (by kernel_rfl) hg3 ht3 hv3 hd3, Pstack.tabR_of (by kernel_rfl) hg6 ht6 hv6 hd6, Pqrcv.tabV_of (by kernel_rfl) hg5 ht5 hv5 hd5, Pcap.tabM_of (by kernel_rfl) hg1 ht1 hv1 hd1, Pcap.tabW_of (by kernel_rfl) hg0 ht0 hv0 hd0, Ppte.tabW_of (by kernel_rfl) hg4 ht4 hv4 hd4⟩
end Go.Proofs.YtcgekcjnaadcmaaGreatDoor.Pbuild
