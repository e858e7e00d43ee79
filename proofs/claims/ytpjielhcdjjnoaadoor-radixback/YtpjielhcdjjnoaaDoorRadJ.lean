/- The two tables of widths out of the condition of the rows of stage 12; awake. -/
import Derived.Test.YtpjielhcdjjnoaaDoorRadI
namespace Go.Proofs.YtpjielhcdjjnoaaDoor.Pradix
open Go.Proofs.YtpjielhcdjjnoaaDoor.Pbase Go.Proofs.YtpjielhcdjjnoaaDoor.Pfield
open Go.RowKit Go.ChangeShapes Go.WideShapes
set_option linter.unusedVariables false

/-- What the condition on the tables gives the walks. -/
theorem of_laid {W : World} (h : laidMetH Tryd.prog Rows.radixTellsRow.laid W) : Wd W := by
  rw [MakeChecks.laidMetH_plain _ _ _ (by kernel_rfl)] at h
  obtain ⟨ps, ⟨g0, t0, cs0, f0, p0, q0, hg0, ht0, hv0, hd0, ⟨g1, t1, cs1, f1, p1, q1, hg1, ht1, hv1, hd1, _, _⟩, _⟩, _, _⟩ := h
  obtain ⟨h1, h2⟩ := tabS_of (by kernel_rfl) hg0 ht0 hv0 hd0
  obtain ⟨h3, h4⟩ := tabP_of (by kernel_rfl) hg1 ht1 hv1 hd1
  exact ⟨h1, h3, h2, h4⟩
theorem so35 : soA 2 3 = 35 ∧ soE 2 3 = 0 := by decide
set_option maxRecDepth 100000 in
theorem awake_any (w : World) (hW : Wd w) : Calls Tryd.prog 16 #[] w fun e w' => e = .returned (.bool true) ∧ Below w.heap.size w w' := by
  have HW : Hid (Wd w) := hW
  clear hW
  go_enter Tryd.func16, Tryd.ntmps16
  go_wp2_with (first
    | (go_at_call 8; refine (slotOf_any 2 3 _ (by omega) (by omega) HW.out).mono ?_; rintro e1 w1 ⟨rfl, hb1⟩; rw [so35.1, so35.2]; have H1 : Hid (Below w.heap.size w w1) := hb1; clear hb1)
    | fail)
  go_ret
  exact ⟨rfl, H1.out⟩
end Go.Proofs.YtpjielhcdjjnoaaDoor.Pradix
