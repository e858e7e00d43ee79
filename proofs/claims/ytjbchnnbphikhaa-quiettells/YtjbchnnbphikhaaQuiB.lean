/- What 'awake' of layer 8's statements answers; a clock of a statement's own, its arguments as they were. -/
import Derived.Test.YtjbchnnbphikhaaQuiA
import Derived.Test.YtjbchnnbphikhaaClkB
namespace Go.Proofs.Ytjbchnnbphikhaa
open Go.RowKit
set_option linter.unusedVariables false

theorem awake_any (w : World) : Calls Try.prog 8 #[] w fun e w' => e = .returned (.bool true) ∧ Below w.heap.size w w' := by
  go_enter Try.func8, Try.ntmps8
  go_wp2_with (first
    | (go_at_call 6; refine (new_ok 1 _ (by omega) (by omega)).mono ?_; rintro e w1 ⟨rfl, hc1, hb1⟩; have HC1 : Hid (ClockIs w1 w.heap.size 1 (newS 1)) := hc1; have HB1 : Hid (Below w.heap.size w w1) := hb1; clear hc1 hb1)
    | (go_at_call 21; refine (for_any _ 1 (newS 1) 0 9 _ (by omega) (by omega) HC1.out).mono ?_; rintro e w2 ⟨rfl, hb2⟩; rw [quF_zero]; have HB2 : Hid (Below w.heap.size w w2) := HB1.out.trans (hb2.mono HB1.out.size); clear hb2)
    | fail)
  go_ret
  exact ⟨rfl, HB2.out⟩
/-- The statement's own clock lies behind block w.heap.size; what lay below it is as it was. -/
structure Half (w wr : World) (N : Nat) (s : CS) : Prop where
  clock : ClockIs wr w.heap.size N s
  below : Below w.heap.size w wr
theorem Half.more {w wr w' : World} {N : Nat} {s : CS} (h : Half w wr N s) (m : Below wr.heap.size wr w') : Half w w' N s := ⟨h.clock.below m h.clock.lt, h.below.trans (m.mono h.below.size)⟩
theorem Half.drew {w wr : World} {N : Nat} {s : CS} (h : Half w wr N s) : Half w wr.drew N s := h.more (Below.refl _ _).drew
theorem Half.drewN {w wr : World} {N : Nat} {s : CS} (h : Half w wr N s) (n : Nat) : Half w (wr.drewN n) N s := h.more (below_drewN _ _ _)
theorem Half.turn {w wr w2 : World} {N : Nat} {s s' : CS} (h : Half w wr N s) (hk : s'.ok) (h2 : w2 = wr.setRow w.heap.size (cellsC N s')) : Half w w2 N s' := by
  subst h2
  exact ⟨h.clock.set s' hk, below_setRow h.below (Nat.le_refl _) _⟩

end Go.Proofs.Ytjbchnnbphikhaa
