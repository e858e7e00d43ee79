/- The document's memory: what Clear, Copy, Same and Words answer and do, for every argument. -/
import Derived.Test.YtlpnnpapeoahkaaDoorMemS
namespace Go.Proofs.YtlpnnpapeoahkaaDoor
open Go.RowKit
set_option linter.unusedVariables false

theorem rclear_bad (base p N : Nat) (f : Int) (M : Nat → Nat → Int) (w : World) (hok : okF N f = false) (hN1 : 1 ≤ N) (hN : N ≤ 64) (hR : RefIs w base p N M) :
    Calls Tryd.prog 31 #[.pointer (some ⟨p, 0, none⟩), .int .i64 f] w fun e w' => e = .returned (.int .i64 1) ∧ w' = w := by
  obtain ⟨g, cap, r, c, hp, _, _, _, _⟩ := hR.parts hN1
  clear hR
  go_enter Tryd.func31, Tryd.ntmps31
  go_wp2_with (go_at_call 28; refine (is_any p g cap N f _ hN hp).mono ?_; rintro e w' ⟨rfl, rfl⟩)
  go_ret
  exact ⟨rfl, rfl⟩
theorem rclear_any (base p N : Nat) (f : Int) (M : Nat → Nat → Int) (w : World) (hN1 : 1 ≤ N) (hN : N ≤ 64) (hR : RefIs w base p N M) :
    Calls Tryd.prog 31 #[.pointer (some ⟨p, 0, none⟩), .int .i64 f] w fun e w' => e = .returned (.int .i64 (errF N f)) ∧ RefIs w' base p N (clM N M f) ∧ Below base w w' := by
  cases h : okF N f
  · simp only [clM, errF, h, Bool.false_eq_true, if_false]
    exact (rclear_bad base p N f M w h hN1 hN hR).mono fun _ _ ⟨h1, h2⟩ => ⟨h1, by rw [h2]; exact hR, by rw [h2]; exact Below.refl _ _⟩
  · obtain ⟨c, rfl, hc⟩ := okF_split h
    simp only [clM, errF, h, if_true, Int.toNat_natCast]
    exact rclear_ok base p N c M w hc hN hR

/-! ### Same -/
end Go.Proofs.YtlpnnpapeoahkaaDoor
