/- What New of package clock answers and does, for every argument. -/
import Derived.Test.YtjbchnnbphikhaaClkA
import Derived.BigRegion
import Derived.Deep.RegionHeld3
namespace Go.Proofs.Ytjbchnnbphikhaa
open Go.RowKit
set_option linter.unusedVariables false

/-! ### Floor -/
/-! ### New -/
theorem new_bad (n : Int) (w : World) (h : ¬ (1 ≤ n ∧ n ≤ 4)) :
    Calls Try.prog 6 #[.int .i64 n] w fun e w' => e = .returned (.tuple #[.pointer none, .int .i64 1]) ∧ w' = w := by
  by_cases h1 : n < 1
  · clear h
    go_enter Try.func6, Try.ntmps6
    go_wp2
    go_ret2
    exact ⟨rfl, rfl⟩
  · have h2 : 4 < n := by omega
    clear h
    go_enter Try.func6, Try.ntmps6
    go_wp2
    go_ret2
    exact ⟨rfl, rfl⟩
theorem new_ok (N : Nat) (w : World) (hN1 : 1 ≤ N) (hN : N ≤ 4) :
    Calls Try.prog 6 #[.int .i64 N] w fun e w' => e = .returned (.tuple #[.pointer (some ⟨w.heap.size, 0, none⟩), .int .i64 0]) ∧ ClockIs w' w.heap.size N (newS N) ∧ Below w.heap.size w w' := by
  have h1 : (1 : Int) ≤ N := by omega
  have h2 : (N : Int) ≤ 4 := by omega
  go_enter Try.func6, Try.ntmps6
  go_wp2
  go_loopw [16] (fun i wr => ∃ k : Nat, k ≤ N ∧ i = .int .i64 k ∧ ClockIs wr w.heap.size N (newS k) ∧ Below w.heap.size w wr) (fun i _ => N - (intOf i).toNat)
  case atStart => exact ⟨0, by omega, rfl, ⟨heap_alloc_new _ _, newS_ok 0⟩, (Below.refl _ _).alloc (Nat.le_refl _) _⟩
  case round =>
    obtain ⟨k, hk, rfl, hI, hB⟩ := hrel
    have HI : Hid (ClockIs wr w.heap.size N (newS k)) := hI
    have HB : Hid (Below w.heap.size w wr) := hB
    clear hI hB
    by_cases hlt : k < N
    · have hki : (k : Int) < (N : Int) := by omega
      have hk4 : (k : Int) < 4 := by omega
      go_wp2
      go_region_with (go_at_call 24; (refine (nothing_any _).mono ?_; rintro e w1 ⟨rfl, hw1⟩; have HM : Hid (More wr w1) := (by rw [hw1]; exact ((More.refl wr).drew).alloc _ _); have HD : Hid (ClockIs w1 w.heap.size N (newS k)) := HI.out.more HM.out; clear hw1; have c1 := HD.out.cy (c := k) (by omega); have c2 := HD.out.en (c := k) (by omega); have c3 := HD.out.fl (c := k) (by omega); have z1 := HD.out.free (2 + k * 3); have z2 := HD.out.free (2 + k * 3 + 1); have z3 := HD.out.free (2 + k * 3 + 2)))
      have HS : Hid (ClockIs (w1.setRow w.heap.size (cellsC N (newS (k + 1)))) w.heap.size N (newS (k + 1))) := HD.out.set _ (newS_ok _)
      have HB1 : Hid (Below w.heap.size w (w1.setRow w.heap.size (cellsC N (newS (k + 1))))) := below_setRow (HB.out.trans (HM.out.below.mono HB.out.size)) (Nat.le_refl _) _
      rw [HD.out.lay (by omega)]
      clear c1 c2 c3 z1 z2 z3
      go_wp2
      go_roundw
      case rel => exact ⟨k + 1, by omega, by go_num, HS.out, HB1.out⟩
      case measure => simp [intOf]; omega
    · obtain rfl : k = N := by omega
      go_wp2
      go_ret2
      exact ⟨rfl, HI.out, HB.out⟩
end Go.Proofs.Ytjbchnnbphikhaa
