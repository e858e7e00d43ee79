/- What the statements' own comparison of two lists answers at two lists of the same eight words. -/
import Derived.Test.YtnhdlgijjjkmdaaRegS
import Derived.Deep.LoopGhost
namespace Go.Proofs.Ytnhdlgijjjkmdaa
open Go.RowKit
set_option linter.unusedVariables false

theorem words_same (x cx y cy : Nat) (L : Nat → Int) (w : World) (hx : ListIs w x L) (hy : ListIs w y L) :
    Calls Try.prog 15 #[.slice (some ⟨x, 0, none⟩) 8 cx, .slice (some ⟨y, 0, none⟩) 8 cy] w fun e w' => e = .returned (.bool true) ∧ ∃ m, w' = w.drewN m := by
  have HX : Hid (ListIs w x L) := hx
  have HY : Hid (ListIs w y L) := hy
  clear hx hy
  go_enter Try.func15, Try.ntmps15
  go_wp2
  go_loopw [5] (fun i wr => ∃ k m : Nat, k ≤ 8 ∧ i = .int .i64 k ∧ wr = w.drewN m) (fun i _ => 8 - (intOf i).toNat)
  case atStart => exact ⟨0, 0, Nat.zero_le _, rfl, rfl⟩
  case round =>
    obtain ⟨k, m, hk, rfl, hwr0⟩ := hrel
    have hwr : Hid (wr = w.drewN m) := hwr0
    by_cases hlt : k < 8
    · have h1 : wr.cell? ⟨x, k, none⟩ = some (.int .u64 (L k)) := by rw [hwr0]; exact HX.out.cell hlt
      have h2 : wr.cell? ⟨y, k, none⟩ = some (.int .u64 (L k)) := by rw [hwr0]; exact HY.out.cell hlt
      clear hwr0
      have hki : (k : Int) < 8 := by omega
      go_wp2
      go_quiet (fail)
      go_wp2
      go_roundw
      case rel => exact ⟨k + 1, _, by omega, by go_num, by rw [hwr.out]; exact World.drewN_drewN _ _ _⟩
      case measure => simp [intOf]; omega
    · clear hwr0
      obtain rfl : k = 8 := by omega
      go_wp2
      go_ret
      exact ⟨rfl, m, hwr.out⟩

end Go.Proofs.Ytnhdlgijjjkmdaa
