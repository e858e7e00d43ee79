/- What isMade, register, New, Get and Set of package regs answer, and what they do to the registers, for every argument that their types allow. -/
import Derived.Test.YtnhdlgijjjkmdaaRegG
import Derived.Test.YtnhdlgijjjkmdaaRows
import Derived.WalkKit
import Derived.ProofKit
import Derived.OpenShut
import Derived.Outline
import Derived.Deep.QuietTactic
import Derived.BigQuiet
namespace Go.Proofs.Ytnhdlgijjjkmdaa
open Go.RowKit
set_option linter.unusedVariables false

theorem made_cell (p : Nat) (b : Bool) (w : World) (hp : w.cell? ⟨p, 8, none⟩ = some (.bool b)) :
    Calls Try.prog 20 #[.pointer (some ⟨p, 0, none⟩)] w fun e w' => e = .returned (.bool b) ∧ w' = w := by
  go_enter Try.func20, Try.ntmps20
  go_wp2
  go_ret
  exact ⟨rfl, rfl⟩
theorem made_nil (w : World) :
    Calls Try.prog 20 #[.pointer none] w fun e w' => e = .returned (.bool false) ∧ w' = w := by
  go_enter Try.func20, Try.ntmps20
  go_wp2
  go_ret
  exact ⟨rfl, rfl⟩
theorem reg_ok (p g : Nat) (w : World) (hg : g < 8) (hp : w.cell? ⟨p, 8, none⟩ = some (.bool true)) :
    Calls Try.prog 21 #[.pointer (some ⟨p, 0, none⟩), .int .i64 g] w fun e w' => e = .returned (.tuple #[.pointer (some ⟨p, g, none⟩), .int .i64 0]) ∧ w' = w := by
  have hgi : (g : Int) < 8 := by omega
  go_enter Try.func21, Try.ntmps21
  go_wp2_with (go_at_call 20; refine (made_cell p true _ hp).mono ?_; rintro e w' ⟨rfl, rfl⟩)
  go_ret2
  exact ⟨rfl, rfl⟩
theorem reg_bad (p : Nat) (i : Int) (w : World) (hi : ¬ (0 ≤ i ∧ i < 8)) (hp : w.cell? ⟨p, 8, none⟩ = some (.bool true)) :
    Calls Try.prog 21 #[.pointer (some ⟨p, 0, none⟩), .int .i64 i] w fun e w' => e = .returned (.tuple #[.pointer none, .int .i64 1]) ∧ w' = w := by
  by_cases hn : i < 0
  · clear hi
    go_enter Try.func21, Try.ntmps21
    go_wp2_with (go_at_call 20; refine (made_cell p true _ hp).mono ?_; rintro e w' ⟨rfl, rfl⟩)
    go_ret2
    exact ⟨rfl, rfl⟩
  · have hge : 8 ≤ i := by omega
    clear hi
    go_enter Try.func21, Try.ntmps21
    go_wp2_with (go_at_call 20; refine (made_cell p true _ hp).mono ?_; rintro e w' ⟨rfl, rfl⟩)
    go_ret2
    exact ⟨rfl, rfl⟩
theorem reg_zero (p : Nat) (i : Int) (w : World) (hp : w.cell? ⟨p, 8, none⟩ = some (.bool false)) :
    Calls Try.prog 21 #[.pointer (some ⟨p, 0, none⟩), .int .i64 i] w fun e w' => e = .returned (.tuple #[.pointer none, .int .i64 13]) ∧ w' = w := by
  go_enter Try.func21, Try.ntmps21
  go_wp2_with (go_at_call 20; refine (made_cell p false _ hp).mono ?_; rintro e w' ⟨rfl, rfl⟩)
  go_ret2
  exact ⟨rfl, rfl⟩
theorem reg_nil (i : Int) (w : World) :
    Calls Try.prog 21 #[.pointer none, .int .i64 i] w fun e w' => e = .returned (.tuple #[.pointer none, .int .i64 13]) ∧ w' = w := by
  go_enter Try.func21, Try.ntmps21
  go_wp2_with (go_at_call 20; refine (made_nil _).mono ?_; rintro e w' ⟨rfl, rfl⟩)
  go_ret2
  exact ⟨rfl, rfl⟩
/-! ### Get, Set -/
theorem get_zero (p : Nat) (i : Int) (w : World) (hp : w.cell? ⟨p, 8, none⟩ = some (.bool false)) :
    Calls Try.prog 13 #[.pointer (some ⟨p, 0, none⟩), .int .i64 i] w fun e w' => e = .returned (.tuple #[.int .u64 0, .int .i64 13]) ∧ w' = w := by
  go_enter Try.func13, Try.ntmps13
  go_wp2_with (go_at_call 21; refine (reg_zero p i _ hp).mono ?_; rintro e w' ⟨rfl, rfl⟩)
  go_ret2
  exact ⟨rfl, rfl⟩
theorem get_nil (i : Int) (w : World) :
    Calls Try.prog 13 #[.pointer none, .int .i64 i] w fun e w' => e = .returned (.tuple #[.int .u64 0, .int .i64 13]) ∧ w' = w := by
  go_enter Try.func13, Try.ntmps13
  go_wp2_with (go_at_call 21; refine (reg_nil i _).mono ?_; rintro e w' ⟨rfl, rfl⟩)
  go_ret2
  exact ⟨rfl, rfl⟩
theorem get_any (p : Nat) (i : Int) (L : Nat → Int) (w : World) (h : FileIs w p L) :
    Calls Try.prog 13 #[.pointer (some ⟨p, 0, none⟩), .int .i64 i] w fun e w' => e = .returned (.tuple #[.int .u64 (getR L i), .int .i64 (errR i)]) ∧ w' = w := by
  have hp := h.made
  cases hk : okR i
  · simp only [getR, errR, hk, Bool.false_eq_true, if_false]
    have HB : Hid (¬ (0 ≤ i ∧ i < 8)) := okR_no hk
    clear h hk
    go_enter Try.func13, Try.ntmps13
    go_wp2_with (go_at_call 21; refine (reg_bad p i _ HB.out hp).mono ?_; rintro e w' ⟨rfl, rfl⟩)
    go_ret2
    exact ⟨rfl, rfl⟩
  · obtain ⟨g, rfl, hg⟩ := okR_split hk
    simp only [getR, errR, hk, if_true, Int.toNat_natCast]
    have hc := h.word hg
    obtain ⟨m, hm⟩ : ∃ m, m = L g := ⟨_, rfl⟩
    rw [← hm] at hc ⊢
    clear hm h hk
    go_enter Try.func13, Try.ntmps13
    go_wp2_with (go_at_call 21; refine (reg_ok p g _ hg hp).mono ?_; rintro e w' ⟨rfl, rfl⟩)
    go_ret2
    exact ⟨rfl, rfl⟩
theorem set_nil (i v : Int) (w : World) :
    Calls Try.prog 11 #[.pointer none, .int .i64 i, .int .u64 v] w fun e w' => e = .returned (.int .i64 13) ∧ w' = w := by
  go_enter Try.func11, Try.ntmps11
  go_wp2_with (go_at_call 21; refine (reg_nil i _).mono ?_; rintro e w' ⟨rfl, rfl⟩)
  go_ret
  exact ⟨rfl, rfl⟩
theorem set_any (p : Nat) (i v : Int) (L : Nat → Int) (w : World) (h : FileIs w p L) :
    Calls Try.prog 11 #[.pointer (some ⟨p, 0, none⟩), .int .i64 i, .int .u64 v] w fun e w' => e = .returned (.int .i64 (errR i)) ∧ w' = w.setRow p (cellsF (setR L i v)) := by
  have hp := h.made
  cases hk : okR i
  · simp only [setR, errR, hk, Bool.false_eq_true, if_false, h.self]
    have HB : Hid (¬ (0 ≤ i ∧ i < 8)) := okR_no hk
    clear h hk
    go_enter Try.func11, Try.ntmps11
    go_wp2_with (go_at_call 21; refine (reg_bad p i _ HB.out hp).mono ?_; rintro e w' ⟨rfl, rfl⟩)
    go_ret
    exact ⟨rfl, rfl⟩
  · obtain ⟨g, rfl, hg⟩ := okR_split hk
    rw [← h.store hg]
    simp only [errR, hk, if_true]
    have hc := h.word hg
    have hz := h.free g
    clear h hk
    go_enter Try.func11, Try.ntmps11
    go_wp2_with (go_at_call 21; refine (reg_ok p g _ hg hp).mono ?_; rintro e w' ⟨rfl, rfl⟩)
    go_ret
    exact ⟨rfl, rfl⟩
/-! ### New -/
theorem cells_zero : cellsF (fun _ => 0) = #[.int .u64 0, .int .u64 0, .int .u64 0, .int .u64 0, .int .u64 0, .int .u64 0, .int .u64 0, .int .u64 0, .bool true] := rfl
/-- The world behind New. -/
def newW (w : World) : World := w.alloc (.cells (cellsF fun _ => 0) 47)
theorem newW_is (w : World) : FileIs (newW w) w.heap.size fun _ => 0 := heap_alloc_new _ _
theorem newW_size (w : World) : (newW w).heap.size = w.heap.size + 1 := by simp [newW]
theorem newW_below (w : World) : Below w.heap.size w (newW w) := (Below.refl _ w).alloc (Nat.le_refl _) _
theorem new_any (w : World) :
    Calls Try.prog 7 #[] w fun e w' => e = .returned (.pointer (some ⟨w.heap.size, 0, none⟩)) ∧ w' = newW w := by
  unfold newW
  rw [cells_zero]
  go_enter Try.func7, Try.ntmps7
  go_wp2
  go_ret
  exact ⟨rfl, rfl⟩

end Go.Proofs.Ytnhdlgijjjkmdaa
