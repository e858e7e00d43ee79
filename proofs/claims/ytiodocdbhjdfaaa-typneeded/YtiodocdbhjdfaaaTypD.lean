/- A table of one frame: what each call answers and makes of it. -/
import Derived.Test.YtiodocdbhjdfaaaTypC
namespace Go.Proofs.Ytiodocdbhjdfaaa
open Go.RowKit
set_option linter.unusedVariables false

def one (s : FS) : Nat → FS := upd (fun _ => noFS) 0 s
theorem one_no : one noFS = fun _ => noFS := upd_self (fun _ => noFS) 0
theorem errA_one (s : FS) (h : FS → Int) : errA 1 (one s) 0 h = h s := by simp [errA, okF, one, upd]
theorem mapA_one (s : FS) (g : FS → FS) : mapA 1 (one s) 0 g = one (g s) := by
  have h : okF 1 0 = true := rfl
  simp only [mapA, h, if_true, Int.toNat_zero, one, upd_same, upd_upd]
theorem toldA_one (s : FS) : toldA 1 (one s) 0 = s := by simp [toldA, okF, one, upd]
theorem ok_one {s : FS} (h : s.ok) : okA (one s) := by
  intro i
  simp only [one, upd]
  split
  · exact h
  · exact ok_no 0
/-- The call's table has one frame, s; nothing of w was changed. -/
structure One (w wr : World) (s : FS) : Prop where
  tbl : TblIs wr (w.heap.size + 1) w.heap.size 1 (one s)
  below : Below w.heap.size w wr
theorem One.ok {w wr : World} {s : FS} (h : One w wr s) : s.ok := by
  have := h.tbl.ok 0
  simpa [one, upd] using this
theorem One.drew {w wr : World} {s : FS} (h : One w wr s) : One w wr.drew s := ⟨h.tbl.drew, h.below.drew⟩
theorem One.drewN {w wr : World} {s : FS} (h : One w wr s) (n : Nat) : One w (wr.drewN n) s := ⟨h.tbl.drewN n, below_drewN h.below n⟩
theorem One.more {w wr w' : World} {s : FS} (h : One w wr s) (k : Below wr.heap.size wr w') : One w w' s := ⟨h.tbl.more k, h.below.trans (k.mono h.below.size)⟩
theorem One.set {w wr : World} {s t : FS} (h : One w wr s) (ht : t.ok) : One w (wr.setRow w.heap.size (cellsT 1 (one t))) t := ⟨h.tbl.set (ok_one ht), below_setRow h.below (Nat.le_refl _) _⟩
theorem new1 (w : World) :
    Calls Try.prog 7 #[.int .i64 1] w fun e w' => e = .returned (.tuple #[.pointer (some ⟨w.heap.size + 1, 0, none⟩), .int .i64 0]) ∧ One w w' noFS := by
  refine (new_ok 1 w (by omega) (by omega)).mono ?_
  rintro e w' ⟨rfl, h1, h2⟩
  exact ⟨rfl, by rw [one_no]; exact h1, h2⟩
theorem retype1 {w wr : World} {s : FS} (to : Int) (q : Bool) (h : One w wr s) :
    Calls Try.prog 10 #[.pointer (some ⟨w.heap.size + 1, 0, none⟩), .int .i64 0, .int .i64 to, .bool q] wr fun e w' => e = .returned (.int .i64 (hRt to q s)) ∧ One w w' (gRt to q s) := by
  refine (retype_any _ _ 1 0 to q _ _ (by omega) (by omega) h.tbl).mono ?_
  rintro e w' ⟨rfl, rfl⟩
  rw [errA_one, mapA_one]
  exact ⟨rfl, h.set (ok_rt to q s h.ok)⟩
theorem untype1 {w wr : World} {s : FS} (now : Int) (pg : Bool) (h : One w wr s) :
    Calls Try.prog 12 #[.pointer (some ⟨w.heap.size + 1, 0, none⟩), .int .i64 0, .int .i64 now, .bool pg] wr fun e w' => e = .returned (.int .i64 (hUt s)) ∧ One w w' (gUt now pg s) := by
  refine (untype_any _ _ 1 0 now pg _ _ (by omega) (by omega) h.tbl).mono ?_
  rintro e w' ⟨rfl, rfl⟩
  rw [errA_one, mapA_one]
  exact ⟨rfl, h.set (ok_ut now pg s h.ok)⟩
theorem ref1 {w wr : World} {s : FS} (h : One w wr s) :
    Calls Try.prog 14 #[.pointer (some ⟨w.heap.size + 1, 0, none⟩), .int .i64 0] wr fun e w' => e = .returned (.int .i64 (hRf s)) ∧ One w w' (gRf s) := by
  refine (ref_any _ _ 1 0 _ _ (by omega) (by omega) h.tbl).mono ?_
  rintro e w' ⟨rfl, rfl⟩
  rw [errA_one, mapA_one]
  exact ⟨rfl, h.set (ok_rf s h.ok)⟩
theorem unref1 {w wr : World} {s : FS} (now : Int) (h : One w wr s) :
    Calls Try.prog 16 #[.pointer (some ⟨w.heap.size + 1, 0, none⟩), .int .i64 0, .int .i64 now] wr fun e w' => e = .returned (.int .i64 (hUr s)) ∧ One w w' (gUr now s) := by
  refine (unref_any _ _ 1 0 now _ _ (by omega) (by omega) h.tbl).mono ?_
  rintro e w' ⟨rfl, rfl⟩
  rw [errA_one, mapA_one]
  exact ⟨rfl, h.set (ok_ur now s h.ok)⟩
theorem type1 {w wr : World} {s : FS} (h : One w wr s) :
    Calls Try.prog 19 #[.pointer (some ⟨w.heap.size + 1, 0, none⟩), .int .i64 0] wr fun e w' => e = .returned (.int .i64 s.is) ∧ One w w' s := by
  refine (type_any _ _ 1 0 _ _ (by omega) (by omega) h.tbl).mono ?_
  rintro e w' ⟨rfl, hb⟩
  rw [toldA_one]
  exact ⟨rfl, h.more hb⟩
theorem count1 {w wr : World} {s : FS} (h : One w wr s) :
    Calls Try.prog 20 #[.pointer (some ⟨w.heap.size + 1, 0, none⟩), .int .i64 0] wr fun e w' => e = .returned (.int .i64 s.cnt) ∧ One w w' s := by
  refine (count_any _ _ 1 0 _ _ (by omega) (by omega) h.tbl).mono ?_
  rintro e w' ⟨rfl, hb⟩
  rw [toldA_one]
  exact ⟨rfl, h.more hb⟩
theorem freed1 {w wr : World} {s : FS} (h : One w wr s) :
    Calls Try.prog 21 #[.pointer (some ⟨w.heap.size + 1, 0, none⟩), .int .i64 0] wr fun e w' => e = .returned (.int .i64 s.fr) ∧ One w w' s := by
  refine (freed_any _ _ 1 0 _ _ (by omega) (by omega) h.tbl).mono ?_
  rintro e w' ⟨rfl, hb⟩
  rw [toldA_one]
  exact ⟨rfl, h.more hb⟩
theorem was1 {w wr : World} {s : FS} (h : One w wr s) :
    Calls Try.prog 22 #[.pointer (some ⟨w.heap.size + 1, 0, none⟩), .int .i64 0] wr fun e w' => e = .returned (.int .i64 s.was) ∧ One w w' s := by
  refine (was_any _ _ 1 0 _ _ (by omega) (by omega) h.tbl).mono ?_
  rintro e w' ⟨rfl, hb⟩
  rw [toldA_one]
  exact ⟨rfl, h.more hb⟩

end Go.Proofs.Ytiodocdbhjdfaaa
