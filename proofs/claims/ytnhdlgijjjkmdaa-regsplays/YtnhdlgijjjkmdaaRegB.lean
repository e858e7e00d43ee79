/- What All and Load of package regs answer, and what they do to the registers, for every argument that their types allow; and that the program computes at all. -/
import Derived.Test.YtnhdlgijjjkmdaaRegA
import Derived.Laws.CopyOwn
import Derived.Deep.WholeRow
namespace Go.Proofs.Ytnhdlgijjjkmdaa
open Go.RowKit
set_option linter.unusedVariables false

theorem infoWord : (Try.prog.info? 33).map (fun i => (i.zero, i.size, i.bytes)) = some (some (.int .u64 0), 1, 8) := by kernel_rfl
theorem wordSize : (Try.prog.info? 33).map (·.size) = some 1 := by kernel_rfl
theorem made_words : madeCells #[.int .u64 0] 8 = (regL fun _ => 0).toArray := by
  apply Array.ext_getElem?
  intro i
  by_cases hi : i < 8
  · have e : (regL fun _ => 0).toArray[i]? = some (.int .u64 0) := by rw [List.getElem?_toArray]; exact regL_get hi
    rw [e]
    simp [madeCells, hi, Nat.mod_one]
  · rw [Array.getElem?_eq_none (by rw [size_madeCells]; omega), Array.getElem?_eq_none (by rw [List.size_toArray, regL_len]; omega)]
theorem make_words (w : World) :
    (Instr.makeSlice 24 (.int .i64 8) (.int .i64 8)).run Try.prog w = .ok (.slice (some ⟨w.heap.size, 0, none⟩) 8 8) (w.alloc (.cells (regL fun _ => 0).toArray 33)) := by
  obtain ⟨i0, hi, hz0, hz1, hz2⟩ := info_parts infoWord
  have := run_make (P := Try.prog) w 24 33 i0 _ Try.underlying24 hi hz0 .i64 .i64 8 8 (by omega) (by omega) (by rw [hz2]; omega) (by omega)
  rw [hz1] at this
  simpa [Value.cells, made_words] using this

/-- The world behind All: a list of its own. -/
def allW (w : World) (L : Nat → Int) : World := w.alloc (.cells (regL L).toArray 33)
theorem allW_is (w : World) (L : Nat → Int) : ListIs (allW w L) w.heap.size L :=
  ⟨_, heap_alloc_new _ _, fun j hj => by rw [List.getElem?_toArray]; exact regL_get hj⟩
theorem allW_below (w : World) (L : Nat → Int) : Below w.heap.size w (allW w L) := (Below.refl _ w).alloc (Nat.le_refl _) _
theorem allW_size (w : World) (L : Nat → Int) : (allW w L).heap.size = w.heap.size + 1 := by simp [allW]
theorem allW_eq (w : World) (L : Nat → Int) (Z : Array Value) (hZ : Z.size = 8) :
    (w.alloc (.cells Z 33)).setRow w.heap.size (Z.toList.take 0 ++ (regL L ++ Z.toList.drop (0 + (regL L).length))).toArray = allW w L := by
  rw [World.setRow_alloc_new]
  have : Z.toList.drop (0 + (regL L).length) = [] := by rw [List.drop_eq_nil_iff]; simp [regL_len, hZ]
  rw [this]
  simp [allW]
set_option maxHeartbeats 1000000 in
theorem all_any (p : Nat) (L : Nat → Int) (w : World) (h : FileIs w p L) :
    Calls Try.prog 16 #[.pointer (some ⟨p, 0, none⟩)] w fun e w' => e = .returned (.slice (some ⟨w.heap.size, 0, none⟩) 8 8) ∧ w' = allW w L := by
  have hp := h.made
  have hmk := make_words
  have hb := h.lt
  obtain ⟨Z, hZ⟩ : ∃ Z, Z = (regL fun _ => 0).toArray := ⟨_, rfl⟩
  have hZs : Hid (Z.size = 8) := by rw [hZ]; show _ = _; rw [List.size_toArray, regL_len]
  rw [← hZ] at hmk
  have HR : Hid (∀ j v, (regL L)[j]? = some v → (w.alloc (.cells Z 33)).cell? ((⟨p, 0, none⟩ : Addr).add j) = some v) := by
    intro j v hv
    rw [Addr.add_mid, World.cell?_alloc_lt _ _ _ hb]
    exact h.range j v hv
  obtain ⟨C, hC⟩ : ∃ C, C = regL L := ⟨_, rfl⟩
  have HE := allW_eq w L Z hZs.out
  have HL : Hid (C.length = 8) := by rw [hC]; exact regL_len L
  have H1 : Hid (∀ v ∈ C, v.oneCell' = true) := by rw [hC]; exact regL_one L
  obtain ⟨W, hW⟩ : ∃ W, W = allW w L := ⟨_, rfl⟩
  rw [← hC] at HR
  rw [← hW, ← hC] at HE
  rw [← hW]
  have hcp : (Builtin.copy_ #[24, 24] 3 #[.slice (some ⟨w.heap.size, 0, none⟩) 8 8, .slice (some ⟨p, 0, none⟩) 8 8]).run Try.prog (w.alloc (.cells Z 33)) = .ok (.int .i64 8) W := by
    rw [← HE]
    have := run_copy_row (P := Try.prog) (w.alloc (.cells Z 33)) 24 24 3 33 w.heap.size 0 8 8 ⟨p, 0, none⟩ 8 8 Z 33 C Try.underlying24 wordSize (heap_alloc_new _ _) (by rw [HL.out]; rfl) HR.out (by rw [HL.out, hZs.out]; decide) H1.out
    rw [this, HL.out, List.append_assoc]
    rfl
  clear HE hW hC hZ h HR HL H1 hZs
  go_enter Try.func16, Try.ntmps16
  go_wp2_with (go_at_call 20; refine (made_cell p true _ hp).mono ?_; rintro e w' ⟨rfl, rfl⟩)
  go_ret
  exact ⟨rfl, rfl⟩
theorem all_nil (w : World) :
    Calls Try.prog 16 #[.pointer none] w fun e w' => e = .returned (.slice none 0 0) ∧ w' = w := by
  go_enter Try.func16, Try.ntmps16
  go_wp2_with (go_at_call 20; refine (made_nil _).mono ?_; rintro e w' ⟨rfl, rfl⟩)
  go_ret
  exact ⟨rfl, rfl⟩
/-! ### Load -/
theorem load_zero (p : Nat) (a : Option Addr) (n c : Nat) (w : World) (hp : w.cell? ⟨p, 8, none⟩ = some (.bool false)) :
    Calls Try.prog 9 #[.pointer (some ⟨p, 0, none⟩), .slice a n c] w fun e w' => e = .returned (.int .i64 13) ∧ w' = w := by
  go_enter Try.func9, Try.ntmps9
  go_wp2_with (go_at_call 20; refine (made_cell p false _ hp).mono ?_; rintro e w' ⟨rfl, rfl⟩)
  go_ret
  exact ⟨rfl, rfl⟩
theorem load_bad (p : Nat) (a : Option Addr) (n c : Nat) (w : World) (hn : n ≠ 8) (hn63 : n ≤ 9223372036854775807) (hp : w.cell? ⟨p, 8, none⟩ = some (.bool true)) :
    Calls Try.prog 9 #[.pointer (some ⟨p, 0, none⟩), .slice a n c] w fun e w' => e = .returned (.int .i64 1) ∧ w' = w := by
  have hne : ((n : Int) == 8) = false := by simp; omega
  go_enter Try.func9, Try.ntmps9
  go_wp2_with (go_at_call 20; refine (made_cell p true _ hp).mono ?_; rintro e w' ⟨rfl, rfl⟩)
  go_ret
  exact ⟨rfl, rfl⟩
set_option maxHeartbeats 1000000 in
theorem load_ok (p b off c : Nat) (L A : Nat → Int) (w : World) (h : FileIs w p L) (hA : ∀ j, j < 8 → w.cell? ⟨b, off + j, none⟩ = some (.int .u64 (A j))) :
    Calls Try.prog 9 #[.pointer (some ⟨p, 0, none⟩), .slice (some ⟨b, off, none⟩) 8 c] w fun e w' => e = .returned (.int .i64 0) ∧ w' = w.setRow p (cellsF A) := by
  have hp := h.made
  have hcp : (Builtin.copy_ #[24, 24] 3 #[.slice (some ⟨p, 0, none⟩) 8 8, .slice (some ⟨b, off, none⟩) 8 c]).run Try.prog w = .ok (.int .i64 8) (w.setRow p (cellsF A)) := by
    have := run_copy_row (P := Try.prog) w 24 24 3 33 p 0 8 8 ⟨b, off, none⟩ 8 c (cellsF L) 47 (regL A) Try.underlying24 wordSize h (by rw [regL_len]; rfl)
      (fun j v hv => by
        have hj : j < 8 := by have := (List.getElem?_eq_some_iff.1 hv).1; rwa [regL_len] at this
        rw [Addr.add_mid, hA j hj, ← hv, regL_get hj]) (by rw [regL_len, cellsF_size]; decide) (regL_one A)
    rw [this, cells_put, regL_len]
    rfl
  obtain ⟨W, hW⟩ : ∃ W, W = w.setRow p (cellsF A) := ⟨_, rfl⟩
  rw [← hW] at hcp ⊢
  clear hW h hA
  go_enter Try.func9, Try.ntmps9
  go_wp2_with (go_at_call 20; refine (made_cell p true _ hp).mono ?_; rintro e w' ⟨rfl, rfl⟩)
  go_ret
  exact ⟨rfl, rfl⟩
theorem load_any (p : Nat) (a : Option Addr) (n c n₀ : Nat) (L A : Nat → Int) (w : World) (h : FileIs w p L) (hn63 : n ≤ 9223372036854775807) (hA : Eight n₀ w a n A) :
    Calls Try.prog 9 #[.pointer (some ⟨p, 0, none⟩), .slice a n c] w fun e w' => e = .returned (.int .i64 (errL n)) ∧ w' = w.setRow p (cellsF (loadR L n A)) := by
  by_cases h8 : n = 8
  · obtain ⟨b, off, rfl, _, hc⟩ := hA h8
    simp only [errL, loadR, h8, if_true]
    exact load_ok p b off c L A w h hc
  · simp only [errL, loadR, h8, if_false, h.self]
    exact load_bad p a n c w h8 hn63 h.made
/-! ### awake -/
theorem awake_any (w : World) : Calls Try.prog 18 #[] w fun e w' => e = .returned (.bool true) ∧ Below w.heap.size w w' := by
  have HB : Hid (Below w.heap.size w (allW (newW w) fun _ => 0)) := (newW_below w).trans ((allW_below _ _).mono (by rw [newW_size]; omega))
  go_enter Try.func18, Try.ntmps18
  go_wp2_with (first
    | (go_at_call 7; refine (new_any _).mono ?_; rintro e w' ⟨rfl, rfl⟩)
    | (go_at_call 16; refine (all_any _ _ _ (newW_is w)).mono ?_; rintro e w' ⟨rfl, hw'⟩; have HB' : Hid (Below w.heap.size w w') := (by rw [hw']; exact HB.out); clear hw'))
  go_ret
  exact ⟨rfl, HB'.out⟩

end Go.Proofs.Ytnhdlgijjjkmdaa
