/- What Words of package mem answers, for every argument that its types allow; and that the program computes at all. -/
import Derived.Test.YtkodanflobclhaaDoorMemC
import Derived.Laws.CopyOwn
import Derived.Deep.WholeRow
namespace Go.Proofs.YtkodanflobclhaaDoor.Pmem
open Go.Proofs.YtkodanflobclhaaDoor.Pbase
open Go.RowKit
set_option linter.unusedVariables false

/-- The world behind Words: a list of its own. -/
def wordsW (w : World) (M : Nat → Nat → Int) (f : Nat) : World := w.alloc (.cells (frameM M f).toArray 58)
theorem wordsW_eq (w : World) (M : Nat → Nat → Int) (f : Nat) (Z : Array Value) (hZ : Z.size = 36) :
    (w.alloc (.cells Z 58)).setRow w.heap.size (Z.toList.take 0 ++ (frameM M f ++ Z.toList.drop (0 + (frameM M f).length))).toArray = wordsW w M f := by
  rw [World.setRow_alloc_new]
  have : Z.toList.drop (0 + (frameM M f).length) = [] := by rw [List.drop_eq_nil_iff]; simp [frameM_len, hZ]
  rw [this]
  simp [wordsW]
theorem wordSize : (Tryd.prog.info? 58).map (·.size) = some 1 := by kernel_rfl
set_option maxHeartbeats 1000000 in
theorem words_ok (p b N f : Nat) (M : Nat → Nat → Int) (w : World) (hf : f < N) (hN : N ≤ 64) (hM : MemIs w p b N M) :
    Calls Tryd.prog 33 #[.pointer (some ⟨p, 0, none⟩), .int .i64 f] w fun e w' => e = .returned (.tuple #[.slice (some ⟨w.heap.size, 0, none⟩) 36 36, .int .i64 0]) ∧ w' = wordsW w M f := by
  have hp := hM.cell
  have hmk := make_words
  have hb := hM.lt.2
  obtain ⟨Z, hZ⟩ : ∃ Z, Z = (frameM (fun _ _ => 0) 0).toArray := ⟨_, rfl⟩
  have hZs : Hid (Z.size = 36) := by rw [hZ]; show _ = _; rw [List.size_toArray, frameM_len]
  rw [← hZ] at hmk
  have HR : Hid (∀ j v, (frameM M f)[j]? = some v → (w.alloc (.cells Z 58)).cell? ((⟨b, f * 36, none⟩ : Addr).add j) = some v) := by
    intro j v hv
    rw [Addr.add_mid, World.cell?_alloc_lt _ _ _ hb]
    exact hM.range hf j v hv
  obtain ⟨C, hC⟩ : ∃ C, C = frameM M f := ⟨_, rfl⟩
  have HE := wordsW_eq w M f Z hZs.out
  have HL : Hid (C.length = 36) := by rw [hC]; exact frameM_len M f
  have H1 : Hid (∀ v ∈ C, v.oneCell' = true) := by rw [hC]; exact frameM_one M f
  obtain ⟨W, hW⟩ : ∃ W, W = wordsW w M f := ⟨_, rfl⟩
  rw [← hC] at HR
  rw [← hW, ← hC] at HE
  rw [← hW]
  have hcp : (Builtin.copy_ #[22, 22] 3 #[.slice (some ⟨w.heap.size, 0, none⟩) 36 36, .slice (some ⟨b, f * 36, none⟩) 36 36]).run Tryd.prog (w.alloc (.cells Z 58)) = .ok (.int .i64 36) W := by
    rw [← HE]
    have := run_copy_row (P := Tryd.prog) (w.alloc (.cells Z 58)) 22 22 3 58 w.heap.size 0 36 36 ⟨b, f * 36, none⟩ 36 36 Z 58 C Tryd.underlying22 wordSize (heap_alloc_new _ _) (by rw [HL.out]; rfl) HR.out (by rw [HL.out, hZs.out]; decide) H1.out
    rw [this, HL.out, List.append_assoc]
    rfl
  clear HE hW hC hZ hM HR HL H1 hZs
  go_enter Tryd.func33, Tryd.ntmps33
  go_wp2_with (go_at_call 47; refine (frame_ok p b N f _ hf hN hp).mono ?_; rintro e w' ⟨rfl, rfl⟩)
  go_ret2
  exact ⟨rfl, rfl⟩
theorem words_bad (p b N : Nat) (f : Int) (w : World) (hf : ¬ (0 ≤ f ∧ f < N)) (hN1 : 1 ≤ N) (hN : N ≤ 64) (hp : w.cell? ⟨p, 0, none⟩ = some (.slice (some ⟨b, 0, none⟩) N N)) :
    Calls Tryd.prog 33 #[.pointer (some ⟨p, 0, none⟩), .int .i64 f] w fun e w' => e = .returned (.tuple #[.slice none 0 0, .int .i64 1]) ∧ w' = w := by
  have HF : Hid (¬ (0 ≤ f ∧ f < N)) := hf
  clear hf
  go_enter Tryd.func33, Tryd.ntmps33
  go_wp2_with (go_at_call 47; refine (frame_bad p b N f _ HF.out hN1 hN hp).mono ?_; rintro e w' ⟨rfl, rfl⟩)
  go_ret2
  exact ⟨rfl, rfl⟩
theorem words_zero (p : Nat) (f : Int) (w : World) (hp : w.cell? ⟨p, 0, none⟩ = some (.slice none 0 0)) :
    Calls Tryd.prog 33 #[.pointer (some ⟨p, 0, none⟩), .int .i64 f] w fun e w' => e = .returned (.tuple #[.slice none 0 0, .int .i64 13]) ∧ w' = w := by
  go_enter Tryd.func33, Tryd.ntmps33
  go_wp2_with (go_at_call 47; refine (frame_zero' p f _ hp).mono ?_; rintro e w' ⟨rfl, rfl⟩)
  go_ret2
  exact ⟨rfl, rfl⟩
end Go.Proofs.YtkodanflobclhaaDoor.Pmem
