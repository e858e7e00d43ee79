/- What each call of package mem answers, and what it does to the memory, for every argument that its types allow. -/
import Derived.Test.YtkodanflobclhaaDoorMemG
import Derived.Test.YtkodanflobclhaaDoorRows
import Derived.WalkKit
import Derived.ProofKit
import Derived.OpenShut
import Derived.Outline
import Derived.Deep.QuietTactic
import Derived.BigQuiet
namespace Go.Proofs.YtkodanflobclhaaDoor.Pmem
open Go.Proofs.YtkodanflobclhaaDoor.Pbase
open Go.RowKit
set_option linter.unusedVariables false

theorem len_some (p b N : Nat) (w : World) (hN : N ≤ 64) (hp : w.cell? ⟨p, 0, none⟩ = some (.slice (some ⟨b, 0, none⟩) N N)) :
    Calls Tryd.prog 34 #[.pointer (some ⟨p, 0, none⟩)] w fun e w' => e = .returned (.int .i64 N) ∧ w' = w := by
  go_enter Tryd.func34, Tryd.ntmps34
  go_wp2
  go_ret
  exact ⟨rfl, rfl⟩
theorem len_nil (w : World) :
    Calls Tryd.prog 34 #[.pointer none] w fun e w' => e = .returned (.int .i64 0) ∧ w' = w := by
  go_enter Tryd.func34, Tryd.ntmps34
  go_wp2
  go_ret
  exact ⟨rfl, rfl⟩
theorem len_zero (p : Nat) (w : World) (hp : w.cell? ⟨p, 0, none⟩ = some (.slice none 0 0)) :
    Calls Tryd.prog 34 #[.pointer (some ⟨p, 0, none⟩)] w fun e w' => e = .returned (.int .i64 0) ∧ w' = w := by
  go_enter Tryd.func34, Tryd.ntmps34
  go_wp2
  go_ret
  exact ⟨rfl, rfl⟩
theorem frame_ok (p b N f : Nat) (w : World) (hf : f < N) (hN : N ≤ 64) (hp : w.cell? ⟨p, 0, none⟩ = some (.slice (some ⟨b, 0, none⟩) N N)) :
    Calls Tryd.prog 47 #[.pointer (some ⟨p, 0, none⟩), .int .i64 f] w fun e w' => e = .returned (.tuple #[.pointer (some ⟨b, f * 36, none⟩), .int .i64 0]) ∧ w' = w := by
  have hfi : (f : Int) < (N : Int) := by omega
  have h0 : ((N : Int) == 0) = false := by simp; omega
  go_enter Tryd.func47, Tryd.ntmps47
  go_wp2_with (go_at_call 34; refine (len_some p b N _ hN hp).mono ?_; rintro e w' ⟨rfl, rfl⟩)
  go_ret2
  exact ⟨rfl, rfl⟩
theorem frame_bad (p b N : Nat) (f : Int) (w : World) (hf : ¬ (0 ≤ f ∧ f < N)) (hN1 : 1 ≤ N) (hN : N ≤ 64) (hp : w.cell? ⟨p, 0, none⟩ = some (.slice (some ⟨b, 0, none⟩) N N)) :
    Calls Tryd.prog 47 #[.pointer (some ⟨p, 0, none⟩), .int .i64 f] w fun e w' => e = .returned (.tuple #[.pointer none, .int .i64 1]) ∧ w' = w := by
  have h0 : ((N : Int) == 0) = false := by simp; omega
  by_cases hn : f < 0
  · clear hf
    go_enter Tryd.func47, Tryd.ntmps47
    go_wp2_with (go_at_call 34; refine (len_some p b N _ hN hp).mono ?_; rintro e w' ⟨rfl, rfl⟩)
    go_ret2
    exact ⟨rfl, rfl⟩
  · have hge : (N : Int) ≤ f := by omega
    clear hf
    go_enter Tryd.func47, Tryd.ntmps47
    go_wp2_with (go_at_call 34; refine (len_some p b N _ hN hp).mono ?_; rintro e w' ⟨rfl, rfl⟩)
    go_ret2
    exact ⟨rfl, rfl⟩
theorem frame_nil (f : Int) (w : World) :
    Calls Tryd.prog 47 #[.pointer none, .int .i64 f] w fun e w' => e = .returned (.tuple #[.pointer none, .int .i64 13]) ∧ w' = w := by
  go_enter Tryd.func47, Tryd.ntmps47
  go_wp2_with (go_at_call 34; refine (len_nil _).mono ?_; rintro e w' ⟨rfl, rfl⟩)
  go_ret2
  exact ⟨rfl, rfl⟩
theorem frame_zero' (p : Nat) (f : Int) (w : World) (hp : w.cell? ⟨p, 0, none⟩ = some (.slice none 0 0)) :
    Calls Tryd.prog 47 #[.pointer (some ⟨p, 0, none⟩), .int .i64 f] w fun e w' => e = .returned (.tuple #[.pointer none, .int .i64 13]) ∧ w' = w := by
  go_enter Tryd.func47, Tryd.ntmps47
  go_wp2_with (go_at_call 34; refine (len_zero p _ hp).mono ?_; rintro e w' ⟨rfl, rfl⟩)
  go_ret2
  exact ⟨rfl, rfl⟩
theorem word_ok (p b N f a : Nat) (w : World) (hf : f < N) (ha : a < 36) (hN : N ≤ 64) (hp : w.cell? ⟨p, 0, none⟩ = some (.slice (some ⟨b, 0, none⟩) N N)) :
    Calls Tryd.prog 36 #[.pointer (some ⟨p, 0, none⟩), .int .i64 f, .int .i64 a] w fun e w' => e = .returned (.tuple #[.pointer (some ⟨b, f * 36 + a, none⟩), .int .i64 0]) ∧ w' = w := by
  have hai : (a : Int) < 36 := by omega
  go_enter Tryd.func36, Tryd.ntmps36
  go_wp2_with (go_at_call 47; refine (frame_ok p b N f _ hf hN hp).mono ?_; rintro e w' ⟨rfl, rfl⟩)
  go_ret2
  exact ⟨rfl, rfl⟩
theorem word_badA (p b N f : Nat) (a : Int) (w : World) (hf : f < N) (ha : ¬ (0 ≤ a ∧ a < 36)) (hN : N ≤ 64) (hp : w.cell? ⟨p, 0, none⟩ = some (.slice (some ⟨b, 0, none⟩) N N)) :
    Calls Tryd.prog 36 #[.pointer (some ⟨p, 0, none⟩), .int .i64 f, .int .i64 a] w fun e w' => e = .returned (.tuple #[.pointer none, .int .i64 1]) ∧ w' = w := by
  by_cases hn : a < 0
  · clear ha
    go_enter Tryd.func36, Tryd.ntmps36
    go_wp2_with (go_at_call 47; refine (frame_ok p b N f _ hf hN hp).mono ?_; rintro e w' ⟨rfl, rfl⟩)
    go_ret2
    exact ⟨rfl, rfl⟩
  · have hge : 36 ≤ a := by omega
    clear ha
    go_enter Tryd.func36, Tryd.ntmps36
    go_wp2_with (go_at_call 47; refine (frame_ok p b N f _ hf hN hp).mono ?_; rintro e w' ⟨rfl, rfl⟩)
    go_ret2
    exact ⟨rfl, rfl⟩
theorem word_badF (p b N : Nat) (f a : Int) (w : World) (hf : ¬ (0 ≤ f ∧ f < N)) (hN1 : 1 ≤ N) (hN : N ≤ 64) (hp : w.cell? ⟨p, 0, none⟩ = some (.slice (some ⟨b, 0, none⟩) N N)) :
    Calls Tryd.prog 36 #[.pointer (some ⟨p, 0, none⟩), .int .i64 f, .int .i64 a] w fun e w' => e = .returned (.tuple #[.pointer none, .int .i64 1]) ∧ w' = w := by
  have HF : Hid (¬ (0 ≤ f ∧ f < N)) := hf
  clear hf
  go_enter Tryd.func36, Tryd.ntmps36
  go_wp2_with (go_at_call 47; refine (frame_bad p b N f _ HF.out hN1 hN hp).mono ?_; rintro e w' ⟨rfl, rfl⟩)
  go_ret2
  exact ⟨rfl, rfl⟩
theorem word_nil (f a : Int) (w : World) :
    Calls Tryd.prog 36 #[.pointer none, .int .i64 f, .int .i64 a] w fun e w' => e = .returned (.tuple #[.pointer none, .int .i64 13]) ∧ w' = w := by
  go_enter Tryd.func36, Tryd.ntmps36
  go_wp2_with (go_at_call 47; refine (frame_nil f _).mono ?_; rintro e w' ⟨rfl, rfl⟩)
  go_ret2
  exact ⟨rfl, rfl⟩
/-- No such word: whichever of the two numbers is wrong. -/
theorem word_bad (p b N : Nat) (f a : Int) (w : World) (hf : okW N f a = false) (hN1 : 1 ≤ N) (hN : N ≤ 64) (hp : w.cell? ⟨p, 0, none⟩ = some (.slice (some ⟨b, 0, none⟩) N N)) :
    Calls Tryd.prog 36 #[.pointer (some ⟨p, 0, none⟩), .int .i64 f, .int .i64 a] w fun e w' => e = .returned (.tuple #[.pointer none, .int .i64 1]) ∧ w' = w := by
  by_cases h : 0 ≤ f ∧ f < N
  · obtain ⟨n, rfl⟩ := Int.eq_ofNat_of_zero_le h.1
    exact word_badA p b N n a w (by omega) (by simp [okW, okF, h] at hf; omega) hN hp
  · exact word_badF p b N f a w h hN1 hN hp

theorem load_ok (p b N f a : Nat) (M : Nat → Nat → Int) (w : World) (hf : f < N) (ha : a < 36) (hN : N ≤ 64) (hM : MemIs w p b N M) :
    Calls Tryd.prog 26 #[.pointer (some ⟨p, 0, none⟩), .int .i64 f, .int .i64 a] w fun e w' => e = .returned (.tuple #[.int .u64 (M f a), .int .i64 0]) ∧ w' = w := by
  have hp := hM.cell
  have hc := hM.word hf ha
  obtain ⟨m, hm⟩ : ∃ m, m = M f a := ⟨_, rfl⟩
  rw [← hm] at hc ⊢
  clear hm hM
  go_enter Tryd.func26, Tryd.ntmps26
  go_wp2_with (go_at_call 36; refine (word_ok p b N f a _ hf ha hN hp).mono ?_; rintro e w' ⟨rfl, rfl⟩)
  go_ret2
  exact ⟨rfl, rfl⟩
theorem load_bad (p b N : Nat) (f a : Int) (w : World) (hf : okW N f a = false) (hN1 : 1 ≤ N) (hN : N ≤ 64) (hp : w.cell? ⟨p, 0, none⟩ = some (.slice (some ⟨b, 0, none⟩) N N)) :
    Calls Tryd.prog 26 #[.pointer (some ⟨p, 0, none⟩), .int .i64 f, .int .i64 a] w fun e w' => e = .returned (.tuple #[.int .u64 0, .int .i64 1]) ∧ w' = w := by
  go_enter Tryd.func26, Tryd.ntmps26
  go_wp2_with (go_at_call 36; refine (word_bad p b N f a _ hf hN1 hN hp).mono ?_; rintro e w' ⟨rfl, rfl⟩)
  go_ret2
  exact ⟨rfl, rfl⟩
theorem load_nil (f a : Int) (w : World) :
    Calls Tryd.prog 26 #[.pointer none, .int .i64 f, .int .i64 a] w fun e w' => e = .returned (.tuple #[.int .u64 0, .int .i64 13]) ∧ w' = w := by
  go_enter Tryd.func26, Tryd.ntmps26
  go_wp2_with (go_at_call 36; refine (word_nil f a _).mono ?_; rintro e w' ⟨rfl, rfl⟩)
  go_ret2
  exact ⟨rfl, rfl⟩
theorem store_ok (p b N f a : Nat) (v : Int) (M : Nat → Nat → Int) (w : World) (hf : f < N) (ha : a < 36) (hN : N ≤ 64) (hM : MemIs w p b N M) :
    Calls Tryd.prog 21 #[.pointer (some ⟨p, 0, none⟩), .int .i64 f, .int .i64 a, .int .u64 v] w fun e w' => e = .returned (.int .i64 0) ∧ w' = w.setCell ⟨b, f * 36 + a, none⟩ (.int .u64 v) := by
  have hp := hM.cell
  have hc := hM.word hf ha
  have hz := hM.free (f * 36 + a)
  clear hM
  go_enter Tryd.func21, Tryd.ntmps21
  go_wp2_with (go_at_call 36; refine (word_ok p b N f a _ hf ha hN hp).mono ?_; rintro e w' ⟨rfl, rfl⟩)
  go_ret
  exact ⟨rfl, rfl⟩
theorem store_bad (p b N : Nat) (f a : Int) (v : Int) (w : World) (hf : okW N f a = false) (hN1 : 1 ≤ N) (hN : N ≤ 64) (hp : w.cell? ⟨p, 0, none⟩ = some (.slice (some ⟨b, 0, none⟩) N N)) :
    Calls Tryd.prog 21 #[.pointer (some ⟨p, 0, none⟩), .int .i64 f, .int .i64 a, .int .u64 v] w fun e w' => e = .returned (.int .i64 1) ∧ w' = w := by
  go_enter Tryd.func21, Tryd.ntmps21
  go_wp2_with (go_at_call 36; refine (word_bad p b N f a _ hf hN1 hN hp).mono ?_; rintro e w' ⟨rfl, rfl⟩)
  go_ret
  exact ⟨rfl, rfl⟩
theorem store_nil (f a v : Int) (w : World) :
    Calls Tryd.prog 21 #[.pointer none, .int .i64 f, .int .i64 a, .int .u64 v] w fun e w' => e = .returned (.int .i64 13) ∧ w' = w := by
  go_enter Tryd.func21, Tryd.ntmps21
  go_wp2_with (go_at_call 36; refine (word_nil f a _).mono ?_; rintro e w' ⟨rfl, rfl⟩)
  go_ret
  exact ⟨rfl, rfl⟩

/-! ### One contract a call, whatever the arguments -/
theorem okW_split {N : Nat} {f a : Int} (h : okW N f a = true) : ∃ g c : Nat, f = g ∧ a = c ∧ g < N ∧ c < 36 := by
  simp [okW, okF] at h
  exact ⟨f.toNat, a.toNat, by omega, by omega, by omega, by omega⟩
theorem okF_split {N : Nat} {f : Int} (h : okF N f = true) : ∃ g : Nat, f = g ∧ g < N := by
  simp [okF] at h
  exact ⟨f.toNat, by omega, by omega⟩
theorem load_any (p b N : Nat) (f a : Int) (M : Nat → Nat → Int) (w : World) (hN1 : 1 ≤ N) (hN : N ≤ 64) (hM : MemIs w p b N M) :
    Calls Tryd.prog 26 #[.pointer (some ⟨p, 0, none⟩), .int .i64 f, .int .i64 a] w fun e w' => e = .returned (.tuple #[.int .u64 (ldM N M f a), .int .i64 (errW N f a)]) ∧ w' = w := by
  cases h : okW N f a
  · simp only [ldM, errW, h, Bool.false_eq_true, if_false]
    exact load_bad p b N f a w h hN1 hN hM.cell
  · simp only [ldM, errW, h, if_true]
    obtain ⟨g, c, rfl, rfl, hg, hc⟩ := okW_split h
    exact load_ok p b N g c M w hg hc hN hM
theorem store_any (p b N : Nat) (f a v : Int) (M : Nat → Nat → Int) (w : World) (hN1 : 1 ≤ N) (hN : N ≤ 64) (hM : MemIs w p b N M) :
    Calls Tryd.prog 21 #[.pointer (some ⟨p, 0, none⟩), .int .i64 f, .int .i64 a, .int .u64 v] w fun e w' => e = .returned (.int .i64 (errW N f a)) ∧ w' = w.setRow b (cellsM N (stW N M f a v)) := by
  cases h : okW N f a
  · simp only [stW, errW, h, Bool.false_eq_true, if_false, hM.self]
    exact store_bad p b N f a v w h hN1 hN hM.cell
  · obtain ⟨g, c, rfl, rfl, hg, hc⟩ := okW_split h
    rw [← hM.store hg hc]
    simp only [errW, h, if_true]
    exact store_ok p b N g c v M w hg hc hN hM

end Go.Proofs.YtkodanflobclhaaDoor.Pmem
