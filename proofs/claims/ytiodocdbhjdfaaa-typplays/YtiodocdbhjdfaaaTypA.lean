/- What the inner calls of package typ answer and do (nothing, frame, refusal, free, typed, told), for every argument that their types allow. -/
import Derived.Test.YtiodocdbhjdfaaaTypG
import Derived.Test.YtiodocdbhjdfaaaRows
import Derived.WalkKit
import Derived.ProofKit
import Derived.OpenShut
import Derived.Outline
import Derived.Deep.QuietTactic
import Derived.BigQuiet
namespace Go.Proofs.Ytiodocdbhjdfaaa
open Go.RowKit
set_option linter.unusedVariables false

theorem nothing_any (w : World) :
    Calls Try.prog 23 #[] w fun e w' => e = .returned (.agg #[.int .i64 0, .int .i64 0, .int .i64 0, .int .i64 (-1)]) ∧ w' = w.alloc (.cells #[.int .i64 0, .int .i64 0, .int .i64 0, .int .i64 (-1)] 51) := by
  go_enter Try.func23, Try.ntmps23
  go_wp2
  refine bodyPost_ret (v := .agg #[.int .i64 0, .int .i64 0, .int .i64 0, .int .i64 (-1)]) (by simp [results, Try.results23, go_sem]) rfl ⟨rfl, rfl⟩

/-! ### frame -/
theorem frame_ok (p r N n : Nat) (w : World) (hn : n < N) (hN : N ≤ 64) (hp : w.cell? ⟨p, 0, none⟩ = some (.slice (some ⟨r, 0, none⟩) N N)) :
    Calls Try.prog 24 #[.pointer (some ⟨p, 0, none⟩), .int .i64 n] w fun e w' => e = .returned (.tuple #[.pointer (some ⟨r, n * 4, none⟩), .int .i64 0]) ∧ w' = w := by
  have hni : (n : Int) < (N : Int) := by omega
  have h0 : ((N : Int) == 0) = false := by simp; omega
  go_enter Try.func24, Try.ntmps24
  go_wp2
  go_ret2
  exact ⟨rfl, rfl⟩
theorem frame_bad (p r N : Nat) (f : Int) (w : World) (hf : ¬ (0 ≤ f ∧ f < N)) (hN1 : 1 ≤ N) (hN : N ≤ 64) (hp : w.cell? ⟨p, 0, none⟩ = some (.slice (some ⟨r, 0, none⟩) N N)) :
    Calls Try.prog 24 #[.pointer (some ⟨p, 0, none⟩), .int .i64 f] w fun e w' => e = .returned (.tuple #[.pointer none, .int .i64 1]) ∧ w' = w := by
  have h0 : ((N : Int) == 0) = false := by simp; omega
  by_cases hn : f < 0
  · clear hf
    go_enter Try.func24, Try.ntmps24
    go_wp2
    go_ret2
    exact ⟨rfl, rfl⟩
  · have hge : (N : Int) ≤ f := by omega
    clear hf
    go_enter Try.func24, Try.ntmps24
    go_wp2
    go_ret2
    exact ⟨rfl, rfl⟩
theorem frame_nil (f : Int) (w : World) :
    Calls Try.prog 24 #[.pointer none, .int .i64 f] w fun e w' => e = .returned (.tuple #[.pointer none, .int .i64 13]) ∧ w' = w := by
  go_enter Try.func24, Try.ntmps24
  go_wp2
  go_ret2
  exact ⟨rfl, rfl⟩
theorem frame_zero (p : Nat) (f : Int) (w : World) (hp : w.cell? ⟨p, 0, none⟩ = some (.slice none 0 0)) :
    Calls Try.prog 24 #[.pointer (some ⟨p, 0, none⟩), .int .i64 f] w fun e w' => e = .returned (.tuple #[.pointer none, .int .i64 13]) ∧ w' = w := by
  go_enter Try.func24, Try.ntmps24
  go_wp2
  go_ret2
  exact ⟨rfl, rfl⟩

/-! ### refusal, free -/
theorem refusal_ut (r n : Nat) (i c : Int) (w : World) (h1 : w.cell? ⟨r, n * 4, none⟩ = some (.int .i64 i)) (h2 : w.cell? ⟨r, n * 4 + 2, none⟩ = some (.int .i64 c)) (hc : 0 ≤ c) :
    Calls Try.prog 29 #[.pointer (some ⟨r, n * 4, none⟩), .int .i64 0] w fun e w' => e = .returned (.int .i64 (if i = 0 then 4 else if c = 0 then 0 else 10)) ∧ w' = w := by
  by_cases hi : i = 0
  · subst hi
    simp only [if_true]
    go_enter Try.func29, Try.ntmps29
    go_wp2
    go_ret
    exact ⟨rfl, rfl⟩
  · have hi' : (i == 0) = false := by simpa using hi
    by_cases h : c = 0
    · subst h
      simp only [hi, if_true, if_false]
      go_enter Try.func29, Try.ntmps29
      go_wp2
      go_ret
      exact ⟨rfl, rfl⟩
    · simp only [hi, h, if_false]
      have h' : 0 < c := by omega
      clear h
      go_enter Try.func29, Try.ntmps29
      go_wp2
      go_ret
      exact ⟨rfl, rfl⟩
theorem refusal_rf (r n : Nat) (i c : Int) (w : World) (h1 : w.cell? ⟨r, n * 4, none⟩ = some (.int .i64 i)) (h2 : w.cell? ⟨r, n * 4 + 2, none⟩ = some (.int .i64 c)) :
    Calls Try.prog 29 #[.pointer (some ⟨r, n * 4, none⟩), .int .i64 1] w fun e w' => e = .returned (.int .i64 (if i = 0 then 4 else if c < 1000 then 0 else 2)) ∧ w' = w := by
  by_cases hi : i = 0
  · subst hi
    simp only [if_true]
    go_enter Try.func29, Try.ntmps29
    go_wp2
    go_ret
    exact ⟨rfl, rfl⟩
  · have hi' : (i == 0) = false := by simpa using hi
    by_cases h : c < 1000
    · simp only [hi, h, if_true, if_false]
      have h' : ¬ 999 < c := by omega
      go_enter Try.func29, Try.ntmps29
      go_wp2
      go_ret
      exact ⟨rfl, rfl⟩
    · simp only [hi, h, if_false]
      have h' : 999 < c := by omega
      clear h
      go_enter Try.func29, Try.ntmps29
      go_wp2
      go_ret
      exact ⟨rfl, rfl⟩
theorem free_any (r n : Nat) (x now : Int) (w : World) (h1 : w.cell? ⟨r, n * 4 + 3, none⟩ = some (.int .i64 x)) (z1 : w.frozen? ⟨r, n * 4 + 3, none⟩ = false) :
    Calls Try.prog 27 #[.pointer (some ⟨r, n * 4, none⟩), .int .i64 now] w fun e w' => e = .returned (.tuple #[]) ∧ w' = w.setCell ⟨r, n * 4 + 3, none⟩ (.int .i64 (mx x now)) := by
  by_cases h : x < now
  · simp only [mx, h, if_true]
    go_enter Try.func27, Try.ntmps27
    go_wp2
    all_goals
      go_end0
      exact ⟨rfl, rfl⟩
  · simp only [mx, h, if_false]
    go_enter Try.func27, Try.ntmps27
    go_wp2
    go_end0
    exact ⟨rfl, rfl⟩

/-! ### typed -/
theorem typed_bad (p r N : Nat) (f c : Int) (w : World) (hf : ¬ (0 ≤ f ∧ f < N)) (hN1 : 1 ≤ N) (hN : N ≤ 64) (hp : w.cell? ⟨p, 0, none⟩ = some (.slice (some ⟨r, 0, none⟩) N N)) :
    Calls Try.prog 26 #[.pointer (some ⟨p, 0, none⟩), .int .i64 f, .int .i64 c] w fun e w' => e = .returned (.tuple #[.pointer none, .int .i64 1]) ∧ w' = w := by
  have HF : Hid (¬ (0 ≤ f ∧ f < N)) := hf
  clear hf
  go_enter Try.func26, Try.ntmps26
  go_wp2_with (go_at_call 24; refine (frame_bad p r N f _ HF.out hN1 hN hp).mono ?_; rintro e w' ⟨rfl, rfl⟩)
  go_ret2
  exact ⟨rfl, rfl⟩
theorem typed_nil (f c : Int) (w : World) :
    Calls Try.prog 26 #[.pointer none, .int .i64 f, .int .i64 c] w fun e w' => e = .returned (.tuple #[.pointer none, .int .i64 13]) ∧ w' = w := by
  go_enter Try.func26, Try.ntmps26
  go_wp2_with (go_at_call 24; refine (frame_nil f _).mono ?_; rintro e w' ⟨rfl, rfl⟩)
  go_ret2
  exact ⟨rfl, rfl⟩
theorem typed_zero (p : Nat) (f c : Int) (w : World) (hp : w.cell? ⟨p, 0, none⟩ = some (.slice none 0 0)) :
    Calls Try.prog 26 #[.pointer (some ⟨p, 0, none⟩), .int .i64 f, .int .i64 c] w fun e w' => e = .returned (.tuple #[.pointer none, .int .i64 13]) ∧ w' = w := by
  go_enter Try.func26, Try.ntmps26
  go_wp2_with (go_at_call 24; refine (frame_zero p f _ hp).mono ?_; rintro e w' ⟨rfl, rfl⟩)
  go_ret2
  exact ⟨rfl, rfl⟩
theorem typed_ut (p r N n : Nat) (i c : Int) (w : World) (hn : n < N) (hN : N ≤ 64) (hp : w.cell? ⟨p, 0, none⟩ = some (.slice (some ⟨r, 0, none⟩) N N)) (h1 : w.cell? ⟨r, n * 4, none⟩ = some (.int .i64 i)) (h2 : w.cell? ⟨r, n * 4 + 2, none⟩ = some (.int .i64 c)) (hc : 0 ≤ c) :
    Calls Try.prog 26 #[.pointer (some ⟨p, 0, none⟩), .int .i64 n, .int .i64 0] w fun e w' => e = .returned (.tuple #[.pointer (some ⟨r, n * 4, none⟩), .int .i64 (if i = 0 then 4 else if c = 0 then 0 else 10)]) ∧ w' = w := by
  have HR := refusal_ut r n i c w h1 h2 hc
  obtain ⟨x, hx⟩ : ∃ x : Int, x = if i = 0 then 4 else if c = 0 then 0 else 10 := ⟨_, rfl⟩
  rw [← hx] at HR ⊢
  have HR' : Hid (Calls Try.prog 29 #[.pointer (some ⟨r, n * 4, none⟩), .int .i64 0] w fun e w' => e = .returned (.int .i64 x) ∧ w' = w) := HR
  clear hx HR
  go_enter Try.func26, Try.ntmps26
  go_wp2_with (first
    | (go_at_call 24; refine (frame_ok p r N n _ hn hN hp).mono ?_; rintro e w1 ⟨rfl, hw1⟩; subst w1)
    | (go_at_call 29; refine HR'.out.mono ?_; rintro e w2 ⟨rfl, hw2⟩; subst w2))
  go_ret2
  exact ⟨rfl, rfl⟩
theorem typed_rf (p r N n : Nat) (i c : Int) (w : World) (hn : n < N) (hN : N ≤ 64) (hp : w.cell? ⟨p, 0, none⟩ = some (.slice (some ⟨r, 0, none⟩) N N)) (h1 : w.cell? ⟨r, n * 4, none⟩ = some (.int .i64 i)) (h2 : w.cell? ⟨r, n * 4 + 2, none⟩ = some (.int .i64 c)) :
    Calls Try.prog 26 #[.pointer (some ⟨p, 0, none⟩), .int .i64 n, .int .i64 1] w fun e w' => e = .returned (.tuple #[.pointer (some ⟨r, n * 4, none⟩), .int .i64 (if i = 0 then 4 else if c < 1000 then 0 else 2)]) ∧ w' = w := by
  have HR := refusal_rf r n i c w h1 h2
  obtain ⟨x, hx⟩ : ∃ x : Int, x = if i = 0 then 4 else if c < 1000 then 0 else 2 := ⟨_, rfl⟩
  rw [← hx] at HR ⊢
  have HR' : Hid (Calls Try.prog 29 #[.pointer (some ⟨r, n * 4, none⟩), .int .i64 1] w fun e w' => e = .returned (.int .i64 x) ∧ w' = w) := HR
  clear hx HR
  go_enter Try.func26, Try.ntmps26
  go_wp2_with (first
    | (go_at_call 24; refine (frame_ok p r N n _ hn hN hp).mono ?_; rintro e w1 ⟨rfl, hw1⟩; subst w1)
    | (go_at_call 29; refine HR'.out.mono ?_; rintro e w2 ⟨rfl, hw2⟩; subst w2))
  go_ret2
  exact ⟨rfl, rfl⟩

/-! ### told -/
/-- A frame as a value. -/
def aggF (s : FS) : Value := .agg #[.int .i64 s.is, .int .i64 s.was, .int .i64 s.cnt, .int .i64 s.fr]
theorem told_bad (p r N : Nat) (f : Int) (w : World) (hf : ¬ (0 ≤ f ∧ f < N)) (hN1 : 1 ≤ N) (hN : N ≤ 64) (hp : w.cell? ⟨p, 0, none⟩ = some (.slice (some ⟨r, 0, none⟩) N N)) (hlt : p < w.heap.size) :
    Calls Try.prog 28 #[.pointer (some ⟨p, 0, none⟩), .int .i64 f] w fun e w' => e = .returned (.agg #[.int .i64 0, .int .i64 0, .int .i64 0, .int .i64 (-1)]) ∧ Below w.heap.size w w' := by
  have HF : Hid (¬ (0 ≤ f ∧ f < N)) := hf
  have HP : Hid (w.cell? ⟨p, 0, none⟩ = some (.slice (some ⟨r, 0, none⟩) N N)) := hp
  clear hf hp
  go_enter Try.func28, Try.ntmps28
  go_wp2_with (first
    | (go_at_call 24; refine (frame_bad p r N f _ HF.out hN1 hN ((((Below.refl _ w).alloc (Nat.le_refl _) _).cell (p := ⟨p, 0, none⟩) hlt).trans HP.out)).mono ?_; rintro e w' ⟨rfl, rfl⟩)
    | (go_at_call 23; refine (nothing_any _).mono ?_; rintro e w1 ⟨rfl, rfl⟩))
  refine bodyPost_ret (v := .agg #[.int .i64 0, .int .i64 0, .int .i64 0, .int .i64 (-1)]) (by simp [results, Try.results28, go_sem]) rfl ⟨rfl, ?_⟩
  repeat (first | exact Below.refl _ _ | (refine Below.setCell ?_ (by simp) _) | (refine Below.alloc ?_ (by simp) _))
theorem told_nil (f : Int) (w : World) :
    Calls Try.prog 28 #[.pointer none, .int .i64 f] w fun e w' => e = .returned (.agg #[.int .i64 0, .int .i64 0, .int .i64 0, .int .i64 (-1)]) ∧ Below w.heap.size w w' := by
  go_enter Try.func28, Try.ntmps28
  go_wp2_with (first
    | (go_at_call 24; refine (frame_nil f _).mono ?_; rintro e w' ⟨rfl, rfl⟩)
    | (go_at_call 23; refine (nothing_any _).mono ?_; rintro e w1 ⟨rfl, rfl⟩))
  refine bodyPost_ret (v := .agg #[.int .i64 0, .int .i64 0, .int .i64 0, .int .i64 (-1)]) (by simp [results, Try.results28, go_sem]) rfl ⟨rfl, ?_⟩
  repeat (first | exact Below.refl _ _ | (refine Below.setCell ?_ (by simp) _) | (refine Below.alloc ?_ (by simp) _))
theorem told_zero (p : Nat) (f : Int) (w : World) (hp : w.cell? ⟨p, 0, none⟩ = some (.slice none 0 0)) (hlt : p < w.heap.size) :
    Calls Try.prog 28 #[.pointer (some ⟨p, 0, none⟩), .int .i64 f] w fun e w' => e = .returned (.agg #[.int .i64 0, .int .i64 0, .int .i64 0, .int .i64 (-1)]) ∧ Below w.heap.size w w' := by
  have HP : Hid (w.cell? ⟨p, 0, none⟩ = some (.slice none 0 0)) := hp
  clear hp
  go_enter Try.func28, Try.ntmps28
  go_wp2_with (first
    | (go_at_call 24; refine (frame_zero p f _ ((((Below.refl _ w).alloc (Nat.le_refl _) _).cell (p := ⟨p, 0, none⟩) hlt).trans HP.out)).mono ?_; rintro e w' ⟨rfl, rfl⟩)
    | (go_at_call 23; refine (nothing_any _).mono ?_; rintro e w1 ⟨rfl, rfl⟩))
  refine bodyPost_ret (v := .agg #[.int .i64 0, .int .i64 0, .int .i64 0, .int .i64 (-1)]) (by simp [results, Try.results28, go_sem]) rfl ⟨rfl, ?_⟩
  repeat (first | exact Below.refl _ _ | (refine Below.setCell ?_ (by simp) _) | (refine Below.alloc ?_ (by simp) _))
theorem told_ok (p r N n : Nat) (x0 x1 x2 x3 : Int) (w : World) (hn : n < N) (hN : N ≤ 64) (hp : w.cell? ⟨p, 0, none⟩ = some (.slice (some ⟨r, 0, none⟩) N N)) (hlt : p < w.heap.size) (hr : r < w.heap.size)
    (h0 : w.cell? ⟨r, n * 4, none⟩ = some (.int .i64 x0)) (h1 : w.cell? ⟨r, n * 4 + 1, none⟩ = some (.int .i64 x1)) (h2 : w.cell? ⟨r, n * 4 + 2, none⟩ = some (.int .i64 x2)) (h3 : w.cell? ⟨r, n * 4 + 3, none⟩ = some (.int .i64 x3)) :
    Calls Try.prog 28 #[.pointer (some ⟨p, 0, none⟩), .int .i64 n] w fun e w' => e = .returned (.agg #[.int .i64 x0, .int .i64 x1, .int .i64 x2, .int .i64 x3]) ∧ Below w.heap.size w w' := by
  have HP : Hid (w.cell? ⟨p, 0, none⟩ = some (.slice (some ⟨r, 0, none⟩) N N)) := hp
  have M := (Below.refl w.heap.size w).alloc (Nat.le_refl _) (.cells #[.int .i64 0, .int .i64 0, .int .i64 0, .int .i64 0] 51)
  have g0 := (M.cell (p := ⟨r, n * 4, none⟩) hr).trans h0
  have g1 := (M.cell (p := ⟨r, n * 4 + 1, none⟩) hr).trans h1
  have g2 := (M.cell (p := ⟨r, n * 4 + 2, none⟩) hr).trans h2
  have g3 := (M.cell (p := ⟨r, n * 4 + 3, none⟩) hr).trans h3
  clear h0 h1 h2 h3 hp M
  go_enter Try.func28, Try.ntmps28
  go_wp2_with (go_at_call 24; refine (frame_ok p r N n _ hn hN ((((Below.refl _ w).alloc (Nat.le_refl _) _).cell (p := ⟨p, 0, none⟩) hlt).trans HP.out)).mono ?_; rintro e w1 ⟨rfl, hw1⟩; subst w1)
  refine bodyPost_ret (v := .agg #[.int .i64 x0, .int .i64 x1, .int .i64 x2, .int .i64 x3]) (by simp [results, Try.results28, go_sem]) rfl ⟨rfl, ?_⟩
  repeat (first | exact Below.refl _ _ | (refine Below.setCell ?_ (by simp) _) | (refine Below.alloc ?_ (by simp) _))

end Go.Proofs.Ytiodocdbhjdfaaa
