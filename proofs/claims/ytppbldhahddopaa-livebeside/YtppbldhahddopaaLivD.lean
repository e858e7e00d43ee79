/- A table of which the first m ids were taken, in a row, and one of them killed: plain lemmas. -/
import Derived.Test.YtppbldhahddopaaLivC
namespace Go.Proofs.Ytppbldhahddopaa
open Go.RowKit
set_option linter.unusedVariables false

/-- The first m ids live, in their epoch 0. -/
def runS (m : Nat) : Nat → LS := fun i => if i < m then ⟨true, 0, 0⟩ else noLS
theorem run_0 : (fun _ => noLS) = runS 0 := by funext i; simp [runS]
theorem run_yes {m i : Nat} (h : i < m) : runS m i = ⟨true, 0, 0⟩ := by simp [runS, h]
theorem run_no {m i : Nat} (h : ¬ i < m) : runS m i = noLS := by simp [runS, h]
theorem may_no (fl : Int) : may fl noLS = true := by simp [may, noLS]
theorem may_on (fl : Int) {s : LS} (h : s.on = true) : may fl s = false := by simp [may, h]
theorem run_take {m : Nat} (h : m < 64) (fl : Int) : tkI 64 (runS m) fl = m ∧ tkE 64 (runS m) fl = 0 ∧ tkR 64 (runS m) fl = 0 ∧ tkS 64 (runS m) fl = runS (m + 1) := by
  have e : runS m m = noLS := run_no (Nat.lt_irrefl _)
  obtain ⟨q1, q2, q3, q4⟩ := tk_hit (N := 64) (S := runS m) (fl := fl) (k := m) h (by rw [e]; exact may_no fl) (fun j hj => may_on fl (by rw [run_yes hj]))
  refine ⟨q1, by rw [q2, e]; rfl, q3, ?_⟩
  rw [q4, e]
  funext i
  simp only [upd, runS]
  by_cases h1 : i = m
  · subst h1; simp [noLS]
  · simp only [h1, if_false]
    by_cases h2 : i < m
    · rw [if_pos h2, if_pos (by omega)]
    · rw [if_neg h2, if_neg (by omega)]
theorem run_full (fl : Int) : tkI 64 (runS 64) fl = 0 ∧ tkE 64 (runS 64) fl = 0 ∧ tkR 64 (runS 64) fl = 2 ∧ tkS 64 (runS 64) fl = runS 64 :=
  tk_miss fun j hj => may_on fl (by rw [run_yes hj])
/-- One of them was killed. -/
def kiS (m n : Nat) (now : Int) : Nat → LS := upd (runS m) n ⟨false, 1, now⟩
theorem run_kill {m n : Nat} (hm : m ≤ 64) (hn : n < m) (now : Int) : klR 64 (runS m) n 0 = 0 ∧ klS 64 (runS m) n 0 now = kiS m n now := by
  obtain ⟨q1, q2⟩ := kl_yes (N := 64) (S := runS m) (n := n) (e := 0) (now := now) (okF_nat (by omega)) (by rw [run_yes hn]; rfl)
  exact ⟨q1, q2⟩
theorem ki_kill {m n : Nat} (hm : m ≤ 64) (hn : n < m) (now e now' : Int) : klR 64 (kiS m n now) n e = 7 ∧ klS 64 (kiS m n now) n e now' = kiS m n now :=
  kl_no (okF_nat (by omega)) (by rw [kiS, upd_same]; rfl)
theorem ki_early {n : Nat} (hn : n < 64) (now : Int) : tkI 64 (kiS 64 n now) now = 0 ∧ tkE 64 (kiS 64 n now) now = 0 ∧ tkR 64 (kiS 64 n now) now = 2 ∧ tkS 64 (kiS 64 n now) now = kiS 64 n now :=
  tk_miss fun j hj => by
    by_cases e : j = n
    · subst e
      rw [kiS, upd_same]
      simp [may]
    · rw [kiS, upd_other _ _ e]
      exact may_on _ (by rw [run_yes hj])
theorem ki_late {n : Nat} (hn : n < 64) (now : Int) : tkI 64 (kiS 64 n now) (now + 1) = n ∧ tkE 64 (kiS 64 n now) (now + 1) = 1 ∧ tkR 64 (kiS 64 n now) (now + 1) = 0 ∧ tkS 64 (kiS 64 n now) (now + 1) = upd (runS 64) n ⟨true, 1, now⟩ := by
  have e : kiS 64 n now n = ⟨false, 1, now⟩ := upd_same _ _ _
  obtain ⟨q1, q2, q3, q4⟩ := tk_hit (N := 64) (S := kiS 64 n now) (fl := now + 1) (k := n) hn (by rw [e]; simp [may]; omega) (fun j hj => by
    rw [kiS, upd_other _ _ (by omega)]
    exact may_on _ (by rw [run_yes (by omega)]))
  refine ⟨q1, by rw [q2, e], q3, ?_⟩
  rw [q4, e, kiS, upd_upd]
theorem cnt_congr {S T : Nat → LS} {N : Nat} (h : ∀ j, j < N → (S j).on = (T j).on) : cnt S N = cnt T N := by
  induction N with
  | zero => rfl
  | succ N ih =>
    simp only [cnt]
    rw [ih fun j hj => h j (by omega), h N (by omega)]
theorem cnt_all {S : Nat → LS} {N : Nat} (h : ∀ j, j < N → (S j).on = true) : cnt S N = N := by
  induction N with
  | zero => rfl
  | succ N ih =>
    simp only [cnt]
    rw [ih fun j hj => h j (by omega), h N (by omega), if_pos rfl]
theorem cnt_run {m N : Nat} (h : m ≤ N) : cnt (runS m) N = m := by
  induction N with
  | zero => have : m = 0 := by omega
            subst this; rfl
  | succ N ih =>
    by_cases e : m = N + 1
    · subst e
      exact cnt_all fun j hj => by rw [run_yes hj]
    · simp only [cnt]
      rw [ih (by omega), run_no (by omega)]
      rfl
theorem cnt_off {S : Nat → LS} {n N : Nat} {s : LS} (hn : n < N) (h1 : (S n).on = true) (h2 : s.on = false) : cnt (upd S n s) N + 1 = cnt S N := by
  induction N with
  | zero => omega
  | succ N ih =>
    by_cases e : n = N
    · subst e
      simp only [cnt, upd_same, h1, h2, if_true]
      rw [cnt_congr (S := upd S n s) (T := S) fun j hj => by rw [upd_other _ _ (by omega)]]
      simp
    · simp only [cnt]
      rw [upd_other _ _ (show N ≠ n by omega)]
      have := ih (by omega)
      split <;> omega
theorem ki_late_count {n : Nat} (now : Int) : cnt (upd (runS 64) n ⟨true, 1, now⟩) 64 = 64 :=
  cnt_all fun j hj => by
    by_cases e : j = n
    · subst e; rw [upd_same]
    · rw [upd_other _ _ e, run_yes hj]
theorem ki_count {m n : Nat} (hm : m ≤ 64) (hn : n < m) (now : Int) : (cnt (kiS m n now) 64 : Int) = (m : Int) - 1 := by
  have := cnt_off (S := runS m) (n := n) (N := 64) (s := ⟨false, 1, now⟩) (by omega) (by rw [run_yes hn]) rfl
  rw [cnt_run hm] at this
  simp only [kiS]
  omega
theorem ki_valid {m n i : Nat} (hm : m ≤ 64) (hi : i < m) (now : Int) : vaA 64 (kiS m n now) i 0 = ((i : Int) != n) ∧ vaA 64 (kiS m n now) i 1 = false := by
  have hk : okF 64 (i : Int) = true := okF_nat (by omega)
  simp only [vaA, hk, Bool.true_and, Int.toNat_natCast]
  by_cases e : i = n
  · subst e
    rw [kiS, upd_same]
    simp [inE]
  · rw [kiS, upd_other _ _ e, run_yes hi]
    have : (i : Int) ≠ (n : Int) := by omega
    simp [inE, this]
end Go.Proofs.Ytppbldhahddopaa
