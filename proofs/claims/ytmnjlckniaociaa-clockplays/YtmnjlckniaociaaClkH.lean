/- The time is all cycles together, nobody entered or flushed behind it, floors never fall: plain lemmas on a clock of three cores; no program is named. -/
import Derived.Test.YtmnjlckniaociaaClkG
namespace Go.Proofs.Ytmnjlckniaociaa
open Go.RowKit
set_option linter.unusedVariables false

structure Good (s : CS) : Prop where
  sum : s.cy 0 + s.cy 1 + s.cy 2 = s.now
  en : ∀ i, i < 3 → s.en i ≤ s.now
  fl : ∀ i, i < 3 → s.fl i ≤ s.now
structure Onward (s s' : CS) : Prop where
  good : Good s'
  en : floE 3 s ≤ floE 3 s'
  fl : floF 3 s ≤ floF 3 s'
theorem good_new : Good (newS 3) := ⟨rfl, fun i h => by simp [newS, h], fun i h => by simp [newS, h]⟩
theorem leastN_mono {f g : Nat → Int} (n : Nat) (h : ∀ i, i ≤ n → f i ≤ g i) : leastN f n ≤ leastN g n := by
  obtain ⟨i, hi, e⟩ := leastN_ex g n
  rw [e]
  exact Int.le_trans (leastN_le f n i hi) (h i hi)
theorem onward_step {s : CS} (h : Good s) {c : Nat} (hc : c < 3) : Onward s (stepS 3 s c) := by
  unfold stepS
  rw [okF_nat hc]
  simp only [if_true]
  split
  · refine ⟨⟨?_, fun i hi => ?_, fun i hi => ?_⟩, Int.le_refl _, Int.le_refl _⟩
    · have := h.sum
      match c, hc with
      | 0, _ => simp; omega
      | 1, _ => simp; omega
      | 2, _ => simp; omega
    · have := h.en i hi
      simp only; omega
    · have := h.fl i hi
      simp only; omega
  · exact ⟨h, Int.le_refl _, Int.le_refl _⟩
theorem onward_enter {s : CS} (h : Good s) {c : Nat} (hc : c < 3) : Onward s (enterS 3 s c) := by
  unfold enterS
  rw [okF_nat hc]
  simp only [if_true, Int.toNat_natCast]
  refine ⟨⟨h.sum, fun i hi => ?_, h.fl⟩, leastN_mono _ fun i hi => ?_, Int.le_refl _⟩
  · have := h.en i hi
    simp only
    split <;> omega
  · have := h.en i (by omega)
    simp only
    split <;> omega
theorem onward_flush {s : CS} (h : Good s) {c : Nat} (hc : c < 3) : Onward s (flushS 3 s c) := by
  unfold flushS
  rw [okF_nat hc]
  simp only [if_true, Int.toNat_natCast]
  refine ⟨⟨h.sum, h.en, fun i hi => ?_⟩, Int.le_refl _, leastN_mono _ fun i hi => ?_⟩
  · have := h.fl i hi
    simp only
    split <;> omega
  · have := h.fl i (by omega)
    simp only
    split <;> omega
/-- The cycles of the first m cores. -/
def sumN (s : CS) : Nat → Int
  | 0 => 0
  | m + 1 => sumN s m + s.cy m
theorem sum3 {s : CS} (h : Good s) : sumN s 3 = s.now := by
  have := h.sum
  simp only [sumN]
  omega
theorem sumN_bound {s : CS} (h : s.ok) : ∀ m, m ≤ 3 → 0 ≤ sumN s m ∧ sumN s m ≤ 1073741824 * m
  | 0, _ => by simp [sumN]
  | m + 1, hm => by
    have ih := sumN_bound h m (by omega)
    have := h.2.2 m
    have h2 := h.2.1
    simp only [sumN]
    omega
theorem cyS_nat {N : Nat} {s : CS} {c : Nat} (h : c < N) : cyS N s c = s.cy c := by simp [cyS, okF_nat h]
theorem enS_nat {N : Nat} {s : CS} {c : Nat} (h : c < N) : enS N s c = s.en c := by simp [enS, okF_nat h]
theorem flS_nat {N : Nat} {s : CS} {c : Nat} (h : c < N) : flS N s c = s.fl c := by simp [flS, okF_nat h]
theorem bounds_u8 {z : Int} (h : (Lit.int .u8 z).wf = true) : 0 ≤ z ∧ z ≤ 255 := by
  have h' : (decide (IntKind.u8.min ≤ z) && decide (z ≤ IntKind.u8.max)) = true := h
  have e1 : IntKind.u8.min = 0 := by decide
  have e2 : IntKind.u8.max = 255 := by decide
  rw [e1, e2] at h'
  simpa using h'
/-- A remainder of a byte. -/
theorem rem_u8 {z : Int} (h : (Lit.int .u8 z).wf = true) (n : Nat) (hn : 1 ≤ n) : ∃ r : Nat, z.tmod n = r ∧ r < n := by
  have hz := bounds_u8 h
  have h1 := Int.emod_nonneg z (show (n : Int) ≠ 0 by omega)
  have h2 := Int.emod_lt_of_pos z (show (0 : Int) < n by omega)
  exact ⟨(z.tmod n).toNat, by rw [Int.tmod_eq_emod_of_nonneg hz.1]; omega, by rw [Int.tmod_eq_emod_of_nonneg hz.1]; omega⟩

end Go.Proofs.Ytmnjlckniaociaa
