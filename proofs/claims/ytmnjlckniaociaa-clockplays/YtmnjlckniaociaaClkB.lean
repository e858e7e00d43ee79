/- What New and Floor of package clock answer and do, for every argument; and what 'awake' of the statements answers. -/
import Derived.Test.YtmnjlckniaociaaClkA
import Derived.BigRegion
import Derived.Deep.RegionHeld3
namespace Go.Proofs.Ytmnjlckniaociaa
open Go.RowKit
set_option linter.unusedVariables false

theorem lastE (x y z : Int) (w : World) :
    Calls Try.prog 27 #[.agg #[.int .i64 x, .int .i64 y, .int .i64 z]] w fun e w' => e = .returned (.int .i64 y) ∧ More w w' := by
  go_enter Try.func27, Try.ntmps27
  go_wp2
  go_ret
  exact ⟨rfl, (More.refl _).alloc _ _⟩
theorem lastF (x y z : Int) (w : World) :
    Calls Try.prog 28 #[.agg #[.int .i64 x, .int .i64 y, .int .i64 z]] w fun e w' => e = .returned (.int .i64 z) ∧ More w w' := by
  go_enter Try.func28, Try.ntmps28
  go_wp2
  go_ret
  exact ⟨rfl, (More.refl _).alloc _ _⟩
theorem ClockIs.at {w : World} {p N : Nat} {s : CS} (h : ClockIs w p N s) {c : Nat} (hc : c < 3) : w.cell? ⟨p, 5 + c * 3, none⟩ = some (.int .i64 (s.cy (c + 1))) ∧ w.cell? ⟨p, 5 + c * 3 + 1, none⟩ = some (.int .i64 (s.en (c + 1))) ∧ w.cell? ⟨p, 5 + c * 3 + 2, none⟩ = some (.int .i64 (s.fl (c + 1))) := by
  have e : 5 + c * 3 = 2 + (c + 1) * 3 := by omega
  rw [e]
  exact ⟨h.cy (by omega), h.en (by omega), h.fl (by omega)⟩
theorem least_en (p N : Nat) (s : CS) (w : World) (hN1 : 1 ≤ N) (hN : N ≤ 4) (h : ClockIs w p N s) :
    Calls Try.prog 26 #[.slice (some ⟨p, 2, none⟩) N 4, .func (.func 27) #[] #[]] w fun e w' => e = .returned (.int .i64 (leastN s.en (N - 1))) ∧ More w w' := by
  have h0 : ((N : Int) == 0) = false := by simp; omega
  have h1 : (1 : Int) ≤ N := by omega
  have g1 := h.cy (c := 0) (by omega)
  have g2 := h.en (c := 0) (by omega)
  have g3 := h.fl (c := 0) (by omega)
  have HI : Hid (ClockIs w p N s) := h
  clear h
  go_enter Try.func26, Try.ntmps26
  go_wp2_with (go_at_call 27; refine (lastE _ _ _ _).mono ?_; rintro e w' ⟨rfl, hm⟩)
  have HM : Hid (More w w') := hm
  clear hm g1 g2 g3
  go_loopw [5, 19] (fun l i wr => ∃ k : Nat, k ≤ N - 1 ∧ i = .int .i64 k ∧ l = .int .i64 (leastN s.en k) ∧ More w wr) (fun _ i _ => N - 1 - (intOf i).toNat)
  case atStart => exact ⟨0, by omega, rfl, rfl, HM.out⟩
  case round =>
    obtain ⟨k, hk, rfl, rfl, hM⟩ := hrel
    have HR : Hid (More w wr) := hM
    by_cases hlt : k < N - 1
    · have hki : (k : Int) < ((N - 1 : Nat) : Int) := by omega
      obtain ⟨g1, g2, g3⟩ := (HI.out.more hM).at (c := k) (by omega)
      obtain ⟨x, hx⟩ : ∃ x, x = s.cy (k + 1) := ⟨_, rfl⟩
      obtain ⟨y, hy⟩ : ∃ x, x = s.en (k + 1) := ⟨_, rfl⟩
      obtain ⟨z, hz⟩ : ∃ x, x = s.fl (k + 1) := ⟨_, rfl⟩
      have HV : Hid (y = s.en (k + 1)) := hy
      rw [← hx] at g1
      rw [← hy] at g2
      rw [← hz] at g3
      clear hx hy hz hM HM
      obtain ⟨m, hm⟩ : ∃ m, m = leastN s.en k := ⟨_, rfl⟩
      have HL : Hid (m = leastN s.en k) := hm
      rw [← hm]
      clear hm
      go_wp2_with (go_at_call 27; refine (lastE _ _ _ _).mono ?_; rintro e w2 ⟨rfl, hm2⟩)
      have HM2 : Hid (More w w2) := (HR.out.alloc _ _).trans hm2
      clear hm2
      go_roundw
      case rel => exact ⟨k + 1, by omega, by go_num, by simp [leastN, HL.out, HV.out], HM2.out⟩
      case measure => simp [intOf]; omega
    · obtain rfl : k = N - 1 := by omega
      clear hM HM
      go_wp2
      go_ret
      exact ⟨rfl, HR.out⟩
theorem least_fl (p N : Nat) (s : CS) (w : World) (hN1 : 1 ≤ N) (hN : N ≤ 4) (h : ClockIs w p N s) :
    Calls Try.prog 26 #[.slice (some ⟨p, 2, none⟩) N 4, .func (.func 28) #[] #[]] w fun e w' => e = .returned (.int .i64 (leastN s.fl (N - 1))) ∧ More w w' := by
  have h0 : ((N : Int) == 0) = false := by simp; omega
  have h1 : (1 : Int) ≤ N := by omega
  have g1 := h.cy (c := 0) (by omega)
  have g2 := h.en (c := 0) (by omega)
  have g3 := h.fl (c := 0) (by omega)
  have HI : Hid (ClockIs w p N s) := h
  clear h
  go_enter Try.func26, Try.ntmps26
  go_wp2_with (go_at_call 28; refine (lastF _ _ _ _).mono ?_; rintro e w' ⟨rfl, hm⟩)
  have HM : Hid (More w w') := hm
  clear hm g1 g2 g3
  go_loopw [5, 19] (fun l i wr => ∃ k : Nat, k ≤ N - 1 ∧ i = .int .i64 k ∧ l = .int .i64 (leastN s.fl k) ∧ More w wr) (fun _ i _ => N - 1 - (intOf i).toNat)
  case atStart => exact ⟨0, by omega, rfl, rfl, HM.out⟩
  case round =>
    obtain ⟨k, hk, rfl, rfl, hM⟩ := hrel
    have HR : Hid (More w wr) := hM
    by_cases hlt : k < N - 1
    · have hki : (k : Int) < ((N - 1 : Nat) : Int) := by omega
      obtain ⟨g1, g2, g3⟩ := (HI.out.more hM).at (c := k) (by omega)
      obtain ⟨x, hx⟩ : ∃ x, x = s.cy (k + 1) := ⟨_, rfl⟩
      obtain ⟨y, hy⟩ : ∃ x, x = s.en (k + 1) := ⟨_, rfl⟩
      obtain ⟨z, hz⟩ : ∃ x, x = s.fl (k + 1) := ⟨_, rfl⟩
      have HV : Hid (z = s.fl (k + 1)) := hz
      rw [← hx] at g1
      rw [← hy] at g2
      rw [← hz] at g3
      clear hx hy hz hM HM
      obtain ⟨m, hm⟩ : ∃ m, m = leastN s.fl k := ⟨_, rfl⟩
      have HL : Hid (m = leastN s.fl k) := hm
      rw [← hm]
      clear hm
      go_wp2_with (go_at_call 28; refine (lastF _ _ _ _).mono ?_; rintro e w2 ⟨rfl, hm2⟩)
      have HM2 : Hid (More w w2) := (HR.out.alloc _ _).trans hm2
      clear hm2
      go_roundw
      case rel => exact ⟨k + 1, by omega, by go_num, by simp [leastN, HL.out, HV.out], HM2.out⟩
      case measure => simp [intOf]; omega
    · obtain rfl : k = N - 1 := by omega
      clear hM HM
      go_wp2
      go_ret
      exact ⟨rfl, HR.out⟩

/-! ### Floor -/
theorem floor_nil (w : World) :
    Calls Try.prog 16 #[.pointer none] w fun e w' => e = .returned (.tuple #[.int .i64 (-1), .int .i64 (-1)]) ∧ w' = w := by
  go_enter Try.func16, Try.ntmps16
  go_wp2
  go_ret2
  exact ⟨rfl, rfl⟩
theorem floor_any (p N : Nat) (s : CS) (w : World) (hN1 : 1 ≤ N) (hN : N ≤ 4) (h : ClockIs w p N s) :
    Calls Try.prog 16 #[.pointer (some ⟨p, 0, none⟩)] w fun e w' => e = .returned (.tuple #[.int .i64 (floE N s), .int .i64 (floF N s)]) ∧ More w w' := by
  have hp := h.cell
  have h1 : (1 : Int) ≤ N := by omega
  have h4 : (N : Int) ≤ 4 := by omega
  have HI : Hid (ClockIs w p N s) := h
  clear h
  obtain ⟨x, hx⟩ : ∃ x, x = floE N s := ⟨_, rfl⟩
  obtain ⟨y, hy⟩ : ∃ x, x = floF N s := ⟨_, rfl⟩
  rw [← hx, ← hy]
  have HX : Hid (floE N s = x) := hx.symm
  have HY : Hid (floF N s = y) := hy.symm
  clear hx hy
  go_enter Try.func16, Try.ntmps16
  go_wp2
  go_region
  have HD : Hid (ClockIs w.drew p N s) := HI.out.on rfl
  go_wp2_with (first
    | (go_at_call 26; refine (least_en p N s _ hN1 hN HD.out).mono ?_; rintro e w1 ⟨rfl, hm1⟩; have HM1 : Hid (More w w1) := ((More.refl w).drew).trans hm1; clear hm1 HD)
    | (go_at_call 26; refine (least_fl p N s _ hN1 hN (HI.out.more HM1.out)).mono ?_; rintro e w2 ⟨rfl, hm2⟩))
  go_ret2
  exact ⟨by rw [← HX.out, ← HY.out]; rfl, HM1.out.trans hm2⟩

/-! ### New -/
theorem new_bad (n : Int) (w : World) (h : ¬ (1 ≤ n ∧ n ≤ 4)) :
    Calls Try.prog 7 #[.int .i64 n] w fun e w' => e = .returned (.tuple #[.pointer none, .int .i64 1]) ∧ w' = w := by
  by_cases h1 : n < 1
  · clear h
    go_enter Try.func7, Try.ntmps7
    go_wp2
    go_ret2
    exact ⟨rfl, rfl⟩
  · have h2 : 4 < n := by omega
    clear h
    go_enter Try.func7, Try.ntmps7
    go_wp2
    go_ret2
    exact ⟨rfl, rfl⟩
theorem new_ok (N : Nat) (w : World) (hN1 : 1 ≤ N) (hN : N ≤ 4) :
    Calls Try.prog 7 #[.int .i64 N] w fun e w' => e = .returned (.tuple #[.pointer (some ⟨w.heap.size, 0, none⟩), .int .i64 0]) ∧ ClockIs w' w.heap.size N (newS N) ∧ Below w.heap.size w w' := by
  have h1 : (1 : Int) ≤ N := by omega
  have h2 : (N : Int) ≤ 4 := by omega
  go_enter Try.func7, Try.ntmps7
  go_wp2
  go_loopw [16] (fun i wr => ∃ k : Nat, k ≤ N ∧ i = .int .i64 k ∧ ClockIs wr w.heap.size N (newS k) ∧ Below w.heap.size w wr) (fun i _ => N - (intOf i).toNat)
  case atStart => exact ⟨0, by omega, rfl, ⟨heap_alloc_new _ _, newS_ok 0⟩, (Below.refl _ _).alloc (Nat.le_refl _) _⟩
  case round =>
    obtain ⟨k, hk, rfl, hI, hB⟩ := hrel
    have HI : Hid (ClockIs wr w.heap.size N (newS k)) := hI
    have HB : Hid (Below w.heap.size w wr) := hB
    clear hI hB
    by_cases hlt : k < N
    · have hki : (k : Int) < (N : Int) := by omega
      have hk4 : (k : Int) < 4 := by omega
      go_wp2
      go_region_with (go_at_call 24; (refine (nothing_any _).mono ?_; rintro e w1 ⟨rfl, hw1⟩; have HM : Hid (More wr w1) := (by rw [hw1]; exact ((More.refl wr).drew).alloc _ _); have HD : Hid (ClockIs w1 w.heap.size N (newS k)) := HI.out.more HM.out; clear hw1; have c1 := HD.out.cy (c := k) (by omega); have c2 := HD.out.en (c := k) (by omega); have c3 := HD.out.fl (c := k) (by omega); have z1 := HD.out.free (2 + k * 3); have z2 := HD.out.free (2 + k * 3 + 1); have z3 := HD.out.free (2 + k * 3 + 2)))
      have HS : Hid (ClockIs (w1.setRow w.heap.size (cellsC N (newS (k + 1)))) w.heap.size N (newS (k + 1))) := HD.out.set _ (newS_ok _)
      have HB1 : Hid (Below w.heap.size w (w1.setRow w.heap.size (cellsC N (newS (k + 1))))) := below_setRow (HB.out.trans (HM.out.below.mono HB.out.size)) (Nat.le_refl _) _
      rw [HD.out.lay (by omega)]
      clear c1 c2 c3 z1 z2 z3
      go_wp2
      go_roundw
      case rel => exact ⟨k + 1, by omega, by go_num, HS.out, HB1.out⟩
      case measure => simp [intOf]; omega
    · obtain rfl : k = N := by omega
      go_wp2
      go_ret2
      exact ⟨rfl, HI.out, HB.out⟩
theorem awake_any (w : World) : Calls Try.prog 9 #[] w fun e w' => e = .returned (.bool true) ∧ Below w.heap.size w w' := by
  have he : errS 1 (newS 1) 0 = 0 := rfl
  have hn : (stepS 1 (newS 1) 0).now = 1 := rfl
  go_enter Try.func9, Try.ntmps9
  go_wp2_with (first
    | (go_at_call 7; refine (new_ok 1 _ (by omega) (by omega)).mono ?_; rintro e w1 ⟨rfl, hc1, hb1⟩; have HC1 : Hid (ClockIs w1 w.heap.size 1 (newS 1)) := hc1; have HB1 : Hid (Below w.heap.size w w1) := hb1; clear hc1 hb1)
    | (go_at_call 10; refine (step_any _ 1 0 (newS 1) _ (by omega) (by omega) HC1.out).mono ?_; rintro e w2 ⟨rfl, hw2⟩; rw [he]; have HC2 : Hid (ClockIs w2 w.heap.size 1 (stepS 1 (newS 1) 0)) := (by rw [hw2]; exact HC1.out.set _ (ok_step (newS_ok 1) 1 0)); have HB2 : Hid (Below w.heap.size w w2) := (by rw [hw2]; exact below_setRow HB1.out (Nat.le_refl _) _); clear hw2)
    | (go_at_call 18; refine (now_some _ 1 _ HC2.out.now).mono ?_; rintro e w3 ⟨rfl, hw3⟩; subst hw3))
  go_ret
  exact ⟨rfl, HB2.out⟩

end Go.Proofs.Ytmnjlckniaociaa
