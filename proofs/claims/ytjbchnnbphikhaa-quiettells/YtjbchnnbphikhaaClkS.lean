/- The document's clock: one contract a call, whatever its arguments; its Floor. -/
import Derived.Test.YtjbchnnbphikhaaClkR
namespace Go.Proofs.Ytjbchnnbphikhaa
open Go.RowKit
set_option linter.unusedVariables false

theorem rstep_any (base q N : Nat) (f : Int) (s : CS) (w : World) (hN : N ≤ 4) (hR : RefIs w base q N s) :
    Calls Try.prog 10 #[.pointer (some ⟨q, 0, none⟩), .int .i64 f] w fun e w' => e = .returned (.int .i64 (errS N s f)) ∧ RefIs w' base q N (stepS N s f) ∧ Below base w w' := by
  obtain ⟨r1, r2, r3, c1, c2, c3, h⟩ := id hR
  cases hk : okF N f
  · simp only [errS, stepS, hk, Bool.false_eq_true, if_false]
    exact (rstep_bad q r1 c1 N f w hk hN h.c1).mono fun _ _ ⟨h1, h2⟩ => ⟨h1, by rw [h2]; exact hR, by rw [h2]; exact Below.refl _ _⟩
  · obtain ⟨c, rfl, hc⟩ := okF_split hk
    by_cases ht : s.now < 1073741824
    · have S := h.step hc ht
      have := rstep_ok q r1 c1 N c s.now (s.cy c) w hc hN h.ne.1 h.ok.1 ht (h.ok.2.2 c).1 (h.ok.2.2 c).2 h.c0 (h.free 0) h.c1 (h.l1.cell hc) (h.l1.free c)
      refine this.mono ?_
      rintro e w' ⟨h1, h2⟩
      refine ⟨by simp only [errS, hk, ht, if_true]; exact h1, by rw [h2]; exact ⟨r1, r2, r3, c1, c2, c3, S⟩, ?_⟩
      rw [h2]
      exact ((Below.refl _ _).setCell h.ge _).setCell h.g1 _
    · simp only [errS, stepS, hk, ht, if_true, if_false]
      exact (rstep_full q r1 c1 N c s.now w hc ht hN h.c0 h.c1).mono fun _ _ ⟨h1, h2⟩ => ⟨h1, by rw [h2]; exact hR, by rw [h2]; exact Below.refl _ _⟩
theorem renter_any (base q N : Nat) (f : Int) (s : CS) (w : World) (hN : N ≤ 4) (hR : RefIs w base q N s) :
    Calls Try.prog 12 #[.pointer (some ⟨q, 0, none⟩), .int .i64 f] w fun e w' => e = .returned (.int .i64 (errF N f)) ∧ RefIs w' base q N (enterS N s f) ∧ Below base w w' := by
  obtain ⟨r1, r2, r3, c1, c2, c3, h⟩ := id hR
  cases hk : okF N f
  · simp only [errF, enterS, hk, Bool.false_eq_true, if_false]
    exact (renter_bad q r1 c1 N f w hk hN h.c1).mono fun _ _ ⟨h1, h2⟩ => ⟨h1, by rw [h2]; exact hR, by rw [h2]; exact Below.refl _ _⟩
  · obtain ⟨c, rfl, hc⟩ := okF_split hk
    refine (renter_ok q r1 r2 c1 c2 N c s.now (s.en c) w hc hN h.c0 h.c1 h.c2 (h.l2.cell hc) (h.l2.free c)).mono ?_
    rintro e w' ⟨h1, h2⟩
    refine ⟨by simp only [errF, hk, if_true]; exact h1, by rw [h2]; exact RefIs.on ⟨r1, r2, r3, c1, c2, c3, h.enter hc⟩ (fun _ _ _ => rfl), ?_⟩
    rw [h2]
    exact ((Below.refl _ _).setCell h.g2 _).drew
theorem rflush_any (base q N : Nat) (f : Int) (s : CS) (w : World) (hN : N ≤ 4) (hR : RefIs w base q N s) :
    Calls Try.prog 14 #[.pointer (some ⟨q, 0, none⟩), .int .i64 f] w fun e w' => e = .returned (.int .i64 (errF N f)) ∧ RefIs w' base q N (flushS N s f) ∧ Below base w w' := by
  obtain ⟨r1, r2, r3, c1, c2, c3, h⟩ := id hR
  cases hk : okF N f
  · simp only [errF, flushS, hk, Bool.false_eq_true, if_false]
    exact (rflush_bad q r1 c1 N f w hk hN h.c1).mono fun _ _ ⟨h1, h2⟩ => ⟨h1, by rw [h2]; exact hR, by rw [h2]; exact Below.refl _ _⟩
  · obtain ⟨c, rfl, hc⟩ := okF_split hk
    refine (rflush_ok q r1 r3 c1 c3 N c s.now (s.fl c) w hc hN h.c0 h.c1 h.c3 (h.l3.cell hc) (h.l3.free c)).mono ?_
    rintro e w' ⟨h1, h2⟩
    refine ⟨by simp only [errF, hk, if_true]; exact h1, by rw [h2]; exact RefIs.on ⟨r1, r2, r3, c1, c2, c3, h.flush hc⟩ (fun _ _ _ => rfl), ?_⟩
    rw [h2]
    exact ((Below.refl _ _).setCell h.g3 _).drew
theorem rleast (r N cap : Nat) (f : Nat → Int) (w : World) (hN1 : 1 ≤ N) (hN : N ≤ 4) (h : ListIs w r N f) :
    Calls Try.prog 33 #[.slice (some ⟨r, 0, none⟩) N cap] w fun e w' => e = .returned (.int .i64 (leastN f (N - 1))) ∧ w' = w := by
  have hi0 : (0 : Int) < (N : Int) := by omega
  have g0 := h.cell (j := 0) (by omega)
  have HL : Hid (ListIs w r N f) := h
  clear h
  go_enter Try.func33, Try.ntmps33
  go_wp2
  go_loopw [3, 4] (fun n i wr => ∃ k : Nat, k ≤ N ∧ i = .int .i64 k ∧ n = .int .i64 (leastN f (k - 1)) ∧ wr = w) (fun _ i _ => N - (intOf i).toNat)
  case atStart => exact ⟨0, by omega, rfl, rfl, rfl⟩
  case round =>
    obtain ⟨k, hk, rfl, rfl, rfl⟩ := hrel
    clear g0
    by_cases hlt : k < N
    · have hki : (k : Int) < (N : Int) := by omega
      have g1 := HL.out.cell hlt
      obtain ⟨x, hx⟩ : ∃ x, x = f k := ⟨_, rfl⟩
      have HX : Hid (x = f k) := hx
      rw [← hx] at g1
      obtain ⟨m, hm⟩ : ∃ x, x = leastN f (k - 1) := ⟨_, rfl⟩
      have HM : Hid (m = leastN f (k - 1)) := hm
      rw [← hm]
      clear hx hm
      go_wp2
      go_roundw
      case rel =>
        refine ⟨k + 1, by omega, by go_num, ?_, by trivial⟩
        rw [HX.out, HM.out]
        cases k with
        | zero => simp [leastN]
        | succ k => simp [leastN]
      case measure => simp [intOf]; omega
    · obtain rfl : k = N := by omega
      go_wp2
      go_ret
      exact ⟨rfl, rfl⟩
theorem rfloor_any (base q N : Nat) (s : CS) (w : World) (hN1 : 1 ≤ N) (hN : N ≤ 4) (hR : RefIs w base q N s) :
    Calls Try.prog 29 #[.pointer (some ⟨q, 0, none⟩)] w fun e w' => e = .returned (.tuple #[.int .i64 (floE N s), .int .i64 (floF N s)]) ∧ ∃ n, w' = w.drewN n := by
  obtain ⟨r1, r2, r3, c1, c2, c3, h⟩ := id hR
  have hp2 := h.c2
  have hp3 := h.c3
  have H2 : Hid (ListIs w r2 N s.en) := h.l2
  have H3 : Hid (ListIs w r3 N s.fl) := h.l3
  clear h hR
  have t1 : True := trivial
  obtain ⟨x, hx⟩ : ∃ x, x = floE N s := ⟨_, rfl⟩
  obtain ⟨y, hy⟩ : ∃ x, x = floF N s := ⟨_, rfl⟩
  rw [← hx, ← hy]
  have L2 : Hid (∀ n, Calls Try.prog 33 #[.slice (some ⟨r2, 0, none⟩) N c2] (w.drewN n) fun e w' => e = .returned (.int .i64 x) ∧ w' = w.drewN n) := by
    intro n
    rw [hx]
    exact rleast r2 N c2 s.en _ hN1 hN (H2.out.on rfl)
  have L3 : Hid (∀ n, Calls Try.prog 33 #[.slice (some ⟨r3, 0, none⟩) N c3] (w.drewN n) fun e w' => e = .returned (.int .i64 y) ∧ w' = w.drewN n) := by
    intro n
    rw [hy]
    exact rleast r3 N c3 s.fl _ hN1 hN (H3.out.on rfl)
  clear hx hy H2 H3 t1
  go_enter Try.func29, Try.ntmps29
  go_wp2
  go_quiet (first
    | (go_at_call 33; with_reducible exact Calls.quiet_of_same (L2.out _))
    | (go_at_call 33; with_reducible exact Calls.quiet_of_same (L3.out _)))
  go_wp2
  go_ret2
  exact ⟨rfl, _, rfl⟩

end Go.Proofs.Ytjbchnnbphikhaa
