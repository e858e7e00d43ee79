/- The document's table: its Ref, Unref, Untype and Of, for every argument. -/
import Derived.Test.YtiodocdbhjdfaaaTypR
namespace Go.Proofs.Ytiodocdbhjdfaaa
open Go.RowKit
set_option linter.unusedVariables false

/-! ### Ref -/
theorem rref_bad (q r c N : Nat) (f : Int) (w : World) (hok : okF N f = false) (hN : N ≤ 64) (hp : w.cell? ⟨q, 0, none⟩ = some (.slice (some ⟨r, 0, none⟩) N c)) :
    Calls Try.prog 15 #[.pointer (some ⟨q, 0, none⟩), .int .i64 f] w fun e w' => e = .returned (.int .i64 1) ∧ w' = w := by
  go_enter Try.func15, Try.ntmps15
  go_wp2_with (go_at_call 25; refine (is_any q r c N f _ hN hp).mono ?_; rintro e w' ⟨rfl, rfl⟩)
  go_ret
  exact ⟨rfl, rfl⟩
theorem rref_ok (q r c N n : Nat) (i x : Int) (w : World) (hn : n < N) (hN : N ≤ 64) (hx0 : 0 ≤ x) (hx1 : x ≤ 1000) (hp : w.cell? ⟨q, 0, none⟩ = some (.slice (some ⟨r, 0, none⟩) N c)) (h0 : w.cell? ⟨r, n * 4, none⟩ = some (.int .i64 i)) (h1 : w.cell? ⟨r, n * 4 + 1, none⟩ = some (.int .i64 x)) (z1 : w.frozen? ⟨r, n * 4 + 1, none⟩ = false) :
    Calls Try.prog 15 #[.pointer (some ⟨q, 0, none⟩), .int .i64 n] w fun e w' => e = .returned (.int .i64 (if i = 0 then 4 else if x < 1000 then 0 else 2)) ∧ w' = if i = 0 then w else if x < 1000 then w.setCell ⟨r, n * 4 + 1, none⟩ (.int .i64 (x + 1)) else w := by
  have hok := okF_nat hn
  have hni : (n : Int) < (N : Int) := by omega
  by_cases hi : i = 0
  · subst hi
    simp only [if_true]
    go_enter Try.func15, Try.ntmps15
    go_wp2_with (go_at_call 25; refine (is_any q r c N n _ hN hp).mono ?_; rintro e w' ⟨rfl, rfl⟩)
    go_ret
    exact ⟨rfl, rfl⟩
  · have hi' : (i == 0) = false := by simpa using hi
    by_cases h : x < 1000
    · simp only [hi, h, if_true, if_false]
      have h' : ¬ (1000 : Int) ≤ x := by omega
      go_enter Try.func15, Try.ntmps15
      go_wp2_with (go_at_call 25; refine (is_any q r c N n _ hN hp).mono ?_; rintro e w' ⟨rfl, rfl⟩)
      go_ret
      exact ⟨rfl, rfl⟩
    · simp only [hi, h, if_false]
      have h' : (1000 : Int) ≤ x := by omega
      clear h
      go_enter Try.func15, Try.ntmps15
      go_wp2_with (go_at_call 25; refine (is_any q r c N n _ hN hp).mono ?_; rintro e w' ⟨rfl, rfl⟩)
      go_ret
      exact ⟨rfl, rfl⟩
theorem rref_any (base q N : Nat) (f : Int) (S : Nat → FS) (w : World) (hN : N ≤ 64) (hR : RefIs w base q N S) :
    Calls Try.prog 15 #[.pointer (some ⟨q, 0, none⟩), .int .i64 f] w fun e w' => e = .returned (.int .i64 (errA N S f hRf)) ∧ RefIs w' base q N (mapA N S f gRf) ∧ Below base w w' := by
  obtain ⟨r, c, h⟩ := id hR
  cases hk : okF N f
  · simp only [errA, mapA, hk, Bool.false_eq_true, if_false]
    exact (rref_bad q r c N f w hk hN h.cell).mono fun _ _ ⟨h1, h2⟩ => ⟨h1, by rw [h2]; exact hR, by rw [h2]; exact Below.refl _ _⟩
  · obtain ⟨n, rfl, hn⟩ := okF_split hk
    simp only [errA, mapA, hk, if_true, Int.toNat_natCast]
    obtain ⟨g0, g1, g2, g3⟩ := h.list.at hn
    have hT : okA (upd S n (gRf (S n))) := by
      have := ok_map h.ok N n ok_rf
      simpa only [mapA, hk, if_true, Int.toNat_natCast] using this
    refine (rref_ok q r c N n _ _ w hn hN (h.ok n).1 (h.ok n).2 h.cell g0 g1 (h.list.free _)).mono ?_
    rintro e w' ⟨rfl, rfl⟩
    refine ⟨rfl, ?_⟩
    by_cases hi : (S n).is = 0
    · rw [if_pos hi]
      have e1 : gRf (S n) = S n := by simp [gRf, hi]
      rw [e1, upd_self]
      exact ⟨hR, Below.refl _ _⟩
    · rw [if_neg hi]
      by_cases hx : (S n).cnt < 1000
      · rw [if_pos hx]
        have e1 : gRf (S n) = setR (S n) 1 ((S n).cnt + 1) := by simp [gRf, hi, hx, setR]
        rw [e1] at hT ⊢
        exact ⟨⟨r, c, h.wrote (Below.heap_setCell _ _ _ _ h.ne) (h.list.put hn (by omega) _) hT⟩, (Below.refl _ _).setCell (p := ⟨r, n * 4 + 1, none⟩) h.ger _⟩
      · rw [if_neg hx]
        have e1 : gRf (S n) = S n := by simp [gRf, hi, hx]
        rw [e1, upd_self]
        exact ⟨hR, Below.refl _ _⟩

/-! ### Unref -/
theorem runref_bad (q r c N : Nat) (f now : Int) (w : World) (hok : okF N f = false) (hN : N ≤ 64) (hp : w.cell? ⟨q, 0, none⟩ = some (.slice (some ⟨r, 0, none⟩) N c)) :
    Calls Try.prog 17 #[.pointer (some ⟨q, 0, none⟩), .int .i64 f, .int .i64 now] w fun e w' => e = .returned (.int .i64 1) ∧ w' = w := by
  go_enter Try.func17, Try.ntmps17
  go_wp2_with (go_at_call 25; refine (is_any q r c N f _ hN hp).mono ?_; rintro e w' ⟨rfl, rfl⟩)
  go_ret
  exact ⟨rfl, rfl⟩
theorem runref_no (q r c N n : Nat) (now : Int) (w : World) (hn : n < N) (hN : N ≤ 64) (hp : w.cell? ⟨q, 0, none⟩ = some (.slice (some ⟨r, 0, none⟩) N c)) (h1 : w.cell? ⟨r, n * 4 + 1, none⟩ = some (.int .i64 0)) :
    Calls Try.prog 17 #[.pointer (some ⟨q, 0, none⟩), .int .i64 n, .int .i64 now] w fun e w' => e = .returned (.int .i64 3) ∧ w' = w := by
  have hok := okF_nat hn
  have hni : (n : Int) < (N : Int) := by omega
  go_enter Try.func17, Try.ntmps17
  go_wp2_with (go_at_call 25; refine (is_any q r c N n _ hN hp).mono ?_; rintro e w' ⟨rfl, rfl⟩)
  go_ret
  exact ⟨rfl, rfl⟩
theorem runref_some (q r c N n : Nat) (now x : Int) (w : World) (hn : n < N) (hN : N ≤ 64) (hx0 : 1 < x) (hx1 : x ≤ 1000) (hne : q ≠ r) (hp : w.cell? ⟨q, 0, none⟩ = some (.slice (some ⟨r, 0, none⟩) N c)) (h1 : w.cell? ⟨r, n * 4 + 1, none⟩ = some (.int .i64 x)) (z1 : w.frozen? ⟨r, n * 4 + 1, none⟩ = false) :
    Calls Try.prog 17 #[.pointer (some ⟨q, 0, none⟩), .int .i64 n, .int .i64 now] w fun e w' => e = .returned (.int .i64 0) ∧ w' = w.setCell ⟨r, n * 4 + 1, none⟩ (.int .i64 (x - 1)) := by
  have hok := okF_nat hn
  have hni : (n : Int) < (N : Int) := by omega
  have k1 : (x == 0) = false := by simp; omega
  have k2 : (x - 1 == 0) = false := by simp; omega
  have hne' : r ≠ q := Ne.symm hne
  go_enter Try.func17, Try.ntmps17
  go_wp2_with (go_at_call 25; refine (is_any q r c N n _ hN hp).mono ?_; rintro e w' ⟨rfl, rfl⟩)
  go_ret
  exact ⟨rfl, rfl⟩
theorem runref_last (q r c N n : Nat) (now y : Int) (w : World) (hn : n < N) (hN : N ≤ 64) (hne : q ≠ r) (hp : w.cell? ⟨q, 0, none⟩ = some (.slice (some ⟨r, 0, none⟩) N c)) (h1 : w.cell? ⟨r, n * 4 + 1, none⟩ = some (.int .i64 1)) (z1 : w.frozen? ⟨r, n * 4 + 1, none⟩ = false)
    (h2 : w.cell? ⟨r, n * 4 + 2, none⟩ = some (.int .i64 y)) (z2 : w.frozen? ⟨r, n * 4 + 2, none⟩ = false) :
    Calls Try.prog 17 #[.pointer (some ⟨q, 0, none⟩), .int .i64 n, .int .i64 now] w fun e w' => e = .returned (.int .i64 0) ∧ ∃ m, w' = ((w.setCell ⟨r, n * 4 + 1, none⟩ (.int .i64 0)).setCell ⟨r, n * 4 + 2, none⟩ (.int .i64 (mx y now))).drewN m := by
  have hok := okF_nat hn
  have hni : (n : Int) < (N : Int) := by omega
  have hne' : r ≠ q := Ne.symm hne
  by_cases hy : y < now
  · simp only [mx, hy, if_true]
    go_enter Try.func17, Try.ntmps17
    go_wp2_with (go_at_call 25; refine (is_any q r c N n _ hN hp).mono ?_; rintro e w' ⟨rfl, rfl⟩)
    go_region
    go_wp2
    go_ret
    exact ⟨rfl, 1, rfl⟩
  · simp only [mx, hy, if_false]
    go_enter Try.func17, Try.ntmps17
    go_wp2_with (go_at_call 25; refine (is_any q r c N n _ hN hp).mono ?_; rintro e w' ⟨rfl, rfl⟩)
    go_region
    go_wp2
    go_ret
    exact ⟨rfl, 1, rfl⟩
theorem runref_any (base q N : Nat) (f now : Int) (S : Nat → FS) (w : World) (hN : N ≤ 64) (hR : RefIs w base q N S) :
    Calls Try.prog 17 #[.pointer (some ⟨q, 0, none⟩), .int .i64 f, .int .i64 now] w fun e w' => e = .returned (.int .i64 (errA N S f hUr)) ∧ RefIs w' base q N (mapA N S f (gUr now)) ∧ Below base w w' := by
  obtain ⟨r, c, h⟩ := id hR
  cases hk : okF N f
  · simp only [errA, mapA, hk, Bool.false_eq_true, if_false]
    exact (runref_bad q r c N f now w hk hN h.cell).mono fun _ _ ⟨h1, h2⟩ => ⟨h1, by rw [h2]; exact hR, by rw [h2]; exact Below.refl _ _⟩
  · obtain ⟨n, rfl, hn⟩ := okF_split hk
    simp only [errA, mapA, hk, if_true, Int.toNat_natCast]
    obtain ⟨g0, g1, g2, g3⟩ := h.list.at hn
    obtain ⟨o1, o2⟩ := h.ok n
    have hT : okA (upd S n (gUr now (S n))) := by
      have := ok_map h.ok N n (ok_ur now)
      simpa only [mapA, hk, if_true, Int.toNat_natCast] using this
    by_cases hi : (S n).cnt = 0
    · have e1 : gUr now (S n) = S n := by simp [gUr, hi]
      have e2 : hUr (S n) = 3 := by simp [hUr, hi]
      rw [e1, e2, upd_self]
      exact (runref_no q r c N n now w hn hN h.cell (by rw [g1, hi])).mono fun _ _ ⟨h1, h2⟩ => ⟨h1, by rw [h2]; exact hR, by rw [h2]; exact Below.refl _ _⟩
    · have e2 : hUr (S n) = 0 := by simp [hUr, hi]
      rw [e2]
      by_cases h1 : (S n).cnt = 1
      · refine (runref_last q r c N n now _ w hn hN h.ne h.cell (by rw [g1, h1]) (h.list.free _) g2 (h.list.free _)).mono ?_
        rintro e w' ⟨rfl, m, rfl⟩
        have e1 : gUr now (S n) = setR (setR (S n) 1 0) 2 (mx (S n).fr now) := by simp [gUr, h1, setR]
        have hl := (h.list.put hn (k := 1) (by omega) 0).put hn (k := 2) (by omega) (mx (S n).fr now)
        simp only [upd_same, upd_upd] at hl
        rw [← e1] at hl
        refine ⟨rfl, RefIs.drewN ⟨r, c, h.wrote ?_ hl hT⟩ m, below_drewN (((Below.refl _ _).setCell (p := ⟨r, n * 4 + 1, none⟩) h.ger _).setCell (p := ⟨r, n * 4 + 2, none⟩) h.ger _) m⟩
        rw [Below.heap_setCell _ _ _ _ h.ne, Below.heap_setCell _ _ _ _ h.ne]
      · refine (runref_some q r c N n now _ w hn hN (by omega) o2 h.ne h.cell g1 (h.list.free _)).mono ?_
        rintro e w' ⟨rfl, rfl⟩
        have e1 : gUr now (S n) = setR (S n) 1 ((S n).cnt - 1) := by simp [gUr, hi, h1, setR]
        rw [e1] at hT ⊢
        exact ⟨rfl, ⟨r, c, h.wrote (Below.heap_setCell _ _ _ _ h.ne) (h.list.put hn (by omega) _) hT⟩, (Below.refl _ _).setCell (p := ⟨r, n * 4 + 1, none⟩) h.ger _⟩

/-! ### Of -/
/-- A frame as the document's value. -/
theorem rof_any (base q N : Nat) (f : Int) (S : Nat → FS) (w : World) (hN : N ≤ 64) (hR : RefIs w base q N S) :
    Calls Try.prog 18 #[.pointer (some ⟨q, 0, none⟩), .int .i64 f] w fun e w' => e = .returned (.agg #[.int .i64 (toldA N S f).is, .int .i64 (toldA N S f).cnt, .int .i64 (toldA N S f).fr, .int .i64 (toldA N S f).was]) ∧ Below w.heap.size w w' := by
  obtain ⟨r, c, h⟩ := id hR
  have hlt := h.lt
  have hltr := h.list.lt
  have HP : Hid (w.cell? ⟨q, 0, none⟩ = some (.slice (some ⟨r, 0, none⟩) N c)) := h.cell
  cases hk : okF N f
  · simp only [toldA, hk, Bool.false_eq_true, if_false]
    show Calls Try.prog 18 #[.pointer (some ⟨q, 0, none⟩), .int .i64 f] w fun e w' => e = .returned (.agg #[.int .i64 0, .int .i64 0, .int .i64 (-1), .int .i64 0]) ∧ Below w.heap.size w w'
    clear h hR
    go_enter Try.func18, Try.ntmps18
    go_wp2_with (go_at_call 25; refine (is_any q r c N f _ hN ((((Below.refl _ w).alloc (Nat.le_refl _) _).cell (p := ⟨q, 0, none⟩) hlt).trans HP.out)).mono ?_; rintro e w1 ⟨rfl, hw1⟩; subst w1)
    refine bodyPost_ret (v := .agg #[.int .i64 0, .int .i64 0, .int .i64 (-1), .int .i64 0]) (by simp [results, Try.results18, go_sem]) rfl ⟨rfl, ?_⟩
    repeat (first | exact Below.refl _ _ | (refine Below.setCell ?_ (by simp) _) | (refine Below.alloc ?_ (by simp) _))
  · obtain ⟨n, rfl, hn⟩ := okF_split hk
    simp only [toldA, hk, if_true, Int.toNat_natCast]
    have hni : (n : Int) < (N : Int) := by omega
    have M := (Below.refl w.heap.size w).alloc (Nat.le_refl _) (.cells #[.int .i64 0, .int .i64 0, .int .i64 0, .int .i64 0] 40)
    obtain ⟨g0, g1, g2, g3⟩ := h.list.at hn
    have k0 := (M.cell (p := ⟨r, n * 4, none⟩) hltr).trans g0
    have k1 := (M.cell (p := ⟨r, n * 4 + 1, none⟩) hltr).trans g1
    have k2 := (M.cell (p := ⟨r, n * 4 + 2, none⟩) hltr).trans g2
    have k3 := (M.cell (p := ⟨r, n * 4 + 3, none⟩) hltr).trans g3
    have kp := (M.cell (p := ⟨q, 0, none⟩) hlt).trans HP.out
    obtain ⟨y, hy⟩ : ∃ y, y = S n := ⟨_, rfl⟩
    rw [← hy] at k0 k1 k2 k3 ⊢
    obtain ⟨y0, y1, y2, y3⟩ := y
    simp only at k0 k1 k2 k3 ⊢
    clear hy g0 g1 g2 g3 M h hR
    go_enter Try.func18, Try.ntmps18
    go_wp2_with (go_at_call 25; refine (is_any q r c N n _ hN kp).mono ?_; rintro e w1 ⟨rfl, hw1⟩; subst w1)
    refine bodyPost_ret (v := .agg #[.int .i64 y0, .int .i64 y2, .int .i64 y3, .int .i64 y1]) (by simp [results, Try.results18, go_sem]) rfl ⟨rfl, ?_⟩
    repeat (first | exact Below.refl _ _ | (refine Below.setCell ?_ (by simp) _) | (refine Below.alloc ?_ (by simp) _))

/-! ### Untype -/
theorem runtype_bad (q r c N : Nat) (f now : Int) (b : Bool) (w : World) (hok : okF N f = false) (hN : N ≤ 64) (hp : w.cell? ⟨q, 0, none⟩ = some (.slice (some ⟨r, 0, none⟩) N c)) :
    Calls Try.prog 13 #[.pointer (some ⟨q, 0, none⟩), .int .i64 f, .int .i64 now, .bool b] w fun e w' => e = .returned (.int .i64 1) ∧ w' = w := by
  go_enter Try.func13, Try.ntmps13
  go_wp2_with (go_at_call 25; refine (is_any q r c N f _ hN hp).mono ?_; rintro e w' ⟨rfl, rfl⟩)
  go_ret
  exact ⟨rfl, rfl⟩
theorem runtype_no (q r c N n : Nat) (now : Int) (b : Bool) (i x y u e0 : Int) (w : World) (hn : n < N) (hN : N ≤ 64) (hp : w.cell? ⟨q, 0, none⟩ = some (.slice (some ⟨r, 0, none⟩) N c)) (h0 : w.cell? ⟨r, n * 4, none⟩ = some (.int .i64 i)) (h1 : w.cell? ⟨r, n * 4 + 1, none⟩ = some (.int .i64 x)) (h2 : w.cell? ⟨r, n * 4 + 2, none⟩ = some (.int .i64 y)) (h3 : w.cell? ⟨r, n * 4 + 3, none⟩ = some (.int .i64 u))
    (he : i = 0 ∧ e0 = 4 ∨ (i == 0) = false ∧ (x != 0) = true ∧ e0 = 10) :
    Calls Try.prog 13 #[.pointer (some ⟨q, 0, none⟩), .int .i64 n, .int .i64 now, .bool b] w fun e w' => e = .returned (.int .i64 e0) ∧ Below w.heap.size w w' := by
  have hok := okF_nat hn
  have hni : (n : Int) < (N : Int) := by omega
  rcases he with ⟨rfl, rfl⟩ | ⟨hi, hx, rfl⟩
  all_goals
    go_enter Try.func13, Try.ntmps13
    go_wp2_with (go_at_call 25; refine (is_any q r c N n _ hN hp).mono ?_; rintro e w' ⟨rfl, rfl⟩)
    go_ret
    exact ⟨rfl, by repeat (first | exact Below.refl _ _ | (refine Below.setCell ?_ (by simp) _) | (refine Below.alloc ?_ (by simp) _))⟩
set_option maxHeartbeats 1000000 in
theorem runtype_yes (q r c N n : Nat) (now : Int) (b : Bool) (i y u : Int) (w : World) (hn : n < N) (hN : N ≤ 64) (hne : q ≠ r) (hq : q < w.heap.size) (hr : r < w.heap.size) (hi : (i == 0) = false) (hi2 : i = 2 ∨ (i == 2) = false) (hp : w.cell? ⟨q, 0, none⟩ = some (.slice (some ⟨r, 0, none⟩) N c)) (h0 : w.cell? ⟨r, n * 4, none⟩ = some (.int .i64 i)) (h1 : w.cell? ⟨r, n * 4 + 1, none⟩ = some (.int .i64 0)) (h2 : w.cell? ⟨r, n * 4 + 2, none⟩ = some (.int .i64 y)) (h3 : w.cell? ⟨r, n * 4 + 3, none⟩ = some (.int .i64 u)) (hz : ∀ j, w.frozen? ⟨r, j, none⟩ = false) :
    Calls Try.prog 13 #[.pointer (some ⟨q, 0, none⟩), .int .i64 n, .int .i64 now, .bool b] w fun e w' => e = .returned (.int .i64 0) ∧ ∃ o, w' = (((((w.setCell ⟨r, n * 4, none⟩ (.int .i64 0)).setCell ⟨r, n * 4 + 1, none⟩ (.int .i64 0)).setCell ⟨r, n * 4 + 2, none⟩ (.int .i64 (mx y now))).setCell ⟨r, n * 4 + 3, none⟩ (.int .i64 (if i = 2 then (if b then 3 else 2) else i))).alloc o).drew := by
  have hok := okF_nat hn
  have hni : (n : Int) < (N : Int) := by omega
  have v0 := hz (n * 4)
  have v1 := hz (n * 4 + 1)
  have v2 := hz (n * 4 + 2)
  have v3 := hz (n * 4 + 3)
  clear hz
  by_cases hy : y < now
  · simp only [mx, hy, if_true]
    rcases hi2 with rfl | hi2
    · cases b
      all_goals
        simp only [Bool.false_eq_true, if_true, if_false]
        go_enter Try.func13, Try.ntmps13
        go_wp2_with (go_at_call 25; refine (is_any q r c N n _ hN hp).mono ?_; rintro e w' ⟨rfl, rfl⟩)
        go_region
        go_wp2
        go_ret
        exact ⟨rfl, _, rfl⟩
    · have hi3 : ¬ i = 2 := by simpa using hi2
      simp only [hi3, if_false]
      cases b
      all_goals
        go_enter Try.func13, Try.ntmps13
        go_wp2_with (go_at_call 25; refine (is_any q r c N n _ hN hp).mono ?_; rintro e w' ⟨rfl, rfl⟩)
        go_region
        go_wp2
        go_ret
        exact ⟨rfl, _, rfl⟩
  · simp only [mx, hy, if_false]
    rcases hi2 with rfl | hi2
    · cases b
      all_goals
        simp only [Bool.false_eq_true, if_true, if_false]
        go_enter Try.func13, Try.ntmps13
        go_wp2_with (go_at_call 25; refine (is_any q r c N n _ hN hp).mono ?_; rintro e w' ⟨rfl, rfl⟩)
        go_region
        go_wp2
        go_ret
        exact ⟨rfl, _, rfl⟩
    · have hi3 : ¬ i = 2 := by simpa using hi2
      simp only [hi3, if_false]
      cases b
      all_goals
        go_enter Try.func13, Try.ntmps13
        go_wp2_with (go_at_call 25; refine (is_any q r c N n _ hN hp).mono ?_; rintro e w' ⟨rfl, rfl⟩)
        go_region
        go_wp2
        go_ret
        exact ⟨rfl, _, rfl⟩
theorem fill4 {w : World} {r N : Nat} {S : Nat → FS} (h : ListR w r N S) {n : Nat} (hn : n < N) (a b c d : Int) :
    ListR ((((w.setCell ⟨r, n * 4, none⟩ (.int .i64 a)).setCell ⟨r, n * 4 + 1, none⟩ (.int .i64 b)).setCell ⟨r, n * 4 + 2, none⟩ (.int .i64 c)).setCell ⟨r, n * 4 + 3, none⟩ (.int .i64 d)) r N (upd S n ⟨a, d, b, c⟩) := by
  have := (((h.put0 hn a).put hn (k := 1) (by omega) b).put hn (k := 2) (by omega) c).put hn (k := 3) (by omega) d
  simp only [upd_same, upd_upd] at this
  simpa [setR] using this
theorem runtype_any (base q N : Nat) (f now : Int) (b : Bool) (S : Nat → FS) (w : World) (hN : N ≤ 64) (hbase : base ≤ w.heap.size) (hR : RefIs w base q N S) :
    Calls Try.prog 13 #[.pointer (some ⟨q, 0, none⟩), .int .i64 f, .int .i64 now, .bool b] w fun e w' => e = .returned (.int .i64 (errA N S f hUt)) ∧ RefIs w' base q N (mapA N S f (gUt now b)) ∧ Below base w w' := by
  obtain ⟨r, c, h⟩ := id hR
  cases hk : okF N f
  · simp only [errA, mapA, hk, Bool.false_eq_true, if_false]
    exact (runtype_bad q r c N f now b w hk hN h.cell).mono fun _ _ ⟨h1, h2⟩ => ⟨h1, by rw [h2]; exact hR, by rw [h2]; exact Below.refl _ _⟩
  · obtain ⟨n, rfl, hn⟩ := okF_split hk
    simp only [errA, mapA, hk, if_true, Int.toNat_natCast]
    obtain ⟨g0, g1, g2, g3⟩ := h.list.at hn
    obtain ⟨o1, o2⟩ := h.ok n
    have hT : okA (upd S n (gUt now b (S n))) := by
      have := ok_map h.ok N n (ok_ut now b)
      simpa only [mapA, hk, if_true, Int.toNat_natCast] using this
    by_cases hi : (S n).is = 0
    · have e1 : gUt now b (S n) = S n := by simp [gUt, hi]
      have e2 : hUt (S n) = 4 := by simp [hUt, hi]
      rw [e1, e2, upd_self]
      exact (runtype_no q r c N n now b _ _ _ _ 4 w hn hN h.cell g0 g1 g2 g3 (.inl ⟨hi, rfl⟩)).mono fun _ _ ⟨h1, h2⟩ => ⟨h1, hR.more h2, h2.mono hbase⟩
    · by_cases hx : (S n).cnt = 0
      · have e2 : hUt (S n) = 0 := by simp [hUt, hi, hx]
        have e1 : gUt now b (S n) = ⟨0, if (S n).is = 2 then (if b then 3 else 2) else (S n).is, 0, mx (S n).fr now⟩ := by simp [gUt, hi, hx]
        rw [e2, e1]
        rw [e1] at hT
        refine (runtype_yes q r c N n now b _ _ _ w hn hN h.ne h.lt h.list.lt (by simpa using hi) (by by_cases a : (S n).is = 2; exact .inl a; exact .inr (by simpa using a)) h.cell g0 (by rw [g1, hx]) g2 g3 (h.list.free)).mono ?_
        rintro e w' ⟨rfl, o, rfl⟩
        have hl := fill4 h.list hn 0 0 (mx (S n).fr now) (if (S n).is = 2 then (if b then 3 else 2) else (S n).is)
        have hB : Below base w ((((w.setCell ⟨r, n * 4, none⟩ (.int .i64 0)).setCell ⟨r, n * 4 + 1, none⟩ (.int .i64 0)).setCell ⟨r, n * 4 + 2, none⟩ (.int .i64 (mx (S n).fr now))).setCell ⟨r, n * 4 + 3, none⟩ (.int .i64 (if (S n).is = 2 then (if b then 3 else 2) else (S n).is))) := ((((Below.refl base w).setCell (p := ⟨r, n * 4, none⟩) h.ger _).setCell (p := ⟨r, n * 4 + 1, none⟩) h.ger _).setCell (p := ⟨r, n * 4 + 2, none⟩) h.ger _).setCell (p := ⟨r, n * 4 + 3, none⟩) h.ger _
        refine ⟨rfl, RefIs.drew (RefIs.more ⟨r, c, h.wrote ?_ hl hT⟩ ((Below.refl _ _).alloc (Nat.le_refl _) _)), (hB.alloc (Nat.le_trans hbase hB.size) _).drew⟩
        rw [Below.heap_setCell _ _ _ _ h.ne, Below.heap_setCell _ _ _ _ h.ne, Below.heap_setCell _ _ _ _ h.ne, Below.heap_setCell _ _ _ _ h.ne]
      · have e1 : gUt now b (S n) = S n := by simp [gUt, hi, hx]
        have e2 : hUt (S n) = 10 := by simp [hUt, hi, hx]
        rw [e1, e2, upd_self]
        exact (runtype_no q r c N n now b _ _ _ _ 10 w hn hN h.cell g0 g1 g2 g3 (.inr ⟨by simpa using hi, by simpa using hx, rfl⟩)).mono fun _ _ ⟨h1, h2⟩ => ⟨h1, hR.more h2, h2.mono hbase⟩

end Go.Proofs.Ytiodocdbhjdfaaa
