/- What each call of package clock answers, and what it does to the clock, for every argument that its types allow: all but New, Cycles and Floor. -/
import Derived.Test.YtjbchnnbphikhaaClkG
import Derived.Test.YtjbchnnbphikhaaRows
import Derived.ProofKit
import Derived.OpenShut
import Derived.Outline
import Derived.Deep.QuietTactic
namespace Go.Proofs.Ytjbchnnbphikhaa
open Go.RowKit
set_option linter.unusedVariables false

/-! ### The number of cores, the time -/
theorem cores_some (p N : Nat) (w : World) (hp : w.cell? ⟨p, 0, none⟩ = some (.int .i64 N)) :
    Calls Try.prog 28 #[.pointer (some ⟨p, 0, none⟩)] w fun e w' => e = .returned (.int .i64 N) ∧ w' = w := by
  go_enter Try.func28, Try.ntmps28
  go_wp2
  go_ret
  exact ⟨rfl, rfl⟩
theorem cores_nil (w : World) :
    Calls Try.prog 28 #[.pointer none] w fun e w' => e = .returned (.int .i64 0) ∧ w' = w := by
  go_enter Try.func28, Try.ntmps28
  go_wp2
  go_ret
  exact ⟨rfl, rfl⟩
theorem now_some (p : Nat) (t : Int) (w : World) (hp : w.cell? ⟨p, 1, none⟩ = some (.int .i64 t)) :
    Calls Try.prog 23 #[.pointer (some ⟨p, 0, none⟩)] w fun e w' => e = .returned (.int .i64 t) ∧ w' = w := by
  go_enter Try.func23, Try.ntmps23
  go_wp2
  go_ret
  exact ⟨rfl, rfl⟩
theorem nothing_any (w : World) :
    Calls Try.prog 24 #[] w fun e w' => e = .returned (.agg #[.int .i64 0, .int .i64 (-1), .int .i64 (-1)]) ∧ w' = w.alloc (.cells #[.int .i64 0, .int .i64 (-1), .int .i64 (-1)] 45) := by
  go_enter Try.func24, Try.ntmps24
  go_wp2
  refine bodyPost_ret (v := .agg #[.int .i64 0, .int .i64 (-1), .int .i64 (-1)]) (by simp [results, Try.results24, go_sem]) rfl ⟨rfl, rfl⟩

/-! ### core -/
theorem core_ok (p N c : Nat) (w : World) (hc : c < N) (hN : N ≤ 4) (hp : w.cell? ⟨p, 0, none⟩ = some (.int .i64 N)) :
    Calls Try.prog 25 #[.pointer (some ⟨p, 0, none⟩), .int .i64 c] w fun e w' => e = .returned (.tuple #[.pointer (some ⟨p, 2 + c * 3, none⟩), .int .i64 0]) ∧ w' = w := by
  have hci : (c : Int) < (N : Int) := by omega
  have hc4 : (c : Int) < 4 := by omega
  have h0 : ((N : Int) == 0) = false := by simp; omega
  go_enter Try.func25, Try.ntmps25
  go_wp2_with (go_at_call 28; refine (cores_some p N _ hp).mono ?_; rintro e w' ⟨rfl, rfl⟩)
  go_ret2
  exact ⟨rfl, rfl⟩
theorem core_bad (p N : Nat) (c : Int) (w : World) (hc : ¬ (0 ≤ c ∧ c < N)) (hN1 : 1 ≤ N) (hN : N ≤ 4) (hp : w.cell? ⟨p, 0, none⟩ = some (.int .i64 N)) :
    Calls Try.prog 25 #[.pointer (some ⟨p, 0, none⟩), .int .i64 c] w fun e w' => e = .returned (.tuple #[.pointer none, .int .i64 1]) ∧ w' = w := by
  have h0 : ((N : Int) == 0) = false := by simp; omega
  by_cases hn : c < 0
  · clear hc
    go_enter Try.func25, Try.ntmps25
    go_wp2_with (go_at_call 28; refine (cores_some p N _ hp).mono ?_; rintro e w' ⟨rfl, rfl⟩)
    go_ret2
    exact ⟨rfl, rfl⟩
  · have hge : (N : Int) ≤ c := by omega
    clear hc
    go_enter Try.func25, Try.ntmps25
    go_wp2_with (go_at_call 28; refine (cores_some p N _ hp).mono ?_; rintro e w' ⟨rfl, rfl⟩)
    go_ret2
    exact ⟨rfl, rfl⟩
theorem core_nil (c : Int) (w : World) :
    Calls Try.prog 25 #[.pointer none, .int .i64 c] w fun e w' => e = .returned (.tuple #[.pointer none, .int .i64 13]) ∧ w' = w := by
  go_enter Try.func25, Try.ntmps25
  go_wp2_with (go_at_call 28; refine (cores_nil _).mono ?_; rintro e w' ⟨rfl, rfl⟩)
  go_ret2
  exact ⟨rfl, rfl⟩
theorem core_zero (p : Nat) (c : Int) (w : World) (hp : w.cell? ⟨p, 0, none⟩ = some (.int .i64 0)) :
    Calls Try.prog 25 #[.pointer (some ⟨p, 0, none⟩), .int .i64 c] w fun e w' => e = .returned (.tuple #[.pointer none, .int .i64 13]) ∧ w' = w := by
  go_enter Try.func25, Try.ntmps25
  go_wp2_with (go_at_call 28; refine (cores_some p 0 _ hp).mono ?_; rintro e w' ⟨rfl, rfl⟩)
  go_ret2
  exact ⟨rfl, rfl⟩

/-! ### told -/
theorem told_bad (p N : Nat) (c : Int) (w : World) (hc : ¬ (0 ≤ c ∧ c < N)) (hN1 : 1 ≤ N) (hN : N ≤ 4) (hp : w.cell? ⟨p, 0, none⟩ = some (.int .i64 N)) (hlt : p < w.heap.size) :
    Calls Try.prog 34 #[.pointer (some ⟨p, 0, none⟩), .int .i64 c] w fun e w' => e = .returned (.agg #[.int .i64 0, .int .i64 (-1), .int .i64 (-1)]) ∧ More w w' := by
  have HC : Hid (¬ (0 ≤ c ∧ c < N)) := hc
  have HP : Hid (w.cell? ⟨p, 0, none⟩ = some (.int .i64 N)) := hp
  clear hc hp
  go_enter Try.func34, Try.ntmps34
  go_wp2_with (first
    | (go_at_call 25; refine (core_bad p N c _ HC.out hN1 hN ((((More.refl w).alloc _ _).cell hlt 0).trans HP.out)).mono ?_; rintro e w' ⟨rfl, rfl⟩)
    | (go_at_call 24; refine (nothing_any _).mono ?_; rintro e w' ⟨rfl, rfl⟩))
  refine bodyPost_ret (v := .agg #[.int .i64 0, .int .i64 (-1), .int .i64 (-1)]) (by simp [results, Try.results34, go_sem]) rfl ⟨rfl, ?_⟩
  repeat (first | exact More.refl _ | (refine More.setCell ?_ (by simp) _) | apply More.alloc)
theorem told_nil (c : Int) (w : World) :
    Calls Try.prog 34 #[.pointer none, .int .i64 c] w fun e w' => e = .returned (.agg #[.int .i64 0, .int .i64 (-1), .int .i64 (-1)]) ∧ More w w' := by
  go_enter Try.func34, Try.ntmps34
  go_wp2_with (first
    | (go_at_call 25; refine (core_nil c _).mono ?_; rintro e w' ⟨rfl, rfl⟩)
    | (go_at_call 24; refine (nothing_any _).mono ?_; rintro e w' ⟨rfl, rfl⟩))
  refine bodyPost_ret (v := .agg #[.int .i64 0, .int .i64 (-1), .int .i64 (-1)]) (by simp [results, Try.results34, go_sem]) rfl ⟨rfl, ?_⟩
  repeat (first | exact More.refl _ | (refine More.setCell ?_ (by simp) _) | apply More.alloc)
theorem told_zero (p : Nat) (c : Int) (w : World) (hp : w.cell? ⟨p, 0, none⟩ = some (.int .i64 0)) (hlt : p < w.heap.size) :
    Calls Try.prog 34 #[.pointer (some ⟨p, 0, none⟩), .int .i64 c] w fun e w' => e = .returned (.agg #[.int .i64 0, .int .i64 (-1), .int .i64 (-1)]) ∧ More w w' := by
  have HP : Hid (w.cell? ⟨p, 0, none⟩ = some (.int .i64 0)) := hp
  clear hp
  go_enter Try.func34, Try.ntmps34
  go_wp2_with (first
    | (go_at_call 25; refine (core_zero p c _ ((((More.refl w).alloc _ _).cell hlt 0).trans HP.out)).mono ?_; rintro e w' ⟨rfl, rfl⟩)
    | (go_at_call 24; refine (nothing_any _).mono ?_; rintro e w' ⟨rfl, rfl⟩))
  refine bodyPost_ret (v := .agg #[.int .i64 0, .int .i64 (-1), .int .i64 (-1)]) (by simp [results, Try.results34, go_sem]) rfl ⟨rfl, ?_⟩
  repeat (first | exact More.refl _ | (refine More.setCell ?_ (by simp) _) | apply More.alloc)
theorem told_ok (p N c : Nat) (s : CS) (w : World) (hc : c < N) (hN : N ≤ 4) (h : ClockIs w p N s) :
    Calls Try.prog 34 #[.pointer (some ⟨p, 0, none⟩), .int .i64 c] w fun e w' => e = .returned (.agg #[.int .i64 (s.cy c), .int .i64 (s.en c), .int .i64 (s.fl c)]) ∧ More w w' := by
  have hlt := h.lt
  have HP : Hid (w.cell? ⟨p, 0, none⟩ = some (.int .i64 N)) := h.cell
  obtain ⟨x, hx⟩ : ∃ x, x = s.cy c := ⟨_, rfl⟩
  obtain ⟨y, hy⟩ : ∃ x, x = s.en c := ⟨_, rfl⟩
  obtain ⟨z, hz⟩ : ∃ x, x = s.fl c := ⟨_, rfl⟩
  have M := (More.refl w).alloc #[.int .i64 0, .int .i64 0, .int .i64 0] 45
  have g1 := (M.cell hlt _).trans (h.cy (c := c) (by omega))
  have g2 := (M.cell hlt _).trans (h.en (c := c) (by omega))
  have g3 := (M.cell hlt _).trans (h.fl (c := c) (by omega))
  rw [← hx] at g1 ⊢
  rw [← hy] at g2 ⊢
  rw [← hz] at g3 ⊢
  clear hx hy hz h M
  go_enter Try.func34, Try.ntmps34
  go_wp2_with (first
    | (go_at_call 25; refine (core_ok p N c _ hc hN ((((More.refl w).alloc _ _).cell hlt 0).trans HP.out)).mono ?_; rintro e w' ⟨rfl, rfl⟩))
  refine bodyPost_ret (v := .agg #[.int .i64 x, .int .i64 y, .int .i64 z]) (by simp [results, Try.results34, go_sem]) rfl ⟨rfl, ?_⟩
  repeat (first | exact More.refl _ | (refine More.setCell ?_ (by simp) _) | apply More.alloc)
/-- What is told of a core, whatever its number. -/
theorem told_any (p N : Nat) (c : Int) (s : CS) (w : World) (hN1 : 1 ≤ N) (hN : N ≤ 4) (h : ClockIs w p N s) :
    Calls Try.prog 34 #[.pointer (some ⟨p, 0, none⟩), .int .i64 c] w fun e w' => e = .returned (.agg #[.int .i64 (cyS N s c), .int .i64 (enS N s c), .int .i64 (flS N s c)]) ∧ More w w' := by
  cases hk : okF N c
  · simp only [cyS, enS, flS, hk, Bool.false_eq_true, if_false]
    exact told_bad p N c w (okF_no hk) hN1 hN h.cell h.lt
  · obtain ⟨f, rfl, hf⟩ := okF_split hk
    simp only [cyS, enS, flS, hk, if_true, Int.toNat_natCast]
    exact told_ok p N f s w hf hN h
theorem entered_any (p N : Nat) (c : Int) (s : CS) (w : World) (hN1 : 1 ≤ N) (hN : N ≤ 4) (h : ClockIs w p N s) :
    Calls Try.prog 32 #[.pointer (some ⟨p, 0, none⟩), .int .i64 c] w fun e w' => e = .returned (.int .i64 (enS N s c)) ∧ More w w' := by
  have HT := told_any p N c s w hN1 hN h
  obtain ⟨x, hx⟩ : ∃ x, x = cyS N s c := ⟨_, rfl⟩
  obtain ⟨y, hy⟩ : ∃ x, x = enS N s c := ⟨_, rfl⟩
  obtain ⟨z, hz⟩ : ∃ x, x = flS N s c := ⟨_, rfl⟩
  rw [← hx, ← hy, ← hz] at HT
  rw [← hy]
  clear hx hy hz
  have hfd : ∀ (u v t : Int) (w : World), (Instr.field 45 (.agg #[.int .i64 u, .int .i64 v, .int .i64 t]) 1).run Try.prog w = .ok (.int .i64 v) w := fun _ _ _ _ => by kernel_rfl
  go_enter Try.func32, Try.ntmps32
  go_wp2_with (go_at_call 34; refine HT.mono ?_; rintro e w' ⟨rfl, hm⟩)
  go_ret
  exact ⟨rfl, hm⟩
theorem entered_nil (c : Int) (w : World) :
    Calls Try.prog 32 #[.pointer none, .int .i64 c] w fun e w' => e = .returned (.int .i64 (-1)) ∧ More w w' := by
  have hfd : ∀ (u v t : Int) (w : World), (Instr.field 45 (.agg #[.int .i64 u, .int .i64 v, .int .i64 t]) 1).run Try.prog w = .ok (.int .i64 v) w := fun _ _ _ _ => by kernel_rfl
  go_enter Try.func32, Try.ntmps32
  go_wp2_with (go_at_call 34; refine (told_nil c _).mono ?_; rintro e w' ⟨rfl, hm⟩)
  go_ret
  exact ⟨rfl, hm⟩
theorem entered_zero (p : Nat) (c : Int) (w : World) (hp : w.cell? ⟨p, 0, none⟩ = some (.int .i64 0)) (hlt : p < w.heap.size) :
    Calls Try.prog 32 #[.pointer (some ⟨p, 0, none⟩), .int .i64 c] w fun e w' => e = .returned (.int .i64 (-1)) ∧ More w w' := by
  have hfd : ∀ (u v t : Int) (w : World), (Instr.field 45 (.agg #[.int .i64 u, .int .i64 v, .int .i64 t]) 1).run Try.prog w = .ok (.int .i64 v) w := fun _ _ _ _ => by kernel_rfl
  go_enter Try.func32, Try.ntmps32
  go_wp2_with (go_at_call 34; refine (told_zero p c _ hp hlt).mono ?_; rintro e w' ⟨rfl, hm⟩)
  go_ret
  exact ⟨rfl, hm⟩
theorem flushed_any (p N : Nat) (c : Int) (s : CS) (w : World) (hN1 : 1 ≤ N) (hN : N ≤ 4) (h : ClockIs w p N s) :
    Calls Try.prog 31 #[.pointer (some ⟨p, 0, none⟩), .int .i64 c] w fun e w' => e = .returned (.int .i64 (flS N s c)) ∧ More w w' := by
  have HT := told_any p N c s w hN1 hN h
  obtain ⟨x, hx⟩ : ∃ x, x = cyS N s c := ⟨_, rfl⟩
  obtain ⟨y, hy⟩ : ∃ x, x = enS N s c := ⟨_, rfl⟩
  obtain ⟨z, hz⟩ : ∃ x, x = flS N s c := ⟨_, rfl⟩
  rw [← hx, ← hy, ← hz] at HT
  rw [← hz]
  clear hx hy hz
  have hfd : ∀ (u v t : Int) (w : World), (Instr.field 45 (.agg #[.int .i64 u, .int .i64 v, .int .i64 t]) 2).run Try.prog w = .ok (.int .i64 t) w := fun _ _ _ _ => by kernel_rfl
  go_enter Try.func31, Try.ntmps31
  go_wp2_with (go_at_call 34; refine HT.mono ?_; rintro e w' ⟨rfl, hm⟩)
  go_ret
  exact ⟨rfl, hm⟩
theorem flushed_nil (c : Int) (w : World) :
    Calls Try.prog 31 #[.pointer none, .int .i64 c] w fun e w' => e = .returned (.int .i64 (-1)) ∧ More w w' := by
  have hfd : ∀ (u v t : Int) (w : World), (Instr.field 45 (.agg #[.int .i64 u, .int .i64 v, .int .i64 t]) 2).run Try.prog w = .ok (.int .i64 t) w := fun _ _ _ _ => by kernel_rfl
  go_enter Try.func31, Try.ntmps31
  go_wp2_with (go_at_call 34; refine (told_nil c _).mono ?_; rintro e w' ⟨rfl, hm⟩)
  go_ret
  exact ⟨rfl, hm⟩
theorem flushed_zero (p : Nat) (c : Int) (w : World) (hp : w.cell? ⟨p, 0, none⟩ = some (.int .i64 0)) (hlt : p < w.heap.size) :
    Calls Try.prog 31 #[.pointer (some ⟨p, 0, none⟩), .int .i64 c] w fun e w' => e = .returned (.int .i64 (-1)) ∧ More w w' := by
  have hfd : ∀ (u v t : Int) (w : World), (Instr.field 45 (.agg #[.int .i64 u, .int .i64 v, .int .i64 t]) 2).run Try.prog w = .ok (.int .i64 t) w := fun _ _ _ _ => by kernel_rfl
  go_enter Try.func31, Try.ntmps31
  go_wp2_with (go_at_call 34; refine (told_zero p c _ hp hlt).mono ?_; rintro e w' ⟨rfl, hm⟩)
  go_ret
  exact ⟨rfl, hm⟩

/-! ### Step, Enter, Flush -/
theorem step_bad (p N : Nat) (c : Int) (w : World) (hc : ¬ (0 ≤ c ∧ c < N)) (hN1 : 1 ≤ N) (hN : N ≤ 4) (hp : w.cell? ⟨p, 0, none⟩ = some (.int .i64 N)) :
    Calls Try.prog 9 #[.pointer (some ⟨p, 0, none⟩), .int .i64 c] w fun e w' => e = .returned (.int .i64 1) ∧ w' = w := by
  have HC : Hid (¬ (0 ≤ c ∧ c < N)) := hc
  clear hc
  go_enter Try.func9, Try.ntmps9
  go_wp2_with (go_at_call 25; refine (core_bad p N c _ HC.out hN1 hN hp).mono ?_; rintro e w' ⟨rfl, rfl⟩)
  go_ret
  exact ⟨rfl, rfl⟩
theorem step_nil (c : Int) (w : World) :
    Calls Try.prog 9 #[.pointer none, .int .i64 c] w fun e w' => e = .returned (.int .i64 13) ∧ w' = w := by
  go_enter Try.func9, Try.ntmps9
  go_wp2_with (go_at_call 25; refine (core_nil c _).mono ?_; rintro e w' ⟨rfl, rfl⟩)
  go_ret
  exact ⟨rfl, rfl⟩
theorem step_zero (p : Nat) (c : Int) (w : World) (hp : w.cell? ⟨p, 0, none⟩ = some (.int .i64 0)) :
    Calls Try.prog 9 #[.pointer (some ⟨p, 0, none⟩), .int .i64 c] w fun e w' => e = .returned (.int .i64 13) ∧ w' = w := by
  go_enter Try.func9, Try.ntmps9
  go_wp2_with (go_at_call 25; refine (core_zero p c _ hp).mono ?_; rintro e w' ⟨rfl, rfl⟩)
  go_ret
  exact ⟨rfl, rfl⟩
theorem enter_bad (p N : Nat) (c : Int) (w : World) (hc : ¬ (0 ≤ c ∧ c < N)) (hN1 : 1 ≤ N) (hN : N ≤ 4) (hp : w.cell? ⟨p, 0, none⟩ = some (.int .i64 N)) :
    Calls Try.prog 11 #[.pointer (some ⟨p, 0, none⟩), .int .i64 c] w fun e w' => e = .returned (.int .i64 1) ∧ w' = w := by
  have HC : Hid (¬ (0 ≤ c ∧ c < N)) := hc
  clear hc
  go_enter Try.func11, Try.ntmps11
  go_wp2_with (go_at_call 25; refine (core_bad p N c _ HC.out hN1 hN hp).mono ?_; rintro e w' ⟨rfl, rfl⟩)
  go_ret
  exact ⟨rfl, rfl⟩
theorem enter_nil (c : Int) (w : World) :
    Calls Try.prog 11 #[.pointer none, .int .i64 c] w fun e w' => e = .returned (.int .i64 13) ∧ w' = w := by
  go_enter Try.func11, Try.ntmps11
  go_wp2_with (go_at_call 25; refine (core_nil c _).mono ?_; rintro e w' ⟨rfl, rfl⟩)
  go_ret
  exact ⟨rfl, rfl⟩
theorem enter_zero (p : Nat) (c : Int) (w : World) (hp : w.cell? ⟨p, 0, none⟩ = some (.int .i64 0)) :
    Calls Try.prog 11 #[.pointer (some ⟨p, 0, none⟩), .int .i64 c] w fun e w' => e = .returned (.int .i64 13) ∧ w' = w := by
  go_enter Try.func11, Try.ntmps11
  go_wp2_with (go_at_call 25; refine (core_zero p c _ hp).mono ?_; rintro e w' ⟨rfl, rfl⟩)
  go_ret
  exact ⟨rfl, rfl⟩
theorem flush_bad (p N : Nat) (c : Int) (w : World) (hc : ¬ (0 ≤ c ∧ c < N)) (hN1 : 1 ≤ N) (hN : N ≤ 4) (hp : w.cell? ⟨p, 0, none⟩ = some (.int .i64 N)) :
    Calls Try.prog 13 #[.pointer (some ⟨p, 0, none⟩), .int .i64 c] w fun e w' => e = .returned (.int .i64 1) ∧ w' = w := by
  have HC : Hid (¬ (0 ≤ c ∧ c < N)) := hc
  clear hc
  go_enter Try.func13, Try.ntmps13
  go_wp2_with (go_at_call 25; refine (core_bad p N c _ HC.out hN1 hN hp).mono ?_; rintro e w' ⟨rfl, rfl⟩)
  go_ret
  exact ⟨rfl, rfl⟩
theorem flush_nil (c : Int) (w : World) :
    Calls Try.prog 13 #[.pointer none, .int .i64 c] w fun e w' => e = .returned (.int .i64 13) ∧ w' = w := by
  go_enter Try.func13, Try.ntmps13
  go_wp2_with (go_at_call 25; refine (core_nil c _).mono ?_; rintro e w' ⟨rfl, rfl⟩)
  go_ret
  exact ⟨rfl, rfl⟩
theorem flush_zero (p : Nat) (c : Int) (w : World) (hp : w.cell? ⟨p, 0, none⟩ = some (.int .i64 0)) :
    Calls Try.prog 13 #[.pointer (some ⟨p, 0, none⟩), .int .i64 c] w fun e w' => e = .returned (.int .i64 13) ∧ w' = w := by
  go_enter Try.func13, Try.ntmps13
  go_wp2_with (go_at_call 25; refine (core_zero p c _ hp).mono ?_; rintro e w' ⟨rfl, rfl⟩)
  go_ret
  exact ⟨rfl, rfl⟩
theorem step_ok (p N c : Nat) (s : CS) (w : World) (hc : c < N) (hN : N ≤ 4) (ht : s.now < 1073741824) (h : ClockIs w p N s) :
    Calls Try.prog 9 #[.pointer (some ⟨p, 0, none⟩), .int .i64 c] w fun e w' => e = .returned (.int .i64 0) ∧ w' = w.setRow p (cellsC N (stepS N s c)) := by
  rw [← h.step hc hN ht]
  have hp := h.cell
  have h1 := h.now
  have h2 := h.cy (c := c) (by omega)
  have z1 := h.free 1
  have z2 := h.free (2 + c * 3)
  have b1 := h.ok.1
  have b2 := (h.ok.2.2 c).1
  have b3 := (h.ok.2.2 c).2
  obtain ⟨x, hx⟩ : ∃ x, x = s.cy c := ⟨_, rfl⟩
  obtain ⟨t, hn⟩ : ∃ x, x = s.now := ⟨_, rfl⟩
  rw [← hx] at h2 b2 b3 ⊢
  rw [← hn] at h1 b1 b3 ht ⊢
  clear hx hn h
  have hne : 2 + c * 3 ≠ 1 := by omega
  go_enter Try.func9, Try.ntmps9
  go_wp2_with (go_at_call 25; refine (core_ok p N c _ hc hN hp).mono ?_; rintro e w' ⟨rfl, rfl⟩)
  go_ret
  exact ⟨rfl, rfl⟩
theorem step_full (p N c : Nat) (s : CS) (w : World) (hc : c < N) (hN : N ≤ 4) (ht : ¬ s.now < 1073741824) (h : ClockIs w p N s) :
    Calls Try.prog 9 #[.pointer (some ⟨p, 0, none⟩), .int .i64 c] w fun e w' => e = .returned (.int .i64 11) ∧ w' = w := by
  have hp := h.cell
  have h1 := h.now
  obtain ⟨t, hn⟩ : ∃ x, x = s.now := ⟨_, rfl⟩
  rw [← hn] at h1 ht
  clear hn h
  go_enter Try.func9, Try.ntmps9
  go_wp2_with (go_at_call 25; refine (core_ok p N c _ hc hN hp).mono ?_; rintro e w' ⟨rfl, rfl⟩)
  go_ret
  exact ⟨rfl, rfl⟩
theorem enter_ok (p N c : Nat) (s : CS) (w : World) (hc : c < N) (hN : N ≤ 4) (h : ClockIs w p N s) :
    Calls Try.prog 11 #[.pointer (some ⟨p, 0, none⟩), .int .i64 c] w fun e w' => e = .returned (.int .i64 0) ∧ w' = w.setRow p (cellsC N (enterS N s c)) := by
  rw [← h.enter hc hN]
  have hp := h.cell
  have h1 := h.now
  have h2 := h.en (c := c) (by omega)
  have z2 := h.free (2 + c * 3 + 1)
  obtain ⟨x, hx⟩ : ∃ x, x = s.en c := ⟨_, rfl⟩
  obtain ⟨t, hn⟩ : ∃ x, x = s.now := ⟨_, rfl⟩
  rw [← hx] at h2
  rw [← hn] at h1 ⊢
  clear hx hn h
  go_enter Try.func11, Try.ntmps11
  go_wp2_with (go_at_call 25; refine (core_ok p N c _ hc hN hp).mono ?_; rintro e w' ⟨rfl, rfl⟩)
  go_ret
  exact ⟨rfl, rfl⟩
theorem flush_ok (p N c : Nat) (s : CS) (w : World) (hc : c < N) (hN : N ≤ 4) (h : ClockIs w p N s) :
    Calls Try.prog 13 #[.pointer (some ⟨p, 0, none⟩), .int .i64 c] w fun e w' => e = .returned (.int .i64 0) ∧ w' = w.setRow p (cellsC N (flushS N s c)) := by
  rw [← h.flush hc hN]
  have hp := h.cell
  have h1 := h.now
  have h2 := h.fl (c := c) (by omega)
  have z2 := h.free (2 + c * 3 + 2)
  obtain ⟨x, hx⟩ : ∃ x, x = s.fl c := ⟨_, rfl⟩
  obtain ⟨t, hn⟩ : ∃ x, x = s.now := ⟨_, rfl⟩
  rw [← hx] at h2
  rw [← hn] at h1 ⊢
  clear hx hn h
  go_enter Try.func13, Try.ntmps13
  go_wp2_with (go_at_call 25; refine (core_ok p N c _ hc hN hp).mono ?_; rintro e w' ⟨rfl, rfl⟩)
  go_ret
  exact ⟨rfl, rfl⟩
/-- One contract a call, whatever the core's number. -/
theorem step_any (p N : Nat) (c : Int) (s : CS) (w : World) (hN1 : 1 ≤ N) (hN : N ≤ 4) (h : ClockIs w p N s) :
    Calls Try.prog 9 #[.pointer (some ⟨p, 0, none⟩), .int .i64 c] w fun e w' => e = .returned (.int .i64 (errS N s c)) ∧ w' = w.setRow p (cellsC N (stepS N s c)) := by
  cases hk : okF N c
  · simp only [errS, stepS, hk, Bool.false_eq_true, if_false, h.self]
    exact step_bad p N c w (okF_no hk) hN1 hN h.cell
  · obtain ⟨f, rfl, hf⟩ := okF_split hk
    by_cases ht : s.now < 1073741824
    · have := step_ok p N f s w hf hN ht h
      simpa only [errS, hk, ht, if_true] using this
    · simp only [errS, stepS, hk, ht, if_true, if_false, h.self]
      exact step_full p N f s w hf hN ht h
theorem enter_any (p N : Nat) (c : Int) (s : CS) (w : World) (hN1 : 1 ≤ N) (hN : N ≤ 4) (h : ClockIs w p N s) :
    Calls Try.prog 11 #[.pointer (some ⟨p, 0, none⟩), .int .i64 c] w fun e w' => e = .returned (.int .i64 (errF N c)) ∧ w' = w.setRow p (cellsC N (enterS N s c)) := by
  cases hk : okF N c
  · simp only [errF, enterS, hk, Bool.false_eq_true, if_false, h.self]
    exact enter_bad p N c w (okF_no hk) hN1 hN h.cell
  · obtain ⟨f, rfl, hf⟩ := okF_split hk
    have := enter_ok p N f s w hf hN h
    simpa only [errF, hk, if_true] using this
theorem flush_any (p N : Nat) (c : Int) (s : CS) (w : World) (hN1 : 1 ≤ N) (hN : N ≤ 4) (h : ClockIs w p N s) :
    Calls Try.prog 13 #[.pointer (some ⟨p, 0, none⟩), .int .i64 c] w fun e w' => e = .returned (.int .i64 (errF N c)) ∧ w' = w.setRow p (cellsC N (flushS N s c)) := by
  cases hk : okF N c
  · simp only [errF, flushS, hk, Bool.false_eq_true, if_false, h.self]
    exact flush_bad p N c w (okF_no hk) hN1 hN h.cell
  · obtain ⟨f, rfl, hf⟩ := okF_split hk
    have := flush_ok p N f s w hf hN h
    simpa only [errF, hk, if_true] using this

end Go.Proofs.Ytjbchnnbphikhaa
