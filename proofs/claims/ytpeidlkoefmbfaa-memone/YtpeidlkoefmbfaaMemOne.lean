/- MemOne returns true for every list of words, every two places and every word, and leaves its arguments as they were. No condition. -/
import Derived.Test.YtpeidlkoefmbfaaRows
import Derived.Test.YtpeidlkoefmbfaaMemD
import Derived.Test.YtpeidlkoefmbfaaMemI
import Derived.Deep.LoopGhost
import Derived.WalkKit
import Derived.ProofKit
import Derived.OpenShut
import Derived.ShutString
import Derived.ChangeOld
import Derived.Below
namespace Go.Proofs.Ytpeidlkoefmbfaa.memOne
open Go.ChangeShapes Go.WideShapes Go.ChangeAt Go.RowKit
open Go.ChangeMaps (open_string shut_string)
set_option linter.unusedVariables false

theorem own : ownKnob Try.prog.godebug = none := by kernel_rfl
theorem laidOut : laidOutB Try.prog = true := by kernel_rfl

/-- WHAT THE WALK IS TOLD OF A SLICE OF INTEGERS THAT CAME IN: it is nil; or it leads to a row of 'cap' cells, the numbers 'zs' (the first 'len' are its elements, the rest its spare room), each fitting its kind. -/
def IsRow (k : IntKind) (w : World) (a : Option Addr) (len cap : Nat) (zs : List Int) : Prop :=
  (a = none ∧ len = 0 ∧ cap = 0 ∧ zs = []) ∨
  ∃ x, a = some x ∧ len ≤ cap ∧ cap ≤ maxLen ∧ zs.length = cap ∧ (∀ i, i < zs.length → w.cell? (x.add i) = some (.int k (zs.getD i 0))) ∧ ∀ n ∈ zs, (Lit.int k n).wf = true

theorem ld_st_same {N : Nat} {f a v : Int} (h : okW N f a = true) (M : Nat → Nat → Int) : ldM N (stM N M f a v) f a = v := by simp [ldM, stM, h]
theorem ld_st_other {N : Nat} {f a g c v : Int} (h : ¬ (f = g ∧ a = c)) (M : Nat → Nat → Int) : ldM N (stM N M f a v) g c = ldM N M g c := by
  unfold ldM stM
  cases h1 : okW N g c
  · simp
  · cases h2 : okW N f a
    · simp
    · simp only [if_true]
      simp [okW, okF] at h1 h2
      rw [if_neg]
      rintro ⟨e1, e2⟩
      exact h ⟨by omega, by omega⟩
theorem st_bad {N : Nat} {f a v : Int} (h : okW N f a = false) (M : Nat → Nat → Int) : stM N M f a v = M := by simp [stM, h]
set_option maxRecDepth 100000 in
set_option maxHeartbeats 4000000 in
theorem walk_same_ok (a0 : Option Addr) (len0 cap0 : Nat) (f t v : Int) (w : World) (HC : Hid (Came .u64 w.heap.size w a0 len0)) (hl : len0 ≤ 9223372036854775807) (hE : errW 8 f t = 0) (hnow : ∀ M, ldM 8 (stM 8 M f t v) f t = v) :
    Calls Try.prog 4 #[.slice a0 len0 cap0, .int .i64 f, .int .i64 t, .int .u64 v, .int .i64 f, .int .i64 t] w fun e w' => e = .returned (.bool true) ∧ Below w.heap.size w w' := by
  go_enter Try.func4, Try.ntmps4
  go_wp2_with (go_at_call 8; refine (new_ok 8 _ (by omega) (by omega)).mono ?_; rintro e w1 ⟨rfl, hw1⟩; have HM1 : Hid (MemIs w1 (w.heap.size + 1) w.heap.size 8 fun _ _ => 0) := (by rw [hw1]; exact newW_is w 8); have HB1 : Hid (Below w.heap.size w w1) := (by rw [hw1]; exact newW_below w 8); clear hw1)
  go_loopw [15] (fun i wr => ∃ k : Nat, k ≤ len0 ∧ i = .int .i64 k ∧ (∃ M, MemIs wr (w.heap.size + 1) w.heap.size 8 M) ∧ Below w.heap.size w wr) (fun i _ => len0 - (intOf i).toNat)
  case atStart => exact ⟨0, Nat.zero_le _, rfl, ⟨_, HM1.out⟩, HB1.out⟩
  case round =>
    obtain ⟨k, hk, rfl, ⟨M, hM⟩, hB⟩ := hrel
    have HM : Hid (MemIs wr (w.heap.size + 1) w.heap.size 8 M) := hM
    have HB : Hid (Below w.heap.size w wr) := hB
    clear hM hB HM1 HB1
    by_cases hin : k < len0 ∧ k < 300
    · obtain ⟨hk1, hk2⟩ := hin
      obtain ⟨bs, os, z, rfl, hz, _⟩ := HC.out.at HB.out hk1
      have hki : (k : Int) < (len0 : Int) := by omega
      have hk3 : (k : Int) < 300 := by omega
      go_wp2_with (go_at_call 11; refine (store_any _ _ 8 _ _ _ M _ (by omega) (by omega) HM.out).mono ?_; rintro e w2 ⟨rfl, hw2⟩; have HM2 : Hid (∃ M, MemIs w2 (w.heap.size + 1) w.heap.size 8 M) := (by rw [hw2]; exact ⟨_, HM.out.set _⟩); have HB2 : Hid (Below w.heap.size w w2) := (by rw [hw2]; exact below_setRow HB.out (Nat.le_refl _) _); clear hw2)
      go_roundw
      case rel => exact ⟨k + 1, by omega, by go_num, HM2.out, HB2.out⟩
      case measure => simp [intOf]; omega
    · have hin' : ¬ k < len0 ∨ (k < len0 ∧ ¬ k < 300) := by omega
      clear hin
      rcases hin' with h1 | ⟨h1, h2⟩
      all_goals
        go_wp2_with (first
          | (go_at_call 19; refine (load_any _ _ 8 _ _ (stM 8 M f t v) _ (by omega) (by omega) HM2.out).mono ?_; rintro e w3 ⟨rfl, rfl⟩)
          | (go_at_call 19; refine (load_any _ _ 8 _ _ M _ (by omega) (by omega) HM.out).mono ?_; rintro e w3 ⟨rfl, rfl⟩)
          | (go_at_call 11; refine (store_any _ _ 8 _ _ _ M _ (by omega) (by omega) HM.out).mono ?_; rintro e w2 ⟨rfl, hw2⟩; have HM2 : Hid (MemIs w2 (w.heap.size + 1) w.heap.size 8 (stM 8 M f t v)) := (by rw [hw2]; exact HM.out.set _); have HB2 : Hid (Below w.heap.size w w2) := (by rw [hw2]; exact below_setRow HB.out (Nat.le_refl _) _); clear hw2)
          | (go_at_call 10; refine (awake_any _).mono ?_; rintro e w4 ⟨rfl, hw4⟩))
        go_ret
        exact ⟨rfl, HB2.out.trans ((newW_below _ 1).mono HB2.out.size)⟩
set_option maxRecDepth 100000 in
set_option maxHeartbeats 4000000 in
theorem walk_same_bad (a0 : Option Addr) (len0 cap0 : Nat) (f t v : Int) (w : World) (HC : Hid (Came .u64 w.heap.size w a0 len0)) (hl : len0 ≤ 9223372036854775807) (hE : errW 8 f t = 1) (hst : ∀ M, stM 8 M f t v = M) :
    Calls Try.prog 4 #[.slice a0 len0 cap0, .int .i64 f, .int .i64 t, .int .u64 v, .int .i64 f, .int .i64 t] w fun e w' => e = .returned (.bool true) ∧ Below w.heap.size w w' := by
  go_enter Try.func4, Try.ntmps4
  go_wp2_with (go_at_call 8; refine (new_ok 8 _ (by omega) (by omega)).mono ?_; rintro e w1 ⟨rfl, hw1⟩; have HM1 : Hid (MemIs w1 (w.heap.size + 1) w.heap.size 8 fun _ _ => 0) := (by rw [hw1]; exact newW_is w 8); have HB1 : Hid (Below w.heap.size w w1) := (by rw [hw1]; exact newW_below w 8); clear hw1)
  go_loopw [15] (fun i wr => ∃ k : Nat, k ≤ len0 ∧ i = .int .i64 k ∧ (∃ M, MemIs wr (w.heap.size + 1) w.heap.size 8 M) ∧ Below w.heap.size w wr) (fun i _ => len0 - (intOf i).toNat)
  case atStart => exact ⟨0, Nat.zero_le _, rfl, ⟨_, HM1.out⟩, HB1.out⟩
  case round =>
    obtain ⟨k, hk, rfl, ⟨M, hM⟩, hB⟩ := hrel
    have HM : Hid (MemIs wr (w.heap.size + 1) w.heap.size 8 M) := hM
    have HB : Hid (Below w.heap.size w wr) := hB
    clear hM hB HM1 HB1
    by_cases hin : k < len0 ∧ k < 300
    · obtain ⟨hk1, hk2⟩ := hin
      obtain ⟨bs, os, z, rfl, hz, _⟩ := HC.out.at HB.out hk1
      have hki : (k : Int) < (len0 : Int) := by omega
      have hk3 : (k : Int) < 300 := by omega
      go_wp2_with (go_at_call 11; refine (store_any _ _ 8 _ _ _ M _ (by omega) (by omega) HM.out).mono ?_; rintro e w2 ⟨rfl, hw2⟩; have HM2 : Hid (∃ M, MemIs w2 (w.heap.size + 1) w.heap.size 8 M) := (by rw [hw2]; exact ⟨_, HM.out.set _⟩); have HB2 : Hid (Below w.heap.size w w2) := (by rw [hw2]; exact below_setRow HB.out (Nat.le_refl _) _); clear hw2)
      go_roundw
      case rel => exact ⟨k + 1, by omega, by go_num, HM2.out, HB2.out⟩
      case measure => simp [intOf]; omega
    · have hin' : ¬ k < len0 ∨ (k < len0 ∧ ¬ k < 300) := by omega
      clear hin
      rcases hin' with h1 | ⟨h1, h2⟩
      all_goals
        go_wp2_with (first
          | (go_at_call 19; refine (load_any _ _ 8 _ _ M _ (by omega) (by omega) HM2.out).mono ?_; rintro e w3 ⟨rfl, rfl⟩)
          | (go_at_call 19; refine (load_any _ _ 8 _ _ M _ (by omega) (by omega) HM.out).mono ?_; rintro e w3 ⟨rfl, rfl⟩)
          | (go_at_call 11; refine (store_any _ _ 8 _ _ _ M _ (by omega) (by omega) HM.out).mono ?_; rintro e w2 ⟨rfl, hw2⟩; have HM2 : Hid (MemIs w2 (w.heap.size + 1) w.heap.size 8 M) := (by rw [hw2, hst]; exact HM.out.set _); have HB2 : Hid (Below w.heap.size w w2) := (by rw [hw2]; exact below_setRow HB.out (Nat.le_refl _) _); clear hw2)
          | (go_at_call 10; refine (awake_any _).mono ?_; rintro e w4 ⟨rfl, hw4⟩))
        go_ret
        exact ⟨rfl, HB2.out.trans ((newW_below _ 1).mono HB2.out.size)⟩
set_option maxRecDepth 100000 in
set_option maxHeartbeats 4000000 in
theorem walk_otherf_ok (a0 : Option Addr) (len0 cap0 : Nat) (f t v : Int) (w : World) (HC : Hid (Came .u64 w.heap.size w a0 len0)) (hl : len0 ≤ 9223372036854775807) (g c : Int) (hfg : ¬ f = g) (hE : errW 8 f t = 0) (hnow : ∀ M, ldM 8 (stM 8 M f t v) f t = v) (hother : ∀ M, ldM 8 (stM 8 M f t v) g c = ldM 8 M g c) :
    Calls Try.prog 4 #[.slice a0 len0 cap0, .int .i64 f, .int .i64 t, .int .u64 v, .int .i64 g, .int .i64 c] w fun e w' => e = .returned (.bool true) ∧ Below w.heap.size w w' := by
  go_enter Try.func4, Try.ntmps4
  go_wp2_with (go_at_call 8; refine (new_ok 8 _ (by omega) (by omega)).mono ?_; rintro e w1 ⟨rfl, hw1⟩; have HM1 : Hid (MemIs w1 (w.heap.size + 1) w.heap.size 8 fun _ _ => 0) := (by rw [hw1]; exact newW_is w 8); have HB1 : Hid (Below w.heap.size w w1) := (by rw [hw1]; exact newW_below w 8); clear hw1)
  go_loopw [15] (fun i wr => ∃ k : Nat, k ≤ len0 ∧ i = .int .i64 k ∧ (∃ M, MemIs wr (w.heap.size + 1) w.heap.size 8 M) ∧ Below w.heap.size w wr) (fun i _ => len0 - (intOf i).toNat)
  case atStart => exact ⟨0, Nat.zero_le _, rfl, ⟨_, HM1.out⟩, HB1.out⟩
  case round =>
    obtain ⟨k, hk, rfl, ⟨M, hM⟩, hB⟩ := hrel
    have HM : Hid (MemIs wr (w.heap.size + 1) w.heap.size 8 M) := hM
    have HB : Hid (Below w.heap.size w wr) := hB
    clear hM hB HM1 HB1
    by_cases hin : k < len0 ∧ k < 300
    · obtain ⟨hk1, hk2⟩ := hin
      obtain ⟨bs, os, z, rfl, hz, _⟩ := HC.out.at HB.out hk1
      have hki : (k : Int) < (len0 : Int) := by omega
      have hk3 : (k : Int) < 300 := by omega
      go_wp2_with (go_at_call 11; refine (store_any _ _ 8 _ _ _ M _ (by omega) (by omega) HM.out).mono ?_; rintro e w2 ⟨rfl, hw2⟩; have HM2 : Hid (∃ M, MemIs w2 (w.heap.size + 1) w.heap.size 8 M) := (by rw [hw2]; exact ⟨_, HM.out.set _⟩); have HB2 : Hid (Below w.heap.size w w2) := (by rw [hw2]; exact below_setRow HB.out (Nat.le_refl _) _); clear hw2)
      go_roundw
      case rel => exact ⟨k + 1, by omega, by go_num, HM2.out, HB2.out⟩
      case measure => simp [intOf]; omega
    · have hin' : ¬ k < len0 ∨ (k < len0 ∧ ¬ k < 300) := by omega
      clear hin
      rcases hin' with h1 | ⟨h1, h2⟩
      all_goals
        go_wp2_with (first
          | (go_at_call 19; refine (load_any _ _ 8 _ _ (stM 8 M f t v) _ (by omega) (by omega) HM2.out).mono ?_; rintro e w3 ⟨rfl, rfl⟩)
          | (go_at_call 19; refine (load_any _ _ 8 _ _ M _ (by omega) (by omega) HM.out).mono ?_; rintro e w3 ⟨rfl, rfl⟩)
          | (go_at_call 11; refine (store_any _ _ 8 _ _ _ M _ (by omega) (by omega) HM.out).mono ?_; rintro e w2 ⟨rfl, hw2⟩; have HM2 : Hid (MemIs w2 (w.heap.size + 1) w.heap.size 8 (stM 8 M f t v)) := (by rw [hw2]; exact HM.out.set _); have HB2 : Hid (Below w.heap.size w w2) := (by rw [hw2]; exact below_setRow HB.out (Nat.le_refl _) _); clear hw2)
          | (go_at_call 10; refine (awake_any _).mono ?_; rintro e w4 ⟨rfl, hw4⟩))
        go_ret
        exact ⟨rfl, HB2.out.trans ((newW_below _ 1).mono HB2.out.size)⟩
set_option maxRecDepth 100000 in
set_option maxHeartbeats 4000000 in
theorem walk_otherf_bad (a0 : Option Addr) (len0 cap0 : Nat) (f t v : Int) (w : World) (HC : Hid (Came .u64 w.heap.size w a0 len0)) (hl : len0 ≤ 9223372036854775807) (g c : Int) (hfg : ¬ f = g) (hE : errW 8 f t = 1) (hst : ∀ M, stM 8 M f t v = M) :
    Calls Try.prog 4 #[.slice a0 len0 cap0, .int .i64 f, .int .i64 t, .int .u64 v, .int .i64 g, .int .i64 c] w fun e w' => e = .returned (.bool true) ∧ Below w.heap.size w w' := by
  go_enter Try.func4, Try.ntmps4
  go_wp2_with (go_at_call 8; refine (new_ok 8 _ (by omega) (by omega)).mono ?_; rintro e w1 ⟨rfl, hw1⟩; have HM1 : Hid (MemIs w1 (w.heap.size + 1) w.heap.size 8 fun _ _ => 0) := (by rw [hw1]; exact newW_is w 8); have HB1 : Hid (Below w.heap.size w w1) := (by rw [hw1]; exact newW_below w 8); clear hw1)
  go_loopw [15] (fun i wr => ∃ k : Nat, k ≤ len0 ∧ i = .int .i64 k ∧ (∃ M, MemIs wr (w.heap.size + 1) w.heap.size 8 M) ∧ Below w.heap.size w wr) (fun i _ => len0 - (intOf i).toNat)
  case atStart => exact ⟨0, Nat.zero_le _, rfl, ⟨_, HM1.out⟩, HB1.out⟩
  case round =>
    obtain ⟨k, hk, rfl, ⟨M, hM⟩, hB⟩ := hrel
    have HM : Hid (MemIs wr (w.heap.size + 1) w.heap.size 8 M) := hM
    have HB : Hid (Below w.heap.size w wr) := hB
    clear hM hB HM1 HB1
    by_cases hin : k < len0 ∧ k < 300
    · obtain ⟨hk1, hk2⟩ := hin
      obtain ⟨bs, os, z, rfl, hz, _⟩ := HC.out.at HB.out hk1
      have hki : (k : Int) < (len0 : Int) := by omega
      have hk3 : (k : Int) < 300 := by omega
      go_wp2_with (go_at_call 11; refine (store_any _ _ 8 _ _ _ M _ (by omega) (by omega) HM.out).mono ?_; rintro e w2 ⟨rfl, hw2⟩; have HM2 : Hid (∃ M, MemIs w2 (w.heap.size + 1) w.heap.size 8 M) := (by rw [hw2]; exact ⟨_, HM.out.set _⟩); have HB2 : Hid (Below w.heap.size w w2) := (by rw [hw2]; exact below_setRow HB.out (Nat.le_refl _) _); clear hw2)
      go_roundw
      case rel => exact ⟨k + 1, by omega, by go_num, HM2.out, HB2.out⟩
      case measure => simp [intOf]; omega
    · have hin' : ¬ k < len0 ∨ (k < len0 ∧ ¬ k < 300) := by omega
      clear hin
      rcases hin' with h1 | ⟨h1, h2⟩
      all_goals
        go_wp2_with (first
          | (go_at_call 19; refine (load_any _ _ 8 _ _ M _ (by omega) (by omega) HM2.out).mono ?_; rintro e w3 ⟨rfl, rfl⟩)
          | (go_at_call 19; refine (load_any _ _ 8 _ _ M _ (by omega) (by omega) HM.out).mono ?_; rintro e w3 ⟨rfl, rfl⟩)
          | (go_at_call 11; refine (store_any _ _ 8 _ _ _ M _ (by omega) (by omega) HM.out).mono ?_; rintro e w2 ⟨rfl, hw2⟩; have HM2 : Hid (MemIs w2 (w.heap.size + 1) w.heap.size 8 M) := (by rw [hw2, hst]; exact HM.out.set _); have HB2 : Hid (Below w.heap.size w w2) := (by rw [hw2]; exact below_setRow HB.out (Nat.le_refl _) _); clear hw2)
          | (go_at_call 10; refine (awake_any _).mono ?_; rintro e w4 ⟨rfl, hw4⟩))
        go_ret
        exact ⟨rfl, HB2.out.trans ((newW_below _ 1).mono HB2.out.size)⟩
set_option maxRecDepth 100000 in
set_option maxHeartbeats 4000000 in
theorem walk_othert_ok (a0 : Option Addr) (len0 cap0 : Nat) (f t v : Int) (w : World) (HC : Hid (Came .u64 w.heap.size w a0 len0)) (hl : len0 ≤ 9223372036854775807) (g c : Int) (htc : ¬ t = c) (hE : errW 8 f t = 0) (hnow : ∀ M, ldM 8 (stM 8 M f t v) f t = v) (hother : ∀ M, ldM 8 (stM 8 M f t v) f c = ldM 8 M f c) :
    Calls Try.prog 4 #[.slice a0 len0 cap0, .int .i64 f, .int .i64 t, .int .u64 v, .int .i64 f, .int .i64 c] w fun e w' => e = .returned (.bool true) ∧ Below w.heap.size w w' := by
  go_enter Try.func4, Try.ntmps4
  go_wp2_with (go_at_call 8; refine (new_ok 8 _ (by omega) (by omega)).mono ?_; rintro e w1 ⟨rfl, hw1⟩; have HM1 : Hid (MemIs w1 (w.heap.size + 1) w.heap.size 8 fun _ _ => 0) := (by rw [hw1]; exact newW_is w 8); have HB1 : Hid (Below w.heap.size w w1) := (by rw [hw1]; exact newW_below w 8); clear hw1)
  go_loopw [15] (fun i wr => ∃ k : Nat, k ≤ len0 ∧ i = .int .i64 k ∧ (∃ M, MemIs wr (w.heap.size + 1) w.heap.size 8 M) ∧ Below w.heap.size w wr) (fun i _ => len0 - (intOf i).toNat)
  case atStart => exact ⟨0, Nat.zero_le _, rfl, ⟨_, HM1.out⟩, HB1.out⟩
  case round =>
    obtain ⟨k, hk, rfl, ⟨M, hM⟩, hB⟩ := hrel
    have HM : Hid (MemIs wr (w.heap.size + 1) w.heap.size 8 M) := hM
    have HB : Hid (Below w.heap.size w wr) := hB
    clear hM hB HM1 HB1
    by_cases hin : k < len0 ∧ k < 300
    · obtain ⟨hk1, hk2⟩ := hin
      obtain ⟨bs, os, z, rfl, hz, _⟩ := HC.out.at HB.out hk1
      have hki : (k : Int) < (len0 : Int) := by omega
      have hk3 : (k : Int) < 300 := by omega
      go_wp2_with (go_at_call 11; refine (store_any _ _ 8 _ _ _ M _ (by omega) (by omega) HM.out).mono ?_; rintro e w2 ⟨rfl, hw2⟩; have HM2 : Hid (∃ M, MemIs w2 (w.heap.size + 1) w.heap.size 8 M) := (by rw [hw2]; exact ⟨_, HM.out.set _⟩); have HB2 : Hid (Below w.heap.size w w2) := (by rw [hw2]; exact below_setRow HB.out (Nat.le_refl _) _); clear hw2)
      go_roundw
      case rel => exact ⟨k + 1, by omega, by go_num, HM2.out, HB2.out⟩
      case measure => simp [intOf]; omega
    · have hin' : ¬ k < len0 ∨ (k < len0 ∧ ¬ k < 300) := by omega
      clear hin
      rcases hin' with h1 | ⟨h1, h2⟩
      all_goals
        go_wp2_with (first
          | (go_at_call 19; refine (load_any _ _ 8 _ _ (stM 8 M f t v) _ (by omega) (by omega) HM2.out).mono ?_; rintro e w3 ⟨rfl, rfl⟩)
          | (go_at_call 19; refine (load_any _ _ 8 _ _ M _ (by omega) (by omega) HM.out).mono ?_; rintro e w3 ⟨rfl, rfl⟩)
          | (go_at_call 11; refine (store_any _ _ 8 _ _ _ M _ (by omega) (by omega) HM.out).mono ?_; rintro e w2 ⟨rfl, hw2⟩; have HM2 : Hid (MemIs w2 (w.heap.size + 1) w.heap.size 8 (stM 8 M f t v)) := (by rw [hw2]; exact HM.out.set _); have HB2 : Hid (Below w.heap.size w w2) := (by rw [hw2]; exact below_setRow HB.out (Nat.le_refl _) _); clear hw2)
          | (go_at_call 10; refine (awake_any _).mono ?_; rintro e w4 ⟨rfl, hw4⟩))
        go_ret
        exact ⟨rfl, HB2.out.trans ((newW_below _ 1).mono HB2.out.size)⟩
set_option maxRecDepth 100000 in
set_option maxHeartbeats 4000000 in
theorem walk_othert_bad (a0 : Option Addr) (len0 cap0 : Nat) (f t v : Int) (w : World) (HC : Hid (Came .u64 w.heap.size w a0 len0)) (hl : len0 ≤ 9223372036854775807) (g c : Int) (htc : ¬ t = c) (hE : errW 8 f t = 1) (hst : ∀ M, stM 8 M f t v = M) :
    Calls Try.prog 4 #[.slice a0 len0 cap0, .int .i64 f, .int .i64 t, .int .u64 v, .int .i64 f, .int .i64 c] w fun e w' => e = .returned (.bool true) ∧ Below w.heap.size w w' := by
  go_enter Try.func4, Try.ntmps4
  go_wp2_with (go_at_call 8; refine (new_ok 8 _ (by omega) (by omega)).mono ?_; rintro e w1 ⟨rfl, hw1⟩; have HM1 : Hid (MemIs w1 (w.heap.size + 1) w.heap.size 8 fun _ _ => 0) := (by rw [hw1]; exact newW_is w 8); have HB1 : Hid (Below w.heap.size w w1) := (by rw [hw1]; exact newW_below w 8); clear hw1)
  go_loopw [15] (fun i wr => ∃ k : Nat, k ≤ len0 ∧ i = .int .i64 k ∧ (∃ M, MemIs wr (w.heap.size + 1) w.heap.size 8 M) ∧ Below w.heap.size w wr) (fun i _ => len0 - (intOf i).toNat)
  case atStart => exact ⟨0, Nat.zero_le _, rfl, ⟨_, HM1.out⟩, HB1.out⟩
  case round =>
    obtain ⟨k, hk, rfl, ⟨M, hM⟩, hB⟩ := hrel
    have HM : Hid (MemIs wr (w.heap.size + 1) w.heap.size 8 M) := hM
    have HB : Hid (Below w.heap.size w wr) := hB
    clear hM hB HM1 HB1
    by_cases hin : k < len0 ∧ k < 300
    · obtain ⟨hk1, hk2⟩ := hin
      obtain ⟨bs, os, z, rfl, hz, _⟩ := HC.out.at HB.out hk1
      have hki : (k : Int) < (len0 : Int) := by omega
      have hk3 : (k : Int) < 300 := by omega
      go_wp2_with (go_at_call 11; refine (store_any _ _ 8 _ _ _ M _ (by omega) (by omega) HM.out).mono ?_; rintro e w2 ⟨rfl, hw2⟩; have HM2 : Hid (∃ M, MemIs w2 (w.heap.size + 1) w.heap.size 8 M) := (by rw [hw2]; exact ⟨_, HM.out.set _⟩); have HB2 : Hid (Below w.heap.size w w2) := (by rw [hw2]; exact below_setRow HB.out (Nat.le_refl _) _); clear hw2)
      go_roundw
      case rel => exact ⟨k + 1, by omega, by go_num, HM2.out, HB2.out⟩
      case measure => simp [intOf]; omega
    · have hin' : ¬ k < len0 ∨ (k < len0 ∧ ¬ k < 300) := by omega
      clear hin
      rcases hin' with h1 | ⟨h1, h2⟩
      all_goals
        go_wp2_with (first
          | (go_at_call 19; refine (load_any _ _ 8 _ _ M _ (by omega) (by omega) HM2.out).mono ?_; rintro e w3 ⟨rfl, rfl⟩)
          | (go_at_call 19; refine (load_any _ _ 8 _ _ M _ (by omega) (by omega) HM.out).mono ?_; rintro e w3 ⟨rfl, rfl⟩)
          | (go_at_call 11; refine (store_any _ _ 8 _ _ _ M _ (by omega) (by omega) HM.out).mono ?_; rintro e w2 ⟨rfl, hw2⟩; have HM2 : Hid (MemIs w2 (w.heap.size + 1) w.heap.size 8 M) := (by rw [hw2, hst]; exact HM.out.set _); have HB2 : Hid (Below w.heap.size w w2) := (by rw [hw2]; exact below_setRow HB.out (Nat.le_refl _) _); clear hw2)
          | (go_at_call 10; refine (awake_any _).mono ?_; rintro e w4 ⟨rfl, hw4⟩))
        go_ret
        exact ⟨rfl, HB2.out.trans ((newW_below _ 1).mono HB2.out.size)⟩

/-! ### STEP 1: THE WALK: the Go text returns true, AND WRITES NOTHING THAT WAS THERE: 'Below w.heap.size w w'' (Derived/Below.lean: '.refl', '.alloc', '.drew', '.setCell' at a new block, '.trans'). Open each 'IsRow' by 'rcases' AHEAD of 'go_enter'; part every test ahead of the walk. -/
theorem walk (a0 : Option Addr) (len0 cap0 : Nat) (z0 : List Int) (a1 : Int) (a2 : Int) (a3 : Int) (a4 : Int) (a5 : Int) (w : World) (w0 : IsRow .u64 w a0 len0 cap0 z0) (w1 : (Lit.int .i64 a1).wf = true) (w2 : (Lit.int .i64 a2).wf = true) (w3 : (Lit.int .u64 a3).wf = true) (w4 : (Lit.int .i64 a4).wf = true) (w5 : (Lit.int .i64 a5).wf = true) :
    Calls Try.prog 4 #[.slice a0 len0 cap0, .int .i64 a1, .int .i64 a2, .int .u64 a3, .int .i64 a4, .int .i64 a5] w fun e w' => e = .returned (.bool true) ∧ Below w.heap.size w w' := by
  obtain ⟨hC, hl⟩ := came_of_row w0
  clear w0
  by_cases hp : a1 = a4
  · subst hp
    by_cases hq : a2 = a5
    · subst hq
      cases hk : okW 8 a1 a2
      · exact walk_same_bad a0 len0 cap0 a1 a2 a3 w hC hl (by simp [errW, hk]) (st_bad hk)
      · exact walk_same_ok a0 len0 cap0 a1 a2 a3 w hC hl (by simp [errW, hk]) (ld_st_same hk)
    · cases hk : okW 8 a1 a2
      · exact walk_othert_bad a0 len0 cap0 a1 a2 a3 w hC hl a5 a5 hq (by simp [errW, hk]) (st_bad hk)
      · exact walk_othert_ok a0 len0 cap0 a1 a2 a3 w hC hl a5 a5 hq (by simp [errW, hk]) (ld_st_same hk) (ld_st_other (by omega))
  · cases hk : okW 8 a1 a2
    · exact walk_otherf_bad a0 len0 cap0 a1 a2 a3 w hC hl a4 a5 hp (by simp [errW, hk]) (st_bad hk)
    · exact walk_otherf_ok a0 len0 cap0 a1 a2 a3 w hC hl a4 a5 hp (by simp [errW, hk]) (ld_st_same hk) (ld_st_other (by omega))

/-! ### THE ROW's STEP: WRITTEN OUT: LEAVE IT -/
set_option maxRecDepth 100000 in
theorem lifted (os : Os) (started : os.Started) (H : Type) (enc : TypeId × Value → H) :
    ReturnsInHanded {} Try.checked os 4 .any (Rows.memOneSpec.pre6 enc Try.prog Try.f4 Rows.memOneRow.domain false) (Rows.memOneSpec.post enc Try.prog Try.f4 false true false false) := by
  refine returnsInHanded_of_change (C := Try.checked) own started (by kernel_rfl) Try.func4
    (ChangeSpec.witness6 (enc := enc) (C := Try.checked) false ⟨#[], #[.slice none 0 0, .int .i64 0, .int .i64 0, .int .u64 0, .int .i64 0, .int .i64 0], []⟩ 8 (by kernel_rfl) (by kernel_rfl) (by kernel_rfl) (by kernel_rfl)) ?_
  intro W base args ds gs before hval0 hW hcnd _
  have hval : ∀ (j : Nat) t v, Try.f4.params[j]? = some t → args[j]? = some v → Value.okWide Try.prog W .any base t v := hval0
  have hW' := hW
  obtain ⟨p, q, hA0, hV, rfl, hfz, hnd⟩ := hW
  have hA : DataW.TrodAll enc Try.prog W 0 (fun _ => true) true Try.f4.params.toList args.toList ds p := hA0
  rw [Try.params4] at hA hval
  obtain ⟨v0, vs0, d0, ds0, p0, q0, hargs, rfl, rfl, h0, r0⟩ := trodAll_cons hA
  obtain ⟨v1, vs1, d1, ds1, p1, q1, rfl, rfl, rfl, h1, r1⟩ := trodAll_cons r0
  obtain ⟨v2, vs2, d2, ds2, p2, q2, rfl, rfl, rfl, h2, r2⟩ := trodAll_cons r1
  obtain ⟨v3, vs3, d3, ds3, p3, q3, rfl, rfl, rfl, h3, r3⟩ := trodAll_cons r2
  obtain ⟨v4, vs4, d4, ds4, p4, q4, rfl, rfl, rfl, h4, r4⟩ := trodAll_cons r3
  obtain ⟨v5, vs5, d5, ds5, p5, q5, rfl, rfl, rfl, h5, r5⟩ := trodAll_cons r4
  obtain ⟨rfl, rfl, rfl⟩ := trodAll_nil r5
  obtain rfl : args = #[v0, v1, v2, v3, v4, v5] := by cases args; simp_all
  obtain ⟨rfl, rfl⟩ := trodVars_none hV
  obtain ⟨a0, len0, cap0, rfl⟩ := okWide_slice Try.underlying24 (hval 0 24 v0 rfl rfl)
  have k0 := h0
  have lt0 : ∀ x ∈ p0, x.block < W.heap.size := by obtain ⟨m, hm⟩ := k0; exact DataW.trod_lt m _ _ _ hm
  obtain ⟨z0, w0⟩ : ∃ zs, IsRow .u64 W a0 len0 cap0 zs := by
    obtain ⟨fuel, hf⟩ := h0
    rcases open_ints Try.underlying24 Try.underlying34 (by kernel_rfl) hf with ⟨hcs, _⟩ | ⟨x, l, c, zs, hcs, _, hl, hm, hz, _, hcell, hwz⟩
    · simp [Value.cells] at hcs
      obtain ⟨rfl, rfl, rfl⟩ := hcs
      exact ⟨[], .inl ⟨rfl, rfl, rfl, rfl⟩⟩
    · simp [Value.cells] at hcs
      obtain ⟨rfl, rfl, rfl⟩ := hcs
      exact ⟨zs, .inr ⟨_, rfl, hl, hm, by simpa using hz, hcell, hwz⟩⟩
  obtain ⟨a1, rfl, rfl, rfl, w1⟩ := open_int Try.underlying3 (hval 1 3 v1 rfl rfl) h1
  obtain ⟨a2, rfl, rfl, rfl, w2⟩ := open_int Try.underlying3 (hval 2 3 v2 rfl rfl) h2
  obtain ⟨a3, rfl, rfl, rfl, w3⟩ := open_int Try.underlying34 (hval 3 34 v3 rfl rfl) h3
  obtain ⟨a4, rfl, rfl, rfl, w4⟩ := open_int Try.underlying3 (hval 4 3 v4 rfl rfl) h4
  obtain ⟨a5, rfl, rfl, rfl, w5⟩ := open_int Try.underlying3 (hval 5 3 v5 rfl rfl) h5
  clear hA0 hval0
  refine (walk a0 len0 cap0 z0 a1 a2 a3 a4 a5 W w0 w1 w2 w3 w4 w5).mono fun e W' ⟨he, bel⟩ => ?_
  subst he
  exact ⟨_, rfl, _, _, _, [], _, [], hW', trodAll_mk1 (shut_bool Try.underlying4 _), (trodAll_cons_mk (Below.trod laidOut (by kernel_rfl) (of_decide_eq_true (by kernel_rfl)) k0 bel lt0) (trodAll_cons_mk (shut_int Try.underlying3 w1) (trodAll_cons_mk (shut_int Try.underlying3 w2) (trodAll_cons_mk (shut_int Try.underlying34 w3) (trodAll_cons_mk (shut_int Try.underlying3 w4) (trodAll_cons_mk (shut_int Try.underlying3 w5) trodAll_mk0)))))), rfl, bel.frame _, fun h => by cases h⟩

theorem over : Rows.memOneRow.holds Try.pinned (OpenSpec.ofChange Rows.memOneSpec) :=
  OpenClaim.holds_of_wide 4 Try.f4 rfl rfl rfl rfl rfl rfl rfl ⟨rfl, rfl, rfl, rfl, rfl⟩ rfl rfl rfl rfl rfl (by kernel_rfl) Try.func4 (by kernel_rfl)
    (of_decide_eq_true (by kernel_rfl)) (by unfold Func.isWrapper; first | (rw [if_pos (by decide +kernel)]; kernel_rfl) | (rw [if_neg (by decide +kernel)]; exact ⟨rfl, rfl⟩))
    (fun os started H enc _ => lifted os started H enc)

/-- ████ THE STATEMENT ████ -/
theorem proved : Rows.MemOneSaid := over
end Go.Proofs.Ytpeidlkoefmbfaa.memOne
namespace Go.Proofs.Ytpeidlkoefmbfaa
theorem memOne_holds : Rows.MemOneSaid := memOne.proved
#print axioms memOne_holds
end Go.Proofs.Ytpeidlkoefmbfaa
