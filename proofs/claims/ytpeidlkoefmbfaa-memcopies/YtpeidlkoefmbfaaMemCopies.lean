/- MemCopies returns true for every list of words, every two frames' numbers and every word, and leaves its arguments as they were. No condition. -/
import Derived.Test.YtpeidlkoefmbfaaRows
import Derived.Test.YtpeidlkoefmbfaaMemD
import Derived.Test.YtpeidlkoefmbfaaMemI
import Derived.WalkKit
import Derived.ProofKit
import Derived.OpenShut
import Derived.ShutString
import Derived.ChangeOld
import Derived.Below
namespace Go.Proofs.Ytpeidlkoefmbfaa.memCopies
open Go.ChangeShapes Go.WideShapes Go.ChangeAt Go.RowKit
open Go.ChangeMaps (open_string shut_string)
set_option linter.unusedVariables false

theorem own : ownKnob Try.prog.godebug = none := by kernel_rfl
theorem laidOut : laidOutB Try.prog = true := by kernel_rfl

/-- WHAT THE WALK IS TOLD OF A SLICE OF INTEGERS THAT CAME IN: it is nil; or it leads to a row of 'cap' cells, the numbers 'zs' (the first 'len' are its elements, the rest its spare room), each fitting its kind. -/
def IsRow (k : IntKind) (w : World) (a : Option Addr) (len cap : Nat) (zs : List Int) : Prop :=
  (a = none ∧ len = 0 ∧ cap = 0 ∧ zs = []) ∨
  ∃ x, a = some x ∧ len ≤ cap ∧ cap ≤ maxLen ∧ zs.length = cap ∧ (∀ i, i < zs.length → w.cell? (x.add i) = some (.int k (zs.getD i 0))) ∧ ∀ n ∈ zs, (Lit.int k n).wf = true

theorem same_self {N : Nat} {f : Int} (h : okF N f = true) (M : Nat → Nat → Int) : sameM N M f f = true := by simp [sameM, h]
theorem same_copied {N : Nat} {f g : Int} (h : okF N f = true) (k : okF N g = true) (M : Nat → Nat → Int) : sameM N (cpM N M f g) f g = true := by
  simp only [sameM, cpM, h, k, Bool.and_self, if_true, Bool.true_and, beq_iff_eq, wdM]
  apply List.map_congr_left
  intro a _
  by_cases e : f.toNat = g.toNat <;> simp
theorem ld_apart {N : Nat} {f g : Int} (hne : ¬ f = g) (h : okF N f = true) (k : okF N g = true) (M : Nat → Nat → Int) (v : Int) : ldM N (stM N M g 0 v) f 0 = ldM N M f 0 := by
  have h' := okF_yes h
  have k' := okF_yes k
  simp only [ldM, stM, okW, h, k, Bool.true_and]
  simp
  intro e
  omega
theorem same_apart {N : Nat} {f g : Int} (hne : ¬ f = g) (h : okF N f = true) (k : okF N g = true) (M : Nat → Nat → Int) (v : Int) :
    sameM N (stM N (cpM N M f g) g 0 v) f g = (ldM N (cpM N M f g) f 0 == v) := by
  have h' := okF_yes h
  have k' := okF_yes k
  have e : f.toNat ≠ g.toNat := by omega
  have hk : okW N g 0 = true := by simp [okW, k]
  have hf : okW N f 0 = true := by simp [okW, h]
  simp only [sameM, h, k, Bool.and_self, Bool.true_and, ldM, hf, stM, hk, cpM, if_true]
  rw [Bool.eq_iff_iff]
  simp only [beq_iff_eq, wdM]
  constructor
  · intro hm
    have := congrArg (fun l => l[0]?) hm
    simp [e] at this
    simp [e, this]
  · intro hm
    apply List.map_congr_left
    intro a _
    simp [e] at hm
    by_cases ha : a = 0
    · subst ha; simp [e, hm]
    · simp [e, ha]
theorem below_drewN {B : Nat} {a w : World} (h : Below B a w) (n : Nat) : Below B a (w.drewN n) := ⟨h.os, h.tape, h.output, h.size, h.block⟩
set_option maxRecDepth 100000 in
set_option maxHeartbeats 4000000 in
theorem walk_bad0 (a0 : Option Addr) (len0 cap0 : Nat) (f g v : Int) (w : World) (HC : Hid (Came .u64 w.heap.size w a0 len0)) (hl : len0 ≤ 9223372036854775807) (hE : errC 8 f g = 1) (hx : f < 0) :
    Calls Try.prog 5 #[.slice a0 len0 cap0, .int .i64 f, .int .i64 g, .int .u64 v] w fun e w' => e = .returned (.bool true) ∧ Below w.heap.size w w' := by
  go_enter Try.func5, Try.ntmps5
  go_wp2_with (go_at_call 8; refine (new_ok 8 _ (by omega) (by omega)).mono ?_; rintro e w1 ⟨rfl, hw1⟩; have HM1 : Hid (MemIs w1 (w.heap.size + 1) w.heap.size 8 fun _ _ => 0) := (by rw [hw1]; exact newW_is w 8); have HB1 : Hid (Below w.heap.size w w1) := (by rw [hw1]; exact newW_below w 8); clear hw1)
  go_loopw [11] (fun i wr => ∃ k : Nat, k ≤ len0 ∧ i = .int .i64 k ∧ (∃ M, MemIs wr (w.heap.size + 1) w.heap.size 8 M) ∧ Below w.heap.size w wr) (fun i _ => len0 - (intOf i).toNat)
  case atStart => exact ⟨0, Nat.zero_le _, rfl, ⟨_, HM1.out⟩, HB1.out⟩
  case round =>
    obtain ⟨k, hk, rfl, ⟨M, hM⟩, hB⟩ := hrel
    have HM : Hid (MemIs wr (w.heap.size + 1) w.heap.size 8 M) := hM
    have HB : Hid (Below w.heap.size w wr) := hB
    clear hM hB HM1 HB1
    by_cases hin : k < len0 ∧ k < 300
    · obtain ⟨hk1, hk2⟩ := hin
      obtain ⟨bs, os, z, rfl, hz, _⟩ := HC.out.at HB.out hk1
      have hki : (k : Int) < (len0 : Int) := by omega
      have hk3 : (k : Int) < 300 := by omega
      go_wp2_with (go_at_call 11; refine (store_any _ _ 8 _ _ _ M _ (by omega) (by omega) HM.out).mono ?_; rintro e w2 ⟨rfl, hw2⟩; have HM2 : Hid (∃ M, MemIs w2 (w.heap.size + 1) w.heap.size 8 M) := (by rw [hw2]; exact ⟨_, HM.out.set _⟩); have HB2 : Hid (Below w.heap.size w w2) := (by rw [hw2]; exact below_setRow HB.out (Nat.le_refl _) _); clear hw2)
      go_roundw
      case rel => exact ⟨k + 1, by omega, by go_num, HM2.out, HB2.out⟩
      case measure => simp [intOf]; omega
    · have hin' : ¬ k < len0 ∨ (k < len0 ∧ ¬ k < 300) := by omega
      clear hin
      rcases hin' with h1 | ⟨h1, h2⟩
      all_goals
        go_wp2_with (first
          | (go_at_call 15; refine (copy_any _ _ 8 _ _ M _ (by omega) (by omega) HM.out).mono ?_; rintro e w2 ⟨rfl, hw2⟩; have HB2 : Hid (Below w.heap.size w w2) := (by rw [hw2]; exact below_setRow HB.out (Nat.le_refl _) _); clear hw2)
          | (go_at_call 10; refine (awake_any _).mono ?_; rintro e w4 ⟨rfl, hw4⟩))
        go_ret
        exact ⟨rfl, HB2.out.trans ((newW_below _ 1).mono HB2.out.size)⟩
set_option maxRecDepth 100000 in
set_option maxHeartbeats 4000000 in
theorem walk_bad1 (a0 : Option Addr) (len0 cap0 : Nat) (f g v : Int) (w : World) (HC : Hid (Came .u64 w.heap.size w a0 len0)) (hl : len0 ≤ 9223372036854775807) (hE : errC 8 f g = 1) (hx : ¬ f < 0) (hy : 7 < f) :
    Calls Try.prog 5 #[.slice a0 len0 cap0, .int .i64 f, .int .i64 g, .int .u64 v] w fun e w' => e = .returned (.bool true) ∧ Below w.heap.size w w' := by
  go_enter Try.func5, Try.ntmps5
  go_wp2_with (go_at_call 8; refine (new_ok 8 _ (by omega) (by omega)).mono ?_; rintro e w1 ⟨rfl, hw1⟩; have HM1 : Hid (MemIs w1 (w.heap.size + 1) w.heap.size 8 fun _ _ => 0) := (by rw [hw1]; exact newW_is w 8); have HB1 : Hid (Below w.heap.size w w1) := (by rw [hw1]; exact newW_below w 8); clear hw1)
  go_loopw [11] (fun i wr => ∃ k : Nat, k ≤ len0 ∧ i = .int .i64 k ∧ (∃ M, MemIs wr (w.heap.size + 1) w.heap.size 8 M) ∧ Below w.heap.size w wr) (fun i _ => len0 - (intOf i).toNat)
  case atStart => exact ⟨0, Nat.zero_le _, rfl, ⟨_, HM1.out⟩, HB1.out⟩
  case round =>
    obtain ⟨k, hk, rfl, ⟨M, hM⟩, hB⟩ := hrel
    have HM : Hid (MemIs wr (w.heap.size + 1) w.heap.size 8 M) := hM
    have HB : Hid (Below w.heap.size w wr) := hB
    clear hM hB HM1 HB1
    by_cases hin : k < len0 ∧ k < 300
    · obtain ⟨hk1, hk2⟩ := hin
      obtain ⟨bs, os, z, rfl, hz, _⟩ := HC.out.at HB.out hk1
      have hki : (k : Int) < (len0 : Int) := by omega
      have hk3 : (k : Int) < 300 := by omega
      go_wp2_with (go_at_call 11; refine (store_any _ _ 8 _ _ _ M _ (by omega) (by omega) HM.out).mono ?_; rintro e w2 ⟨rfl, hw2⟩; have HM2 : Hid (∃ M, MemIs w2 (w.heap.size + 1) w.heap.size 8 M) := (by rw [hw2]; exact ⟨_, HM.out.set _⟩); have HB2 : Hid (Below w.heap.size w w2) := (by rw [hw2]; exact below_setRow HB.out (Nat.le_refl _) _); clear hw2)
      go_roundw
      case rel => exact ⟨k + 1, by omega, by go_num, HM2.out, HB2.out⟩
      case measure => simp [intOf]; omega
    · have hin' : ¬ k < len0 ∨ (k < len0 ∧ ¬ k < 300) := by omega
      clear hin
      rcases hin' with h1 | ⟨h1, h2⟩
      all_goals
        go_wp2_with (first
          | (go_at_call 15; refine (copy_any _ _ 8 _ _ M _ (by omega) (by omega) HM.out).mono ?_; rintro e w2 ⟨rfl, hw2⟩; have HB2 : Hid (Below w.heap.size w w2) := (by rw [hw2]; exact below_setRow HB.out (Nat.le_refl _) _); clear hw2)
          | (go_at_call 10; refine (awake_any _).mono ?_; rintro e w4 ⟨rfl, hw4⟩))
        go_ret
        exact ⟨rfl, HB2.out.trans ((newW_below _ 1).mono HB2.out.size)⟩
set_option maxRecDepth 100000 in
set_option maxHeartbeats 4000000 in
theorem walk_bad2 (a0 : Option Addr) (len0 cap0 : Nat) (f g v : Int) (w : World) (HC : Hid (Came .u64 w.heap.size w a0 len0)) (hl : len0 ≤ 9223372036854775807) (hE : errC 8 f g = 1) (hx : ¬ f < 0) (hy : ¬ 7 < f) (hz : g < 0) :
    Calls Try.prog 5 #[.slice a0 len0 cap0, .int .i64 f, .int .i64 g, .int .u64 v] w fun e w' => e = .returned (.bool true) ∧ Below w.heap.size w w' := by
  go_enter Try.func5, Try.ntmps5
  go_wp2_with (go_at_call 8; refine (new_ok 8 _ (by omega) (by omega)).mono ?_; rintro e w1 ⟨rfl, hw1⟩; have HM1 : Hid (MemIs w1 (w.heap.size + 1) w.heap.size 8 fun _ _ => 0) := (by rw [hw1]; exact newW_is w 8); have HB1 : Hid (Below w.heap.size w w1) := (by rw [hw1]; exact newW_below w 8); clear hw1)
  go_loopw [11] (fun i wr => ∃ k : Nat, k ≤ len0 ∧ i = .int .i64 k ∧ (∃ M, MemIs wr (w.heap.size + 1) w.heap.size 8 M) ∧ Below w.heap.size w wr) (fun i _ => len0 - (intOf i).toNat)
  case atStart => exact ⟨0, Nat.zero_le _, rfl, ⟨_, HM1.out⟩, HB1.out⟩
  case round =>
    obtain ⟨k, hk, rfl, ⟨M, hM⟩, hB⟩ := hrel
    have HM : Hid (MemIs wr (w.heap.size + 1) w.heap.size 8 M) := hM
    have HB : Hid (Below w.heap.size w wr) := hB
    clear hM hB HM1 HB1
    by_cases hin : k < len0 ∧ k < 300
    · obtain ⟨hk1, hk2⟩ := hin
      obtain ⟨bs, os, z, rfl, hz, _⟩ := HC.out.at HB.out hk1
      have hki : (k : Int) < (len0 : Int) := by omega
      have hk3 : (k : Int) < 300 := by omega
      go_wp2_with (go_at_call 11; refine (store_any _ _ 8 _ _ _ M _ (by omega) (by omega) HM.out).mono ?_; rintro e w2 ⟨rfl, hw2⟩; have HM2 : Hid (∃ M, MemIs w2 (w.heap.size + 1) w.heap.size 8 M) := (by rw [hw2]; exact ⟨_, HM.out.set _⟩); have HB2 : Hid (Below w.heap.size w w2) := (by rw [hw2]; exact below_setRow HB.out (Nat.le_refl _) _); clear hw2)
      go_roundw
      case rel => exact ⟨k + 1, by omega, by go_num, HM2.out, HB2.out⟩
      case measure => simp [intOf]; omega
    · have hin' : ¬ k < len0 ∨ (k < len0 ∧ ¬ k < 300) := by omega
      clear hin
      rcases hin' with h1 | ⟨h1, h2⟩
      all_goals
        go_wp2_with (first
          | (go_at_call 15; refine (copy_any _ _ 8 _ _ M _ (by omega) (by omega) HM.out).mono ?_; rintro e w2 ⟨rfl, hw2⟩; have HB2 : Hid (Below w.heap.size w w2) := (by rw [hw2]; exact below_setRow HB.out (Nat.le_refl _) _); clear hw2)
          | (go_at_call 10; refine (awake_any _).mono ?_; rintro e w4 ⟨rfl, hw4⟩))
        go_ret
        exact ⟨rfl, HB2.out.trans ((newW_below _ 1).mono HB2.out.size)⟩
set_option maxRecDepth 100000 in
set_option maxHeartbeats 4000000 in
theorem walk_bad3 (a0 : Option Addr) (len0 cap0 : Nat) (f g v : Int) (w : World) (HC : Hid (Came .u64 w.heap.size w a0 len0)) (hl : len0 ≤ 9223372036854775807) (hE : errC 8 f g = 1) (hx : ¬ f < 0) (hy : ¬ 7 < f) (hz : ¬ g < 0) (ht : 7 < g) :
    Calls Try.prog 5 #[.slice a0 len0 cap0, .int .i64 f, .int .i64 g, .int .u64 v] w fun e w' => e = .returned (.bool true) ∧ Below w.heap.size w w' := by
  go_enter Try.func5, Try.ntmps5
  go_wp2_with (go_at_call 8; refine (new_ok 8 _ (by omega) (by omega)).mono ?_; rintro e w1 ⟨rfl, hw1⟩; have HM1 : Hid (MemIs w1 (w.heap.size + 1) w.heap.size 8 fun _ _ => 0) := (by rw [hw1]; exact newW_is w 8); have HB1 : Hid (Below w.heap.size w w1) := (by rw [hw1]; exact newW_below w 8); clear hw1)
  go_loopw [11] (fun i wr => ∃ k : Nat, k ≤ len0 ∧ i = .int .i64 k ∧ (∃ M, MemIs wr (w.heap.size + 1) w.heap.size 8 M) ∧ Below w.heap.size w wr) (fun i _ => len0 - (intOf i).toNat)
  case atStart => exact ⟨0, Nat.zero_le _, rfl, ⟨_, HM1.out⟩, HB1.out⟩
  case round =>
    obtain ⟨k, hk, rfl, ⟨M, hM⟩, hB⟩ := hrel
    have HM : Hid (MemIs wr (w.heap.size + 1) w.heap.size 8 M) := hM
    have HB : Hid (Below w.heap.size w wr) := hB
    clear hM hB HM1 HB1
    by_cases hin : k < len0 ∧ k < 300
    · obtain ⟨hk1, hk2⟩ := hin
      obtain ⟨bs, os, z, rfl, hz, _⟩ := HC.out.at HB.out hk1
      have hki : (k : Int) < (len0 : Int) := by omega
      have hk3 : (k : Int) < 300 := by omega
      go_wp2_with (go_at_call 11; refine (store_any _ _ 8 _ _ _ M _ (by omega) (by omega) HM.out).mono ?_; rintro e w2 ⟨rfl, hw2⟩; have HM2 : Hid (∃ M, MemIs w2 (w.heap.size + 1) w.heap.size 8 M) := (by rw [hw2]; exact ⟨_, HM.out.set _⟩); have HB2 : Hid (Below w.heap.size w w2) := (by rw [hw2]; exact below_setRow HB.out (Nat.le_refl _) _); clear hw2)
      go_roundw
      case rel => exact ⟨k + 1, by omega, by go_num, HM2.out, HB2.out⟩
      case measure => simp [intOf]; omega
    · have hin' : ¬ k < len0 ∨ (k < len0 ∧ ¬ k < 300) := by omega
      clear hin
      rcases hin' with h1 | ⟨h1, h2⟩
      all_goals
        go_wp2_with (first
          | (go_at_call 15; refine (copy_any _ _ 8 _ _ M _ (by omega) (by omega) HM.out).mono ?_; rintro e w2 ⟨rfl, hw2⟩; have HB2 : Hid (Below w.heap.size w w2) := (by rw [hw2]; exact below_setRow HB.out (Nat.le_refl _) _); clear hw2)
          | (go_at_call 10; refine (awake_any _).mono ?_; rintro e w4 ⟨rfl, hw4⟩))
        go_ret
        exact ⟨rfl, HB2.out.trans ((newW_below _ 1).mono HB2.out.size)⟩
set_option maxRecDepth 100000 in
set_option maxHeartbeats 4000000 in
theorem walk_ok_same (a0 : Option Addr) (len0 cap0 : Nat) (f g v : Int) (w : World) (HC : Hid (Came .u64 w.heap.size w a0 len0)) (hl : len0 ≤ 9223372036854775807) (hE : errC 8 f f = 0) (hs : ∀ M, sameM 8 M f f = true) :
    Calls Try.prog 5 #[.slice a0 len0 cap0, .int .i64 f, .int .i64 f, .int .u64 v] w fun e w' => e = .returned (.bool true) ∧ Below w.heap.size w w' := by
  go_enter Try.func5, Try.ntmps5
  go_wp2_with (go_at_call 8; refine (new_ok 8 _ (by omega) (by omega)).mono ?_; rintro e w1 ⟨rfl, hw1⟩; have HM1 : Hid (MemIs w1 (w.heap.size + 1) w.heap.size 8 fun _ _ => 0) := (by rw [hw1]; exact newW_is w 8); have HB1 : Hid (Below w.heap.size w w1) := (by rw [hw1]; exact newW_below w 8); clear hw1)
  go_loopw [11] (fun i wr => ∃ k : Nat, k ≤ len0 ∧ i = .int .i64 k ∧ (∃ M, MemIs wr (w.heap.size + 1) w.heap.size 8 M) ∧ Below w.heap.size w wr) (fun i _ => len0 - (intOf i).toNat)
  case atStart => exact ⟨0, Nat.zero_le _, rfl, ⟨_, HM1.out⟩, HB1.out⟩
  case round =>
    obtain ⟨k, hk, rfl, ⟨M, hM⟩, hB⟩ := hrel
    have HM : Hid (MemIs wr (w.heap.size + 1) w.heap.size 8 M) := hM
    have HB : Hid (Below w.heap.size w wr) := hB
    clear hM hB HM1 HB1
    by_cases hin : k < len0 ∧ k < 300
    · obtain ⟨hk1, hk2⟩ := hin
      obtain ⟨bs, os, z, rfl, hz, _⟩ := HC.out.at HB.out hk1
      have hki : (k : Int) < (len0 : Int) := by omega
      have hk3 : (k : Int) < 300 := by omega
      go_wp2_with (go_at_call 11; refine (store_any _ _ 8 _ _ _ M _ (by omega) (by omega) HM.out).mono ?_; rintro e w2 ⟨rfl, hw2⟩; have HM2 : Hid (∃ M, MemIs w2 (w.heap.size + 1) w.heap.size 8 M) := (by rw [hw2]; exact ⟨_, HM.out.set _⟩); have HB2 : Hid (Below w.heap.size w w2) := (by rw [hw2]; exact below_setRow HB.out (Nat.le_refl _) _); clear hw2)
      go_roundw
      case rel => exact ⟨k + 1, by omega, by go_num, HM2.out, HB2.out⟩
      case measure => simp [intOf]; omega
    · have hin' : ¬ k < len0 ∨ (k < len0 ∧ ¬ k < 300) := by omega
      clear hin
      rcases hin' with h1 | ⟨h1, h2⟩
      all_goals
        go_wp2_with (first
          | (go_at_call 10; refine (awake_any _).mono ?_; rintro e w6 ⟨rfl, hw6⟩)
          | (go_at_call 17; refine (same_any _ _ 8 _ _ (stM 8 (cpM 8 M f f) f 0 v) _ (by omega) (by omega) HM4.out).mono ?_; rintro e w5 ⟨rfl, n5, hw5⟩; have HB5 : Hid (Below w.heap.size w w5) := (by rw [hw5]; exact below_drewN HB4.out n5); clear hw5)
          | (go_at_call 19; refine (load_any _ _ 8 _ _ (stM 8 (cpM 8 M f f) f 0 v) _ (by omega) (by omega) HM4.out).mono ?_; rintro e w4' ⟨rfl, rfl⟩)
          | (go_at_call 11; refine (store_any _ _ 8 _ _ _ (cpM 8 M f f) _ (by omega) (by omega) HM3.out).mono ?_; rintro e w4 ⟨rfl, hw4⟩; have HM4 : Hid (MemIs w4 (w.heap.size + 1) w.heap.size 8 (stM 8 (cpM 8 M f f) f 0 v)) := (by rw [hw4]; exact HM3.out.set _); have HB4 : Hid (Below w.heap.size w w4) := (by rw [hw4]; exact below_setRow HB3.out (Nat.le_refl _) _); clear hw4)
          | (go_at_call 19; refine (load_any _ _ 8 _ _ (cpM 8 M f f) _ (by omega) (by omega) HM3.out).mono ?_; rintro e w3' ⟨rfl, rfl⟩)
          | (go_at_call 17; refine (same_any _ _ 8 _ _ (cpM 8 M f f) _ (by omega) (by omega) HM2.out).mono ?_; rintro e w3 ⟨rfl, n3, hw3⟩; have HM3 : Hid (MemIs w3 (w.heap.size + 1) w.heap.size 8 (cpM 8 M f f)) := (by rw [hw3]; exact HM2.out.drewN n3); have HB3 : Hid (Below w.heap.size w w3) := (by rw [hw3]; exact below_drewN HB2.out n3); clear hw3)
          | (go_at_call 15; refine (copy_any _ _ 8 _ _ M _ (by omega) (by omega) HM.out).mono ?_; rintro e w2 ⟨rfl, hw2⟩; have HM2 : Hid (MemIs w2 (w.heap.size + 1) w.heap.size 8 (cpM 8 M f f)) := (by rw [hw2]; exact HM.out.set _); have HB2 : Hid (Below w.heap.size w w2) := (by rw [hw2]; exact below_setRow HB.out (Nat.le_refl _) _); clear hw2))
        go_ret
        exact ⟨rfl, HB5.out.trans ((newW_below _ 1).mono HB5.out.size)⟩
set_option maxRecDepth 100000 in
set_option maxHeartbeats 4000000 in
theorem walk_ok_other (a0 : Option Addr) (len0 cap0 : Nat) (f g v : Int) (w : World) (HC : Hid (Came .u64 w.heap.size w a0 len0)) (hl : len0 ≤ 9223372036854775807) (hfg : (f == g) = false) (hE : errC 8 f g = 0) (hs : ∀ M, sameM 8 (cpM 8 M f g) f g = true) (hl2 : ∀ M, ldM 8 (stM 8 M g 0 v) f 0 = ldM 8 M f 0) (hs2 : ∀ M, sameM 8 (stM 8 (cpM 8 M f g) g 0 v) f g = (ldM 8 (cpM 8 M f g) f 0 == v)) :
    Calls Try.prog 5 #[.slice a0 len0 cap0, .int .i64 f, .int .i64 g, .int .u64 v] w fun e w' => e = .returned (.bool true) ∧ Below w.heap.size w w' := by
  go_enter Try.func5, Try.ntmps5
  go_wp2_with (go_at_call 8; refine (new_ok 8 _ (by omega) (by omega)).mono ?_; rintro e w1 ⟨rfl, hw1⟩; have HM1 : Hid (MemIs w1 (w.heap.size + 1) w.heap.size 8 fun _ _ => 0) := (by rw [hw1]; exact newW_is w 8); have HB1 : Hid (Below w.heap.size w w1) := (by rw [hw1]; exact newW_below w 8); clear hw1)
  go_loopw [11] (fun i wr => ∃ k : Nat, k ≤ len0 ∧ i = .int .i64 k ∧ (∃ M, MemIs wr (w.heap.size + 1) w.heap.size 8 M) ∧ Below w.heap.size w wr) (fun i _ => len0 - (intOf i).toNat)
  case atStart => exact ⟨0, Nat.zero_le _, rfl, ⟨_, HM1.out⟩, HB1.out⟩
  case round =>
    obtain ⟨k, hk, rfl, ⟨M, hM⟩, hB⟩ := hrel
    have HM : Hid (MemIs wr (w.heap.size + 1) w.heap.size 8 M) := hM
    have HB : Hid (Below w.heap.size w wr) := hB
    clear hM hB HM1 HB1
    by_cases hin : k < len0 ∧ k < 300
    · obtain ⟨hk1, hk2⟩ := hin
      obtain ⟨bs, os, z, rfl, hz, _⟩ := HC.out.at HB.out hk1
      have hki : (k : Int) < (len0 : Int) := by omega
      have hk3 : (k : Int) < 300 := by omega
      go_wp2_with (go_at_call 11; refine (store_any _ _ 8 _ _ _ M _ (by omega) (by omega) HM.out).mono ?_; rintro e w2 ⟨rfl, hw2⟩; have HM2 : Hid (∃ M, MemIs w2 (w.heap.size + 1) w.heap.size 8 M) := (by rw [hw2]; exact ⟨_, HM.out.set _⟩); have HB2 : Hid (Below w.heap.size w w2) := (by rw [hw2]; exact below_setRow HB.out (Nat.le_refl _) _); clear hw2)
      go_roundw
      case rel => exact ⟨k + 1, by omega, by go_num, HM2.out, HB2.out⟩
      case measure => simp [intOf]; omega
    · have hin' : ¬ k < len0 ∨ (k < len0 ∧ ¬ k < 300) := by omega
      clear hin
      rcases hin' with h1 | ⟨h1, h2⟩
      all_goals
        go_wp2_with (first
          | (go_at_call 10; refine (awake_any _).mono ?_; rintro e w6 ⟨rfl, hw6⟩)
          | (go_at_call 17; refine (same_any _ _ 8 _ _ (stM 8 (cpM 8 M f g) g 0 v) _ (by omega) (by omega) HM4.out).mono ?_; rintro e w5 ⟨rfl, n5, hw5⟩; have HB5 : Hid (Below w.heap.size w w5) := (by rw [hw5]; exact below_drewN HB4.out n5); clear hw5)
          | (go_at_call 19; refine (load_any _ _ 8 _ _ (stM 8 (cpM 8 M f g) g 0 v) _ (by omega) (by omega) HM4.out).mono ?_; rintro e w4' ⟨rfl, rfl⟩)
          | (go_at_call 11; refine (store_any _ _ 8 _ _ _ (cpM 8 M f g) _ (by omega) (by omega) HM3.out).mono ?_; rintro e w4 ⟨rfl, hw4⟩; have HM4 : Hid (MemIs w4 (w.heap.size + 1) w.heap.size 8 (stM 8 (cpM 8 M f g) g 0 v)) := (by rw [hw4]; exact HM3.out.set _); have HB4 : Hid (Below w.heap.size w w4) := (by rw [hw4]; exact below_setRow HB3.out (Nat.le_refl _) _); clear hw4)
          | (go_at_call 19; refine (load_any _ _ 8 _ _ (cpM 8 M f g) _ (by omega) (by omega) HM3.out).mono ?_; rintro e w3' ⟨rfl, rfl⟩)
          | (go_at_call 17; refine (same_any _ _ 8 _ _ (cpM 8 M f g) _ (by omega) (by omega) HM2.out).mono ?_; rintro e w3 ⟨rfl, n3, hw3⟩; have HM3 : Hid (MemIs w3 (w.heap.size + 1) w.heap.size 8 (cpM 8 M f g)) := (by rw [hw3]; exact HM2.out.drewN n3); have HB3 : Hid (Below w.heap.size w w3) := (by rw [hw3]; exact below_drewN HB2.out n3); clear hw3)
          | (go_at_call 15; refine (copy_any _ _ 8 _ _ M _ (by omega) (by omega) HM.out).mono ?_; rintro e w2 ⟨rfl, hw2⟩; have HM2 : Hid (MemIs w2 (w.heap.size + 1) w.heap.size 8 (cpM 8 M f g)) := (by rw [hw2]; exact HM.out.set _); have HB2 : Hid (Below w.heap.size w w2) := (by rw [hw2]; exact below_setRow HB.out (Nat.le_refl _) _); clear hw2))
        go_ret
        exact ⟨rfl, HB5.out.trans ((newW_below _ 1).mono HB5.out.size)⟩

/-! ### STEP 1: THE WALK: the Go text returns true, AND WRITES NOTHING THAT WAS THERE: 'Below w.heap.size w w'' (Derived/Below.lean: '.refl', '.alloc', '.drew', '.setCell' at a new block, '.trans'). Open each 'IsRow' by 'rcases' AHEAD of 'go_enter'; part every test ahead of the walk. -/
theorem walk (a0 : Option Addr) (len0 cap0 : Nat) (z0 : List Int) (a1 : Int) (a2 : Int) (a3 : Int) (w : World) (w0 : IsRow .u64 w a0 len0 cap0 z0) (w1 : (Lit.int .i64 a1).wf = true) (w2 : (Lit.int .i64 a2).wf = true) (w3 : (Lit.int .u64 a3).wf = true) :
    Calls Try.prog 5 #[.slice a0 len0 cap0, .int .i64 a1, .int .i64 a2, .int .u64 a3] w fun e w' => e = .returned (.bool true) ∧ Below w.heap.size w w' := by
  obtain ⟨hC, hl⟩ := came_of_row w0
  clear w0
  cases hk : okF 8 a1 && okF 8 a2
  · have hE : errC 8 a1 a2 = 1 := by simp only [errC, hk]; rfl
    by_cases hx : a1 < 0
    · exact walk_bad0 a0 len0 cap0 a1 a2 a3 w hC hl hE hx
    · by_cases hy : 7 < a1
      · exact walk_bad1 a0 len0 cap0 a1 a2 a3 w hC hl hE hx hy
      · by_cases hz : a2 < 0
        · exact walk_bad2 a0 len0 cap0 a1 a2 a3 w hC hl hE hx hy hz
        · exact walk_bad3 a0 len0 cap0 a1 a2 a3 w hC hl hE hx hy hz (by simp [okF] at hk; omega)
  · have hE : errC 8 a1 a2 = 0 := by simp only [errC, hk]; rfl
    rw [Bool.and_eq_true] at hk
    obtain ⟨h1, h2⟩ := hk
    by_cases hfg : a1 = a2
    · subst hfg
      exact walk_ok_same a0 len0 cap0 a1 a1 a3 w hC hl hE (same_self h1)
    · exact walk_ok_other a0 len0 cap0 a1 a2 a3 w hC hl (by simp [hfg]) hE (same_copied h1 h2) (fun M => ld_apart hfg h1 h2 M a3) (fun M => same_apart hfg h1 h2 M a3)

/-! ### THE ROW's STEP: WRITTEN OUT: LEAVE IT -/
set_option maxRecDepth 100000 in
theorem lifted (os : Os) (started : os.Started) (H : Type) (enc : TypeId × Value → H) :
    ReturnsInHanded {} Try.checked os 5 .any (Rows.memCopiesSpec.pre6 enc Try.prog Try.f5 Rows.memCopiesRow.domain false) (Rows.memCopiesSpec.post enc Try.prog Try.f5 false true false false) := by
  refine returnsInHanded_of_change (C := Try.checked) own started (by kernel_rfl) Try.func5
    (ChangeSpec.witness6 (enc := enc) (C := Try.checked) false ⟨#[], #[.slice none 0 0, .int .i64 0, .int .i64 0, .int .u64 0], []⟩ 8 (by kernel_rfl) (by kernel_rfl) (by kernel_rfl) (by kernel_rfl)) ?_
  intro W base args ds gs before hval0 hW hcnd _
  have hval : ∀ (j : Nat) t v, Try.f5.params[j]? = some t → args[j]? = some v → Value.okWide Try.prog W .any base t v := hval0
  have hW' := hW
  obtain ⟨p, q, hA0, hV, rfl, hfz, hnd⟩ := hW
  have hA : DataW.TrodAll enc Try.prog W 0 (fun _ => true) true Try.f5.params.toList args.toList ds p := hA0
  rw [Try.params5] at hA hval
  obtain ⟨v0, vs0, d0, ds0, p0, q0, hargs, rfl, rfl, h0, r0⟩ := trodAll_cons hA
  obtain ⟨v1, vs1, d1, ds1, p1, q1, rfl, rfl, rfl, h1, r1⟩ := trodAll_cons r0
  obtain ⟨v2, vs2, d2, ds2, p2, q2, rfl, rfl, rfl, h2, r2⟩ := trodAll_cons r1
  obtain ⟨v3, vs3, d3, ds3, p3, q3, rfl, rfl, rfl, h3, r3⟩ := trodAll_cons r2
  obtain ⟨rfl, rfl, rfl⟩ := trodAll_nil r3
  obtain rfl : args = #[v0, v1, v2, v3] := by cases args; simp_all
  obtain ⟨rfl, rfl⟩ := trodVars_none hV
  obtain ⟨a0, len0, cap0, rfl⟩ := okWide_slice Try.underlying24 (hval 0 24 v0 rfl rfl)
  have k0 := h0
  have lt0 : ∀ x ∈ p0, x.block < W.heap.size := by obtain ⟨m, hm⟩ := k0; exact DataW.trod_lt m _ _ _ hm
  obtain ⟨z0, w0⟩ : ∃ zs, IsRow .u64 W a0 len0 cap0 zs := by
    obtain ⟨fuel, hf⟩ := h0
    rcases open_ints Try.underlying24 Try.underlying34 (by kernel_rfl) hf with ⟨hcs, _⟩ | ⟨x, l, c, zs, hcs, _, hl, hm, hz, _, hcell, hwz⟩
    · simp [Value.cells] at hcs
      obtain ⟨rfl, rfl, rfl⟩ := hcs
      exact ⟨[], .inl ⟨rfl, rfl, rfl, rfl⟩⟩
    · simp [Value.cells] at hcs
      obtain ⟨rfl, rfl, rfl⟩ := hcs
      exact ⟨zs, .inr ⟨_, rfl, hl, hm, by simpa using hz, hcell, hwz⟩⟩
  obtain ⟨a1, rfl, rfl, rfl, w1⟩ := open_int Try.underlying3 (hval 1 3 v1 rfl rfl) h1
  obtain ⟨a2, rfl, rfl, rfl, w2⟩ := open_int Try.underlying3 (hval 2 3 v2 rfl rfl) h2
  obtain ⟨a3, rfl, rfl, rfl, w3⟩ := open_int Try.underlying34 (hval 3 34 v3 rfl rfl) h3
  clear hA0 hval0
  refine (walk a0 len0 cap0 z0 a1 a2 a3 W w0 w1 w2 w3).mono fun e W' ⟨he, bel⟩ => ?_
  subst he
  exact ⟨_, rfl, _, _, _, [], _, [], hW', trodAll_mk1 (shut_bool Try.underlying4 _), (trodAll_cons_mk (Below.trod laidOut (by kernel_rfl) (of_decide_eq_true (by kernel_rfl)) k0 bel lt0) (trodAll_cons_mk (shut_int Try.underlying3 w1) (trodAll_cons_mk (shut_int Try.underlying3 w2) (trodAll_cons_mk (shut_int Try.underlying34 w3) trodAll_mk0)))), rfl, bel.frame _, fun h => by cases h⟩

theorem over : Rows.memCopiesRow.holds Try.pinned (OpenSpec.ofChange Rows.memCopiesSpec) :=
  OpenClaim.holds_of_wide 5 Try.f5 rfl rfl rfl rfl rfl rfl rfl ⟨rfl, rfl, rfl, rfl, rfl⟩ rfl rfl rfl rfl rfl (by kernel_rfl) Try.func5 (by kernel_rfl)
    (of_decide_eq_true (by kernel_rfl)) (by unfold Func.isWrapper; first | (rw [if_pos (by decide +kernel)]; kernel_rfl) | (rw [if_neg (by decide +kernel)]; exact ⟨rfl, rfl⟩))
    (fun os started H enc _ => lifted os started H enc)

/-- ████ THE STATEMENT ████ -/
theorem proved : Rows.MemCopiesSaid := over
end Go.Proofs.Ytpeidlkoefmbfaa.memCopies
namespace Go.Proofs.Ytpeidlkoefmbfaa
theorem memCopies_holds : Rows.MemCopiesSaid := memCopies.proved
#print axioms memCopies_holds
end Go.Proofs.Ytpeidlkoefmbfaa
