/- ClockSums returns true for every two lists of bytes (which act, of which core), and leaves its arguments as they were. No condition. -/
import Derived.Test.YtmnjlckniaociaaRows
import Derived.Test.YtmnjlckniaociaaClkB
import Derived.Test.YtmnjlckniaociaaClkH
import Derived.Test.YtmnjlckniaociaaClkI
import Derived.WalkKit
import Derived.ProofKit
import Derived.OpenShut
import Derived.ShutString
import Derived.ChangeOld
import Derived.Below
namespace Go.Proofs.Ytmnjlckniaociaa.clockSums
open Go.ChangeShapes Go.WideShapes Go.ChangeAt Go.RowKit
open Go.ChangeMaps (open_string shut_string)
set_option linter.unusedVariables false

theorem own : ownKnob Try.prog.godebug = none := by kernel_rfl
theorem laidOut : laidOutB Try.prog = true := by kernel_rfl

/-- WHAT THE WALK IS TOLD OF A SLICE OF INTEGERS THAT CAME IN: it is nil; or it leads to a row of 'cap' cells, the numbers 'zs' (the first 'len' are its elements, the rest its spare room), each fitting its kind. -/
def IsRow (k : IntKind) (w : World) (a : Option Addr) (len cap : Nat) (zs : List Int) : Prop :=
  (a = none ∧ len = 0 ∧ cap = 0 ∧ zs = []) ∨
  ∃ x, a = some x ∧ len ≤ cap ∧ cap ≤ maxLen ∧ zs.length = cap ∧ (∀ i, i < zs.length → w.cell? (x.add i) = some (.int k (zs.getD i 0))) ∧ ∀ n ∈ zs, (Lit.int k n).wf = true

set_option maxRecDepth 100000 in
set_option maxHeartbeats 8000000 in
theorem walk_all (a0 a1 : Option Addr) (len0 cap0 len1 cap1 : Nat) (w : World)
    (HC0 : Hid (Came .u8 w.heap.size w a0 len0)) (HC1 : Hid (Came .u8 w.heap.size w a1 len1)) (hl0 : len0 ≤ 9223372036854775807) (hl1 : len1 ≤ 9223372036854775807) :
    Calls Try.prog 4 #[.slice a0 len0 cap0, .slice a1 len1 cap1] w fun e w' => e = .returned (.bool true) ∧ Below w.heap.size w w' := by
  go_enter Try.func4, Try.ntmps4
  go_wp2_with (first
    | (go_at_call 7; refine (new_ok 3 _ (by omega) (by omega)).mono ?_; rintro e w1 ⟨rfl, hc1, hb1⟩; have HN : Hid (ClockIs w1 w.heap.size 3 (newS 3)) := hc1; have HNB : Hid (Below w.heap.size w w1) := hb1; clear hc1 hb1)
    | (go_at_call 16; refine (floor_any _ 3 (newS 3) _ (by omega) (by omega) HN.out).mono ?_; rintro e w2 ⟨rfl, hm2⟩; have HM : Hid (ClockIs w2 w.heap.size 3 (newS 3)) := HN.out.more hm2; have HMB : Hid (Below w.heap.size w w2) := HNB.out.trans (hm2.below.mono HNB.out.size); clear hm2))
  clear HN HNB
  go_loopw [7, 8, 9] (fun x y i wr => ∃ k : Nat, k ≤ len0 ∧ i = .int .i64 k ∧ ∃ s, x = .int .i64 (floE 3 s) ∧ y = .int .i64 (floF 3 s) ∧ ClockIs wr w.heap.size 3 s ∧ Below w.heap.size w wr ∧ Good s) (fun _ _ i _ => len0 - (intOf i).toNat)
  case atStart => exact ⟨0, by omega, rfl, newS 3, rfl, rfl, HM.out, HMB.out, good_new⟩
  case round =>
    obtain ⟨k, hk, rfl, s, rfl, rfl, hI, hB, hG⟩ := hrel
    have HI : Hid (ClockIs wr w.heap.size 3 s) := hI
    have HB : Hid (Below w.heap.size w wr) := hB
    have HG : Hid (Good s) := hG
    clear hI hB hG HM HMB
    by_cases hin : k < len0 ∧ k < len1 ∧ k < 200
    · obtain ⟨h0, h1, h2⟩ := hin
      obtain ⟨b0, o0, z0, rfl, c0, HZ0⟩ := HC0.out.at HB.out h0
      obtain ⟨b1, o1, z1, rfl, c1, HZ1⟩ := HC1.out.at HB.out h1
      have i0 : (k : Int) < (len0 : Int) := by omega
      have i1 : (k : Int) < (len1 : Int) := by omega
      have i2 : (k : Int) < 200 := by omega
      obtain ⟨kk, hr, hkk⟩ := rem_u8 HZ1.out 3 (by omega)
      have hr' : z1.tmod 3 = (kk : Int) := hr
      have hk3 : (kk : Int) < 3 := by omega
      obtain ⟨q, hq0, hq3⟩ := rem_u8 HZ0.out 3 (by omega)
      have hq' : z0.tmod 3 = 0 ∨ z0.tmod 3 = 1 ∨ z0.tmod 3 = 2 := by
        have : z0.tmod 3 = (q : Int) := hq0
        omega
      clear hr hq0 HZ0 HZ1
      rcases hq' with hq | hq | hq
      ·
        go_wp2_with (go_at_call 10; refine (step_any _ 3 _ s _ (by omega) (by omega) HI.out).mono ?_; rintro e w2 ⟨rfl, hw2⟩; have HC2' : Hid (ClockIs w2 w.heap.size 3 (stepS 3 s kk)) := (by rw [hw2]; exact HI.out.set _ (ok_step HI.out.ok 3 kk)); have HB2 : Hid (Below w.heap.size w w2) := (by rw [hw2]; exact below_setRow HB.out (Nat.le_refl _) _); clear hw2)
        have HG2' : Hid (Onward s (stepS 3 s kk)) := onward_step HG.out hkk
        obtain ⟨s2, hs2⟩ : ∃ s2, s2 = stepS 3 s (kk : Int) := ⟨_, rfl⟩
        rw [← hs2] at HC2' HG2'
        have HC2 : Hid (ClockIs w2 w.heap.size 3 s2) := HC2'.out
        have HG2 : Hid (Onward s s2) := HG2'.out
        clear hs2 HC2' HG2' hq
        go_loopw [11, 12] (fun n j wi => ∃ m : Nat, m ≤ 3 ∧ j = .int .i64 m ∧ n = .int .i64 (sumN s2 m) ∧ ClockIs wi w.heap.size 3 s2 ∧ Below w.heap.size w wi) (fun _ j _ => 3 - (intOf j).toNat)
        case atStart => exact ⟨0, by omega, rfl, rfl, HC2.out, HB2.out⟩
        case round =>
          obtain ⟨m, hm, rfl, rfl, hI3, hB3⟩ := hrel
          have HI3 : Hid (ClockIs wr w.heap.size 3 s2) := hI3
          have HB3 : Hid (Below w.heap.size w wr) := hB3
          clear hI3 hB3 HC2 HB2
          by_cases hlt : m < 3
          · have hmi : (m : Int) < 3 := by omega
            have e1 : ¬ s2.now < enS 3 s2 (m : Int) := by rw [enS_nat hlt]; have := HG2.out.good.en m hlt; omega
            have e2 : ¬ s2.now < flS 3 s2 (m : Int) := by rw [flS_nat hlt]; have := HG2.out.good.fl m hlt; omega
            have hok := HI3.out.ok
            have b0 := sumN_bound hok m hm
            have b1 : 0 ≤ sumN s2 m := b0.1
            have b2 : sumN s2 m ≤ 3221225472 := by omega
            have b3 : 0 ≤ cyS 3 s2 (m : Int) := by rw [cyS_nat hlt]; exact (hok.2.2 m).1
            have b4 : cyS 3 s2 (m : Int) ≤ 1073741824 := by rw [cyS_nat hlt]; have := hok.2.2 m; have := hok.2.1; omega
            clear hok b0
            go_wp2_with (first
              | (go_at_call 21; refine (cycles_any _ 3 _ s2 _ (by omega) (by omega) HI3.out).mono ?_; rintro e w3 ⟨rfl, hm3⟩; have HI4 : Hid (ClockIs w3 w.heap.size 3 s2) := HI3.out.more hm3; have HB4 : Hid (Below w.heap.size w w3) := HB3.out.trans (hm3.below.mono HB3.out.size); clear hm3)
              | (go_at_call 22; refine (entered_any _ 3 _ s2 _ (by omega) (by omega) HI4.out).mono ?_; rintro e w4 ⟨rfl, hm4⟩; have HI5 : Hid (ClockIs w4 w.heap.size 3 s2) := HI4.out.more hm4; have HB5 : Hid (Below w.heap.size w w4) := HB4.out.trans (hm4.below.mono HB4.out.size); clear hm4)
              | (go_at_call 23; refine (flushed_any _ 3 _ s2 _ (by omega) (by omega) HI5.out).mono ?_; rintro e w5 ⟨rfl, hm5⟩; have HI6 : Hid (ClockIs w5 w.heap.size 3 s2) := HI5.out.more hm5; have HB6 : Hid (Below w.heap.size w w5) := HB5.out.trans (hm5.below.mono HB5.out.size); clear hm5)
              | (go_at_call 18; refine (now_some _ _ _ HI6.out.now).mono ?_; rintro e w9 ⟨rfl, hw9⟩; subst w9)
              | (go_at_call 18; refine (now_some _ _ _ HI5.out.now).mono ?_; rintro e w9 ⟨rfl, hw9⟩; subst w9))
            go_roundw
            case rel => exact ⟨m + 1, by omega, by go_num, by rw [cyS_nat hlt]; rfl, HI6.out, HB6.out⟩
            case measure => simp [intOf]; omega
          · obtain rfl : m = 3 := by omega
            have hsum : sumN s2 3 = s2.now := sum3 HG2.out.good
            have f1 : ¬ floE 3 s2 < floE 3 s := by have := HG2.out.en; omega
            have f2 : ¬ floF 3 s2 < floF 3 s := by have := HG2.out.fl; omega
            have f3 : ¬ enS 3 s2 (kk : Int) < floE 3 s2 := by rw [enS_nat hkk]; have := leastN_le s2.en 2 kk (by omega); show ¬ _ < leastN s2.en 2; omega
            have f4 : ¬ flS 3 s2 (kk : Int) < floF 3 s2 := by rw [flS_nat hkk]; have := leastN_le s2.fl 2 kk (by omega); show ¬ _ < leastN s2.fl 2; omega
            go_wp2_with (first
              | (go_at_call 16; refine (floor_any _ 3 s2 _ (by omega) (by omega) HI3.out).mono ?_; rintro e w3 ⟨rfl, hm3⟩; have HI4 : Hid (ClockIs w3 w.heap.size 3 s2) := HI3.out.more hm3; have HB4 : Hid (Below w.heap.size w w3) := HB3.out.trans (hm3.below.mono HB3.out.size); clear hm3)
              | (go_at_call 18; refine (now_some _ _ _ HI4.out.now).mono ?_; rintro e w9 ⟨rfl, hw9⟩; subst w9)
              | (go_at_call 22; refine (entered_any _ 3 _ s2 _ (by omega) (by omega) HI4.out).mono ?_; rintro e w4 ⟨rfl, hm4⟩; have HI5 : Hid (ClockIs w4 w.heap.size 3 s2) := HI4.out.more hm4; have HB5 : Hid (Below w.heap.size w w4) := HB4.out.trans (hm4.below.mono HB4.out.size); clear hm4)
              | (go_at_call 23; refine (flushed_any _ 3 _ s2 _ (by omega) (by omega) HI5.out).mono ?_; rintro e w5 ⟨rfl, hm5⟩; have HI6 : Hid (ClockIs w5 w.heap.size 3 s2) := HI5.out.more hm5; have HB6 : Hid (Below w.heap.size w w5) := HB5.out.trans (hm5.below.mono HB5.out.size); clear hm5))
            go_roundw
            case rel => exact ⟨k + 1, by omega, by go_num, s2, rfl, rfl, HI6.out, HB6.out, HG2.out.good⟩
            case measure => simp [intOf]; omega
      ·
        go_wp2_with (go_at_call 12; refine (enter_any _ 3 _ s _ (by omega) (by omega) HI.out).mono ?_; rintro e w2 ⟨rfl, hw2⟩; have HC2' : Hid (ClockIs w2 w.heap.size 3 (enterS 3 s kk)) := (by rw [hw2]; exact HI.out.set _ (ok_enter HI.out.ok 3 kk)); have HB2 : Hid (Below w.heap.size w w2) := (by rw [hw2]; exact below_setRow HB.out (Nat.le_refl _) _); clear hw2)
        have HG2' : Hid (Onward s (enterS 3 s kk)) := onward_enter HG.out hkk
        obtain ⟨s2, hs2⟩ : ∃ s2, s2 = enterS 3 s (kk : Int) := ⟨_, rfl⟩
        rw [← hs2] at HC2' HG2'
        have HC2 : Hid (ClockIs w2 w.heap.size 3 s2) := HC2'.out
        have HG2 : Hid (Onward s s2) := HG2'.out
        clear hs2 HC2' HG2' hq
        go_loopw [11, 12] (fun n j wi => ∃ m : Nat, m ≤ 3 ∧ j = .int .i64 m ∧ n = .int .i64 (sumN s2 m) ∧ ClockIs wi w.heap.size 3 s2 ∧ Below w.heap.size w wi) (fun _ j _ => 3 - (intOf j).toNat)
        case atStart => exact ⟨0, by omega, rfl, rfl, HC2.out, HB2.out⟩
        case round =>
          obtain ⟨m, hm, rfl, rfl, hI3, hB3⟩ := hrel
          have HI3 : Hid (ClockIs wr w.heap.size 3 s2) := hI3
          have HB3 : Hid (Below w.heap.size w wr) := hB3
          clear hI3 hB3 HC2 HB2
          by_cases hlt : m < 3
          · have hmi : (m : Int) < 3 := by omega
            have e1 : ¬ s2.now < enS 3 s2 (m : Int) := by rw [enS_nat hlt]; have := HG2.out.good.en m hlt; omega
            have e2 : ¬ s2.now < flS 3 s2 (m : Int) := by rw [flS_nat hlt]; have := HG2.out.good.fl m hlt; omega
            have hok := HI3.out.ok
            have b0 := sumN_bound hok m hm
            have b1 : 0 ≤ sumN s2 m := b0.1
            have b2 : sumN s2 m ≤ 3221225472 := by omega
            have b3 : 0 ≤ cyS 3 s2 (m : Int) := by rw [cyS_nat hlt]; exact (hok.2.2 m).1
            have b4 : cyS 3 s2 (m : Int) ≤ 1073741824 := by rw [cyS_nat hlt]; have := hok.2.2 m; have := hok.2.1; omega
            clear hok b0
            go_wp2_with (first
              | (go_at_call 21; refine (cycles_any _ 3 _ s2 _ (by omega) (by omega) HI3.out).mono ?_; rintro e w3 ⟨rfl, hm3⟩; have HI4 : Hid (ClockIs w3 w.heap.size 3 s2) := HI3.out.more hm3; have HB4 : Hid (Below w.heap.size w w3) := HB3.out.trans (hm3.below.mono HB3.out.size); clear hm3)
              | (go_at_call 22; refine (entered_any _ 3 _ s2 _ (by omega) (by omega) HI4.out).mono ?_; rintro e w4 ⟨rfl, hm4⟩; have HI5 : Hid (ClockIs w4 w.heap.size 3 s2) := HI4.out.more hm4; have HB5 : Hid (Below w.heap.size w w4) := HB4.out.trans (hm4.below.mono HB4.out.size); clear hm4)
              | (go_at_call 23; refine (flushed_any _ 3 _ s2 _ (by omega) (by omega) HI5.out).mono ?_; rintro e w5 ⟨rfl, hm5⟩; have HI6 : Hid (ClockIs w5 w.heap.size 3 s2) := HI5.out.more hm5; have HB6 : Hid (Below w.heap.size w w5) := HB5.out.trans (hm5.below.mono HB5.out.size); clear hm5)
              | (go_at_call 18; refine (now_some _ _ _ HI6.out.now).mono ?_; rintro e w9 ⟨rfl, hw9⟩; subst w9)
              | (go_at_call 18; refine (now_some _ _ _ HI5.out.now).mono ?_; rintro e w9 ⟨rfl, hw9⟩; subst w9))
            go_roundw
            case rel => exact ⟨m + 1, by omega, by go_num, by rw [cyS_nat hlt]; rfl, HI6.out, HB6.out⟩
            case measure => simp [intOf]; omega
          · obtain rfl : m = 3 := by omega
            have hsum : sumN s2 3 = s2.now := sum3 HG2.out.good
            have f1 : ¬ floE 3 s2 < floE 3 s := by have := HG2.out.en; omega
            have f2 : ¬ floF 3 s2 < floF 3 s := by have := HG2.out.fl; omega
            have f3 : ¬ enS 3 s2 (kk : Int) < floE 3 s2 := by rw [enS_nat hkk]; have := leastN_le s2.en 2 kk (by omega); show ¬ _ < leastN s2.en 2; omega
            have f4 : ¬ flS 3 s2 (kk : Int) < floF 3 s2 := by rw [flS_nat hkk]; have := leastN_le s2.fl 2 kk (by omega); show ¬ _ < leastN s2.fl 2; omega
            go_wp2_with (first
              | (go_at_call 16; refine (floor_any _ 3 s2 _ (by omega) (by omega) HI3.out).mono ?_; rintro e w3 ⟨rfl, hm3⟩; have HI4 : Hid (ClockIs w3 w.heap.size 3 s2) := HI3.out.more hm3; have HB4 : Hid (Below w.heap.size w w3) := HB3.out.trans (hm3.below.mono HB3.out.size); clear hm3)
              | (go_at_call 18; refine (now_some _ _ _ HI4.out.now).mono ?_; rintro e w9 ⟨rfl, hw9⟩; subst w9)
              | (go_at_call 22; refine (entered_any _ 3 _ s2 _ (by omega) (by omega) HI4.out).mono ?_; rintro e w4 ⟨rfl, hm4⟩; have HI5 : Hid (ClockIs w4 w.heap.size 3 s2) := HI4.out.more hm4; have HB5 : Hid (Below w.heap.size w w4) := HB4.out.trans (hm4.below.mono HB4.out.size); clear hm4)
              | (go_at_call 23; refine (flushed_any _ 3 _ s2 _ (by omega) (by omega) HI5.out).mono ?_; rintro e w5 ⟨rfl, hm5⟩; have HI6 : Hid (ClockIs w5 w.heap.size 3 s2) := HI5.out.more hm5; have HB6 : Hid (Below w.heap.size w w5) := HB5.out.trans (hm5.below.mono HB5.out.size); clear hm5))
            go_roundw
            case rel => exact ⟨k + 1, by omega, by go_num, s2, rfl, rfl, HI6.out, HB6.out, HG2.out.good⟩
            case measure => simp [intOf]; omega
      ·
        go_wp2_with (go_at_call 14; refine (flush_any _ 3 _ s _ (by omega) (by omega) HI.out).mono ?_; rintro e w2 ⟨rfl, hw2⟩; have HC2' : Hid (ClockIs w2 w.heap.size 3 (flushS 3 s kk)) := (by rw [hw2]; exact HI.out.set _ (ok_flush HI.out.ok 3 kk)); have HB2 : Hid (Below w.heap.size w w2) := (by rw [hw2]; exact below_setRow HB.out (Nat.le_refl _) _); clear hw2)
        have HG2' : Hid (Onward s (flushS 3 s kk)) := onward_flush HG.out hkk
        obtain ⟨s2, hs2⟩ : ∃ s2, s2 = flushS 3 s (kk : Int) := ⟨_, rfl⟩
        rw [← hs2] at HC2' HG2'
        have HC2 : Hid (ClockIs w2 w.heap.size 3 s2) := HC2'.out
        have HG2 : Hid (Onward s s2) := HG2'.out
        clear hs2 HC2' HG2' hq
        go_loopw [11, 12] (fun n j wi => ∃ m : Nat, m ≤ 3 ∧ j = .int .i64 m ∧ n = .int .i64 (sumN s2 m) ∧ ClockIs wi w.heap.size 3 s2 ∧ Below w.heap.size w wi) (fun _ j _ => 3 - (intOf j).toNat)
        case atStart => exact ⟨0, by omega, rfl, rfl, HC2.out, HB2.out⟩
        case round =>
          obtain ⟨m, hm, rfl, rfl, hI3, hB3⟩ := hrel
          have HI3 : Hid (ClockIs wr w.heap.size 3 s2) := hI3
          have HB3 : Hid (Below w.heap.size w wr) := hB3
          clear hI3 hB3 HC2 HB2
          by_cases hlt : m < 3
          · have hmi : (m : Int) < 3 := by omega
            have e1 : ¬ s2.now < enS 3 s2 (m : Int) := by rw [enS_nat hlt]; have := HG2.out.good.en m hlt; omega
            have e2 : ¬ s2.now < flS 3 s2 (m : Int) := by rw [flS_nat hlt]; have := HG2.out.good.fl m hlt; omega
            have hok := HI3.out.ok
            have b0 := sumN_bound hok m hm
            have b1 : 0 ≤ sumN s2 m := b0.1
            have b2 : sumN s2 m ≤ 3221225472 := by omega
            have b3 : 0 ≤ cyS 3 s2 (m : Int) := by rw [cyS_nat hlt]; exact (hok.2.2 m).1
            have b4 : cyS 3 s2 (m : Int) ≤ 1073741824 := by rw [cyS_nat hlt]; have := hok.2.2 m; have := hok.2.1; omega
            clear hok b0
            go_wp2_with (first
              | (go_at_call 21; refine (cycles_any _ 3 _ s2 _ (by omega) (by omega) HI3.out).mono ?_; rintro e w3 ⟨rfl, hm3⟩; have HI4 : Hid (ClockIs w3 w.heap.size 3 s2) := HI3.out.more hm3; have HB4 : Hid (Below w.heap.size w w3) := HB3.out.trans (hm3.below.mono HB3.out.size); clear hm3)
              | (go_at_call 22; refine (entered_any _ 3 _ s2 _ (by omega) (by omega) HI4.out).mono ?_; rintro e w4 ⟨rfl, hm4⟩; have HI5 : Hid (ClockIs w4 w.heap.size 3 s2) := HI4.out.more hm4; have HB5 : Hid (Below w.heap.size w w4) := HB4.out.trans (hm4.below.mono HB4.out.size); clear hm4)
              | (go_at_call 23; refine (flushed_any _ 3 _ s2 _ (by omega) (by omega) HI5.out).mono ?_; rintro e w5 ⟨rfl, hm5⟩; have HI6 : Hid (ClockIs w5 w.heap.size 3 s2) := HI5.out.more hm5; have HB6 : Hid (Below w.heap.size w w5) := HB5.out.trans (hm5.below.mono HB5.out.size); clear hm5)
              | (go_at_call 18; refine (now_some _ _ _ HI6.out.now).mono ?_; rintro e w9 ⟨rfl, hw9⟩; subst w9)
              | (go_at_call 18; refine (now_some _ _ _ HI5.out.now).mono ?_; rintro e w9 ⟨rfl, hw9⟩; subst w9))
            go_roundw
            case rel => exact ⟨m + 1, by omega, by go_num, by rw [cyS_nat hlt]; rfl, HI6.out, HB6.out⟩
            case measure => simp [intOf]; omega
          · obtain rfl : m = 3 := by omega
            have hsum : sumN s2 3 = s2.now := sum3 HG2.out.good
            have f1 : ¬ floE 3 s2 < floE 3 s := by have := HG2.out.en; omega
            have f2 : ¬ floF 3 s2 < floF 3 s := by have := HG2.out.fl; omega
            have f3 : ¬ enS 3 s2 (kk : Int) < floE 3 s2 := by rw [enS_nat hkk]; have := leastN_le s2.en 2 kk (by omega); show ¬ _ < leastN s2.en 2; omega
            have f4 : ¬ flS 3 s2 (kk : Int) < floF 3 s2 := by rw [flS_nat hkk]; have := leastN_le s2.fl 2 kk (by omega); show ¬ _ < leastN s2.fl 2; omega
            go_wp2_with (first
              | (go_at_call 16; refine (floor_any _ 3 s2 _ (by omega) (by omega) HI3.out).mono ?_; rintro e w3 ⟨rfl, hm3⟩; have HI4 : Hid (ClockIs w3 w.heap.size 3 s2) := HI3.out.more hm3; have HB4 : Hid (Below w.heap.size w w3) := HB3.out.trans (hm3.below.mono HB3.out.size); clear hm3)
              | (go_at_call 18; refine (now_some _ _ _ HI4.out.now).mono ?_; rintro e w9 ⟨rfl, hw9⟩; subst w9)
              | (go_at_call 22; refine (entered_any _ 3 _ s2 _ (by omega) (by omega) HI4.out).mono ?_; rintro e w4 ⟨rfl, hm4⟩; have HI5 : Hid (ClockIs w4 w.heap.size 3 s2) := HI4.out.more hm4; have HB5 : Hid (Below w.heap.size w w4) := HB4.out.trans (hm4.below.mono HB4.out.size); clear hm4)
              | (go_at_call 23; refine (flushed_any _ 3 _ s2 _ (by omega) (by omega) HI5.out).mono ?_; rintro e w5 ⟨rfl, hm5⟩; have HI6 : Hid (ClockIs w5 w.heap.size 3 s2) := HI5.out.more hm5; have HB6 : Hid (Below w.heap.size w w5) := HB5.out.trans (hm5.below.mono HB5.out.size); clear hm5))
            go_roundw
            case rel => exact ⟨k + 1, by omega, by go_num, s2, rfl, rfl, HI6.out, HB6.out, HG2.out.good⟩
            case measure => simp [intOf]; omega
    · have hout : ¬ k < len0 ∨ (k < len0 ∧ ¬ k < len1) ∨ (k < len0 ∧ k < len1 ∧ ¬ k < 200) := by omega
      clear hin
      rcases hout with h1 | ⟨h1, h2⟩ | ⟨h1, h2, h3⟩
      all_goals
        go_wp2_with (go_at_call 9; refine (awake_any _).mono ?_; rintro e w9 ⟨rfl, hw9⟩)
        go_ret
        exact ⟨rfl, HB.out.trans (hw9.mono HB.out.size)⟩

/-! ### STEP 1: THE WALK: the Go text returns true, AND WRITES NOTHING THAT WAS THERE: 'Below w.heap.size w w'' (Derived/Below.lean: '.refl', '.alloc', '.drew', '.setCell' at a new block, '.trans'). Open each 'IsRow' by 'rcases' AHEAD of 'go_enter'; part every test ahead of the walk. -/
theorem walk (a0 : Option Addr) (len0 cap0 : Nat) (z0 : List Int) (a1 : Option Addr) (len1 cap1 : Nat) (z1 : List Int) (w : World) (w0 : IsRow .u8 w a0 len0 cap0 z0) (w1 : IsRow .u8 w a1 len1 cap1 z1) :
    Calls Try.prog 4 #[.slice a0 len0 cap0, .slice a1 len1 cap1] w fun e w' => e = .returned (.bool true) ∧ Below w.heap.size w w' := by
  obtain ⟨hC0, hl0⟩ := came_of_row w0
  obtain ⟨hC1, hl1⟩ := came_of_row w1
  exact walk_all a0 a1 len0 cap0 len1 cap1 w hC0 hC1 hl0 hl1

/-! ### THE ROW's STEP: WRITTEN OUT: LEAVE IT -/
set_option maxRecDepth 100000 in
theorem lifted (os : Os) (started : os.Started) (H : Type) (enc : TypeId × Value → H) :
    ReturnsInHanded {} Try.checked os 4 .any (Rows.clockSumsSpec.pre6 enc Try.prog Try.f4 Rows.clockSumsRow.domain false) (Rows.clockSumsSpec.post enc Try.prog Try.f4 false true false false) := by
  refine returnsInHanded_of_change (C := Try.checked) own started (by kernel_rfl) Try.func4
    (ChangeSpec.witness6 (enc := enc) (C := Try.checked) false ⟨#[], #[.slice none 0 0, .slice none 0 0], []⟩ 8 (by kernel_rfl) (by kernel_rfl) (by kernel_rfl) (by kernel_rfl)) ?_
  intro W base args ds gs before hval0 hW hcnd _
  have hval : ∀ (j : Nat) t v, Try.f4.params[j]? = some t → args[j]? = some v → Value.okWide Try.prog W .any base t v := hval0
  have hW' := hW
  obtain ⟨p, q, hA0, hV, rfl, hfz, hnd⟩ := hW
  have hA : DataW.TrodAll enc Try.prog W 0 (fun _ => true) true Try.f4.params.toList args.toList ds p := hA0
  rw [Try.params4] at hA hval
  obtain ⟨v0, vs0, d0, ds0, p0, q0, hargs, rfl, rfl, h0, r0⟩ := trodAll_cons hA
  obtain ⟨v1, vs1, d1, ds1, p1, q1, rfl, rfl, rfl, h1, r1⟩ := trodAll_cons r0
  obtain ⟨rfl, rfl, rfl⟩ := trodAll_nil r1
  obtain rfl : args = #[v0, v1] := by cases args; simp_all
  obtain ⟨rfl, rfl⟩ := trodVars_none hV
  obtain ⟨a0, len0, cap0, rfl⟩ := okWide_slice Try.underlying22 (hval 0 22 v0 rfl rfl)
  have k0 := h0
  have lt0 : ∀ x ∈ p0, x.block < W.heap.size := by obtain ⟨m, hm⟩ := k0; exact DataW.trod_lt m _ _ _ hm
  obtain ⟨z0, w0⟩ : ∃ zs, IsRow .u8 W a0 len0 cap0 zs := by
    obtain ⟨fuel, hf⟩ := h0
    rcases open_ints Try.underlying22 Try.underlying5 (by kernel_rfl) hf with ⟨hcs, _⟩ | ⟨x, l, c, zs, hcs, _, hl, hm, hz, _, hcell, hwz⟩
    · simp [Value.cells] at hcs
      obtain ⟨rfl, rfl, rfl⟩ := hcs
      exact ⟨[], .inl ⟨rfl, rfl, rfl, rfl⟩⟩
    · simp [Value.cells] at hcs
      obtain ⟨rfl, rfl, rfl⟩ := hcs
      exact ⟨zs, .inr ⟨_, rfl, hl, hm, by simpa using hz, hcell, hwz⟩⟩
  obtain ⟨a1, len1, cap1, rfl⟩ := okWide_slice Try.underlying22 (hval 1 22 v1 rfl rfl)
  have k1 := h1
  have lt1 : ∀ x ∈ p1, x.block < W.heap.size := by obtain ⟨m, hm⟩ := k1; exact DataW.trod_lt m _ _ _ hm
  obtain ⟨z1, w1⟩ : ∃ zs, IsRow .u8 W a1 len1 cap1 zs := by
    obtain ⟨fuel, hf⟩ := h1
    rcases open_ints Try.underlying22 Try.underlying5 (by kernel_rfl) hf with ⟨hcs, _⟩ | ⟨x, l, c, zs, hcs, _, hl, hm, hz, _, hcell, hwz⟩
    · simp [Value.cells] at hcs
      obtain ⟨rfl, rfl, rfl⟩ := hcs
      exact ⟨[], .inl ⟨rfl, rfl, rfl, rfl⟩⟩
    · simp [Value.cells] at hcs
      obtain ⟨rfl, rfl, rfl⟩ := hcs
      exact ⟨zs, .inr ⟨_, rfl, hl, hm, by simpa using hz, hcell, hwz⟩⟩
  clear hA0 hval0
  refine (walk a0 len0 cap0 z0 a1 len1 cap1 z1 W w0 w1).mono fun e W' ⟨he, bel⟩ => ?_
  subst he
  exact ⟨_, rfl, _, _, _, [], _, [], hW', trodAll_mk1 (shut_bool Try.underlying4 _), (trodAll_cons_mk (Below.trod laidOut (by kernel_rfl) (of_decide_eq_true (by kernel_rfl)) k0 bel lt0) (trodAll_cons_mk (Below.trod laidOut (by kernel_rfl) (of_decide_eq_true (by kernel_rfl)) k1 bel lt1) trodAll_mk0)), rfl, bel.frame _, fun h => by cases h⟩

theorem over : Rows.clockSumsRow.holds Try.pinned (OpenSpec.ofChange Rows.clockSumsSpec) :=
  OpenClaim.holds_of_wide 4 Try.f4 rfl rfl rfl rfl rfl rfl rfl ⟨rfl, rfl, rfl, rfl, rfl⟩ rfl rfl rfl rfl rfl (by kernel_rfl) Try.func4 (by kernel_rfl)
    (of_decide_eq_true (by kernel_rfl)) (by unfold Func.isWrapper; first | (rw [if_pos (by decide +kernel)]; kernel_rfl) | (rw [if_neg (by decide +kernel)]; exact ⟨rfl, rfl⟩))
    (fun os started H enc _ => lifted os started H enc)

/-- ████ THE STATEMENT ████ -/
theorem proved : Rows.ClockSumsSaid := over
end Go.Proofs.Ytmnjlckniaociaa.clockSums
namespace Go.Proofs.Ytmnjlckniaociaa
theorem clockSums_holds : Rows.ClockSumsSaid := clockSums.proved
#print axioms clockSums_holds
end Go.Proofs.Ytmnjlckniaociaa
