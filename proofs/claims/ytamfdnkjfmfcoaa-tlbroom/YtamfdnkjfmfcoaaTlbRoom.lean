/- TlbRoom returns true for every room and every two lists of keys and of mappings, and leaves its arguments as they were. No condition. -/
import Derived.Test.YtamfdnkjfmfcoaaRows
import Derived.Test.YtamfdnkjfmfcoaaTlbK
import Derived.Test.YtamfdnkjfmfcoaaTlbI
import Derived.BigQuiet
import Derived.WalkKit
import Derived.ProofKit
import Derived.OpenShut
import Derived.ShutString
import Derived.ChangeOld
import Derived.Below
namespace Go.Proofs.Ytamfdnkjfmfcoaa.tlbRoom
open Go.ChangeShapes Go.WideShapes Go.ChangeAt Go.RowKit
set_option linter.unusedVariables false

theorem own : ownKnob Try.prog.godebug = none := by kernel_rfl
theorem laidOut : laidOutB Try.prog = true := by kernel_rfl

set_option maxRecDepth 100000 in
set_option maxHeartbeats 8000000 in
theorem walk_all (a0 : Int) (R : Nat) (hR : a0.tmod 9 = R) (hR9 : R < 9) (a1 a2 : Option Addr) (len1 cap1 len2 cap2 : Nat) (w : World)
    (HC1 : Hid (CameK w.heap.size w a1 len1)) (HC2 : Hid (CameP w.heap.size w a2 len2)) (hl1 : len1 ≤ 9223372036854775807) (hl2 : len2 ≤ 9223372036854775807) :
    Calls Try.prog 4 #[.int .u8 a0, .slice a1 len1 cap1, .slice a2 len2 cap2] w fun e w' => e = .returned (.bool true) ∧ Below w.heap.size w w' := by
  have hRi : (R : Int) < 9 := by omega
  go_enter Try.func4, Try.ntmps4
  go_wp2_with (go_at_call 7; refine (new_ok (R : Int) _ (by omega) (by omega)).mono ?_; rintro e w1 ⟨rfl, ht1, hb1⟩; have HT1 : Hid (TlbIs w1 (w.heap.size + 1) w.heap.size R []) := ht1; have HB1 : Hid (Below w.heap.size w w1) := hb1; clear ht1 hb1)
  go_loopw [10] (fun i wr => ∃ j : Nat, j ≤ len1 ∧ j ≤ 100 ∧ i = .int .i64 j ∧ ∃ S, TlbIs wr (w.heap.size + 1) w.heap.size R S ∧ Fine S R j ∧ Below w.heap.size w wr) (fun i _ => 100 - (intOf i).toNat)
  case atStart => exact ⟨0, by omega, by omega, rfl, [], HT1.out, fine_nil R, HB1.out⟩
  case round =>
    obtain ⟨j, hj, hj1, rfl, S, hT, hF, hB⟩ := hrel
    have HT : Hid (TlbIs wr (w.heap.size + 1) w.heap.size R S) := hT
    have HF : Hid (Fine S R j) := hF
    have HB : Hid (Below w.heap.size w wr) := hB
    clear hT hF hB HT1 HB1
    by_cases hin : j < len1 ∧ j < len2 ∧ j < 100
    · obtain ⟨h0, h1, h2⟩ := hin
      obtain ⟨b1, o1, k1, k2, rfl, HK⟩ := HC1.out.at h0
      obtain ⟨b2, o2, q0, q1, q2, q3, rfl, HQ⟩ := HC2.out.at h1
      have i0 : (j : Int) < (len1 : Int) := by omega
      have i1 : (j : Int) < (len2 : Int) := by omega
      have i2 : (j : Int) < 100 := by omega
      go_wp2
      have c0 := (HK.out _ HB.out).1
      have c1 := (HK.out _ HB.out).2
      have e0 := (HQ.out _ HB.out).1
      have e1 := (HQ.out _ HB.out).2.1
      have e2 := (HQ.out _ HB.out).2.2.1
      have e3 := (HQ.out _ HB.out).2.2.2
      go_region_held3 (fun w' => w'.cell? ⟨b1, o1 + j * 2, none⟩ = some (.int .i64 k1) ∧ w'.cell? ⟨b1, o1 + j * 2 + 1, none⟩ = some (.int .i64 k2) ∧ w'.cell? ⟨b2, o2 + j * 4, none⟩ = some (.bool q0) ∧ w'.cell? ⟨b2, o2 + j * 4 + 1, none⟩ = some (.int .i64 q1) ∧ w'.cell? ⟨b2, o2 + j * 4 + 2, none⟩ = some (.int .i64 q2) ∧ w'.cell? ⟨b2, o2 + j * 4 + 3, none⟩ = some (.int .i64 q3)) (first | exact ⟨f0, f1, g0, g1, g2, g3⟩ | go_keep)
        ((go_at_call 12; refine (put_some' _ _ R S (k1, k2) (q0, q1, q2, q3) _ HT.out.drew HF.out.ok (HF.out.mx (by omega)) HF.out.len (by omega)).mono ?_; rintro e w2 ⟨rfl, ht2, hb2⟩; have HT2 : Hid (TlbIs w2 (w.heap.size + 1) w.heap.size R (putS R S (k1, k2) (q0, q1, q2, q3))) := ht2; have HB2 : Hid (Below w.heap.size w w2) := HB.out.drew.trans (hb2.below (Nat.le_refl _) HB.out.size); have f0 := (HK.out _ HB2.out).1; have f1 := (HK.out _ HB2.out).2; have g0 := (HQ.out _ HB2.out).1; have g1 := (HQ.out _ HB2.out).2.1; have g2 := (HQ.out _ HB2.out).2.2.1; have g3 := (HQ.out _ HB2.out).2.2.2; clear ht2 hb2))
      have HF2' : Hid (Fine (putS R S (k1, k2) (q0, q1, q2, q3)) R (j + 1)) := HF.out.put _ _
      have HG' : Hid (hasK (putS R S (k1, k2) (q0, q1, q2, q3)) (k1, k2) = decide (0 < R) ∧ (0 < R → ptK (putS R S (k1, k2) (q0, q1, q2, q3)) (k1, k2) = (q0, q1, q2, q3))) := putS_get HF.out.len _ _
      obtain ⟨S2, hS2⟩ : ∃ S2, S2 = putS R S (k1, k2) (q0, q1, q2, q3) := ⟨_, rfl⟩
      rw [← hS2] at HF2' HG' HT2
      have HF2 : Hid (Fine S2 R (j + 1)) := HF2'.out
      have HG : Hid (hasK S2 (k1, k2) = decide (0 < R) ∧ (0 < R → ptK S2 (k1, k2) = (q0, q1, q2, q3))) := HG'.out
      clear hS2 HF2' HG'
      have GET := fun wx hx => get_any (w.heap.size + 1) w.heap.size R S2 (k1, k2) wx hx
      have hlen : ¬ (R : Int) < (S2.length : Int) := by have := HF2.out.len; omega
      have hneq : ∀ w, (binOp .neq 38 (.agg #[.bool q0, .int .i64 q1, .int .i64 q2, .int .i64 q3]) (.agg #[.bool q0, .int .i64 q1, .int .i64 q2, .int .i64 q3])).run Try.prog w = .ok (.bool false) w := fun w => by have := neqP (q0, q1, q2, q3) (q0, q1, q2, q3) w; simpa using this
      have LEN := fun wx hx => len_some (w.heap.size + 1) w.heap.size R S2 wx hx
      generalize (S2.length : Int) = N at hlen LEN
      by_cases hR0 : 0 < R
      · have hpos : (0 : Int) < (R : Int) := by omega
        rw [HG.out.2 hR0] at GET
        rw [HG.out.1] at GET
        simp only [pv, hR0, decide_true] at GET
        go_wp2_with (go_at_call 17; refine (GET _ HT2.out).mono ?_; rintro e w3 ⟨rfl, hb3⟩; have HT3 : Hid (TlbIs w3 (w.heap.size + 1) w.heap.size R S2) := HT2.out.more hb3; have HB3 : Hid (Below w.heap.size w w3) := belowt HB2.out hb3; clear hb3)
        obtain ⟨w4, hw4⟩ : ∃ w4, w4 = w3.alloc (.cells #[.bool q0, .int .i64 q1, .int .i64 q2, .int .i64 q3] 38) := ⟨_, rfl⟩
        rw [← hw4]
        have HT4 : Hid (TlbIs w4 (w.heap.size + 1) w.heap.size R S2) := by rw [hw4]; exact HT3.out.alloc _
        have HB4 : Hid (Below w.heap.size w w4) := by rw [hw4]; exact bal HB3.out _
        have x0 : w4.cell? ⟨w3.heap.size, 0, none⟩ = some (.bool q0) := by rw [hw4]; simp
        have x1 : w4.cell? ⟨w3.heap.size, 1, none⟩ = some (.int .i64 q1) := by rw [hw4]; simp
        have x2 : w4.cell? ⟨w3.heap.size, 2, none⟩ = some (.int .i64 q2) := by rw [hw4]; simp
        have x3 : w4.cell? ⟨w3.heap.size, 3, none⟩ = some (.int .i64 q3) := by rw [hw4]; simp
        have y0 := (HQ.out _ HB4.out).1
        have y1 := (HQ.out _ HB4.out).2.1
        have y2 := (HQ.out _ HB4.out).2.2.1
        have y3 := (HQ.out _ HB4.out).2.2.2
        clear hw4 f0 f1 g0 g1 g2 g3
        go_quiet ((go_at_call 15; exact Calls.quiet_of_same (LEN _ (HT4.out.drewN _))))
        obtain ⟨w5, hw5⟩ : ∃ w5, w5 = w4.drewN nq := ⟨_, rfl⟩
        rw [← hw5]
        have HT5 : Hid (TlbIs w5 (w.heap.size + 1) w.heap.size R S2) := by rw [hw5]; exact HT4.out.on rfl rfl
        have HB5 : Hid (Below w.heap.size w w5) := by rw [hw5]; exact below_drewN HB4.out _
        clear hw5
        go_wp2
        go_roundw
        case rel => exact ⟨j + 1, by omega, by omega, by go_num, S2, HT5.out, HF2.out, HB5.out⟩
        case measure => simp [intOf]; omega
      · have hpos : ¬ (0 : Int) < (R : Int) := by omega
        generalize ptK S2 (k1, k2) = pp at GET
        obtain ⟨u0, u1, u2, u3⟩ := pp
        rw [HG.out.1] at GET
        simp only [pv, hR0, decide_false] at GET
        go_wp2_with (go_at_call 17; refine (GET _ HT2.out).mono ?_; rintro e w3 ⟨rfl, hb3⟩; have HT3 : Hid (TlbIs w3 (w.heap.size + 1) w.heap.size R S2) := HT2.out.more hb3; have HB3 : Hid (Below w.heap.size w w3) := belowt HB2.out hb3; clear hb3)
        obtain ⟨w4, hw4⟩ : ∃ w4, w4 = w3.alloc (.cells #[.bool u0, .int .i64 u1, .int .i64 u2, .int .i64 u3] 38) := ⟨_, rfl⟩
        rw [← hw4]
        have HT4 : Hid (TlbIs w4 (w.heap.size + 1) w.heap.size R S2) := by rw [hw4]; exact HT3.out.alloc _
        have HB4 : Hid (Below w.heap.size w w4) := by rw [hw4]; exact bal HB3.out _
        have x0 : w4.cell? ⟨w3.heap.size, 0, none⟩ = some (.bool u0) := by rw [hw4]; simp
        have x1 : w4.cell? ⟨w3.heap.size, 1, none⟩ = some (.int .i64 u1) := by rw [hw4]; simp
        have x2 : w4.cell? ⟨w3.heap.size, 2, none⟩ = some (.int .i64 u2) := by rw [hw4]; simp
        have x3 : w4.cell? ⟨w3.heap.size, 3, none⟩ = some (.int .i64 u3) := by rw [hw4]; simp
        have y0 := (HQ.out _ HB4.out).1
        have y1 := (HQ.out _ HB4.out).2.1
        have y2 := (HQ.out _ HB4.out).2.2.1
        have y3 := (HQ.out _ HB4.out).2.2.2
        clear hw4 f0 f1 g0 g1 g2 g3
        go_quiet ((go_at_call 15; exact Calls.quiet_of_same (LEN _ (HT4.out.drewN _))))
        obtain ⟨w5, hw5⟩ : ∃ w5, w5 = w4.drewN nq := ⟨_, rfl⟩
        rw [← hw5]
        have HT5 : Hid (TlbIs w5 (w.heap.size + 1) w.heap.size R S2) := by rw [hw5]; exact HT4.out.on rfl rfl
        have HB5 : Hid (Below w.heap.size w w5) := by rw [hw5]; exact below_drewN HB4.out _
        clear hw5
        go_wp2
        go_roundw
        case rel => exact ⟨j + 1, by omega, by omega, by go_num, S2, HT5.out, HF2.out, HB5.out⟩
        case measure => simp [intOf]; omega
    · have t1 : True := trivial
      have LEN := fun wx hx => len_some (w.heap.size + 1) w.heap.size R S wx hx
      have FLU := fun wx hx => flush_some (w.heap.size + 1) w.heap.size R S wx hx
      generalize (S.length : Int) = N at LEN FLU
      have hw1 : ¬ ((j : Int) < (len1 : Int) ∧ (j : Int) < (len2 : Int) ∧ (j : Int) < 100) := by omega
      by_cases i0 : (j : Int) < (len1 : Int)
      · by_cases i1 : (j : Int) < (len2 : Int)
        · have i2 : ¬ (j : Int) < 100 := by omega
          clear hw1 hin
          go_wp2_with (first
            | (go_at_call 15; clear t1; refine (LEN _ HT.out).mono ?_; rintro e w2 ⟨rfl, hw2⟩; subst w2)
            | (go_at_call 10; refine (FLU _ HT.out).mono ?_; rintro e w3 ⟨rfl, ht3, hs3, hb3⟩; have HT3 : Hid (TlbIs w3 (w.heap.size + 1) w.heap.size R []) := ht3; have HB3 : Hid (Below w.heap.size w w3) := HB.out.trans (hb3 _ (Nat.le_refl _)); clear ht3 hs3 hb3)
            | (go_at_call 15; refine (len_some _ _ _ _ _ HT3.out).mono ?_; rintro e w2 ⟨he, hw2⟩; subst w2; have he' : e = .returned (.int .i64 0) := he; clear he; subst he'))
          go_loopw [14] (fun i wi => ∃ l : Nat, l ≤ len1 ∧ l ≤ 100 ∧ i = .int .i64 l ∧ TlbIs wi (w.heap.size + 1) w.heap.size R [] ∧ Below w.heap.size w wi) (fun i _ => 100 - (intOf i).toNat)
          case atStart => exact ⟨0, by omega, by omega, rfl, HT3.out, HB3.out⟩
          case round =>
            obtain ⟨l, hl, hl1', rfl, hT5, hB5⟩ := hrel
            have HT5 : Hid (TlbIs wr (w.heap.size + 1) w.heap.size R []) := hT5
            have HB5 : Hid (Below w.heap.size w wr) := hB5
            clear hT5 hB5 HT3 HB3
            by_cases hin2 : l < len1 ∧ l < 100
            · obtain ⟨h0, h1⟩ := hin2
              obtain ⟨b1, o1, k1, k2, rfl, HK⟩ := HC1.out.at h0
              have j0 : (l : Int) < (len1 : Int) := by omega
              have j1 : (l : Int) < 100 := by omega
              have c0 := (HK.out _ HB5.out).1
              have c1 := (HK.out _ HB5.out).2
              have GET : ∀ wx, TlbIs wx (w.heap.size + 1) w.heap.size R [] → Calls Try.prog 17 #[.pointer (some ⟨w.heap.size + 1, 0, none⟩), .agg #[.int .i64 k1, .int .i64 k2]] wx fun e w' => e = .returned (.tuple #[.agg #[.bool false, .int .i64 0, .int .i64 0, .int .i64 0], .bool false]) ∧ Below wx.heap.size wx w' := fun wx hx => get_any (w.heap.size + 1) w.heap.size R [] (k1, k2) wx hx
              go_wp2_with (go_at_call 17; refine (GET _ HT5.out).mono ?_; rintro e w6 ⟨rfl, hb6⟩; have HT6 : Hid (TlbIs w6 (w.heap.size + 1) w.heap.size R []) := HT5.out.more hb6; have HB6 : Hid (Below w.heap.size w w6) := belowt HB5.out hb6; clear hb6)
              go_roundw
              case rel => exact ⟨l + 1, by omega, by omega, by go_num, HT6.out.alloc _, bal HB6.out _⟩
              case measure => simp [intOf]; omega
            · by_cases j0 : (l : Int) < (len1 : Int)
              · have j1 : ¬ (l : Int) < 100 := by omega
                clear hin2
                go_wp2_with (go_at_call 9; refine (awake_any _).mono ?_; rintro e w6 ⟨rfl, hb6⟩; have HB6 : Hid (Below w.heap.size w w6) := belowt HB5.out hb6; clear hb6)
                go_ret
                exact ⟨rfl, HB6.out⟩
              · clear hin2
                go_wp2_with (go_at_call 9; refine (awake_any _).mono ?_; rintro e w6 ⟨rfl, hb6⟩; have HB6 : Hid (Below w.heap.size w w6) := belowt HB5.out hb6; clear hb6)
                go_ret
                exact ⟨rfl, HB6.out⟩
        · clear hw1 hin
          go_wp2_with (first
            | (go_at_call 15; clear t1; refine (LEN _ HT.out).mono ?_; rintro e w2 ⟨rfl, hw2⟩; subst w2)
            | (go_at_call 10; refine (FLU _ HT.out).mono ?_; rintro e w3 ⟨rfl, ht3, hs3, hb3⟩; have HT3 : Hid (TlbIs w3 (w.heap.size + 1) w.heap.size R []) := ht3; have HB3 : Hid (Below w.heap.size w w3) := HB.out.trans (hb3 _ (Nat.le_refl _)); clear ht3 hs3 hb3)
            | (go_at_call 15; refine (len_some _ _ _ _ _ HT3.out).mono ?_; rintro e w2 ⟨he, hw2⟩; subst w2; have he' : e = .returned (.int .i64 0) := he; clear he; subst he'))
          go_loopw [14] (fun i wi => ∃ l : Nat, l ≤ len1 ∧ l ≤ 100 ∧ i = .int .i64 l ∧ TlbIs wi (w.heap.size + 1) w.heap.size R [] ∧ Below w.heap.size w wi) (fun i _ => 100 - (intOf i).toNat)
          case atStart => exact ⟨0, by omega, by omega, rfl, HT3.out, HB3.out⟩
          case round =>
            obtain ⟨l, hl, hl1', rfl, hT5, hB5⟩ := hrel
            have HT5 : Hid (TlbIs wr (w.heap.size + 1) w.heap.size R []) := hT5
            have HB5 : Hid (Below w.heap.size w wr) := hB5
            clear hT5 hB5 HT3 HB3
            by_cases hin2 : l < len1 ∧ l < 100
            · obtain ⟨h0, h1⟩ := hin2
              obtain ⟨b1, o1, k1, k2, rfl, HK⟩ := HC1.out.at h0
              have j0 : (l : Int) < (len1 : Int) := by omega
              have j1 : (l : Int) < 100 := by omega
              have c0 := (HK.out _ HB5.out).1
              have c1 := (HK.out _ HB5.out).2
              have GET : ∀ wx, TlbIs wx (w.heap.size + 1) w.heap.size R [] → Calls Try.prog 17 #[.pointer (some ⟨w.heap.size + 1, 0, none⟩), .agg #[.int .i64 k1, .int .i64 k2]] wx fun e w' => e = .returned (.tuple #[.agg #[.bool false, .int .i64 0, .int .i64 0, .int .i64 0], .bool false]) ∧ Below wx.heap.size wx w' := fun wx hx => get_any (w.heap.size + 1) w.heap.size R [] (k1, k2) wx hx
              go_wp2_with (go_at_call 17; refine (GET _ HT5.out).mono ?_; rintro e w6 ⟨rfl, hb6⟩; have HT6 : Hid (TlbIs w6 (w.heap.size + 1) w.heap.size R []) := HT5.out.more hb6; have HB6 : Hid (Below w.heap.size w w6) := belowt HB5.out hb6; clear hb6)
              go_roundw
              case rel => exact ⟨l + 1, by omega, by omega, by go_num, HT6.out.alloc _, bal HB6.out _⟩
              case measure => simp [intOf]; omega
            · by_cases j0 : (l : Int) < (len1 : Int)
              · have j1 : ¬ (l : Int) < 100 := by omega
                clear hin2
                go_wp2_with (go_at_call 9; refine (awake_any _).mono ?_; rintro e w6 ⟨rfl, hb6⟩; have HB6 : Hid (Below w.heap.size w w6) := belowt HB5.out hb6; clear hb6)
                go_ret
                exact ⟨rfl, HB6.out⟩
              · clear hin2
                go_wp2_with (go_at_call 9; refine (awake_any _).mono ?_; rintro e w6 ⟨rfl, hb6⟩; have HB6 : Hid (Below w.heap.size w w6) := belowt HB5.out hb6; clear hb6)
                go_ret
                exact ⟨rfl, HB6.out⟩
      · have t3 : True := trivial
        · clear hw1 hin t3
          go_wp2_with (first
            | (go_at_call 15; clear t1; refine (LEN _ HT.out).mono ?_; rintro e w2 ⟨rfl, hw2⟩; subst w2)
            | (go_at_call 10; refine (FLU _ HT.out).mono ?_; rintro e w3 ⟨rfl, ht3, hs3, hb3⟩; have HT3 : Hid (TlbIs w3 (w.heap.size + 1) w.heap.size R []) := ht3; have HB3 : Hid (Below w.heap.size w w3) := HB.out.trans (hb3 _ (Nat.le_refl _)); clear ht3 hs3 hb3)
            | (go_at_call 15; refine (len_some _ _ _ _ _ HT3.out).mono ?_; rintro e w2 ⟨he, hw2⟩; subst w2; have he' : e = .returned (.int .i64 0) := he; clear he; subst he'))
          go_loopw [14] (fun i wi => ∃ l : Nat, l ≤ len1 ∧ l ≤ 100 ∧ i = .int .i64 l ∧ TlbIs wi (w.heap.size + 1) w.heap.size R [] ∧ Below w.heap.size w wi) (fun i _ => 100 - (intOf i).toNat)
          case atStart => exact ⟨0, by omega, by omega, rfl, HT3.out, HB3.out⟩
          case round =>
            obtain ⟨l, hl, hl1', rfl, hT5, hB5⟩ := hrel
            have HT5 : Hid (TlbIs wr (w.heap.size + 1) w.heap.size R []) := hT5
            have HB5 : Hid (Below w.heap.size w wr) := hB5
            clear hT5 hB5 HT3 HB3
            by_cases hin2 : l < len1 ∧ l < 100
            · obtain ⟨h0, h1⟩ := hin2
              obtain ⟨b1, o1, k1, k2, rfl, HK⟩ := HC1.out.at h0
              have j0 : (l : Int) < (len1 : Int) := by omega
              have j1 : (l : Int) < 100 := by omega
              have c0 := (HK.out _ HB5.out).1
              have c1 := (HK.out _ HB5.out).2
              have GET : ∀ wx, TlbIs wx (w.heap.size + 1) w.heap.size R [] → Calls Try.prog 17 #[.pointer (some ⟨w.heap.size + 1, 0, none⟩), .agg #[.int .i64 k1, .int .i64 k2]] wx fun e w' => e = .returned (.tuple #[.agg #[.bool false, .int .i64 0, .int .i64 0, .int .i64 0], .bool false]) ∧ Below wx.heap.size wx w' := fun wx hx => get_any (w.heap.size + 1) w.heap.size R [] (k1, k2) wx hx
              go_wp2_with (go_at_call 17; refine (GET _ HT5.out).mono ?_; rintro e w6 ⟨rfl, hb6⟩; have HT6 : Hid (TlbIs w6 (w.heap.size + 1) w.heap.size R []) := HT5.out.more hb6; have HB6 : Hid (Below w.heap.size w w6) := belowt HB5.out hb6; clear hb6)
              go_roundw
              case rel => exact ⟨l + 1, by omega, by omega, by go_num, HT6.out.alloc _, bal HB6.out _⟩
              case measure => simp [intOf]; omega
            · by_cases j0 : (l : Int) < (len1 : Int)
              · have j1 : ¬ (l : Int) < 100 := by omega
                clear hin2
                go_wp2_with (go_at_call 9; refine (awake_any _).mono ?_; rintro e w6 ⟨rfl, hb6⟩; have HB6 : Hid (Below w.heap.size w w6) := belowt HB5.out hb6; clear hb6)
                go_ret
                exact ⟨rfl, HB6.out⟩
              · clear hin2
                go_wp2_with (go_at_call 9; refine (awake_any _).mono ?_; rintro e w6 ⟨rfl, hb6⟩; have HB6 : Hid (Below w.heap.size w w6) := belowt HB5.out hb6; clear hb6)
                go_ret
                exact ⟨rfl, HB6.out⟩

theorem walk (a0 : Int) (a1 : Option Addr) (len1 cap1 : Nat) (a2 : Option Addr) (len2 cap2 : Nat) (w : World) (w0 : (Lit.int .u8 a0).wf = true) (w1 : Hid (CameK w.heap.size w a1 len1)) (l1 : len1 ≤ 9223372036854775807) (w2 : Hid (CameP w.heap.size w a2 len2)) (l2 : len2 ≤ 9223372036854775807) :
    Calls Try.prog 4 #[.int .u8 a0, .slice a1 len1 cap1, .slice a2 len2 cap2] w fun e w' => e = .returned (.bool true) ∧ Below w.heap.size w w' := by
  obtain ⟨R, hR, hR9⟩ := rem_u8 w0 9 (by omega)
  exact walk_all a0 R hR hR9 a1 a2 len1 cap1 len2 cap2 w w1 w2 l1 l2

/-! ### The statement's frame -/
set_option maxRecDepth 100000 in
theorem lifted (os : Os) (started : os.Started) (H : Type) (enc : TypeId × Value → H) :
    ReturnsInHanded {} Try.checked os 4 .any (Rows.tlbRoomSpec.pre6 enc Try.prog Try.f4 Rows.tlbRoomRow.domain false) (Rows.tlbRoomSpec.post enc Try.prog Try.f4 false true false false) := by
  refine returnsInHanded_of_change (C := Try.checked) own started (by kernel_rfl) Try.func4
    (ChangeSpec.witness6 (enc := enc) (C := Try.checked) false ⟨#[], #[.int .u8 0, .slice none 0 0, .slice none 0 0], []⟩ 8 (by kernel_rfl) (by kernel_rfl) (by kernel_rfl) (by kernel_rfl)) ?_
  intro W base args ds gs before hval0 hW hcnd _
  have hval : ∀ (j : Nat) t v, Try.f4.params[j]? = some t → args[j]? = some v → Value.okWide Try.prog W .any base t v := hval0
  have hW' := hW
  obtain ⟨p, q, hA0, hV, rfl, hfz, hnd⟩ := hW
  have hA : DataW.TrodAll enc Try.prog W 0 (fun _ => true) true Try.f4.params.toList args.toList ds p := hA0
  rw [Try.params4] at hA hval
  obtain ⟨v0, vs0, d0, ds0, p0, q0, hargs, rfl, rfl, h0, r0⟩ := trodAll_cons hA
  obtain ⟨v1, vs1, d1, ds1, p1, q1, rfl, rfl, rfl, h1, r1⟩ := trodAll_cons r0
  obtain ⟨v2, vs2, d2, ds2, p2, q2, rfl, rfl, rfl, h2, r2⟩ := trodAll_cons r1
  obtain ⟨rfl, rfl, rfl⟩ := trodAll_nil r2
  obtain rfl : args = #[v0, v1, v2] := by cases args; simp_all
  obtain ⟨rfl, rfl⟩ := trodVars_none hV
  obtain ⟨a0, rfl, rfl, rfl, w0⟩ := open_int Try.underlying5 (hval 0 5 v0 rfl rfl) h0
  obtain ⟨a1, len1, cap1, rfl⟩ := okWide_slice Try.underlying23 (hval 1 23 v1 rfl rfl)
  have k1 := h1
  have lt1 : ∀ x ∈ p1, x.block < W.heap.size := by obtain ⟨m, hm⟩ := k1; exact DataW.trod_lt m _ _ _ hm
  have w1 : CameK W.heap.size W a1 len1 ∧ len1 ≤ 9223372036854775807 := by
    obtain ⟨fuel, hf⟩ := h1
    exact cameK_of (by simpa [Value.cells] using hf)
  obtain ⟨a2, len2, cap2, rfl⟩ := okWide_slice Try.underlying24 (hval 2 24 v2 rfl rfl)
  have k2 := h2
  have lt2 : ∀ x ∈ p2, x.block < W.heap.size := by obtain ⟨m, hm⟩ := k2; exact DataW.trod_lt m _ _ _ hm
  have w2 : CameP W.heap.size W a2 len2 ∧ len2 ≤ 9223372036854775807 := by
    obtain ⟨fuel, hf⟩ := h2
    exact cameP_of (by simpa [Value.cells] using hf)
  clear hA0 hval0
  refine (walk a0 a1 len1 cap1 a2 len2 cap2 W w0 w1.1 w1.2 w2.1 w2.2).mono fun e W' ⟨he, bel⟩ => ?_
  subst he
  exact ⟨_, rfl, _, _, _, [], _, [], hW', trodAll_mk1 (shut_bool Try.underlying4 _), (trodAll_cons_mk (shut_int Try.underlying5 w0) (trodAll_cons_mk (Below.trod laidOut (by kernel_rfl) (of_decide_eq_true (by kernel_rfl)) k1 bel lt1) (trodAll_cons_mk (Below.trod laidOut (by kernel_rfl) (of_decide_eq_true (by kernel_rfl)) k2 bel lt2) trodAll_mk0))), rfl, bel.frame _, fun h => by cases h⟩

theorem over : Rows.tlbRoomRow.holds Try.pinned (OpenSpec.ofChange Rows.tlbRoomSpec) :=
  OpenClaim.holds_of_wide 4 Try.f4 rfl rfl rfl rfl rfl rfl rfl ⟨rfl, rfl, rfl, rfl, rfl⟩ rfl rfl rfl rfl rfl (by kernel_rfl) Try.func4 (by kernel_rfl)
    (of_decide_eq_true (by kernel_rfl)) (by unfold Func.isWrapper; first | (rw [if_pos (by decide +kernel)]; kernel_rfl) | (rw [if_neg (by decide +kernel)]; exact ⟨rfl, rfl⟩))
    (fun os started H enc _ => lifted os started H enc)

theorem proved : Rows.TlbRoomSaid := over
end Go.Proofs.Ytamfdnkjfmfcoaa.tlbRoom
namespace Go.Proofs.Ytamfdnkjfmfcoaa
theorem tlbRoom_holds : Rows.TlbRoomSaid := tlbRoom.proved
#print axioms tlbRoom_holds
end Go.Proofs.Ytamfdnkjfmfcoaa
