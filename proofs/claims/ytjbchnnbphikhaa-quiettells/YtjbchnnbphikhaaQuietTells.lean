/- QuietTells returns true for every number of cores, every list of acts, every kind and every time, and leaves its arguments as they were. No condition. -/
import Derived.Test.YtjbchnnbphikhaaRows
import Derived.Test.YtjbchnnbphikhaaQuiW
import Derived.Test.YtjbchnnbphikhaaQuiI
import Derived.Deep.CutBlock
import Derived.WalkKit
import Derived.ProofKit
import Derived.OpenShut
import Derived.ShutString
import Derived.ChangeOld
import Derived.Below
namespace Go.Proofs.Ytjbchnnbphikhaa.quietTells
open Go.ChangeShapes Go.WideShapes Go.ChangeAt Go.RowKit
set_option linter.unusedVariables false

theorem own : ownKnob Try.prog.godebug = none := by kernel_rfl
theorem laidOut : laidOutB Try.prog = true := by kernel_rfl

set_option maxRecDepth 100000 in
set_option maxHeartbeats 2000000 in
theorem walk_bad (n : Int) (a1 a2 : Option Addr) (len1 cap1 len2 cap2 : Nat) (was t : Int) (w : World) (hn : ¬ (1 ≤ n ∧ n ≤ 4)) :
    Calls Try.prog 3 #[.int .i64 n, .slice a1 len1 cap1, .slice a2 len2 cap2, .int .i64 was, .int .i64 t] w fun e w' => e = .returned (.bool true) ∧ Below w.heap.size w w' := by
  have HN : Hid (¬ (1 ≤ n ∧ n ≤ 4)) := hn
  clear hn
  go_enter Try.func3, Try.ntmps3
  go_wp2_with (first
    | (go_at_call 6; refine (new_bad n _ HN.out).mono ?_; rintro e w1 ⟨rfl, rfl⟩)
    | (go_at_call 7; refine (rnew_bad n _ HN.out).mono ?_; rintro e w2 ⟨rfl, rfl⟩)
    | (go_at_call 8; refine (awake_any _).mono ?_; rintro e w4 ⟨rfl, hw4⟩)
    | fail)
  go_ret
  exact ⟨rfl, hw4⟩
set_option maxRecDepth 100000 in
set_option maxHeartbeats 8000000 in
theorem walk_ok (N : Nat) (hN1 : 1 ≤ N) (hN : N ≤ 4) (a1 a2 : Option Addr) (len1 cap1 len2 cap2 : Nat) (was t : Int) (w : World)
    (HC1 : Hid (Came .u8 w.heap.size w a1 len1)) (HC2 : Hid (Came .i64 w.heap.size w a2 len2)) (hl1 : len1 ≤ 9223372036854775807) (hl2 : len2 ≤ 9223372036854775807) :
    Calls Try.prog 3 #[.int .i64 N, .slice a1 len1 cap1, .slice a2 len2 cap2, .int .i64 was, .int .i64 t] w fun e w' => e = .returned (.bool true) ∧ Below w.heap.size w w' := by
  go_enter Try.func3, Try.ntmps3
  go_upto_block 0 with (first
    | (go_at_call 6; refine (new_ok N _ hN1 hN).mono ?_; rintro e w1 ⟨rfl, hc1, hb1⟩; have HN : Hid (ClockIs w1 w.heap.size N (newS N)) := hc1; have HNB : Hid (Below w.heap.size w w1) := hb1; clear hc1 hb1)
    | (go_at_call 7; refine (rnew_ok N _ hN1 hN).mono ?_; rintro e w2 ⟨rfl, hr2, hb2⟩; have HB2 : Hid (Both w w2 N w1.heap.size (newS N)) := Both.start HN.out HNB.out hr2 hb2; clear hr2 hb2)
    | fail)
  clear HN HNB
  obtain ⟨q, hq⟩ : ∃ q, q = w1.heap.size := ⟨_, rfl⟩
  rw [← hq] at HB2 ⊢
  clear hq w1
  go_cut [15] from 53 to 113 (fun _ wc => ∃ s, Both w wc N q s)
  case first =>
   go_wp2_with fail
   go_loopw [15] (fun i wr => ∃ k : Nat, k ≤ len1 ∧ i = .int .i64 k ∧ ∃ s, Both w wr N q s) (fun i _ => len1 - (intOf i).toNat)
   case atStart => exact ⟨0, by omega, rfl, _, HB2.out⟩
   case round =>
     obtain ⟨k, hk, rfl, s, hI⟩ := hrel
     have HI : Hid (Both w wr N q s) := hI
     clear hI HB2
     by_cases hin : k < len1 ∧ k < len2 ∧ k < 200
     · obtain ⟨h1, h2, h3⟩ := hin
       obtain ⟨b1, o1, z1, rfl, HZ, C1⟩ := HC1.out.at h1
       obtain ⟨b2, o2, zf, rfl, HZ2, C2⟩ := HC2.out.at h2
       have c1 := C1.out _ HI.out.below
       have c2 := C2.out _ HI.out.below
       have i1 : (k : Int) < (len1 : Int) := by omega
       have i2 : (k : Int) < (len2 : Int) := by omega
       have i3 : (k : Int) < 200 := by omega
       obtain ⟨r, hq0, hq3⟩ := rem_u8 HZ.out 3 (by omega)
       have hq' : z1.tmod 3 = 0 ∨ z1.tmod 3 = 1 ∨ z1.tmod 3 = 2 := by
         have : z1.tmod 3 = (r : Int) := hq0
         omega
       clear hq0 HZ HZ2
       rcases hq' with hq | hq | hq
       ·
         go_wp2_with (first
           | (go_at_call 9; refine (step_any _ N _ s _ hN1 hN HI.out.clock).mono ?_; rintro e w3 ⟨rfl, hw3⟩; have HW3 : Hid (w3 = wr.setRow w.heap.size (cellsC N (stepS N s zf))) := hw3; clear hw3 c1 c2; have c2 := C2.out _ (HI.out.half HW3.out).2)
           | (go_at_call 10; refine (rstep_any _ _ N _ s _ hN (HI.out.half HW3.out).1).mono ?_; rintro e w4 ⟨rfl, hr4, hb4⟩; have H4 : Hid (Both w w4 N q (stepS N s zf)) := HI.out.turn (ok_step HI.out.clock.ok N zf) HW3.out hr4 hb4; clear hr4 hb4 c2)
           | fail)
         go_roundw
         case rel => exact ⟨k + 1, by omega, by go_num, _, H4.out⟩
         case measure => simp [intOf]; omega
       ·
         go_wp2_with (first
           | (go_at_call 11; refine (enter_any _ N _ s _ hN1 hN HI.out.clock).mono ?_; rintro e w3 ⟨rfl, hw3⟩; have HW3 : Hid (w3 = wr.setRow w.heap.size (cellsC N (enterS N s zf))) := hw3; clear hw3 c1 c2; have c2 := C2.out _ (HI.out.half HW3.out).2)
           | (go_at_call 12; refine (renter_any _ _ N _ s _ hN (HI.out.half HW3.out).1).mono ?_; rintro e w4 ⟨rfl, hr4, hb4⟩; have H4 : Hid (Both w w4 N q (enterS N s zf)) := HI.out.turn (ok_enter HI.out.clock.ok N zf) HW3.out hr4 hb4; clear hr4 hb4 c2)
           | fail)
         go_roundw
         case rel => exact ⟨k + 1, by omega, by go_num, _, H4.out⟩
         case measure => simp [intOf]; omega
       ·
         go_wp2_with (first
           | (go_at_call 13; refine (flush_any _ N _ s _ hN1 hN HI.out.clock).mono ?_; rintro e w3 ⟨rfl, hw3⟩; have HW3 : Hid (w3 = wr.setRow w.heap.size (cellsC N (flushS N s zf))) := hw3; clear hw3 c1 c2; have c2 := C2.out _ (HI.out.half HW3.out).2)
           | (go_at_call 14; refine (rflush_any _ _ N _ s _ hN (HI.out.half HW3.out).1).mono ?_; rintro e w4 ⟨rfl, hr4, hb4⟩; have H4 : Hid (Both w w4 N q (flushS N s zf)) := HI.out.turn (ok_flush HI.out.clock.ok N zf) HW3.out hr4 hb4; clear hr4 hb4 c2)
           | fail)
         go_roundw
         case rel => exact ⟨k + 1, by omega, by go_num, _, H4.out⟩
         case measure => simp [intOf]; omega
     · have hout : ¬ k < len1 ∨ (k < len1 ∧ ¬ k < len2) ∨ (k < len1 ∧ k < len2 ∧ ¬ k < 200) := by omega
       clear hin
       rcases hout with h1 | ⟨h1, h2⟩ | ⟨h1, h2, h3⟩
       all_goals
         go_wp2_with fail
         go_meet
         exact ⟨s, HI.out⟩
  case rest =>
    obtain ⟨s, hI⟩ := hcut
    have HI : Hid (Both w wc N q s) := hI
    clear hI HB2
    obtain ⟨L, hL⟩ : ∃ L, leftL N s was t = L := ⟨_, rfl⟩
    obtain ⟨m, hm⟩ : ∃ m, m = L.length := ⟨_, rfl⟩
    have HLeft : Hid (∀ w2, Both w w2 N q s → Calls Try.prog 15 #[.pointer (some ⟨w.heap.size, 0, none⟩), .int .i64 was, .int .i64 t] w2 fun e w' => (∃ a cap, e = .returned (.slice a m cap) ∧ Got w' w2.heap.size (.slice a m cap) L) ∧ Below w2.heap.size w2 w' ∧ Both w w' N q s) := by
      intro w2 h2
      refine (left_any _ N s was t _ hN1 hN h2.clock).mono ?_
      rintro e w3 ⟨⟨v, rfl, hg⟩, hb2⟩
      rw [hL] at hg
      obtain ⟨a, cap, rfl, _⟩ := id hg
      rw [← hm] at hg ⊢
      exact ⟨⟨a, cap, rfl, hg⟩, hb2, h2.more hb2⟩
    have HRLeft : Hid (∀ w2, Both w w2 N q s → Calls Try.prog 16 #[.pointer (some ⟨q, 0, none⟩), .int .i64 was, .int .i64 t] w2 fun e w' => (∃ a cap, e = .returned (.slice a m cap) ∧ Got w' w2.heap.size (.slice a m cap) L) ∧ Below w2.heap.size w2 w' ∧ Both w w' N q s) := by
      intro w2 h2
      refine (rleft_any _ _ N s was t _ hN1 hN h2.ref).mono ?_
      rintro e w3 ⟨⟨v, rfl, hg⟩, hb2⟩
      rw [hL] at hg
      obtain ⟨a, cap, rfl, _⟩ := id hg
      rw [← hm] at hg ⊢
      exact ⟨⟨a, cap, rfl, hg⟩, hb2, h2.more hb2⟩
    have hm4 : m ≤ 4 := by
      rw [hm, ← hL]
      exact Nat.le_trans (len_leftU _ N) hN
    have HM : Hid (m = L.length) := hm
    clear hm hL
    go_wp2_with (first
      | (go_at_call 15; refine (HLeft.out _ HI.out).mono ?_; rintro e w3 ⟨⟨a, cap, rfl, hg⟩, hb, h3⟩; have HG3 : Hid (Got w3 0 (.slice a m cap) L) := hg.mono (Nat.zero_le _); have HI3 : Hid (Both w w3 N q s) := h3; clear hg h3 hb)
      | (go_at_call 16; refine (HRLeft.out _ HI3.out).mono ?_; rintro e w4 ⟨⟨a', cap', rfl, hg⟩, hb, h4⟩; have HR4 : Hid (Got w4 0 (.slice a' m cap') L) := hg.mono (Nat.zero_le _); have HG4 : Hid (Got w4 0 (.slice a m cap) L) := HG3.out.below hb (Nat.le_refl _); have HI4 : Hid (Both w w4 N q s) := h4; clear hg h4 hb)
      | fail)
    clear HLeft HRLeft HG3 HI3 HI
    go_loopw [18] (fun i wr => ∃ k : Nat, k ≤ m ∧ i = .int .i64 k ∧ Both w wr N q s ∧ Got wr 0 (.slice a m cap) L ∧ Got wr 0 (.slice a' m cap') L) (fun i _ => m - (intOf i).toNat)
    case atStart => exact ⟨0, by omega, rfl, HI4.out, HG4.out, HR4.out⟩
    case round =>
      obtain ⟨k, hk, rfl, hI, hG, hR⟩ := hrel
      have HI : Hid (Both w wr N q s) := hI
      have HG : Hid (Got wr 0 (.slice a m cap) L) := hG
      have HR : Hid (Got wr 0 (.slice a' m cap') L) := hR
      clear hI hG hR HI4 HG4 HR4
      by_cases hlt : k < m
      · have hki : (k : Int) < (m : Int) := by omega
        obtain ⟨g, rfl, -, -, x1⟩ := HG.out.at (j := k) (by have := HM.out; omega)
        obtain ⟨g', rfl, -, -, x2⟩ := HR.out.at (j := k) (by have := HM.out; omega)
        obtain ⟨c, hc⟩ : ∃ c, c = L.getD k 0 := ⟨_, rfl⟩
        rw [← hc] at x1 x2
        clear hc
        go_wp2_with fail
        go_quiet (fail)
        go_wp2_with fail
        go_roundw
        case rel => exact ⟨k + 1, by omega, by go_num, HI.out.drewN nq, HG.out.below (below_drewN _ _ _) (Nat.le_refl _), HR.out.below (below_drewN _ _ _) (Nat.le_refl _)⟩
        case measure => simp [intOf]; omega
      · obtain rfl : k = m := by omega
        have HK : Hid (∀ w2, Both w w2 N q s → Calls Try.prog 17 #[.pointer (some ⟨w.heap.size, 0, none⟩), .int .i64 t] w2 fun e w' => e = .returned (.bool (quF N s 2 t)) ∧ Both w w' N q s) := fun w2 h2 => (kernel_any _ N s t w2 hN1 hN h2.clock).mono fun e w' ⟨he, hb⟩ => ⟨he, h2.more hb⟩
        have HU : Hid (∀ w2, Both w w2 N q s → Calls Try.prog 19 #[.pointer (some ⟨w.heap.size, 0, none⟩), .int .i64 t] w2 fun e w' => e = .returned (.bool (quF N s 1 t)) ∧ Both w w' N q s) := fun w2 h2 => (user_any _ N s t w2 hN1 hN h2.clock).mono fun e w' ⟨he, hb⟩ => ⟨he, h2.more hb⟩
        have HF : Hid (∀ w2, Both w w2 N q s → Calls Try.prog 21 #[.pointer (some ⟨w.heap.size, 0, none⟩), .int .i64 was, .int .i64 t] w2 fun e w' => e = .returned (.bool (quF N s was t)) ∧ Both w w' N q s) := fun w2 h2 => (for_any _ N s was t w2 hN1 hN h2.clock).mono fun e w' ⟨he, hb⟩ => ⟨he, h2.more hb⟩
        have RK : Hid (∀ w2, Both w w2 N q s → Calls Try.prog 18 #[.pointer (some ⟨q, 0, none⟩), .int .i64 t] w2 fun e w' => e = .returned (.bool (quF N s 2 t)) ∧ Both w w' N q s) := fun w2 h2 => (rkernel_any _ _ N s t w2 hN1 hN h2.ref).mono fun e w' ⟨he, hb⟩ => ⟨he, h2.more hb⟩
        have RU : Hid (∀ w2, Both w w2 N q s → Calls Try.prog 20 #[.pointer (some ⟨q, 0, none⟩), .int .i64 t] w2 fun e w' => e = .returned (.bool (quF N s 1 t)) ∧ Both w w' N q s) := fun w2 h2 => (ruser_any _ _ N s t w2 hN1 hN h2.ref).mono fun e w' ⟨he, hb⟩ => ⟨he, h2.more hb⟩
        have RF : Hid (∀ w2, Both w w2 N q s → Calls Try.prog 22 #[.pointer (some ⟨q, 0, none⟩), .int .i64 was, .int .i64 t] w2 fun e w' => e = .returned (.bool (quF N s was t)) ∧ Both w w' N q s) := fun w2 h2 => (rfor_any _ _ N s was t w2 hN1 hN h2.ref).mono fun e w' ⟨he, hb⟩ => ⟨he, h2.more hb⟩
        obtain ⟨z1, e1⟩ : ∃ z, z = quF N s 2 t := ⟨_, rfl⟩
        obtain ⟨z2, e2⟩ : ∃ z, z = quF N s 1 t := ⟨_, rfl⟩
        obtain ⟨z3, e3⟩ : ∃ z, z = quF N s was t := ⟨_, rfl⟩
        rw [← e1] at HK RK
        rw [← e2] at HU RU
        rw [← e3] at HF RF
        clear e1 e2 e3 HG HR
        go_wp2_with (first
          | (go_at_call 17; refine (HK.out _ HI.out).mono ?_; rintro e w5 ⟨rfl, h5⟩; clear HI; have HI : Hid (Both w w5 N q s) := h5; clear h5)
          | (go_at_call 18; refine (RK.out _ HI.out).mono ?_; rintro e w5 ⟨rfl, h5⟩; clear HI; have HI : Hid (Both w w5 N q s) := h5; clear h5)
          | (go_at_call 19; refine (HU.out _ HI.out).mono ?_; rintro e w5 ⟨rfl, h5⟩; clear HI; have HI : Hid (Both w w5 N q s) := h5; clear h5)
          | (go_at_call 20; refine (RU.out _ HI.out).mono ?_; rintro e w5 ⟨rfl, h5⟩; clear HI; have HI : Hid (Both w w5 N q s) := h5; clear h5)
          | (go_at_call 21; refine (HF.out _ HI.out).mono ?_; rintro e w5 ⟨rfl, h5⟩; clear HI; have HI : Hid (Both w w5 N q s) := h5; clear h5)
          | (go_at_call 22; refine (RF.out _ HI.out).mono ?_; rintro e w5 ⟨rfl, h5⟩; clear HI; have HI : Hid (Both w w5 N q s) := h5; clear h5)
          | (go_at_call 8; refine (awake_any _).mono ?_; rintro e w7 ⟨rfl, h7⟩; have H7 : Hid (Below w.heap.size w w7) := HI.out.below.trans (h7.mono HI.out.below.size); clear h7)
          | fail)
        go_ret
        exact ⟨rfl, H7.out⟩

theorem walk (a0 : Int) (a1 : Option Addr) (len1 cap1 : Nat) (a2 : Option Addr) (len2 cap2 : Nat) (a3 : Int) (a4 : Int) (w : World) (w0 : (Lit.int .i64 a0).wf = true) (w1 : Hid (Came .u8 w.heap.size w a1 len1)) (l1 : len1 ≤ 9223372036854775807) (w2 : Hid (Came .i64 w.heap.size w a2 len2)) (l2 : len2 ≤ 9223372036854775807) (w3 : (Lit.int .i64 a3).wf = true) (w4 : (Lit.int .i64 a4).wf = true) :
    Calls Try.prog 3 #[.int .i64 a0, .slice a1 len1 cap1, .slice a2 len2 cap2, .int .i64 a3, .int .i64 a4] w fun e w' => e = .returned (.bool true) ∧ Below w.heap.size w w' := by
  by_cases hn : 1 ≤ a0 ∧ a0 ≤ 4
  · obtain ⟨N, rfl⟩ := Int.eq_ofNat_of_zero_le (show 0 ≤ a0 by omega)
    exact walk_ok N (by omega) (by omega) a1 a2 len1 cap1 len2 cap2 a3 a4 w w1 w2 l1 l2
  · exact walk_bad a0 a1 a2 len1 cap1 len2 cap2 a3 a4 w hn

/-! ### The statement's frame -/
set_option maxRecDepth 100000 in
theorem lifted (os : Os) (started : os.Started) (H : Type) (enc : TypeId × Value → H) :
    ReturnsInHanded {} Try.checked os 3 .any (Rows.quietTellsSpec.pre6 enc Try.prog Try.f3 Rows.quietTellsRow.domain false) (Rows.quietTellsSpec.post enc Try.prog Try.f3 false true false false) := by
  refine returnsInHanded_of_change (C := Try.checked) own started (by kernel_rfl) Try.func3
    (ChangeSpec.witness6 (enc := enc) (C := Try.checked) false ⟨#[], #[.int .i64 0, .slice none 0 0, .slice none 0 0, .int .i64 0, .int .i64 0], []⟩ 8 (by kernel_rfl) (by kernel_rfl) (by kernel_rfl) (by kernel_rfl)) ?_
  intro W base args ds gs before hval0 hW hcnd _
  have hval : ∀ (j : Nat) t v, Try.f3.params[j]? = some t → args[j]? = some v → Value.okWide Try.prog W .any base t v := hval0
  have hW' := hW
  obtain ⟨p, q, hA0, hV, rfl, hfz, hnd⟩ := hW
  have hA : DataW.TrodAll enc Try.prog W 0 (fun _ => true) true Try.f3.params.toList args.toList ds p := hA0
  rw [Try.params3] at hA hval
  obtain ⟨v0, vs0, d0, ds0, p0, q0, hargs, rfl, rfl, h0, r0⟩ := trodAll_cons hA
  obtain ⟨v1, vs1, d1, ds1, p1, q1, rfl, rfl, rfl, h1, r1⟩ := trodAll_cons r0
  obtain ⟨v2, vs2, d2, ds2, p2, q2, rfl, rfl, rfl, h2, r2⟩ := trodAll_cons r1
  obtain ⟨v3, vs3, d3, ds3, p3, q3, rfl, rfl, rfl, h3, r3⟩ := trodAll_cons r2
  obtain ⟨v4, vs4, d4, ds4, p4, q4, rfl, rfl, rfl, h4, r4⟩ := trodAll_cons r3
  obtain ⟨rfl, rfl, rfl⟩ := trodAll_nil r4
  obtain rfl : args = #[v0, v1, v2, v3, v4] := by cases args; simp_all
  obtain ⟨rfl, rfl⟩ := trodVars_none hV
  obtain ⟨a0, rfl, rfl, rfl, w0⟩ := open_int Try.underlying3 (hval 0 3 v0 rfl rfl) h0
  obtain ⟨a1, len1, cap1, rfl⟩ := okWide_slice Try.underlying22 (hval 1 22 v1 rfl rfl)
  have k1 := h1
  have lt1 : ∀ x ∈ p1, x.block < W.heap.size := by obtain ⟨m, hm⟩ := k1; exact DataW.trod_lt m _ _ _ hm
  have w1 : Came .u8 W.heap.size W a1 len1 ∧ len1 ≤ 9223372036854775807 := by
    obtain ⟨fuel, hf⟩ := h1
    rcases open_ints Try.underlying22 Try.underlying5 (by kernel_rfl) hf with ⟨hcs, _⟩ | ⟨x, l, c, zs, hcs, _, hl, hm, hz, _, hcell, hwz⟩
    · simp [Value.cells] at hcs
      obtain ⟨rfl, rfl, rfl⟩ := hcs
      exact came_of_row (zs := []) (.inl ⟨rfl, rfl, rfl, rfl⟩)
    · simp [Value.cells] at hcs
      obtain ⟨rfl, rfl, rfl⟩ := hcs
      exact came_of_row (.inr ⟨_, rfl, hl, hm, by simpa using hz, hcell, hwz⟩)
  obtain ⟨a2, len2, cap2, rfl⟩ := okWide_slice Try.underlying23 (hval 2 23 v2 rfl rfl)
  have k2 := h2
  have lt2 : ∀ x ∈ p2, x.block < W.heap.size := by obtain ⟨m, hm⟩ := k2; exact DataW.trod_lt m _ _ _ hm
  have w2 : Came .i64 W.heap.size W a2 len2 ∧ len2 ≤ 9223372036854775807 := by
    obtain ⟨fuel, hf⟩ := h2
    rcases open_ints Try.underlying23 Try.underlying3 (by kernel_rfl) hf with ⟨hcs, _⟩ | ⟨x, l, c, zs, hcs, _, hl, hm, hz, _, hcell, hwz⟩
    · simp [Value.cells] at hcs
      obtain ⟨rfl, rfl, rfl⟩ := hcs
      exact came_of_row (zs := []) (.inl ⟨rfl, rfl, rfl, rfl⟩)
    · simp [Value.cells] at hcs
      obtain ⟨rfl, rfl, rfl⟩ := hcs
      exact came_of_row (.inr ⟨_, rfl, hl, hm, by simpa using hz, hcell, hwz⟩)
  obtain ⟨a3, rfl, rfl, rfl, w3⟩ := open_int Try.underlying3 (hval 3 3 v3 rfl rfl) h3
  obtain ⟨a4, rfl, rfl, rfl, w4⟩ := open_int Try.underlying3 (hval 4 3 v4 rfl rfl) h4
  clear hA0 hval0
  refine (walk a0 a1 len1 cap1 a2 len2 cap2 a3 a4 W w0 w1.1 w1.2 w2.1 w2.2 w3 w4).mono fun e W' ⟨he, bel⟩ => ?_
  subst he
  exact ⟨_, rfl, _, _, _, [], _, [], hW', trodAll_mk1 (shut_bool Try.underlying4 _), (trodAll_cons_mk (shut_int Try.underlying3 w0) (trodAll_cons_mk (Below.trod laidOut (by kernel_rfl) (of_decide_eq_true (by kernel_rfl)) k1 bel lt1) (trodAll_cons_mk (Below.trod laidOut (by kernel_rfl) (of_decide_eq_true (by kernel_rfl)) k2 bel lt2) (trodAll_cons_mk (shut_int Try.underlying3 w3) (trodAll_cons_mk (shut_int Try.underlying3 w4) trodAll_mk0))))), rfl, bel.frame _, fun h => by cases h⟩

theorem over : Rows.quietTellsRow.holds Try.pinned (OpenSpec.ofChange Rows.quietTellsSpec) :=
  OpenClaim.holds_of_wide 3 Try.f3 rfl rfl rfl rfl rfl rfl rfl ⟨rfl, rfl, rfl, rfl, rfl⟩ rfl rfl rfl rfl rfl (by kernel_rfl) Try.func3 (by kernel_rfl)
    (of_decide_eq_true (by kernel_rfl)) (by unfold Func.isWrapper; first | (rw [if_pos (by decide +kernel)]; kernel_rfl) | (rw [if_neg (by decide +kernel)]; exact ⟨rfl, rfl⟩))
    (fun os started H enc _ => lifted os started H enc)

theorem proved : Rows.QuietTellsSaid := over
end Go.Proofs.Ytjbchnnbphikhaa.quietTells
namespace Go.Proofs.Ytjbchnnbphikhaa
theorem quietTells_holds : Rows.QuietTellsSaid := quietTells.proved
#print axioms quietTells_holds
end Go.Proofs.Ytjbchnnbphikhaa
