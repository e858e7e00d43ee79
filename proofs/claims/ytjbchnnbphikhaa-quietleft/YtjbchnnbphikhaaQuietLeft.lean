/- QuietLeft returns true for every two lists of bytes (which act, of which core), every kind and every time, and leaves its arguments as they were. No condition. -/
import Derived.Test.YtjbchnnbphikhaaRows
import Derived.Test.YtjbchnnbphikhaaQuiB
import Derived.Test.YtjbchnnbphikhaaQuiI
import Derived.Deep.CutBlock
import Derived.WalkKit
import Derived.ProofKit
import Derived.OpenShut
import Derived.ShutString
import Derived.ChangeOld
import Derived.Below
namespace Go.Proofs.Ytjbchnnbphikhaa.quietLeft
open Go.ChangeShapes Go.WideShapes Go.ChangeAt Go.RowKit
set_option linter.unusedVariables false

theorem own : ownKnob Try.prog.godebug = none := by kernel_rfl
theorem laidOut : laidOutB Try.prog = true := by kernel_rfl

theorem step_now' {N : Nat} {s : CS} {f : Int} : (stepS N s f).now ≤ s.now + 1 := by
  unfold stepS
  split
  · split
    · exact Int.le_refl _
    · omega
  · omega
theorem enter_now' {N : Nat} {s : CS} {f : Int} : (enterS N s f).now = s.now := by
  unfold enterS
  split <;> rfl
theorem flush_now' {N : Nat} {s : CS} {f : Int} : (flushS N s f).now = s.now := by
  unfold flushS
  split <;> rfl
/-- The time is behind t, and each core has seen it or is among those from k on. -/
structure Sees (s : CS) (W t : Int) (L : List Nat) (k : Nat) : Prop where
  ok : s.ok
  late : t < s.now
  seen : ∀ c, c < 3 → seenC 3 s W t (c : Nat) = true ∨ c ∈ L.drop k
theorem sees_start {s : CS} {W t : Int} (hok : s.ok) (ht : t ≤ s.now) (hn : s.now < 1073741824) : Sees (stepS 3 s 0) W t (leftL 3 s W t) 0 := by
  have e : stepS 3 s 0 = ⟨s.now + 1, fun i => if i = 0 then s.cy i + 1 else s.cy i, s.en, s.fl⟩ := by
    have h0 : okF 3 0 = true := by decide
    simp [stepS, h0, hn]
  refine ⟨ok_step hok 3 0, by rw [e]; show t < s.now + 1; omega, fun c hc => ?_⟩
  rw [seenC_congr (s := s) (s' := stepS 3 s 0) hc (by rw [e]) (by rw [e])]
  cases h : seenC 3 s W t (c : Nat)
  · right
    exact (mem_leftU (f := fun i : Nat => seenC 3 s W t (i : Int)) 3).2 ⟨hc, h⟩
  · exact .inl rfl
theorem sees_next {s : CS} {W t : Int} {L : List Nat} {k : Nat} (h : Sees s W t L k) (hW : 0 ≤ W ∧ W ≤ 3) (hk : k < L.length) (hc : L.getD k 0 < 3) :
    Sees (flushS 3 (enterS 3 s ((L.getD k 0 : Nat) : Int)) ((L.getD k 0 : Nat) : Int)) W t L (k + 1) := by
  obtain ⟨c, e⟩ : ∃ c, c = L.getD k 0 := ⟨_, rfl⟩
  rw [← e] at hc ⊢
  have eq : flushS 3 (enterS 3 s (c : Int)) (c : Int) = ⟨s.now, s.cy, fun i => if i = c then s.now else s.en i, fun i => if i = c then s.now else s.fl i⟩ := by
    simp [flushS, enterS, okF_nat hc]
  refine ⟨ok_flush (ok_enter h.ok 3 _) 3 _, by rw [eq]; exact h.late, fun d hd => ?_⟩
  by_cases ed : d = c
  · left
    subst ed
    refine seenC_all hd hW ?_ ?_
    · rw [eq]; simp; exact h.late
    · rw [eq]; simp; exact h.late
  · rw [seenC_congr (s := s) hd (by rw [eq]; simp [ed]) (by rw [eq]; simp [ed])]
    refine (h.seen d hd).imp id fun hm => ?_
    rw [List.drop_eq_getElem_cons hk] at hm
    rcases List.mem_cons.1 hm with h1 | h1
    · exfalso
      apply ed
      rw [h1, e, List.getD_eq_getElem?_getD, List.getElem?_eq_getElem hk, Option.getD_some]
    · exact h1
theorem sees_quiet {s : CS} {W t : Int} {L : List Nat} (h : Sees s W t L L.length) : quF 3 s W t = true := quF_iff.2 fun i hi => by
  rcases h.seen i hi with h | h
  · exact h
  · simp at h
theorem got_turn {w wr : World} {base : Nat} {v : Value} {l : List Nat} {cs : Array Value} (h : Got wr base v l) (hb : w.heap.size < base) : Got (wr.setRow w.heap.size cs) base v l :=
  h.on (fun k hk _ => setRow_other _ _ _ _ (by omega)) (by simp)
set_option maxRecDepth 100000 in
set_option maxHeartbeats 8000000 in
theorem walk_all (a0 a1 : Option Addr) (len0 cap0 len1 cap1 : Nat) (was t : Int) (w : World)
    (HC0 : Hid (Came .u8 w.heap.size w a0 len0)) (HC1 : Hid (Came .u8 w.heap.size w a1 len1)) (hl0 : len0 ≤ 9223372036854775807) (hl1 : len1 ≤ 9223372036854775807) (HW : Hid ((Lit.int .u8 was).wf = true)) (HT : Hid ((Lit.int .u8 t).wf = true)) :
    Calls Try.prog 4 #[.slice a0 len0 cap0, .slice a1 len1 cap1, .int .u8 was, .int .u8 t] w fun e w' => e = .returned (.bool true) ∧ Below w.heap.size w w' := by
  go_enter Try.func4, Try.ntmps4
  go_upto_block 0 with (first
    | (go_at_call 6; refine (new_ok 3 _ (by omega) (by omega)).mono ?_; rintro e w1 ⟨rfl, hc1, hb1⟩; have H1 : Hid (Half w w1 3 (newS 3)) := ⟨hc1, hb1⟩; clear hc1 hb1)
    | fail)
  go_cut [11, 12] from 27 to 63 (fun _ _ wc => ∃ s, Half w wc 3 s ∧ s.now ≤ 100)
  case first =>
   go_wp2_with fail
   go_loopw [11] (fun i wr => ∃ n : Nat, n ≤ len0 ∧ n ≤ 100 ∧ i = .int .i64 n ∧ ∃ s, Half w wr 3 s ∧ s.now ≤ n) (fun i _ => len0 - (intOf i).toNat)
   case atStart => exact ⟨0, by omega, by omega, rfl, newS 3, H1.out, Int.le_refl _⟩
   case round =>
     obtain ⟨n, hn, hn100, rfl, s, hI, hnow⟩ := hrel
     have HI : Hid (Half w wr 3 s) := hI
     clear hI H1
     by_cases hin : n < len0 ∧ n < len1 ∧ n < 100
     · obtain ⟨h0, h1, h2⟩ := hin
       obtain ⟨b0, o0, z0, rfl, HZ0, C0⟩ := HC0.out.at h0
       obtain ⟨b1, o1, z1, rfl, HZ1, C1⟩ := HC1.out.at h1
       have c0 := C0.out _ HI.out.below
       have c1 := C1.out _ HI.out.below
       have i0 : (n : Int) < (len0 : Int) := by omega
       have i1 : (n : Int) < (len1 : Int) := by omega
       have i2 : (n : Int) < 100 := by omega
       obtain ⟨kk, hr, hkk⟩ := rem_u8 HZ1.out 3 (by omega)
       have hr' : z1.tmod 3 = (kk : Int) := hr
       have hk3 : (kk : Int) < 3 := by omega
       obtain ⟨q, hq0, hq3⟩ := rem_u8 HZ0.out 2 (by omega)
       have hq' : z0.tmod 2 = 0 ∨ z0.tmod 2 = 1 := by
         have : z0.tmod 2 = (q : Int) := hq0
         omega
       clear hr hq0 HZ0 HZ1
       rcases hq' with hp | hp
       all_goals
         go_wp2_with (first
           | (go_at_call 9; refine (step_any _ 3 _ s _ (by omega) (by omega) HI.out.clock).mono ?_; rintro e w2 ⟨rfl, hw2⟩; have HI2 : Hid (Half w w2 3 (stepS 3 s kk)) := HI.out.turn (ok_step HI.out.clock.ok 3 kk) hw2; clear hw2 c0 c1; have c0 := C0.out _ HI2.out.below; have c1 := C1.out _ HI2.out.below)
           | (go_at_call 11; refine (enter_any _ 3 _ (stepS 3 s kk) _ (by omega) (by omega) HI2.out.clock).mono ?_; rintro e w3 ⟨rfl, hw3⟩; have HI3 : Hid (∃ t, Half w w3 3 t ∧ t.now ≤ (n : Int) + 1) := ⟨_, HI2.out.turn (ok_enter HI2.out.clock.ok 3 kk) hw3, (by rw [enter_now']; have := @step_now' 3 s kk; omega)⟩; clear hw3)
           | (go_at_call 13; refine (flush_any _ 3 _ (stepS 3 s kk) _ (by omega) (by omega) HI2.out.clock).mono ?_; rintro e w3 ⟨rfl, hw3⟩; have HI3 : Hid (∃ t, Half w w3 3 t ∧ t.now ≤ (n : Int) + 1) := ⟨_, HI2.out.turn (ok_flush HI2.out.clock.ok 3 kk) hw3, (by rw [flush_now']; have := @step_now' 3 s kk; omega)⟩; clear hw3)
           | fail)
         go_roundw
         case rel => exact ⟨n + 1, by omega, by omega, by go_num, let ⟨t, h1, h2⟩ := HI3.out; ⟨t, h1, by omega⟩⟩
         case measure => simp [intOf]; omega
     · have hout : ¬ n < len0 ∨ (n < len0 ∧ ¬ n < len1) ∨ (n < len0 ∧ n < len1 ∧ ¬ n < 100) := by omega
       clear hin
       rcases hout with h1 | ⟨h1, h2⟩ | ⟨h1, h2, h3⟩
       all_goals
         go_wp2_with fail
         go_meet
         exact ⟨s, HI.out, by omega⟩
  case rest =>
    obtain ⟨s, hI, hnow⟩ := hcut
    have HI : Hid (Half w wc 3 s) := hI
    have HOK : Hid (s.ok) := hI.clock.ok
    have h0 : 0 ≤ s.now := hI.clock.ok.1
    clear hI
    obtain ⟨W, hW, hW4⟩ := rem_u8 HW.out 4 (by omega)
    have hW' : was.tmod 4 = (W : Int) := hW
    have hWi : (W : Int) < 4 := by omega
    obtain ⟨nn, hnn⟩ : ∃ nn, nn = s.now := ⟨_, rfl⟩
    have HNN : Hid (nn = s.now) := hnn
    have n0 : 0 ≤ nn := by omega
    have n1 : nn ≤ 100 := by omega
    have hT := bounds_u8 HT.out
    have ht0 := Int.emod_nonneg t (show nn + 1 ≠ 0 by omega)
    have ht1 := Int.emod_lt_of_pos t (show 0 < nn + 1 by omega)
    obtain ⟨tt, htt⟩ : ∃ tt, t.tmod (nn + 1) = tt := ⟨_, rfl⟩
    have hte : tt = t.emod (nn + 1) := by rw [← htt, Int.tmod_eq_emod_of_nonneg hT.1]; rfl
    have HTT : Hid (tt ≤ s.now) := by
      show tt ≤ s.now
      have : t.emod (nn + 1) = t % (nn + 1) := rfl
      omega
    have hz : (nn + 1 == 0) = false := by simp; omega
    obtain ⟨L, hL⟩ : ∃ L, L = leftL 3 s W tt := ⟨_, rfl⟩
    obtain ⟨m, hm⟩ : ∃ m, m = L.length := ⟨_, rfl⟩
    obtain ⟨bb, hbb⟩ : ∃ bb, ((m : Int) == 0) = bb := ⟨_, rfl⟩
    have HLeft : Hid (Calls Try.prog 15 #[.pointer (some ⟨w.heap.size, 0, none⟩), .int .i64 (W : Int), .int .i64 tt] wc fun e w' => (∃ a cap, e = .returned (.slice a m cap) ∧ Got w' wc.heap.size (.slice a m cap) L) ∧ Half w w' 3 s) := by
      refine (left_any _ 3 s W tt _ (by omega) (by omega) HI.out.clock).mono ?_
      rintro e w2 ⟨⟨v, rfl, hg⟩, hb2⟩
      rw [← hL] at hg
      obtain ⟨a, cap, rfl, _⟩ := id hg
      rw [← hm] at hg ⊢
      exact ⟨⟨a, cap, rfl, hg⟩, HI.out.more hb2⟩
    have HFor : Hid (∀ w2, Half w w2 3 s → Calls Try.prog 21 #[.pointer (some ⟨w.heap.size, 0, none⟩), .int .i64 (W : Int), .int .i64 tt] w2 fun e w' => e = .returned (.bool bb) ∧ Below w2.heap.size w2 w') := by
      intro w2 h2
      have := for_any _ 3 s W tt w2 (by omega) (by omega) h2.clock
      unfold quF at this
      rw [← hL, ← hm, hbb] at this
      exact this
    have HS : Hid (Sees (stepS 3 s 0) W tt L 0) := by
      show Sees _ _ _ _ _
      rw [hL]
      exact sees_start HOK.out HTT.out (by have := HNN.out; omega)
    have HL3 : Hid (∀ k, k < m → L.getD k 0 < 3) := by
      intro k hk
      have : L.getD k 0 ∈ L := by
        rw [List.getD_eq_getElem?_getD, List.getElem?_eq_getElem (by omega), Option.getD_some]
        exact List.getElem_mem _
      have h2 : L.getD k 0 ∈ leftU (fun i : Nat => seenC 3 s W tt (i : Int)) 3 := by
        rw [hL] at this ⊢
        exact this
      exact ((mem_leftU 3).1 h2).1
    have hm3 : m ≤ 3 := by
      rw [hm, hL]
      exact len_leftU _ 3
    have HM : Hid (m = L.length) := hm
    have HSZ : Hid (w.heap.size < wc.heap.size) := HI.out.clock.lt
    clear hW hnn h0 hnow ht0 ht1 hte hL hm
    go_wp2_with (first
      | (go_at_call 23; refine (now_some _ nn _ (by have := HI.out.clock.now; rw [← HNN.out] at this; exact this)).mono ?_; rintro e w9 ⟨rfl, hw9⟩; subst w9)
      | (go_at_call 15; refine HLeft.out.mono ?_; rintro e w2 ⟨⟨a, cap, rfl, hg⟩, h2⟩; have HG2 : Hid (Got w2 wc.heap.size (.slice a m cap) L) := hg; have HI2 : Hid (Half w w2 3 s) := h2; clear hg h2)
      | (go_at_call 21; refine (HFor.out _ HI2.out).mono ?_; rintro e w3 ⟨rfl, hw3⟩; have HG3 : Hid (Got w3 wc.heap.size (.slice a m cap) L) := HG2.out.below hw3 (Nat.le_refl _); have HI3 : Hid (Half w w3 3 s) := HI2.out.more hw3; clear hw3)
      | (go_at_call 9; refine (step_any _ 3 _ s _ (by omega) (by omega) HI3.out.clock).mono ?_; rintro e w4 ⟨rfl, hw4⟩; have HI4 : Hid (Half w w4 3 (stepS 3 s 0)) := HI3.out.turn (ok_step HI3.out.clock.ok 3 0) hw4; have HG4 : Hid (Got w4 wc.heap.size (.slice a m cap) L) := (by rw [hw4]; exact got_turn HG3.out HSZ.out); clear hw4)
      | fail)
    clear HLeft HFor HI HI2 HI3 HG2 HG3 hbb
    go_loopw [16] (fun i wr => ∃ k : Nat, k ≤ m ∧ i = .int .i64 k ∧ ∃ s, Half w wr 3 s ∧ Got wr wc.heap.size (.slice a m cap) L ∧ Sees s W tt L k) (fun i _ => m - (intOf i).toNat)
    case atStart => exact ⟨0, by omega, rfl, _, HI4.out, HG4.out, HS.out⟩
    case round =>
      obtain ⟨k, hk, rfl, s1, hI, hG, hS⟩ := hrel
      have HI : Hid (Half w wr 3 s1) := hI
      have HG : Hid (Got wr wc.heap.size (.slice a m cap) L) := hG
      have HS1 : Hid (Sees s1 W tt L k) := hS
      clear hI hG hS HI4 HG4 HS
      by_cases hlt : k < m
      · have hki : (k : Int) < (m : Int) := by omega
        obtain ⟨g, rfl, hg1, hg2, x1⟩ := HG.out.at (j := k) (by have := HM.out; omega)
        have hc3 := HL3.out k hlt
        obtain ⟨c, hc⟩ : ∃ c, c = L.getD k 0 := ⟨_, rfl⟩
        have HN : Hid (Sees (flushS 3 (enterS 3 s1 (c : Int)) (c : Int)) W tt L (k + 1)) := by
          show Sees _ _ _ _ _
          rw [hc]
          exact sees_next HS1.out (by omega) (by have := HM.out; omega) hc3
        rw [← hc] at x1
        have HG1 : Hid (wc.heap.size ≤ g) := hg1
        have X : Hid (∀ w2, Got w2 wc.heap.size (.slice (some ⟨g, 0, none⟩) m cap) L → w2.cell? ⟨g, k, none⟩ = some (.int .i64 (c : Int))) := by
          intro w2 h2
          obtain ⟨g', e, _, _, x⟩ := h2.at (j := k) (by have := HM.out; omega)
          cases e
          rw [hc]
          exact x
        clear hc hc3 hg1 hg2 HS1
        go_wp2_with (first
          | (go_at_call 11; refine (enter_any _ 3 _ s1 _ (by omega) (by omega) HI.out.clock).mono ?_; rintro e w5 ⟨rfl, hw5⟩; have HI5 : Hid (Half w w5 3 (enterS 3 s1 c)) := HI.out.turn (ok_enter HI.out.clock.ok 3 c) hw5; have HG5 : Hid (Got w5 wc.heap.size (.slice (some ⟨g, 0, none⟩) m cap) L) := (by rw [hw5]; exact got_turn HG.out HSZ.out); clear hw5 x1; have x1 := X.out _ HG5.out)
          | (go_at_call 13; refine (flush_any _ 3 _ (enterS 3 s1 c) _ (by omega) (by omega) HI5.out.clock).mono ?_; rintro e w6 ⟨rfl, hw6⟩; have HI6 : Hid (Half w w6 3 (flushS 3 (enterS 3 s1 c) c)) := HI5.out.turn (ok_flush HI5.out.clock.ok 3 c) hw6; have HG6 : Hid (Got w6 wc.heap.size (.slice (some ⟨g, 0, none⟩) m cap) L) := (by rw [hw6]; exact got_turn HG5.out HSZ.out); clear hw6 x1)
          | fail)
        go_roundw
        case rel => exact ⟨k + 1, by omega, by go_num, _, HI6.out, HG6.out, HN.out⟩
        case measure => simp [intOf]; omega
      · obtain rfl : k = m := by omega
        have HQ : Hid (quF 3 s1 W tt = true) := sees_quiet (by have := HS1.out; rw [HM.out] at this; exact this)
        have HZ : Hid ((leftL 3 s1 W tt).length = 0) := by
          have := HQ.out
          unfold quF at this
          show (leftL 3 s1 W tt).length = 0
          simpa using this
        have HLeft : Hid (∀ w2, Half w w2 3 s1 → Calls Try.prog 15 #[.pointer (some ⟨w.heap.size, 0, none⟩), .int .i64 (W : Int), .int .i64 tt] w2 fun e w' => (∃ a cap, e = .returned (.slice a 0 cap)) ∧ Half w w' 3 s1) := by
          intro w2 h2
          refine (left_any _ 3 s1 W tt _ (by omega) (by omega) h2.clock).mono ?_
          rintro e w3 ⟨⟨v, rfl, hg⟩, hb2⟩
          obtain ⟨a, cap, rfl, _⟩ := id hg
          rw [HZ.out]
          exact ⟨⟨a, cap, rfl⟩, h2.more hb2⟩
        have HFor : Hid (∀ w2, Half w w2 3 s1 → Calls Try.prog 21 #[.pointer (some ⟨w.heap.size, 0, none⟩), .int .i64 (W : Int), .int .i64 tt] w2 fun e w' => e = .returned (.bool true) ∧ Half w w' 3 s1) := by
          intro w2 h2
          refine (for_any _ 3 s1 W tt w2 (by omega) (by omega) h2.clock).mono ?_
          rintro e w3 ⟨rfl, hb2⟩
          rw [HQ.out]
          exact ⟨rfl, h2.more hb2⟩
        go_wp2_with (first
          | (go_at_call 21; refine (HFor.out _ HI.out).mono ?_; rintro e w5 ⟨rfl, h5⟩; have HI5 : Hid (Half w w5 3 s1) := h5; clear h5)
          | (go_at_call 15; refine (HLeft.out _ HI5.out).mono ?_; rintro e w6 ⟨⟨a6, cap6, rfl⟩, h6⟩; have HI6 : Hid (Half w w6 3 s1) := h6; clear h6)
          | (go_at_call 8; refine (awake_any _).mono ?_; rintro e w7 ⟨rfl, h7⟩; have H7 : Hid (Below w.heap.size w w7) := HI6.out.below.trans (h7.mono HI6.out.below.size); clear h7)
          | fail)
        go_ret
        exact ⟨rfl, H7.out⟩

theorem walk (a0 : Option Addr) (len0 cap0 : Nat) (a1 : Option Addr) (len1 cap1 : Nat) (a2 : Int) (a3 : Int) (w : World) (w0 : Hid (Came .u8 w.heap.size w a0 len0)) (l0 : len0 ≤ 9223372036854775807) (w1 : Hid (Came .u8 w.heap.size w a1 len1)) (l1 : len1 ≤ 9223372036854775807) (w2 : (Lit.int .u8 a2).wf = true) (w3 : (Lit.int .u8 a3).wf = true) :
    Calls Try.prog 4 #[.slice a0 len0 cap0, .slice a1 len1 cap1, .int .u8 a2, .int .u8 a3] w fun e w' => e = .returned (.bool true) ∧ Below w.heap.size w w' := by
  exact walk_all a0 a1 len0 cap0 len1 cap1 a2 a3 w w0 w1 l0 l1 w2 w3

/-! ### The statement's frame -/
set_option maxRecDepth 100000 in
theorem lifted (os : Os) (started : os.Started) (H : Type) (enc : TypeId × Value → H) :
    ReturnsInHanded {} Try.checked os 4 .any (Rows.quietLeftSpec.pre6 enc Try.prog Try.f4 Rows.quietLeftRow.domain false) (Rows.quietLeftSpec.post enc Try.prog Try.f4 false true false false) := by
  refine returnsInHanded_of_change (C := Try.checked) own started (by kernel_rfl) Try.func4
    (ChangeSpec.witness6 (enc := enc) (C := Try.checked) false ⟨#[], #[.slice none 0 0, .slice none 0 0, .int .u8 0, .int .u8 0], []⟩ 8 (by kernel_rfl) (by kernel_rfl) (by kernel_rfl) (by kernel_rfl)) ?_
  intro W base args ds gs before hval0 hW hcnd _
  have hval : ∀ (j : Nat) t v, Try.f4.params[j]? = some t → args[j]? = some v → Value.okWide Try.prog W .any base t v := hval0
  have hW' := hW
  obtain ⟨p, q, hA0, hV, rfl, hfz, hnd⟩ := hW
  have hA : DataW.TrodAll enc Try.prog W 0 (fun _ => true) true Try.f4.params.toList args.toList ds p := hA0
  rw [Try.params4] at hA hval
  obtain ⟨v0, vs0, d0, ds0, p0, q0, hargs, rfl, rfl, h0, r0⟩ := trodAll_cons hA
  obtain ⟨v1, vs1, d1, ds1, p1, q1, rfl, rfl, rfl, h1, r1⟩ := trodAll_cons r0
  obtain ⟨v2, vs2, d2, ds2, p2, q2, rfl, rfl, rfl, h2, r2⟩ := trodAll_cons r1
  obtain ⟨v3, vs3, d3, ds3, p3, q3, rfl, rfl, rfl, h3, r3⟩ := trodAll_cons r2
  obtain ⟨rfl, rfl, rfl⟩ := trodAll_nil r3
  obtain rfl : args = #[v0, v1, v2, v3] := by cases args; simp_all
  obtain ⟨rfl, rfl⟩ := trodVars_none hV
  obtain ⟨a0, len0, cap0, rfl⟩ := okWide_slice Try.underlying22 (hval 0 22 v0 rfl rfl)
  have k0 := h0
  have lt0 : ∀ x ∈ p0, x.block < W.heap.size := by obtain ⟨m, hm⟩ := k0; exact DataW.trod_lt m _ _ _ hm
  have w0 : Came .u8 W.heap.size W a0 len0 ∧ len0 ≤ 9223372036854775807 := by
    obtain ⟨fuel, hf⟩ := h0
    rcases open_ints Try.underlying22 Try.underlying5 (by kernel_rfl) hf with ⟨hcs, _⟩ | ⟨x, l, c, zs, hcs, _, hl, hm, hz, _, hcell, hwz⟩
    · simp [Value.cells] at hcs
      obtain ⟨rfl, rfl, rfl⟩ := hcs
      exact came_of_row (zs := []) (.inl ⟨rfl, rfl, rfl, rfl⟩)
    · simp [Value.cells] at hcs
      obtain ⟨rfl, rfl, rfl⟩ := hcs
      exact came_of_row (.inr ⟨_, rfl, hl, hm, by simpa using hz, hcell, hwz⟩)
  obtain ⟨a1, len1, cap1, rfl⟩ := okWide_slice Try.underlying22 (hval 1 22 v1 rfl rfl)
  have k1 := h1
  have lt1 : ∀ x ∈ p1, x.block < W.heap.size := by obtain ⟨m, hm⟩ := k1; exact DataW.trod_lt m _ _ _ hm
  have w1 : Came .u8 W.heap.size W a1 len1 ∧ len1 ≤ 9223372036854775807 := by
    obtain ⟨fuel, hf⟩ := h1
    rcases open_ints Try.underlying22 Try.underlying5 (by kernel_rfl) hf with ⟨hcs, _⟩ | ⟨x, l, c, zs, hcs, _, hl, hm, hz, _, hcell, hwz⟩
    · simp [Value.cells] at hcs
      obtain ⟨rfl, rfl, rfl⟩ := hcs
      exact came_of_row (zs := []) (.inl ⟨rfl, rfl, rfl, rfl⟩)
    · simp [Value.cells] at hcs
      obtain ⟨rfl, rfl, rfl⟩ := hcs
      exact came_of_row (.inr ⟨_, rfl, hl, hm, by simpa using hz, hcell, hwz⟩)
  obtain ⟨a2, rfl, rfl, rfl, w2⟩ := open_int Try.underlying5 (hval 2 5 v2 rfl rfl) h2
  obtain ⟨a3, rfl, rfl, rfl, w3⟩ := open_int Try.underlying5 (hval 3 5 v3 rfl rfl) h3
  clear hA0 hval0
  refine (walk a0 len0 cap0 a1 len1 cap1 a2 a3 W w0.1 w0.2 w1.1 w1.2 w2 w3).mono fun e W' ⟨he, bel⟩ => ?_
  subst he
  exact ⟨_, rfl, _, _, _, [], _, [], hW', trodAll_mk1 (shut_bool Try.underlying4 _), (trodAll_cons_mk (Below.trod laidOut (by kernel_rfl) (of_decide_eq_true (by kernel_rfl)) k0 bel lt0) (trodAll_cons_mk (Below.trod laidOut (by kernel_rfl) (of_decide_eq_true (by kernel_rfl)) k1 bel lt1) (trodAll_cons_mk (shut_int Try.underlying5 w2) (trodAll_cons_mk (shut_int Try.underlying5 w3) trodAll_mk0)))), rfl, bel.frame _, fun h => by cases h⟩

theorem over : Rows.quietLeftRow.holds Try.pinned (OpenSpec.ofChange Rows.quietLeftSpec) :=
  OpenClaim.holds_of_wide 4 Try.f4 rfl rfl rfl rfl rfl rfl rfl ⟨rfl, rfl, rfl, rfl, rfl⟩ rfl rfl rfl rfl rfl (by kernel_rfl) Try.func4 (by kernel_rfl)
    (of_decide_eq_true (by kernel_rfl)) (by unfold Func.isWrapper; first | (rw [if_pos (by decide +kernel)]; kernel_rfl) | (rw [if_neg (by decide +kernel)]; exact ⟨rfl, rfl⟩))
    (fun os started H enc _ => lifted os started H enc)

theorem proved : Rows.QuietLeftSaid := over
end Go.Proofs.Ytjbchnnbphikhaa.quietLeft
namespace Go.Proofs.Ytjbchnnbphikhaa
theorem quietLeft_holds : Rows.QuietLeftSaid := quietLeft.proved
#print axioms quietLeft_holds
end Go.Proofs.Ytjbchnnbphikhaa
