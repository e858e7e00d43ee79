/- The walk of HwOne, over what it asks of the program. -/
import Derived.Test.YtefoofcfbcmjcaaHwP
import Derived.Test.YtefoofcfbcmjcaaBunBase
import Derived.BigRegion
import Derived.Deep.DeepCutAuto
import Derived.Deep.CutBlock
namespace Go.Proofs.Ytefoofcfbcmjcaa.Phw
open Go.Proofs.Ytefoofcfbcmjcaa.Pbase
open Go.RowKit
set_option linter.unusedVariables false

theorem i64_of {z : Int} (h : (Lit.int .i64 z).wf = true) : I64 z := by
  have h' : (decide (IntKind.i64.min ≤ z) && decide (z ≤ IntKind.i64.max)) = true := h
  have e1 : IntKind.i64.min = -9223372036854775808 := by decide
  have e2 : IntKind.i64.max = 9223372036854775807 := by decide
  rw [e1, e2] at h'
  simpa [I64] using h'
theorem de_own {S : Nat → Int} {l : Int} (h : okL l = true) : deS S l l.toNat = 0 := by
  by_cases h0 : S l.toNat = 0
  · rw [(of_none h h0).2.2]
    exact h0
  · rw [(of_ok h h0).2.2, up_own]
/-- A line detached and attached twice. -/
theorem one_way (S : Nat → Int) (l f g : Int) : (atE (deS S l) l f = 1 ∧ ((atE (atS (deS S l) l f) l g = 0 ∧ ofE (atS (atS (deS S l) l f) l g) l = 0) ∨ (atE (atS (deS S l) l f) l g ≠ 0 ∧ ofE (atS (atS (deS S l) l f) l g) l ≠ 0))) ∨ (atE (deS S l) l f = 0 ∧ atE (atS (deS S l) l f) l g ≠ 0 ∧ ofE (atS (atS (deS S l) l f) l g) l = 0 ∧ ofX (atS (atS (deS S l) l f) l g) l = f ∧ ofE (deS (atS (atS (deS S l) l f) l g) l) l = 3) := by
  by_cases hl : okL l = true
  · have h0 := de_own (S := S) hl
    by_cases hf : okG f = true
    · right
      obtain ⟨e1, e2⟩ := at_ok (f := f) (by rw [hl, hf]; rfl) h0
      have hfr := (okG_iff f).1 hf
      have hS2 : upL (deS S l) l.toNat (f + 1) l.toNat = f + 1 := up_own _ _ _
      have hne : upL (deS S l) l.toNat (f + 1) l.toNat ≠ 0 := by rw [hS2]; omega
      rw [e1, e2]
      have hh : atE (upL (deS S l) l.toNat (f + 1)) l g ≠ 0 ∧ atS (upL (deS S l) l.toNat (f + 1)) l g = upL (deS S l) l.toNat (f + 1) := by
        by_cases hg : (okL l && okG g) = true
        · obtain ⟨q1, q2⟩ := at_used hg hne
          exact ⟨by rw [q1]; decide, q2⟩
        · obtain ⟨q1, q2⟩ := at_arg (S := upL (deS S l) l.toNat (f + 1)) hg
          exact ⟨by rw [q1]; decide, q2⟩
      rw [hh.2]
      obtain ⟨o1, o2, o3⟩ := of_ok hl hne
      refine ⟨rfl, hh.1, o1, by rw [o2, hS2]; omega, ?_⟩
      exact (of_none hl (de_own hl)).1
    · left
      obtain ⟨e1, e2⟩ := at_arg (S := deS S l) (l := l) (f := f) (by rw [hl]; simpa using hf)
      rw [e1, e2]
      refine ⟨rfl, ?_⟩
      by_cases hg : okG g = true
      · obtain ⟨q1, q2⟩ := at_ok (f := g) (by rw [hl, hg]; rfl) h0
        left
        rw [q1, q2]
        have hgr := (okG_iff g).1 hg
        exact ⟨rfl, (of_ok hl (by rw [up_own]; omega)).1⟩
      · obtain ⟨q1, q2⟩ := at_arg (S := deS S l) (l := l) (f := g) (by rw [hl]; simpa using hg)
        right
        rw [q1, q2]
        exact ⟨by decide, by rw [(of_none hl h0).1]; decide⟩
  · left
    have hb : ∀ (T : Nat → Int) x, atE T l x = 1 ∧ atS T l x = T := fun T x => at_arg (by simp [hl])
    rw [(hb _ f).1, (hb _ f).2, (hb _ g).1, (hb _ g).2]
    exact ⟨rfl, .inr ⟨by decide, by rw [(of_arg hl).1]; decide⟩⟩
theorem hsN_nat (S : Nat → Int) (f : Int) : 0 ≤ hsN S f ∧ hsN S f ≤ 8 := by
  have := hsK_le S f 8
  unfold hsN
  omega
set_option maxRecDepth 100000 in
set_option maxHeartbeats 8000000 in
theorem one_walk {LI : World → Nat → Nat → (Nat → Int) → Prop} (l f g : Int) (a3 : Option Addr) (len3 cap3 : Nat) (w : World) (hl : I64 l) (hf : I64 f) (hg : I64 g) (D3 : Hid (Came .i64 w.heap.size w a3 len3)) (l3 : len3 ≤ 9223372036854775807) (HP : Hid (Pg LI)) :
    Calls Try.prog 4 #[.int .i64 l, .int .i64 f, .int .i64 g, .slice a3 len3 cap3] w fun e w' => e = .returned (.bool true) ∧ Below w.heap.size w w' := by
  go_enter Try.func4, Try.ntmps4
  go_wp2_with (first
    | (go_at_call 7; refine (hp_new HP.out _).mono ?_; rintro e1 w1 ⟨p, b, rfl, h⟩; have H1 := rhide h; clear h)
    | fail)
  go_loopw [10] (fun i wr => ∃ k : Nat, k ≤ len3 ∧ i = .int .i64 k ∧ ∃ S, Hp LI w wr p b S) (fun i _ => len3 - (intOf i).toNat)
  case atStart => exact ⟨0, by omega, rfl, _, H1.out⟩
  case round =>
    obtain ⟨k, hk0, rfl, S, hI⟩ := hrel
    have HI := rhide hI
    clear hI H1
    by_cases hin : k < len3 ∧ k < 20
    · obtain ⟨h0, h1⟩ := hin
      obtain ⟨b0, o0, z, rfl, hz, G0⟩ := D3.out.any h0
      have HZ : Hid (I64 z) := i64_of hz.out
      clear hz
      have i0 : (k : Int) < (len3 : Int) := by omega
      have i1 : (k : Int) < 20 := by omega
      have c0 := G0.out wr HI.out.below
      have HA : Hid (∀ wx, Hp LI w wx p b S → Calls Try.prog 11 #[.pointer (some ⟨p, 0, none⟩), .int .i64 k, .int .i64 z] wx fun e w' => e = .returned (.int .i64 (atE S k z)) ∧ Hp LI w w' p b (atS S k z)) := fun wx h => (hp_attach HP.out h (by unfold I64; omega) HZ.out).mono fun e w' ⟨q1, q2, _⟩ => ⟨q1, q2⟩
      go_wp2_with (first
        | (go_at_call 11; refine (HA.out _ HI.out).mono ?_; rintro e3 w3 ⟨rfl, h⟩; have H3 := rhide h; clear h HA HI c0)
        | fail)
      go_roundw
      case rel => exact ⟨k + 1, by omega, by go_num, _, H3.out⟩
      case measure => simp [intOf]; omega
    · have hin' : ¬ (k : Int) < (len3 : Int) ∨ ((k : Int) < (len3 : Int) ∧ ¬ (k : Int) < 20) := by omega
      clear hin
      have HL := rhide hl
      have HF := rhide hf
      have HG := rhide hg
      clear hl hf hg
      rcases hin' with n1 | ⟨n1, n2⟩
      all_goals
        go_wp2
        go_loopw [11, 12] (fun n i wr => ∃ x : Nat, x ≤ 64 ∧ i = .int .i64 x ∧ n = .int .i64 (sumK S x : Nat) ∧ Hp LI w wr p b S) (fun _ i _ => 64 - (intOf i).toNat)
        case atStart => exact ⟨0, by omega, rfl, rfl, HI.out⟩
        case round =>
          obtain ⟨x, hx, rfl, rfl, hJ⟩ := hrel
          have HJ := rhide hJ
          clear hJ HI
          have hs := sum_le S hx
          by_cases hlt : x < 64
          · have i2 : (x : Int) < 64 := by omega
            have hk8 := hsK_le S x 8
            have e2 : sumK S (x + 1) = sumK S x + hsK S x 8 := rfl
            have HH : Hid (∀ wx, Hp LI w wx p b S → Calls Try.prog 15 #[.pointer (some ⟨p, 0, none⟩), .int .i64 x] wx fun e w' => e = .returned (.int .i64 (hsK S x 8 : Nat)) ∧ Hp LI w w' p b S) := fun wx h => (hp_has HP.out h (by unfold I64; omega)).mono fun e w' ⟨q1, q2, _⟩ => ⟨q1, q2⟩
            generalize hsK S x 8 = n8 at hk8 e2 HH
            generalize sumK S x = n7 at hs e2 ⊢
            have d2 : wrap64 ((n7 : Int) + (n8 : Int)) = (n7 : Int) + (n8 : Int) := by unfold wrap64; omega
            go_wp2_with (first
              | (go_at_call 15; refine (HH.out _ HJ.out).mono ?_; rintro e4 w4 ⟨rfl, h⟩; have H4 := rhide h; clear h HH HJ)
              | fail)
            go_roundw
            case rel => exact ⟨x + 1, by omega, by go_num, by rw [e2]; simp, H4.out⟩
            case measure => simp [intOf]; omega
          · obtain rfl : x = 64 := by omega
            have n3 : ¬ (8 : Int) < ((sumK S 64 : Nat) : Int) := by omega
            generalize sumK S 64 = n7 at n3 ⊢
            have HW := one_way S l f g
            obtain ⟨S1, h1⟩ : ∃ S1, deS S l = S1 := ⟨_, rfl⟩
            rw [h1] at HW
            obtain ⟨S2, h2⟩ : ∃ S2, atS S1 l f = S2 := ⟨_, rfl⟩
            rw [h2] at HW
            obtain ⟨S3, h3⟩ : ∃ S3, atS S2 l g = S3 := ⟨_, rfl⟩
            rw [h3] at HW
            obtain ⟨S4, h4⟩ : ∃ S4, deS S3 l = S4 := ⟨_, rfl⟩
            rw [h4] at HW
            have K1 : Hid (∀ wx, Hp LI w wx p b S → Calls Try.prog 9 #[.pointer (some ⟨p, 0, none⟩), .int .i64 l] wx fun e w' => e = .returned (.tuple #[.int .i64 (ofX S l), .int .i64 (ofE S l)]) ∧ Hp LI w w' p b S1) := fun wx h => (hp_detach HP.out h HL.out).mono fun e w' ⟨q1, q2, _⟩ => ⟨q1, by rw [← h1]; exact q2⟩
            have K2 : Hid (∀ wx, Hp LI w wx p b S1 → Calls Try.prog 11 #[.pointer (some ⟨p, 0, none⟩), .int .i64 l, .int .i64 f] wx fun e w' => e = .returned (.int .i64 (atE S1 l f)) ∧ Hp LI w w' p b S2) := fun wx h => (hp_attach HP.out h HL.out HF.out).mono fun e w' ⟨q1, q2, _⟩ => ⟨q1, by rw [← h2]; exact q2⟩
            have K3 : Hid (∀ wx, Hp LI w wx p b S2 → Calls Try.prog 11 #[.pointer (some ⟨p, 0, none⟩), .int .i64 l, .int .i64 g] wx fun e w' => e = .returned (.int .i64 (atE S2 l g)) ∧ Hp LI w w' p b S3) := fun wx h => (hp_attach HP.out h HL.out HG.out).mono fun e w' ⟨q1, q2, _⟩ => ⟨q1, by rw [← h3]; exact q2⟩
            have K4 : Hid (∀ wx, Hp LI w wx p b S3 → Calls Try.prog 13 #[.pointer (some ⟨p, 0, none⟩), .int .i64 l] wx fun e w' => e = .returned (.tuple #[.int .i64 (ofX S3 l), .int .i64 (ofE S3 l)]) ∧ Hp LI w w' p b S3) := fun wx h => (hp_of HP.out h HL.out).mono fun e w' ⟨q1, q2, _⟩ => ⟨q1, q2⟩
            have K5 : Hid (∀ wx, Hp LI w wx p b S3 → Calls Try.prog 9 #[.pointer (some ⟨p, 0, none⟩), .int .i64 l] wx fun e w' => e = .returned (.tuple #[.int .i64 (ofX S3 l), .int .i64 (ofE S3 l)]) ∧ Hp LI w w' p b S4) := fun wx h => (hp_detach HP.out h HL.out).mono fun e w' ⟨q1, q2, _⟩ => ⟨q1, by rw [← h4]; exact q2⟩
            have K6 : Hid (∀ wx, Hp LI w wx p b S4 → Calls Try.prog 13 #[.pointer (some ⟨p, 0, none⟩), .int .i64 l] wx fun e w' => e = .returned (.tuple #[.int .i64 (ofX S4 l), .int .i64 (ofE S4 l)]) ∧ Hp LI w w' p b S4) := fun wx h => (hp_of HP.out h HL.out).mono fun e w' ⟨q1, q2, _⟩ => ⟨q1, q2⟩
            clear h1 h2 h3 h4 hs HL HF HG
            generalize ofX S l = X1 at K1
            generalize ofE S l = E1 at K1
            generalize atE S1 l f = E2 at K2 HW
            generalize atE S2 l g = E3 at K3 HW
            generalize ofX S3 l = X4 at K4 K5 HW
            generalize ofE S3 l = E4 at K4 K5 HW
            generalize ofX S4 l = X6 at K6
            generalize ofE S4 l = E6 at K6 HW
            rcases HW with ⟨rfl, ⟨rfl, rfl⟩ | ⟨q1, q2⟩⟩ | ⟨rfl, q1, rfl, rfl, rfl⟩
            · go_wp2_with (first
                | (go_at_call 9; refine (K1.out _ HJ.out).mono ?_; rintro e1 v1 ⟨rfl, h⟩; have H1 := rhide h; clear h K1 HJ)
                | (go_at_call 11; refine (K2.out _ H1.out).mono ?_; rintro e2 v2 ⟨rfl, h⟩; have H2 := rhide h; clear h K2 H1)
                | (go_at_call 11; refine (K3.out _ H2.out).mono ?_; rintro e3 v3 ⟨rfl, h⟩; have H3 := rhide h; clear h K3 H2)
                | (go_at_call 13; refine (K4.out _ H3.out).mono ?_; rintro e4 v4 ⟨rfl, h⟩; have H4 := rhide h; clear h K4 H3)
                | (go_at_call 17; refine (awake_any HP _).mono ?_; rintro e8 v8 ⟨rfl, hB8⟩; have H8 : Hid (Below w.heap.size w v8) := H4.out.below.trans (hB8.mono H4.out.below.size); clear hB8)
                | fail)
              go_ret
              exact ⟨rfl, H8.out⟩
            · have b1 : (E3 == 0) = false := by simp [q1]
              have b2 : (E4 == 0) = false := by simp [q2]
              clear q1 q2
              go_wp2_with (first
                | (go_at_call 9; refine (K1.out _ HJ.out).mono ?_; rintro e1 v1 ⟨rfl, h⟩; have H1 := rhide h; clear h K1 HJ)
                | (go_at_call 11; refine (K2.out _ H1.out).mono ?_; rintro e2 v2 ⟨rfl, h⟩; have H2 := rhide h; clear h K2 H1)
                | (go_at_call 11; refine (K3.out _ H2.out).mono ?_; rintro e3 v3 ⟨rfl, h⟩; have H3 := rhide h; clear h K3 H2)
                | (go_at_call 13; refine (K4.out _ H3.out).mono ?_; rintro e4 v4 ⟨rfl, h⟩; have H4 := rhide h; clear h K4 H3)
                | (go_at_call 17; refine (awake_any HP _).mono ?_; rintro e8 v8 ⟨rfl, hB8⟩; have H8 : Hid (Below w.heap.size w v8) := H4.out.below.trans (hB8.mono H4.out.below.size); clear hB8)
                | fail)
              go_ret
              exact ⟨rfl, H8.out⟩
            · have b1 : (E3 != 0) = true := by simp [q1]
              have b2 : (X4 == X4) = true := by simp
              clear q1
              go_wp2_with (first
                | (go_at_call 9; refine (K1.out _ HJ.out).mono ?_; rintro e1 v1 ⟨rfl, h⟩; have H1 := rhide h; clear h K1 HJ)
                | (go_at_call 11; refine (K2.out _ H1.out).mono ?_; rintro e2 v2 ⟨rfl, h⟩; have H2 := rhide h; clear h K2 H1)
                | (go_at_call 11; refine (K3.out _ H2.out).mono ?_; rintro e3 v3 ⟨rfl, h⟩; have H3 := rhide h; clear h K3 H2)
                | (go_at_call 13; refine (K4.out _ H3.out).mono ?_; rintro e4 v4 ⟨rfl, h⟩; have H4 := rhide h; clear h K4 H3)
                | (go_at_call 9; refine (K5.out _ H4.out).mono ?_; rintro e5 v5 ⟨rfl, h⟩; have H5 := rhide h; clear h K5 H4)
                | (go_at_call 13; refine (K6.out _ H5.out).mono ?_; rintro e6 v6 ⟨rfl, h⟩; have H6 := rhide h; clear h K6 H5)
                | (go_at_call 17; refine (awake_any HP _).mono ?_; rintro e8 v8 ⟨rfl, hB8⟩; have H8 : Hid (Below w.heap.size w v8) := H6.out.below.trans (hB8.mono H6.out.below.size); clear hB8)
                | fail)
              go_ret
              exact ⟨rfl, H8.out⟩
end Go.Proofs.Ytefoofcfbcmjcaa.Phw
