/- The walk of HwPlays, over what it asks of the program. -/
import Derived.Test.YtefoofcfbcmjcaaHwP
import Derived.Test.YtefoofcfbcmjcaaHwS
import Derived.Test.YtefoofcfbcmjcaaBunBase
import Derived.Deep.RegionHeld3
import Derived.BigRegion
import Derived.Deep.DeepCutAuto
import Derived.Deep.CutBlock
namespace Go.Proofs.Ytefoofcfbcmjcaa.Phw
open Go.Proofs.Ytefoofcfbcmjcaa.Pbase
open Go.RowKit
set_option linter.unusedVariables false

theorem i64_wf {z : Int} (h : (Lit.int .i64 z).wf = true) : I64 z := by
  have h' : (decide (IntKind.i64.min ≤ z) && decide (z ≤ IntKind.i64.max)) = true := h
  have e1 : IntKind.i64.min = -9223372036854775808 := by decide
  have e2 : IntKind.i64.max = 9223372036854775807 := by decide
  rw [e1, e2] at h'
  simpa [I64] using h'
/-- The program's lines and the document's, which lead alike. -/
structure Bo (LI : World → Nat → Nat → (Nat → Int) → Prop) (w W : World) (p b q B : Nat) (S : Nat → Int) : Prop where
  hp : Hp LI w W p b S
  rf : RefL W B q S
  lt : p < B ∧ b < B
structure Bh (LI : World → Nat → Nat → (Nat → Int) → Prop) (w W : World) (p b q B : Nat) (S S' : Nat → Int) : Prop where
  hp : Hp LI w W p b S'
  rf : RefL W B q S
  gd : Gd S
  lt : p < B ∧ b < B
section
variable {LI : World → Nat → Nat → (Nat → Int) → Prop} {w W W' : World} {p b q B : Nat} {S S' : Nat → Int}
theorem Bo.on (h : Bo LI w W p b q B S) (HP : Pg LI) (hB : Below W.heap.size W W') : Bo LI w W' p b q B S := ⟨h.hp.on HP hB, h.rf.more hB, h.lt⟩
theorem Bh.on (h : Bh LI w W p b q B S S') (HP : Pg LI) (hB : Below W.heap.size W W') : Bh LI w W' p b q B S S' := ⟨h.hp.on HP hB, h.rf.more hB, h.gd, h.lt⟩
theorem Bo.half (h : Bo LI w W p b q B S) (hp : Hp LI w W' p b S') (hB : But b W W') : Bh LI w W' p b q B S S' := ⟨hp, h.rf.but hB h.lt.2, h.hp.gd, h.lt⟩
theorem Bh.full (h : Bh LI w W p b q B S S') (HP : Pg LI) (hr : RefL W' B q S') (hB : Below B W W') : Bo LI w W' p b q B S' := by
  have h1 := h.hp.ge
  have h2 := h.lt
  exact ⟨⟨HP.on _ _ _ _ _ h.hp.li (hB.block p h2.1) (hB.block b h2.2), h.hp.gd, h1, h.hp.below.trans (hB.mono (by omega))⟩, hr, h2⟩
end
set_option maxRecDepth 100000 in
set_option maxHeartbeats 8000000 in
theorem plays_walk {LI : World → Nat → Nat → (Nat → Int) → Prop} (a0 : Option Addr) (len0 cap0 : Nat) (a1 : Option Addr) (len1 cap1 : Nat) (a2 : Option Addr) (len2 cap2 : Nat) (w : World) (D0 : Hid (Came .u8 w.heap.size w a0 len0)) (l0 : len0 ≤ 9223372036854775807) (D1 : Hid (Came .i64 w.heap.size w a1 len1)) (l1 : len1 ≤ 9223372036854775807) (D2 : Hid (Came .i64 w.heap.size w a2 len2)) (l2 : len2 ≤ 9223372036854775807) (HP : Hid (Pg LI)) :
    Calls Try.prog 3 #[.slice a0 len0 cap0, .slice a1 len1 cap1, .slice a2 len2 cap2] w fun e w' => e = .returned (.bool true) ∧ Below w.heap.size w w' := by
  go_enter Try.func3, Try.ntmps3
  go_upto_region 3 with (first
    | (go_at_call 7; refine (hp_new HP.out _).mono ?_; rintro e1 w1 ⟨p, b, rfl, h⟩; have H1 := rhide h; clear h)
    | (go_at_call 8; refine (rnew_any _).mono ?_; rintro e2 w2 ⟨rfl, hr, hB⟩; have H2 : Hid (Bo LI w w2 p b w1.heap.size w1.heap.size (fun _ => 0)) := ⟨H1.out.on HP.out hB, hr, HP.out.lt _ _ _ _ H1.out.li⟩; clear hr hB H1)
    | fail)
  generalize w1.heap.size = q at H2 ⊢
  go_wp2
  go_loopw [9] (fun i wr => ∃ k : Nat, k ≤ len0 ∧ i = .int .i64 k ∧ ∃ S, Bo LI w wr p b q q S) (fun i _ => len0 - (intOf i).toNat)
  case atStart => exact ⟨0, by omega, rfl, _, H2.out⟩
  case round =>
    obtain ⟨k, hk0, rfl, S, hI⟩ := hrel
    have HI := rhide hI
    clear hI H2
    by_cases hin : k < len0 ∧ k < len1 ∧ k < len2 ∧ k < 100
    · obtain ⟨h0, h1, h2, h3⟩ := hin
      obtain ⟨b0, o0, z0, rfl, _, G0⟩ := D0.out.any h0
      obtain ⟨b1, o1, l, rfl, hl, G1⟩ := D1.out.any h1
      obtain ⟨b2, o2, f, rfl, hf, G2⟩ := D2.out.any h2
      have HL : Hid (I64 l) := i64_wf hl.out
      have HF : Hid (I64 f) := i64_wf hf.out
      clear hl hf
      have i0 : (k : Int) < (len0 : Int) := by omega
      have i1 : (k : Int) < (len1 : Int) := by omega
      have i2 : (k : Int) < (len2 : Int) := by omega
      have i3 : (k : Int) < 100 := by omega
      have c0 := G0.out wr HI.out.hp.below
      have c1 := G1.out wr HI.out.hp.below
      have c2 := G2.out wr HI.out.hp.below
      obtain ⟨t, ht⟩ : ∃ t, z0.tmod 3 = t := ⟨_, rfl⟩
      by_cases ht0 : t = 0
      · skip
        · subst ht0
          obtain ⟨S', hS'⟩ : ∃ S', S' = deS S l := ⟨_, rfl⟩
          have HA : Hid (∀ wx, Bo LI w wx p b q q S → Calls Try.prog 9 #[.pointer (some ⟨p, 0, none⟩), .int .i64 l] wx fun e w' => e = .returned (.tuple #[.int .i64 (ofX S l), .int .i64 (ofE S l)]) ∧ Bh LI w w' p b q q S S') := fun wx h => (hp_detach HP.out h.hp HL.out).mono fun e w' ⟨q1, q2, q3⟩ => ⟨q1, by rw [hS']; exact h.half q2 q3⟩
          have HB : Hid (∀ wx, Bh LI w wx p b q q S S' → Calls Try.prog 10 #[.pointer (some ⟨q, 0, none⟩), .int .i64 l] wx fun e w' => e = .returned (.tuple #[.int .i64 (ofX S l), .int .i64 (ofE S l)]) ∧ Bo LI w w' p b q q S') := fun wx h => (rdetach_any q q l S wx h.rf h.gd).mono fun e w' ⟨q1, q2, q3⟩ => ⟨q1, h.full HP.out (by rw [hS']; exact q2) q3⟩
          clear hS'
          generalize ofX S l = X at HA HB
          generalize ofE S l = E at HA HB
          have bX : (X != X) = false := by simp
          have bE : (E != E) = false := by simp
          go_upto_region 15 with (first
            | (go_at_call 9; refine (HA.out _ HI.out).mono ?_; rintro e3 w3 ⟨rfl, h⟩; have H3 := rhide h; clear h HA HI c0 c1 c2; have c1 := G1.out w3 H3.out.hp.below)
            | (go_at_call 10; refine (HB.out _ H3.out).mono ?_; rintro e4 w4 ⟨rfl, h⟩; have H4 := rhide h; clear h HB H3 c1; have c1 := G1.out w4 H4.out.hp.below)
            | fail)
          have HO : Hid (∀ wx, Bo LI w wx p b q q S' → Calls Try.prog 13 #[.pointer (some ⟨p, 0, none⟩), .int .i64 l] wx fun e w' => e = .returned (.tuple #[.int .i64 (ofX S' l), .int .i64 (ofE S' l)]) ∧ Bo LI w w' p b q q S') := fun wx h => (hp_of HP.out h.hp HL.out).mono fun e w' ⟨q1, q2, q3⟩ => ⟨q1, h.on HP.out q3⟩
          have HR : Hid (∀ wx, Bo LI w wx p b q q S' → Calls Try.prog 14 #[.pointer (some ⟨q, 0, none⟩), .int .i64 l] wx fun e w' => e = .returned (.tuple #[.int .i64 (ofX S' l), .int .i64 (ofE S' l)]) ∧ w' = wx) := fun wx h => rof_any q q l S' wx h.rf h.hp.gd
          have HH : Hid (∀ wx, Bo LI w wx p b q q S' → Calls Try.prog 15 #[.pointer (some ⟨p, 0, none⟩), .int .i64 f] wx fun e w' => e = .returned (.int .i64 (hsN S' f)) ∧ Bo LI w w' p b q q S') := fun wx h => (hp_has HP.out h.hp HF.out).mono fun e w' ⟨q1, q2, q3⟩ => ⟨q1, h.on HP.out q3⟩
          have HK : Hid (∀ wx, Bo LI w wx p b q q S' → Calls Try.prog 16 #[.pointer (some ⟨q, 0, none⟩), .int .i64 f] wx fun e w' => e = .returned (.int .i64 (hsN S' f)) ∧ Bo LI w w' p b q q S') := fun wx h => (rhas_any q q f S' wx h.rf h.hp.gd).mono fun e w' ⟨q1, q2⟩ => ⟨q1, by rw [q2]; exact h⟩
          generalize ofX S' l = X2 at HO HR
          generalize ofE S' l = E2 at HO HR
          generalize hsN S' f = N2 at HH HK
          have bX2 : (X2 != X2) = false := by simp
          have bE2 : (E2 != E2) = false := by simp
          have bN2 : (N2 != N2) = false := by simp
          go_upto_region 17 with (first
            | (go_at_call 13; refine (HO.out _ (by first | exact H4.out | exact H4.out.on HP.out (Below.refl _ _).drew)).mono ?_; rintro e5 w5 ⟨rfl, h⟩; have H5 := rhide h; clear h HO H4 c1; have c1 := G1.out w5 H5.out.hp.below)
            | (go_at_call 14; refine (HR.out _ H5.out).mono ?_; rintro e6 w6 ⟨rfl, hw⟩; subst hw; clear HR c1; have c2 := G2.out w6 H5.out.hp.below)
            | fail)
          go_region_held3 (fun w' => w'.cell? ⟨b2, o2 + k, none⟩ = some (.int .i64 f)) (first | with_reducible assumption | go_keep)
          (first
            | (go_at_call 15; refine (HH.out _ (by first | exact H5.out | exact H5.out.on HP.out (Below.refl _ _).drew)).mono ?_; rintro e7 w7 ⟨rfl, h⟩; have H7 := rhide h; clear h HH H5 c2; have c2 := G2.out w7 H7.out.hp.below)
            | (go_at_call 16; refine (HK.out _ (by first | exact H7.out | exact H7.out.on HP.out (Below.refl _ _).drew)).mono ?_; rintro e8 w8 ⟨rfl, h⟩; have H8 := rhide h; clear h HK H7 c2; have c2 := G2.out w8 H8.out.hp.below)
            | fail)
          go_wp2
          go_roundw
          case rel => first | exact ⟨k + 1, by omega, by go_num, S', H8.out⟩ | exact ⟨k + 1, by omega, by go_num, S', H8.out.on HP.out (Below.refl _ _).drew⟩
          case measure => simp [intOf]; omega
      · skip
        · have bt : (t == 0) = false := by simp [ht0]
          obtain ⟨S', hS'⟩ : ∃ S', S' = atS S l f := ⟨_, rfl⟩
          have HA : Hid (∀ wx, Bo LI w wx p b q q S → Calls Try.prog 11 #[.pointer (some ⟨p, 0, none⟩), .int .i64 l, .int .i64 f] wx fun e w' => e = .returned (.int .i64 (atE S l f)) ∧ Bh LI w w' p b q q S S') := fun wx h => (hp_attach HP.out h.hp HL.out HF.out).mono fun e w' ⟨q1, q2, q3⟩ => ⟨q1, by rw [hS']; exact h.half q2 q3⟩
          have HB : Hid (∀ wx, Bh LI w wx p b q q S S' → Calls Try.prog 12 #[.pointer (some ⟨q, 0, none⟩), .int .i64 l, .int .i64 f] wx fun e w' => e = .returned (.int .i64 (atE S l f)) ∧ Bo LI w w' p b q q S') := fun wx h => (rattach_any q q l f S wx h.rf h.gd).mono fun e w' ⟨q1, q2, q3⟩ => ⟨q1, h.full HP.out (by rw [hS']; exact q2) q3⟩
          clear hS'
          generalize atE S l f = E at HA HB
          have bE : (E != E) = false := by simp
          go_upto_region 13 with fail
          clear c0
          go_region_held3 (fun w' => w'.cell? ⟨b1, o1 + k, none⟩ = some (.int .i64 l) ∧ w'.cell? ⟨b2, o2 + k, none⟩ = some (.int .i64 f)) (first | (refine ⟨?_, ?_⟩ <;> with_reducible assumption) | go_keep)
          (first
            | (go_at_call 11; refine (HA.out _ (by first | exact HI.out | exact HI.out.on HP.out (Below.refl _ _).drew)).mono ?_; rintro e3 w3 ⟨rfl, h⟩; have H3 := rhide h; clear h HA HI c1 c2; have c1 := G1.out w3 H3.out.hp.below; have c2 := G2.out w3 H3.out.hp.below)
            | (go_at_call 12; refine (HB.out _ (by first | exact H3.out | exact H3.out.on HP.out (Below.refl _ _).drew)).mono ?_; rintro e4 w4 ⟨rfl, h⟩; have H4 := rhide h; clear h HB H3 c1 c2; have c1 := G1.out w4 H4.out.hp.below; have c2 := G2.out w4 H4.out.hp.below)
            | fail)
          clear c2
          have HO : Hid (∀ wx, Bo LI w wx p b q q S' → Calls Try.prog 13 #[.pointer (some ⟨p, 0, none⟩), .int .i64 l] wx fun e w' => e = .returned (.tuple #[.int .i64 (ofX S' l), .int .i64 (ofE S' l)]) ∧ Bo LI w w' p b q q S') := fun wx h => (hp_of HP.out h.hp HL.out).mono fun e w' ⟨q1, q2, q3⟩ => ⟨q1, h.on HP.out q3⟩
          have HR : Hid (∀ wx, Bo LI w wx p b q q S' → Calls Try.prog 14 #[.pointer (some ⟨q, 0, none⟩), .int .i64 l] wx fun e w' => e = .returned (.tuple #[.int .i64 (ofX S' l), .int .i64 (ofE S' l)]) ∧ w' = wx) := fun wx h => rof_any q q l S' wx h.rf h.hp.gd
          have HH : Hid (∀ wx, Bo LI w wx p b q q S' → Calls Try.prog 15 #[.pointer (some ⟨p, 0, none⟩), .int .i64 f] wx fun e w' => e = .returned (.int .i64 (hsN S' f)) ∧ Bo LI w w' p b q q S') := fun wx h => (hp_has HP.out h.hp HF.out).mono fun e w' ⟨q1, q2, q3⟩ => ⟨q1, h.on HP.out q3⟩
          have HK : Hid (∀ wx, Bo LI w wx p b q q S' → Calls Try.prog 16 #[.pointer (some ⟨q, 0, none⟩), .int .i64 f] wx fun e w' => e = .returned (.int .i64 (hsN S' f)) ∧ Bo LI w w' p b q q S') := fun wx h => (rhas_any q q f S' wx h.rf h.hp.gd).mono fun e w' ⟨q1, q2⟩ => ⟨q1, by rw [q2]; exact h⟩
          generalize ofX S' l = X2 at HO HR
          generalize ofE S' l = E2 at HO HR
          generalize hsN S' f = N2 at HH HK
          have bX2 : (X2 != X2) = false := by simp
          have bE2 : (E2 != E2) = false := by simp
          have bN2 : (N2 != N2) = false := by simp
          go_upto_region 17 with (first
            | (go_at_call 13; refine (HO.out _ (by first | exact H4.out | exact H4.out.on HP.out (Below.refl _ _).drew)).mono ?_; rintro e5 w5 ⟨rfl, h⟩; have H5 := rhide h; clear h HO H4 c1; have c1 := G1.out w5 H5.out.hp.below)
            | (go_at_call 14; refine (HR.out _ H5.out).mono ?_; rintro e6 w6 ⟨rfl, hw⟩; subst hw; clear HR c1; have c2 := G2.out w6 H5.out.hp.below)
            | fail)
          go_region_held3 (fun w' => w'.cell? ⟨b2, o2 + k, none⟩ = some (.int .i64 f)) (first | with_reducible assumption | go_keep)
          (first
            | (go_at_call 15; refine (HH.out _ (by first | exact H5.out | exact H5.out.on HP.out (Below.refl _ _).drew)).mono ?_; rintro e7 w7 ⟨rfl, h⟩; have H7 := rhide h; clear h HH H5 c2; have c2 := G2.out w7 H7.out.hp.below)
            | (go_at_call 16; refine (HK.out _ (by first | exact H7.out | exact H7.out.on HP.out (Below.refl _ _).drew)).mono ?_; rintro e8 w8 ⟨rfl, h⟩; have H8 := rhide h; clear h HK H7 c2; have c2 := G2.out w8 H8.out.hp.below)
            | fail)
          go_wp2
          go_roundw
          case rel => first | exact ⟨k + 1, by omega, by go_num, S', H8.out⟩ | exact ⟨k + 1, by omega, by go_num, S', H8.out.on HP.out (Below.refl _ _).drew⟩
          case measure => simp [intOf]; omega
    · have hin' : ¬ k < len0 ∨ (k < len0 ∧ ¬ k < len1) ∨ (k < len0 ∧ k < len1 ∧ ¬ k < len2) ∨ (k < len0 ∧ k < len1 ∧ k < len2 ∧ ¬ k < 100) := by omega
      clear hin
      rcases hin' with h1 | ⟨h1, h2⟩ | ⟨h1, h2, h3⟩ | ⟨h1, h2, h3, h4⟩
      all_goals
        go_wp2_with (first
          | (go_at_call 17; refine (awake_any HP _).mono ?_; rintro e w8 ⟨rfl, hB8⟩; have H8 : Hid (Below w.heap.size w w8) := HI.out.hp.below.trans (hB8.mono HI.out.hp.below.size); clear hB8)
          | fail)
        go_ret
        exact ⟨rfl, H8.out⟩
end Go.Proofs.Ytefoofcfbcmjcaa.Phw
