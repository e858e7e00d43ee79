/- The walk of PgtblPlays. -/
import Derived.Test.YtfmkhjbahgcgiaaGreatDoorPgtX
import Derived.Test.YtfmkhjbahgcgiaaGreatDoorPgtL
import Derived.Deep.RegionHeld3
import Derived.Deep.CutBlock
namespace Go.Proofs.YtfmkhjbahgcgiaaGreatDoor.Ppgtbl
open Go.Proofs.YtfmkhjbahgcgiaaGreatDoor.Pbase Go.Proofs.YtfmkhjbahgcgiaaGreatDoor.Pmem Go.Proofs.YtfmkhjbahgcgiaaGreatDoor.Pradix
open Go.RowKit
set_option linter.unusedVariables false

set_option maxRecDepth 100000 in
set_option maxHeartbeats 4000000 in
theorem plays_walk (a0 : Option Addr) (len0 cap0 : Nat) (a1 : Option Addr) (len1 cap1 : Nat) (a2 : Option Addr) (len2 cap2 : Nat) (a3 : Option Addr) (len3 cap3 : Nat) (a4 : Option Addr) (len4 cap4 : Nat) (a5 : Option Addr) (len5 cap5 : Nat) (w : World) (w0 : Hid (Came .u64 w.heap.size w a0 len0)) (l0 : len0 ≤ 9223372036854775807) (w1 : Hid (Came .u8 w.heap.size w a1 len1)) (l1 : len1 ≤ 9223372036854775807) (w2 : Hid (Came .i64 w.heap.size w a2 len2)) (l2 : len2 ≤ 9223372036854775807) (w3 : Hid (Came .i64 w.heap.size w a3 len3)) (l3 : len3 ≤ 9223372036854775807) (w4 : Hid (Came .i64 w.heap.size w a4 len4)) (l4 : len4 ≤ 9223372036854775807) (w5 : Hid (Came .i64 w.heap.size w a5 len5)) (l5 : len5 ≤ 9223372036854775807) (hT : Tb w) :
    Calls Tryz.prog 3 #[.slice a0 len0 cap0, .slice a1 len1 cap1, .slice a2 len2 cap2, .slice a3 len3 cap3, .slice a4 len4 cap4, .slice a5 len5 cap5] w fun e w' => e = .returned (.bool true) ∧ Below w.heap.size w w' := by
  have HT := hide hT
  have D1 := w1
  have D2 := w2
  have D3 := w3
  have D4 := w4
  have D5 := w5
  clear hT w1 w2 w3 w4 w5
  go_enter Tryz.func3, Tryz.ntmps3
  go_wp2_with (first
    | (go_at_call 4; refine (laid_any a0 len0 cap0 4 _ (by omega) (by omega) w0 l0).mono ?_; rintro e1 w1 ⟨rfl, M0, hF0, hB0⟩; have HI0 : Hid (∃ M, Pl w w1 M) := ⟨M0, hB0, hF0, HT.out⟩; clear hF0 hB0)
    | fail)
  clear w0 l0
  go_loopw [15] (fun i wr => ∃ k : Nat, k ≤ len1 ∧ i = .int .i64 k ∧ ∃ M, Pl w wr M) (fun i _ => len1 - (intOf i).toNat)
  case atStart => exact ⟨0, by omega, rfl, HI0.out⟩
  case round =>
    obtain ⟨k, hk0, rfl, M, hI⟩ := hrel
    have HI := hide hI
    clear hI HI0
    by_cases h1 : k < len1
    case neg =>
      have n1 : ¬ (k : Int) < (len1 : Int) := by omega
      go_wp2_with (first
        | (go_at_call 7; refine (awake_any _ HI.out.mx.tb).mono ?_; rintro e9 w9 ⟨rfl, hb⟩; have H9 := hide (HI.out.both.below.trans (hb.mono HI.out.both.below.size)); clear hb)
        | fail)
      go_ret
      exact ⟨rfl, H9.out⟩
    have i1 : (k : Int) < (len1 : Int) := by omega
    by_cases h2 : k < len2
    case neg =>
      have n2 : ¬ (k : Int) < (len2 : Int) := by omega
      go_wp2_with (first
        | (go_at_call 7; refine (awake_any _ HI.out.mx.tb).mono ?_; rintro e9 w9 ⟨rfl, hb⟩; have H9 := hide (HI.out.both.below.trans (hb.mono HI.out.both.below.size)); clear hb)
        | fail)
      go_ret
      exact ⟨rfl, H9.out⟩
    have i2 : (k : Int) < (len2 : Int) := by omega
    by_cases h3 : k < len3
    case neg =>
      have n3 : ¬ (k : Int) < (len3 : Int) := by omega
      go_wp2_with (first
        | (go_at_call 7; refine (awake_any _ HI.out.mx.tb).mono ?_; rintro e9 w9 ⟨rfl, hb⟩; have H9 := hide (HI.out.both.below.trans (hb.mono HI.out.both.below.size)); clear hb)
        | fail)
      go_ret
      exact ⟨rfl, H9.out⟩
    have i3 : (k : Int) < (len3 : Int) := by omega
    by_cases h4 : k < len4
    case neg =>
      have n4 : ¬ (k : Int) < (len4 : Int) := by omega
      go_wp2_with (first
        | (go_at_call 7; refine (awake_any _ HI.out.mx.tb).mono ?_; rintro e9 w9 ⟨rfl, hb⟩; have H9 := hide (HI.out.both.below.trans (hb.mono HI.out.both.below.size)); clear hb)
        | fail)
      go_ret
      exact ⟨rfl, H9.out⟩
    have i4 : (k : Int) < (len4 : Int) := by omega
    by_cases h5 : k < len5
    case neg =>
      have n5 : ¬ (k : Int) < (len5 : Int) := by omega
      go_wp2_with (first
        | (go_at_call 7; refine (awake_any _ HI.out.mx.tb).mono ?_; rintro e9 w9 ⟨rfl, hb⟩; have H9 := hide (HI.out.both.below.trans (hb.mono HI.out.both.below.size)); clear hb)
        | fail)
      go_ret
      exact ⟨rfl, H9.out⟩
    have i5 : (k : Int) < (len5 : Int) := by omega
    by_cases h6 : k < 40
    case neg =>
      have n6 : ¬ (k : Int) < 40 := by omega
      go_wp2_with (first
        | (go_at_call 7; refine (awake_any _ HI.out.mx.tb).mono ?_; rintro e9 w9 ⟨rfl, hb⟩; have H9 := hide (HI.out.both.below.trans (hb.mono HI.out.both.below.size)); clear hb)
        | fail)
      go_ret
      exact ⟨rfl, H9.out⟩
    have i6 : (k : Int) < 40 := by omega
    obtain ⟨b1, o1, z1, rfl, f1, G1⟩ := D1.out.any h1
    obtain ⟨b2, o2, z2, rfl, _, G2⟩ := D2.out.any h2
    obtain ⟨b3, o3, z3, rfl, _, G3⟩ := D3.out.any h3
    obtain ⟨b4, o4, z4, rfl, _, G4⟩ := D4.out.any h4
    obtain ⟨b5, o5, z5, rfl, _, G5⟩ := D5.out.any h5
    obtain ⟨K, hK, hK7⟩ := rem_u8 f1.out 7 (by omega)
    have hK' : z1.tmod 7 = (K : Int) := hK
    have v1 : IntKind.i64.wrap (K : Int) = (K : Int) := wrapi_small (by omega) (by omega)
    have v2 : wrap64 (K : Int) = (K : Int) := by unfold wrap64; omega
    have hw : wrap64 ((k : Int) + 1) = (k : Int) + 1 := by unfold wrap64; omega
    have HS : Hid (∀ w', Below w.heap.size w w' → w'.cell? ⟨b1, o1 + k, none⟩ = some (.int .u8 z1) ∧ w'.cell? ⟨b2, o2 + k, none⟩ = some (.int .i64 z2) ∧ w'.cell? ⟨b3, o3 + k, none⟩ = some (.int .i64 z3) ∧ w'.cell? ⟨b4, o4 + k, none⟩ = some (.int .i64 z4) ∧ w'.cell? ⟨b5, o5 + k, none⟩ = some (.int .i64 z5)) := fun w' hb => ⟨G1.out w' hb, G2.out w' hb, G3.out w' hb, G4.out w' hb, G5.out w' hb⟩
    obtain ⟨c1, c2, c3, c4, c5⟩ := HS.out wr HI.out.both.below
    clear hK f1 G1 G2 G3 G4 G5
    go_upto_region 7 with fail
    go_region_held3 (fun w' => w'.cell? ⟨b1, o1 + k, none⟩ = some (.int .u8 z1) ∧ w'.cell? ⟨b2, o2 + k, none⟩ = some (.int .i64 z2) ∧ w'.cell? ⟨b3, o3 + k, none⟩ = some (.int .i64 z3) ∧ w'.cell? ⟨b4, o4 + k, none⟩ = some (.int .i64 z4) ∧ w'.cell? ⟨b5, o5 + k, none⟩ = some (.int .i64 z5)) (first | with_reducible exact HS.out _ H3.out.both.below | with_reducible exact HS.out _ H2.out.both.below | with_reducible exact HS.out _ (HI.out.on (Below.refl _ _).drew).both.below)
    (first
      | (go_at_call 5; refine (act_any K hK7 z2 z3 z4 z5 (by first | exact HI.out.on (Below.refl _ _).drew | exact HI.out)).mono ?_; rintro e2 w2 ⟨rfl, M', hp⟩; have H2 := hide hp; clear hp)
      | (go_at_call 6; refine (alike_any 4 M' w _ (by omega) (by omega) (by first | exact (H2.out.on (Below.refl _ _).drew).both | exact H2.out.both)).mono ?_; rintro e3 w3 ⟨rfl, hb⟩; have H3 := hide (H2.out.on (by first | exact hb | exact ((Below.refl _ _).drew).trans hb)); clear hb)
      | fail)
    rename_i hhold
    clear hhold HS D1 D2 D3 D4 D5 v1 v2 hK' i1 i2 i3 i4 i5 h2 h3 h4 h5 l2 l3 l4 l5 c1 c2 c3 c4 c5
    go_upto_region 6 with fail
    go_wp2
    go_roundw
    case rel => exact ⟨k + 1, by omega, by go_num, M', H3.out⟩
    case measure => simp [intOf]; omega
end Go.Proofs.YtfmkhjbahgcgiaaGreatDoor.Ppgtbl
