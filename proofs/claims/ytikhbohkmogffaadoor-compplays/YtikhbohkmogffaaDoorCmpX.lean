/- The walk of CompPlays (written by mk_plays.py). -/
import Derived.Test.YtikhbohkmogffaaDoorCmpH
import Derived.Test.YtikhbohkmogffaaDoorCmpW
import Derived.Test.YtikhbohkmogffaaDoorCmpI
import Derived.Test.YtikhbohkmogffaaDoorBunMem
import Derived.Deep.CutBlock
import Derived.Deep.RegionHeld3
import Derived.BigRegion
namespace Go.Proofs.YtikhbohkmogffaaDoor.Pcomp
open Go.Proofs.YtikhbohkmogffaaDoor.Pbase Go.Proofs.YtikhbohkmogffaaDoor.Pfield Go.Proofs.YtikhbohkmogffaaDoor.Pmem
open Go.RowKit
set_option linter.unusedVariables false

theorem rem3 {z : Int} (h : (Lit.int .u8 z).wf = true) : z.tmod 3 = 0 ∨ z.tmod 3 = 1 ∨ z.tmod 3 = 2 := by
  obtain ⟨r, h1, h2⟩ := rem_u8 h 3 (by omega)
  have : z.tmod 3 = (r : Int) := h1
  omega
theorem both_mx {w wr : World} {M : Nat → Nat → Int} (h : Both w wr 3 M) (hT : Tc w) (hF : Fit M) : Mx wr (w.heap.size + 1) w.heap.size 3 M := ⟨h.mem, hT.on h.below, hF, by omega, by omega⟩
/-- Both memories, and a component in a block of the statement's own. -/
theorem seen {w0 w : World} {N : Nat} {M : Nat → Nat → Int} (h : Both w0 w N M) (y : Cp) : Both w0 (w.alloc (.cells #[.int .i64 y.tb, .int .i64 y.pg, .int .i64 y.l, .int .i64 y.e, .int .i64 y.fa, .int .i64 y.wh] 33)) N M ∧ RowC (w.alloc (.cells #[.int .i64 y.tb, .int .i64 y.pg, .int .i64 y.l, .int .i64 y.e, .int .i64 y.fa, .int .i64 y.wh] 33)) w.heap.size y :=
  ⟨h.grown (bal (Below.refl _ _) _), rowC_new w y⟩
set_option maxRecDepth 100000 in
set_option maxHeartbeats 16000000 in
theorem plays_walk (a0 : Option Addr) (len0 cap0 : Nat) (a1 : Option Addr) (len1 cap1 : Nat) (a2 : Option Addr) (len2 cap2 : Nat) (a3 : Option Addr) (len3 cap3 : Nat) (a4 : Option Addr) (len4 cap4 : Nat) (a5 : Option Addr) (len5 cap5 : Nat) (w : World) (w0 : Hid (Came .u64 w.heap.size w a0 len0)) (l0 : len0 ≤ 9223372036854775807) (D1 : Hid (Came .u8 w.heap.size w a1 len1)) (l1 : len1 ≤ 9223372036854775807) (D2 : Hid (Came .i64 w.heap.size w a2 len2)) (l2 : len2 ≤ 9223372036854775807) (D3 : Hid (CameP w.heap.size w a3 len3)) (l3 : len3 ≤ 9223372036854775807) (D4 : Hid (Came .i64 w.heap.size w a4 len4)) (l4 : len4 ≤ 9223372036854775807) (D5 : Hid (Came .i64 w.heap.size w a5 len5)) (l5 : len5 ≤ 9223372036854775807) (hT : Tc w) :
    Calls Tryd.prog 3 #[.slice a0 len0 cap0, .slice a1 len1 cap1, .slice a2 len2 cap2, .slice a3 len3 cap3, .slice a4 len4 cap4, .slice a5 len5 cap5] w fun e w' => e = .returned (.bool true) ∧ Below w.heap.size w w' := by
  have HW := rhide hT
  clear hT
  go_enter Tryd.func3, Tryd.ntmps3
  go_wp2_with (first
    | (go_at_call 6; refine (laid_any a0 len0 cap0 3 _ (by omega) (by omega) w0 l0).mono ?_; rintro e1 w1 ⟨rfl, M0, hF0, hB0⟩; have HI0 : Hid (∃ M, Fit M ∧ Both w w1 3 M) := ⟨M0, hF0, hB0⟩; clear hF0 hB0)
    | fail)
  have HPQ0 : w.heap.size + 1 = w.heap.size + 1 ∧ w.heap.size + 2 = w.heap.size + 2 := ⟨rfl, rfl⟩
  generalize hp : w.heap.size + 1 = p
  generalize hq : w.heap.size + 2 = q
  have HPQ : Hid (w.heap.size + 1 = p ∧ w.heap.size + 2 = q) := ⟨hp, hq⟩
  clear hp hq HPQ0 w0 l0
  go_loopw [15] (fun i wr => ∃ k : Nat, k ≤ len1 ∧ i = .int .i64 k ∧ ∃ M, Fit M ∧ Both w wr 3 M) (fun i _ => len1 - (intOf i).toNat)
  case atStart => exact ⟨0, by omega, rfl, HI0.out⟩
  case round =>
    obtain ⟨k, hk0, rfl, M, hF, hI⟩ := hrel
    have HI : Hid (Both w wr 3 M) := hI
    have HF : Hid (Fit M) := hF
    clear hI hF HI0
    by_cases hin : k < len1 ∧ k < len2 ∧ k < len3 ∧ k < len4 ∧ k < len5 ∧ k < 40
    · obtain ⟨h1, h2, h3, h4, h5, h6⟩ := hin
      obtain ⟨b1, o1, z1, rfl, HZ1, G1⟩ := D1.out.any h1
      obtain ⟨b2, o2, zf, rfl, _, G2⟩ := D2.out.any h2
      obtain ⟨b3, o3, c, rfl, hc, G3⟩ := D3.out.at h3
      obtain ⟨b4, o4, za, rfl, _, G4⟩ := D4.out.any h4
      obtain ⟨b5, o5, zb, rfl, _, G5⟩ := D5.out.any h5
      have HC := rhide hc
      clear hc
      have i1 : (k : Int) < (len1 : Int) := by omega
      have i2 : (k : Int) < (len2 : Int) := by omega
      have i3 : (k : Int) < (len3 : Int) := by omega
      have i4 : (k : Int) < (len4 : Int) := by omega
      have i5 : (k : Int) < (len5 : Int) := by omega
      have i6 : (k : Int) < 40 := by omega
      have c1 := G1.out wr HI.out.below
      have c2 := G2.out wr HI.out.below
      have c4 := G4.out wr HI.out.below
      have c5 := G5.out wr HI.out.below
      obtain ⟨g0, g1, g2, g3, g4, g5⟩ := G3.out wr HI.out.below
      have hq' := rem3 HZ1.out
      clear HZ1
      go_upto_block 2 with fail
      go_cut [16, 17] from 63 to 139 (fun vx vy wc => ∃ M E, vx = .int .i64 E ∧ vy = .int .i64 E ∧ Fit M ∧ Both w wc 3 M)
      case first =>
        rcases hq' with hq | hq | hq
        · obtain ⟨T, hT⟩ : ∃ T, T = mkM 3 M zf c := ⟨_, rfl⟩
          obtain ⟨E, hE⟩ : ∃ E, E = mkE 3 zf c := ⟨_, rfl⟩
          have HFT : Hid (Fit T) := by rw [hT]; exact fit_mk HF.out 3 zf c
          have HP : Hid (∀ wc, Below wr.heap.size wr wc → Calls Tryd.prog 7 #[.pointer (some ⟨p, 0, none⟩), .int .i64 zf, .agg #[.int .i64 c.tb, .int .i64 c.pg, .int .i64 c.l, .int .i64 c.e, .int .i64 c.fa, .int .i64 c.wh]] wc fun e w' => e = .returned (.int .i64 E) ∧ Half w w' 3 M T) := fun wc h => by
            have HG := HI.out.grown h
            have := make_any (w.heap.size + 1) w.heap.size 3 zf c M wc (both_mx HG HW.out HF.out) HC.out
            rw [HPQ.out.1, ← hE, ← hT] at this
            exact this.mono fun e w' ⟨h1, h2, h3⟩ => ⟨h1, HG.half (by rw [HPQ.out.1]; exact h2.mem) h3⟩
          have HQ : Hid (∀ wa wc, Half w wa 3 M T → Below wa.heap.size wa wc → Calls Tryd.prog 8 #[.pointer (some ⟨q, 0, none⟩), .int .i64 zf, .agg #[.int .i64 c.tb, .int .i64 c.pg, .int .i64 c.l, .int .i64 c.e, .int .i64 c.fa, .int .i64 c.wh]] wc fun e w' => e = .returned (.int .i64 E) ∧ Both w w' 3 T) := fun wa wc ha h => by
            have HG := ha.grown h
            have := rmake_any (w.heap.size + 2) (w.heap.size + 2) 3 zf c M wc ⟨HG.ref, HF.out, by omega, by omega⟩
            rw [← hE, ← hT] at this
            rw [← HPQ.out.2]
            exact this.mono fun e w' ⟨h1, h2, h3⟩ => ⟨h1, HG.turn h2.ref h3⟩
          clear hT hE
          go_wp2
          go_region_held3 (fun w' => w'.cell? ⟨b2, o2 + k, none⟩ = some (.int .i64 zf) ∧ w'.cell? ⟨b3, o3 + k * 6, none⟩ = some (.int .i64 c.tb) ∧ w'.cell? ⟨b3, o3 + k * 6 + 1, none⟩ = some (.int .i64 c.pg) ∧ w'.cell? ⟨b3, o3 + k * 6 + 2, none⟩ = some (.int .i64 c.l) ∧ w'.cell? ⟨b3, o3 + k * 6 + 3, none⟩ = some (.int .i64 c.e) ∧ w'.cell? ⟨b3, o3 + k * 6 + 4, none⟩ = some (.int .i64 c.fa) ∧ w'.cell? ⟨b3, o3 + k * 6 + 5, none⟩ = some (.int .i64 c.wh)) (first | exact ⟨by assumption, by assumption, by assumption, by assumption, by assumption, by assumption, by assumption⟩ | go_keep)
          (first
            | (go_at_call 7; refine (HP.out _ (by first | exact Below.refl _ _ | exact (Below.refl _ _).drew)).mono ?_; rintro e w3 ⟨rfl, h3⟩; have H3 : Hid (Half w w3 3 M T) := h3; clear h3 c2 g0 g1 g2 g3 g4 g5 HP; have c2 := G2.out w3 H3.out.below; obtain ⟨g0, g1, g2, g3, g4, g5⟩ := G3.out w3 H3.out.below)
            | fail)
          go_wp2
          go_region_held3 (fun w' => w'.cell? ⟨b2, o2 + k, none⟩ = some (.int .i64 zf) ∧ w'.cell? ⟨b3, o3 + k * 6, none⟩ = some (.int .i64 c.tb) ∧ w'.cell? ⟨b3, o3 + k * 6 + 1, none⟩ = some (.int .i64 c.pg) ∧ w'.cell? ⟨b3, o3 + k * 6 + 2, none⟩ = some (.int .i64 c.l) ∧ w'.cell? ⟨b3, o3 + k * 6 + 3, none⟩ = some (.int .i64 c.e) ∧ w'.cell? ⟨b3, o3 + k * 6 + 4, none⟩ = some (.int .i64 c.fa) ∧ w'.cell? ⟨b3, o3 + k * 6 + 5, none⟩ = some (.int .i64 c.wh)) (first | exact ⟨by assumption, by assumption, by assumption, by assumption, by assumption, by assumption, by assumption⟩ | go_keep)
          (first
            | (go_at_call 8; refine (HQ.out _ _ H3.out (by first | exact Below.refl _ _ | exact (Below.refl _ _).drew | exact ((Below.refl _ _).drew).drew)).mono ?_; rintro e w4 ⟨rfl, h4⟩; have H4 : Hid (Both w w4 3 T) := h4; clear h4 c2 g0 g1 g2 g3 g4 g5 HQ; have c2 := G2.out w4 H4.out.below; obtain ⟨g0, g1, g2, g3, g4, g5⟩ := G3.out w4 H4.out.below)
            | fail)
          go_wp2_with fail
          go_meet
          first | exact ⟨T, E, rfl, rfl, HFT.out, H4.out⟩ | exact ⟨T, E, rfl, rfl, HFT.out, H4.out.grown (Below.refl _ _).drew⟩
        · obtain ⟨T, hT⟩ : ∃ T, T = puM 3 M zf c := ⟨_, rfl⟩
          obtain ⟨E, hE⟩ : ∃ E, E = puE 3 M zf c := ⟨_, rfl⟩
          have HFT : Hid (Fit T) := by rw [hT]; exact fit_pu HF.out 3 zf c
          have HP : Hid (∀ wc, Below wr.heap.size wr wc → Calls Tryd.prog 9 #[.pointer (some ⟨p, 0, none⟩), .int .i64 zf, .agg #[.int .i64 c.tb, .int .i64 c.pg, .int .i64 c.l, .int .i64 c.e, .int .i64 c.fa, .int .i64 c.wh]] wc fun e w' => e = .returned (.int .i64 E) ∧ Half w w' 3 M T) := fun wc h => by
            have HG := HI.out.grown h
            have := put_any (w.heap.size + 1) w.heap.size 3 zf c M wc (both_mx HG HW.out HF.out) HC.out
            rw [HPQ.out.1, ← hE, ← hT] at this
            exact this.mono fun e w' ⟨h1, h2, h3⟩ => ⟨h1, HG.half (by rw [HPQ.out.1]; exact h2.mem) h3⟩
          have HQ : Hid (∀ wa wc, Half w wa 3 M T → Below wa.heap.size wa wc → Calls Tryd.prog 10 #[.pointer (some ⟨q, 0, none⟩), .int .i64 zf, .agg #[.int .i64 c.tb, .int .i64 c.pg, .int .i64 c.l, .int .i64 c.e, .int .i64 c.fa, .int .i64 c.wh]] wc fun e w' => e = .returned (.int .i64 E) ∧ Both w w' 3 T) := fun wa wc ha h => by
            have HG := ha.grown h
            have := rput_any (w.heap.size + 2) (w.heap.size + 2) 3 zf c M wc ⟨HG.ref, HF.out, by omega, by omega⟩
            rw [← hE, ← hT] at this
            rw [← HPQ.out.2]
            exact this.mono fun e w' ⟨h1, h2, h3⟩ => ⟨h1, HG.turn h2.ref h3⟩
          clear hT hE
          go_wp2
          go_region_held3 (fun w' => w'.cell? ⟨b2, o2 + k, none⟩ = some (.int .i64 zf) ∧ w'.cell? ⟨b3, o3 + k * 6, none⟩ = some (.int .i64 c.tb) ∧ w'.cell? ⟨b3, o3 + k * 6 + 1, none⟩ = some (.int .i64 c.pg) ∧ w'.cell? ⟨b3, o3 + k * 6 + 2, none⟩ = some (.int .i64 c.l) ∧ w'.cell? ⟨b3, o3 + k * 6 + 3, none⟩ = some (.int .i64 c.e) ∧ w'.cell? ⟨b3, o3 + k * 6 + 4, none⟩ = some (.int .i64 c.fa) ∧ w'.cell? ⟨b3, o3 + k * 6 + 5, none⟩ = some (.int .i64 c.wh)) (first | exact ⟨by assumption, by assumption, by assumption, by assumption, by assumption, by assumption, by assumption⟩ | go_keep)
          (first
            | (go_at_call 9; refine (HP.out _ (by first | exact Below.refl _ _ | exact (Below.refl _ _).drew)).mono ?_; rintro e w3 ⟨rfl, h3⟩; have H3 : Hid (Half w w3 3 M T) := h3; clear h3 c2 g0 g1 g2 g3 g4 g5 HP; have c2 := G2.out w3 H3.out.below; obtain ⟨g0, g1, g2, g3, g4, g5⟩ := G3.out w3 H3.out.below)
            | fail)
          go_wp2
          go_region_held3 (fun w' => w'.cell? ⟨b2, o2 + k, none⟩ = some (.int .i64 zf) ∧ w'.cell? ⟨b3, o3 + k * 6, none⟩ = some (.int .i64 c.tb) ∧ w'.cell? ⟨b3, o3 + k * 6 + 1, none⟩ = some (.int .i64 c.pg) ∧ w'.cell? ⟨b3, o3 + k * 6 + 2, none⟩ = some (.int .i64 c.l) ∧ w'.cell? ⟨b3, o3 + k * 6 + 3, none⟩ = some (.int .i64 c.e) ∧ w'.cell? ⟨b3, o3 + k * 6 + 4, none⟩ = some (.int .i64 c.fa) ∧ w'.cell? ⟨b3, o3 + k * 6 + 5, none⟩ = some (.int .i64 c.wh)) (first | exact ⟨by assumption, by assumption, by assumption, by assumption, by assumption, by assumption, by assumption⟩ | go_keep)
          (first
            | (go_at_call 10; refine (HQ.out _ _ H3.out (by first | exact Below.refl _ _ | exact (Below.refl _ _).drew | exact ((Below.refl _ _).drew).drew)).mono ?_; rintro e w4 ⟨rfl, h4⟩; have H4 : Hid (Both w w4 3 T) := h4; clear h4 c2 g0 g1 g2 g3 g4 g5 HQ; have c2 := G2.out w4 H4.out.below; obtain ⟨g0, g1, g2, g3, g4, g5⟩ := G3.out w4 H4.out.below)
            | fail)
          go_wp2_with fail
          go_meet
          first | exact ⟨T, E, rfl, rfl, HFT.out, H4.out⟩ | exact ⟨T, E, rfl, rfl, HFT.out, H4.out.grown (Below.refl _ _).drew⟩
        · obtain ⟨T, hT⟩ : ∃ T, T = haM 3 M zf za zb := ⟨_, rfl⟩
          obtain ⟨E, hE⟩ : ∃ E, E = haE 3 M zf za zb := ⟨_, rfl⟩
          have HFT : Hid (Fit T) := by rw [hT]; exact fit_ha HF.out 3 zf za zb
          have HP : Hid (∀ wc, Below wr.heap.size wr wc → Calls Tryd.prog 11 #[.pointer (some ⟨p, 0, none⟩), .int .i64 zf, .int .i64 za, .int .i64 zb] wc fun e w' => e = .returned (.int .i64 E) ∧ Half w w' 3 M T) := fun wc h => by
            have HG := HI.out.grown h
            have := hand_any (w.heap.size + 1) w.heap.size 3 zf za zb M wc (both_mx HG HW.out HF.out)
            rw [HPQ.out.1, ← hE, ← hT] at this
            exact this.mono fun e w' ⟨h1, h2, h3⟩ => ⟨h1, HG.half (by rw [HPQ.out.1]; exact h2.mem) h3⟩
          have HQ : Hid (∀ wa wc, Half w wa 3 M T → Below wa.heap.size wa wc → Calls Tryd.prog 12 #[.pointer (some ⟨q, 0, none⟩), .int .i64 zf, .int .i64 za, .int .i64 zb] wc fun e w' => e = .returned (.int .i64 E) ∧ Both w w' 3 T) := fun wa wc ha h => by
            have HG := ha.grown h
            have := rhand_any (w.heap.size + 2) (w.heap.size + 2) 3 zf za zb M wc ⟨HG.ref, HF.out, by omega, by omega⟩
            rw [← hE, ← hT] at this
            rw [← HPQ.out.2]
            exact this.mono fun e w' ⟨h1, h2, h3⟩ => ⟨h1, HG.turn h2.ref h3⟩
          clear hT hE
          go_wp2
          go_region_held3 (fun w' => w'.cell? ⟨b2, o2 + k, none⟩ = some (.int .i64 zf) ∧ w'.cell? ⟨b4, o4 + k, none⟩ = some (.int .i64 za) ∧ w'.cell? ⟨b5, o5 + k, none⟩ = some (.int .i64 zb)) (first | exact ⟨by assumption, by assumption, by assumption⟩ | go_keep)
          (first
            | (go_at_call 11; refine (HP.out _ (by first | exact Below.refl _ _ | exact (Below.refl _ _).drew)).mono ?_; rintro e w3 ⟨rfl, h3⟩; have H3 : Hid (Half w w3 3 M T) := h3; clear h3 c2 c4 c5 HP; have c2 := G2.out w3 H3.out.below; have c4 := G4.out w3 H3.out.below; have c5 := G5.out w3 H3.out.below)
            | fail)
          go_wp2
          go_region_held3 (fun w' => w'.cell? ⟨b2, o2 + k, none⟩ = some (.int .i64 zf) ∧ w'.cell? ⟨b4, o4 + k, none⟩ = some (.int .i64 za) ∧ w'.cell? ⟨b5, o5 + k, none⟩ = some (.int .i64 zb)) (first | exact ⟨by assumption, by assumption, by assumption⟩ | go_keep)
          (first
            | (go_at_call 12; refine (HQ.out _ _ H3.out (by first | exact Below.refl _ _ | exact (Below.refl _ _).drew | exact ((Below.refl _ _).drew).drew)).mono ?_; rintro e w4 ⟨rfl, h4⟩; have H4 : Hid (Both w w4 3 T) := h4; clear h4 c2 c4 c5 HQ; have c2 := G2.out w4 H4.out.below; have c4 := G4.out w4 H4.out.below; have c5 := G5.out w4 H4.out.below)
            | fail)
          go_wp2_with fail
          go_meet
          first | exact ⟨T, E, rfl, rfl, HFT.out, H4.out⟩ | exact ⟨T, E, rfl, rfl, HFT.out, H4.out.grown (Below.refl _ _).drew⟩
      case rest =>
        obtain ⟨M2, E0, hvx, hvy, hF2, h4⟩ := hcut
        subst hvx
        subst hvy
        have H4 : Hid (Both w wc 3 M2) := h4
        have HF2 : Hid (Fit M2) := hF2
        clear h4 hF2 c1 c2 c4 c5 g0 g1 g2 g3 g4 g5 HI HF hq'
        have c2 := G2.out wc H4.out.below
        have HG : Hid (∀ wx, Both w wx 3 M2 → Calls Tryd.prog 13 #[.pointer (some ⟨p, 0, none⟩), .int .i64 zf] wx fun e w' => e = .returned (.tuple #[.agg #[.int .i64 (gtC 3 M2 zf).tb, .int .i64 (gtC 3 M2 zf).pg, .int .i64 (gtC 3 M2 zf).l, .int .i64 (gtC 3 M2 zf).e, .int .i64 (gtC 3 M2 zf).fa, .int .i64 (gtC 3 M2 zf).wh], .int .i64 (gtE 3 M2 zf)]) ∧ Below wx.heap.size wx w') := fun wx h => by
          have := get_any (w.heap.size + 1) w.heap.size 3 zf M2 wx (both_mx h HW.out HF2.out)
          rwa [HPQ.out.1] at this
        have HH : Hid (∀ wx, Both w wx 3 M2 → Calls Tryd.prog 14 #[.pointer (some ⟨q, 0, none⟩), .int .i64 zf] wx fun e w' => e = .returned (.tuple #[.agg #[.int .i64 (gtC 3 M2 zf).tb, .int .i64 (gtC 3 M2 zf).pg, .int .i64 (gtC 3 M2 zf).l, .int .i64 (gtC 3 M2 zf).e, .int .i64 (gtC 3 M2 zf).fa, .int .i64 (gtC 3 M2 zf).wh], .int .i64 (gtE 3 M2 zf)]) ∧ Below wx.heap.size wx w') := fun wx h => by
          have := rget_any (w.heap.size + 2) (w.heap.size + 2) 3 zf M2 wx ⟨h.ref, HF2.out, by omega, by omega⟩
          rwa [HPQ.out.2] at this
        have HS : Hid (∀ wx, Both w wx 3 M2 → Calls Tryd.prog 15 #[.agg #[.int .i64 c.tb, .int .i64 c.pg, .int .i64 c.l, .int .i64 c.e, .int .i64 c.fa, .int .i64 c.wh]] wx fun e w' => e = .returned (.int .i64 (ckE c)) ∧ Below wx.heap.size wx w') := fun wx h => check_any c HC.out wx (HW.out.on h.below)
        have HT : Hid (∀ wx, Both w wx 3 M2 → Calls Tryd.prog 16 #[.agg #[.int .i64 c.tb, .int .i64 c.pg, .int .i64 c.l, .int .i64 c.e, .int .i64 c.fa, .int .i64 c.wh]] wx fun e w' => e = .returned (.int .i64 (ckE c)) ∧ Below wx.heap.size wx w') := fun wx h => rcheck_any c wx
        have HA : Hid (∀ wx, Both w wx 3 M2 → Calls Tryd.prog 17 #[.pointer (some ⟨p, 0, none⟩), .pointer (some ⟨q, 0, none⟩)] wx fun e w' => e = .returned (.bool true) ∧ Below wx.heap.size wx w') := fun wx h => by
          have := alike_any 3 M2 w wx (by omega) (by omega) h
          rwa [HPQ.out.1, HPQ.out.2] at this
        generalize gtC 3 M2 zf = Y at HG HH
        generalize gtE 3 M2 zf = E at HG HH
        generalize ckE c = I at HS HT
        go_upto_region 19 with (first
          | (go_at_call 13; refine (HG.out _ H4.out).mono ?_; rintro e w5 ⟨rfl, hB5⟩; have H5 : Hid (Both w w5 3 M2) := H4.out.grown hB5; clear hB5 c2)
          | fail)
        have K5 := seen H5.out Y
        generalize w5.alloc _ = v5 at K5 ⊢
        generalize w5.heap.size = Da at K5 ⊢
        have H6 : Hid (Both w v5 3 M2) := K5.1
        have HB6 : Hid (RowC v5 Da Y) := K5.2
        clear K5 H5 H4 HG
        have c2 := G2.out v5 H6.out.below
        go_upto_region 20 with (first
          | (go_at_call 14; refine (HH.out _ H6.out).mono ?_; rintro e w7 ⟨rfl, hB7⟩; have H7 : Hid (Both w w7 3 M2) := H6.out.grown hB7; have HB7 : Hid (RowC w7 Da Y) := HB6.out.on hB7; clear hB7 c2)
          | fail)
        have K7 := seen H7.out Y
        have A7 := HB7.out.on (bal (Below.refl w7.heap.size w7) (.cells #[.int .i64 Y.tb, .int .i64 Y.pg, .int .i64 Y.l, .int .i64 Y.e, .int .i64 Y.fa, .int .i64 Y.wh] 33))
        generalize w7.alloc _ = v7 at K7 A7 ⊢
        generalize w7.heap.size = Db at K7 ⊢
        have H8 : Hid (Both w v7 3 M2 ∧ RowC v7 Da Y ∧ RowC v7 Db Y) := ⟨K7.1, A7, K7.2⟩
        clear K7 A7 H7 HB7 H6 HB6 HH
        have hne := neqP Y
        have b0 : (E0 != E0) = false := by simp
        have bE : (E != E) = false := by simp
        have bI : (I != I) = false := by simp
        have XA := H8.out.2.1
        have XB := H8.out.2.2
        have x0 := XA.c0
        have y0 := XB.c0
        have x1 := XA.c1
        have y1 := XB.c1
        have x2 := XA.c2
        have y2 := XB.c2
        have x3 := XA.c3
        have y3 := XB.c3
        have x4 := XA.c4
        have y4 := XB.c4
        have x5 := XA.c5
        have y5 := XB.c5
        clear XA XB
        obtain ⟨g0, g1, g2, g3, g4, g5⟩ := G3.out v7 H8.out.1.below
        go_region_held3 (fun w' => w'.cell? ⟨Da, 0, none⟩ = some (.int .i64 Y.tb) ∧ w'.cell? ⟨Da, 1, none⟩ = some (.int .i64 Y.pg) ∧ w'.cell? ⟨Da, 2, none⟩ = some (.int .i64 Y.l) ∧ w'.cell? ⟨Da, 3, none⟩ = some (.int .i64 Y.e) ∧ w'.cell? ⟨Da, 4, none⟩ = some (.int .i64 Y.fa) ∧ w'.cell? ⟨Da, 5, none⟩ = some (.int .i64 Y.wh) ∧ w'.cell? ⟨Db, 0, none⟩ = some (.int .i64 Y.tb) ∧ w'.cell? ⟨Db, 1, none⟩ = some (.int .i64 Y.pg) ∧ w'.cell? ⟨Db, 2, none⟩ = some (.int .i64 Y.l) ∧ w'.cell? ⟨Db, 3, none⟩ = some (.int .i64 Y.e) ∧ w'.cell? ⟨Db, 4, none⟩ = some (.int .i64 Y.fa) ∧ w'.cell? ⟨Db, 5, none⟩ = some (.int .i64 Y.wh) ∧ w'.cell? ⟨b3, o3 + k * 6, none⟩ = some (.int .i64 c.tb) ∧ w'.cell? ⟨b3, o3 + k * 6 + 1, none⟩ = some (.int .i64 c.pg) ∧ w'.cell? ⟨b3, o3 + k * 6 + 2, none⟩ = some (.int .i64 c.l) ∧ w'.cell? ⟨b3, o3 + k * 6 + 3, none⟩ = some (.int .i64 c.e) ∧ w'.cell? ⟨b3, o3 + k * 6 + 4, none⟩ = some (.int .i64 c.fa) ∧ w'.cell? ⟨b3, o3 + k * 6 + 5, none⟩ = some (.int .i64 c.wh)) (first | exact ⟨by assumption, by assumption, by assumption, by assumption, by assumption, by assumption, by assumption, by assumption, by assumption, by assumption, by assumption, by assumption, by assumption, by assumption, by assumption, by assumption, by assumption, by assumption⟩ | go_keep)
        (first
          | (go_at_call 15; refine (HS.out _ (by first | exact H8.out.1 | exact H8.out.1.grown (Below.refl _ _).drew)).mono ?_; rintro e w9 ⟨rfl, hB⟩; have H9 : Hid (Both w w9 3 M2 ∧ RowC w9 Da Y ∧ RowC w9 Db Y) := (by have hb : Below v7.heap.size v7 w9 := (by first | exact hB | exact (Below.refl _ _).drew.trans hB); exact ⟨H8.out.1.grown hb, H8.out.2.1.on hb, H8.out.2.2.on hb⟩); clear hB HS; clear x0 x1 x2 x3 x4 x5 y0 y1 y2 y3 y4 y5 g0 g1 g2 g3 g4 g5; have XA := H9.out.2.1; have XB := H9.out.2.2; have x0 := XA.c0; have y0 := XB.c0; have x1 := XA.c1; have y1 := XB.c1; have x2 := XA.c2; have y2 := XB.c2; have x3 := XA.c3; have y3 := XB.c3; have x4 := XA.c4; have y4 := XB.c4; have x5 := XA.c5; have y5 := XB.c5; clear XA XB; obtain ⟨g0, g1, g2, g3, g4, g5⟩ := G3.out w9 H9.out.1.below)
          | (go_at_call 16; refine (HT.out _ (by first | exact H9.out.1 | exact H9.out.1.grown (Below.refl _ _).drew)).mono ?_; rintro e wx ⟨rfl, hB⟩; have Hx : Hid (Both w wx 3 M2 ∧ RowC wx Da Y ∧ RowC wx Db Y) := (by have hb : Below w9.heap.size w9 wx := (by first | exact hB | exact (Below.refl _ _).drew.trans hB); exact ⟨H9.out.1.grown hb, H9.out.2.1.on hb, H9.out.2.2.on hb⟩); clear hB HT; clear x0 x1 x2 x3 x4 x5 y0 y1 y2 y3 y4 y5 g0 g1 g2 g3 g4 g5; have XA := Hx.out.2.1; have XB := Hx.out.2.2; have x0 := XA.c0; have y0 := XB.c0; have x1 := XA.c1; have y1 := XB.c1; have x2 := XA.c2; have y2 := XB.c2; have x3 := XA.c3; have y3 := XB.c3; have x4 := XA.c4; have y4 := XB.c4; have x5 := XA.c5; have y5 := XB.c5; clear XA XB; obtain ⟨g0, g1, g2, g3, g4, g5⟩ := G3.out wx Hx.out.1.below)
          | (go_at_call 17; refine (HA.out _ (by first | exact Hx.out.1 | exact Hx.out.1.grown (Below.refl _ _).drew)).mono ?_; rintro e wy ⟨rfl, hB⟩; have Hy : Hid (Both w wy 3 M2 ∧ RowC wy Da Y ∧ RowC wy Db Y) := (by have hb : Below wx.heap.size wx wy := (by first | exact hB | exact (Below.refl _ _).drew.trans hB); exact ⟨Hx.out.1.grown hb, Hx.out.2.1.on hb, Hx.out.2.2.on hb⟩); clear hB HA; clear x0 x1 x2 x3 x4 x5 y0 y1 y2 y3 y4 y5 g0 g1 g2 g3 g4 g5; have XA := Hy.out.2.1; have XB := Hy.out.2.2; have x0 := XA.c0; have y0 := XB.c0; have x1 := XA.c1; have y1 := XB.c1; have x2 := XA.c2; have y2 := XB.c2; have x3 := XA.c3; have y3 := XB.c3; have x4 := XA.c4; have y4 := XB.c4; have x5 := XA.c5; have y5 := XB.c5; clear XA XB; obtain ⟨g0, g1, g2, g3, g4, g5⟩ := G3.out wy Hy.out.1.below)
          | fail)
        go_wp2
        go_roundw
        case rel => first | exact ⟨k + 1, by omega, by go_num, M2, HF2.out, Hy.out.1⟩ | exact ⟨k + 1, by omega, by go_num, M2, HF2.out, Hy.out.1.grown (Below.refl _ _).drew⟩
        case measure => simp [intOf]; omega
    · have hin' : ¬ k < len1 ∨ (k < len1 ∧ ¬ k < len2) ∨ (k < len1 ∧ k < len2 ∧ ¬ k < len3) ∨ (k < len1 ∧ k < len2 ∧ k < len3 ∧ ¬ k < len4) ∨ (k < len1 ∧ k < len2 ∧ k < len3 ∧ k < len4 ∧ ¬ k < len5) ∨ (k < len1 ∧ k < len2 ∧ k < len3 ∧ k < len4 ∧ k < len5 ∧ ¬ k < 40) := by omega
      clear hin
      rcases hin' with h1 | ⟨h1, h2⟩ | ⟨h1, h2, h3⟩ | ⟨h1, h2, h3, h4⟩ | ⟨h1, h2, h3, h4, h5⟩ | ⟨h1, h2, h3, h4, h5, h6⟩
      all_goals
        go_wp2_with (first
          | (go_at_call 18; refine (awake_any _ (HW.out.on HI.out.below)).mono ?_; rintro e w8 ⟨rfl, hB8⟩; have H8 : Hid (Below w.heap.size w w8) := HI.out.below.trans (hB8.mono HI.out.below.size); clear hB8)
          | fail)
        go_ret
        exact ⟨rfl, H8.out⟩
end Go.Proofs.YtikhbohkmogffaaDoor.Pcomp
