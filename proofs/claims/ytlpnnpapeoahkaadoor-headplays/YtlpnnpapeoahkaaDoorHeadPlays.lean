/- For every list of words laid into a memory of four frames and every list of acts (heads put, made or checked, of any frames and any kinds; the first forty): Put, Make and Check answer as the document's own; behind each act Get and Is of that frame do, and all words of the memory are the document's. Conditions: none but that package head's table of widths starts as the program's text lays it (tied). -/
import Derived.Test.YtlpnnpapeoahkaaDoorRows
import Derived.Test.YtlpnnpapeoahkaaDoorTie
import Derived.Test.YtlpnnpapeoahkaaDoorCards
import Derived.Test.YtlpnnpapeoahkaaDoorHdK
import Derived.Test.YtlpnnpapeoahkaaDoorHdN
import Derived.Deep.CutBlock
import Derived.WalkKit
import Derived.ProofKit
import Derived.OpenShut
import Derived.ShutString
import Derived.ChangeOld
import Derived.Below
import Derived.LaidMore
import Derived.Stop.Joined
import Derived.SevenTiedAt
namespace Go.Proofs.YtlpnnpapeoahkaaDoor.headPlays
open Go.ChangeShapes Go.WideShapes Go.ChangeAt Go.RowKit
set_option linter.unusedVariables false

theorem own : ownKnob Tryd.prog.godebug = none := by kernel_rfl
theorem laidOut : laidOutB Tryd.prog = true := by kernel_rfl

theorem bounds_u8 {z : Int} (h : (Lit.int .u8 z).wf = true) : 0 ≤ z ∧ z ≤ 255 := by
  have h' : (decide (IntKind.u8.min ≤ z) && decide (z ≤ IntKind.u8.max)) = true := h
  have e1 : IntKind.u8.min = 0 := by decide
  have e2 : IntKind.u8.max = 255 := by decide
  rw [e1, e2] at h'
  simpa using h'
theorem rem_u8 {z : Int} (h : (Lit.int .u8 z).wf = true) : z.tmod 3 = 0 ∨ z.tmod 3 = 1 ∨ z.tmod 3 = 2 := by
  have hz := bounds_u8 h
  rw [Int.tmod_eq_emod_of_nonneg hz.1]
  omega
/-- Both memories, and two heads in blocks of the statement's own. -/
theorem seen {w0 w : World} {N : Nat} {M : Nat → Nat → Int} (h : Both w0 w N M) (k l : Int) (z : Bool) (t : Int) (ty : TypeId) : Both w0 (w.alloc (.cells #[.int .i64 k, .int .i64 l, .bool z, .int .i64 t] ty)) N M ∧ Box4 (w.alloc (.cells #[.int .i64 k, .int .i64 l, .bool z, .int .i64 t] ty)) w.heap.size k l z t :=
  ⟨h.grown (bal (Below.refl _ _) _), box4_new w k l z t ty⟩
set_option maxRecDepth 100000 in
set_option maxHeartbeats 16000000 in

theorem walk (a0 : Option Addr) (len0 cap0 : Nat) (a1 : Option Addr) (len1 cap1 : Nat) (a2 : Option Addr) (len2 cap2 : Nat) (a3 : Option Addr) (len3 cap3 : Nat) (a4 : Option Addr) (len4 cap4 : Nat) (w : World) (w0 : Hid (Came .u64 w.heap.size w a0 len0)) (l0 : len0 ≤ 9223372036854775807) (w1 : Hid (Came .u8 w.heap.size w a1 len1)) (l1 : len1 ≤ 9223372036854775807) (w2 : Hid (Came .i64 w.heap.size w a2 len2)) (l2 : len2 ≤ 9223372036854775807) (w3 : Hid (CameH w.heap.size w a3 len3)) (l3 : len3 ≤ 9223372036854775807) (w4 : Hid (Came .i64 w.heap.size w a4 len4)) (l4 : len4 ≤ 9223372036854775807) (hW : TabW w) :
    Calls Tryd.prog 3 #[.slice a0 len0 cap0, .slice a1 len1 cap1, .slice a2 len2 cap2, .slice a3 len3 cap3, .slice a4 len4 cap4] w fun e w' => e = .returned (.bool true) ∧ Below w.heap.size w w' := by
  have HW : Hid (TabW w) := hW
  have w1' := w1
  have w2' := w2
  have w3' := w3
  have w4' := w4
  clear hW w1 w2 w3 w4
  go_enter Tryd.func3, Tryd.ntmps3
  go_wp2_with (first
    | (go_at_call 6; refine (laid_any a0 len0 cap0 4 _ (by omega) (by omega) w0 l0).mono ?_; rintro e1 w1 ⟨rfl, M0, hF0, hB0⟩; have HI0 : Hid (∃ M, Fit M ∧ Both w w1 4 M) := ⟨M0, hF0, hB0⟩; clear hF0 hB0)
    | fail)
  have HPQ0 : w.heap.size + 1 = w.heap.size + 1 ∧ w.heap.size + 2 = w.heap.size + 2 := ⟨rfl, rfl⟩
  generalize hp : w.heap.size + 1 = p
  generalize hq : w.heap.size + 2 = q
  have HPQ : Hid (w.heap.size + 1 = p ∧ w.heap.size + 2 = q) := ⟨hp, hq⟩
  clear hp hq HPQ0 w0 l0
  go_loopw [13] (fun i wr => ∃ k : Nat, k ≤ len1 ∧ i = .int .i64 k ∧ ∃ M, Fit M ∧ Both w wr 4 M) (fun i _ => len1 - (intOf i).toNat)
  case atStart => exact ⟨0, by omega, rfl, HI0.out⟩
  case round =>
    obtain ⟨k, hk0, rfl, M, hF, hI⟩ := hrel
    have HI : Hid (Both w wr 4 M) := hI
    have HF : Hid (Fit M) := hF
    clear hI hF HI0
    by_cases hin : k < len1 ∧ k < len2 ∧ k < len3 ∧ k < len4 ∧ k < 40
    · obtain ⟨h1, h2, h3, h4, h5⟩ := hin
      obtain ⟨b1, o1, z1, rfl, HZ1, G1⟩ := w1'.out.any h1
      obtain ⟨b2, o2, zf, rfl, _, G2⟩ := w2'.out.any h2
      obtain ⟨b3, o3, hk, hl, hz, ht, rfl, G3⟩ := w3'.out.at h3
      obtain ⟨b4, o4, zk, rfl, _, G4⟩ := w4'.out.any h4
      have i1 : (k : Int) < (len1 : Int) := by omega
      have i2 : (k : Int) < (len2 : Int) := by omega
      have i3 : (k : Int) < (len3 : Int) := by omega
      have i4 : (k : Int) < (len4 : Int) := by omega
      have i5 : (k : Int) < 40 := by omega
      have c1 := G1.out wr HI.out.below
      have c2 := G2.out wr HI.out.below
      obtain ⟨g0, g1, g2, g3⟩ := G3.out wr HI.out.below
      have hq' := rem_u8 HZ1.out
      clear HZ1
      go_upto_block 2 with fail
      go_cut [] from 57 to 114 (fun wc => ∃ M, Fit M ∧ Both w wc 4 M)
      case first =>
        rcases hq' with hq | hq | hq
        · obtain ⟨T, hT⟩ : ∃ T, T = putM 4 M zf hk hl hz ht := ⟨_, rfl⟩
          obtain ⟨E, hE⟩ : ∃ E, E = errP 4 zf hk hl hz ht := ⟨_, rfl⟩
          have HFT : Hid (Fit T) := by rw [hT]; exact HF.out.put 4 zf hk hl hz ht
          have HP : Hid (∀ wc, Below wr.heap.size wr wc → Calls Tryd.prog 7 #[.pointer (some ⟨p, 0, none⟩), .int .i64 zf, .agg #[.int .i64 hk, .int .i64 hl, .bool hz, .int .i64 ht]] wc fun e w' => e = .returned (.int .i64 E) ∧ Half w w' 4 M T) := fun wc h => by
            have HG := HI.out.grown h
            have := hput_any (w.heap.size + 1) w.heap.size 4 zf hk hl hz ht M wc (by omega) (by omega) HG.mem (HW.out.on HG.below)
            rw [HPQ.out.1, ← hE, ← hT] at this
            exact this.mono fun e w' ⟨h1, h2, h3⟩ => ⟨h1, HG.half (by rw [HPQ.out.1]; exact h2) h3⟩
          have HQ : Hid (∀ wa wc, Half w wa 4 M T → Below wa.heap.size wa wc → Calls Tryd.prog 8 #[.pointer (some ⟨q, 0, none⟩), .int .i64 zf, .agg #[.int .i64 hk, .int .i64 hl, .bool hz, .int .i64 ht]] wc fun e w' => e = .returned (.int .i64 E) ∧ Both w w' 4 T) := fun wa wc ha h => by
            have HG := ha.grown h
            have := hrput_any (w.heap.size + 2) (w.heap.size + 2) 4 zf hk hl hz ht M wc (by omega) (by omega) HG.ref
            rw [← hE, ← hT] at this
            rw [← HPQ.out.2]
            exact this.mono fun e w' ⟨h1, h2, h3⟩ => ⟨h1, HG.turn h2 h3⟩
          clear hT hE
          go_wp2
          go_region_held3 (fun w' => w'.cell? ⟨b2, o2 + k, none⟩ = some (.int .i64 zf) ∧ w'.cell? ⟨b3, o3 + k * 4, none⟩ = some (.int .i64 hk) ∧ w'.cell? ⟨b3, o3 + k * 4 + 1, none⟩ = some (.int .i64 hl) ∧ w'.cell? ⟨b3, o3 + k * 4 + 2, none⟩ = some (.bool hz) ∧ w'.cell? ⟨b3, o3 + k * 4 + 3, none⟩ = some (.int .i64 ht)) (first | exact ⟨by assumption, by assumption, by assumption, by assumption, by assumption⟩ | go_keep)
          (first
            | (go_at_call 7; refine (HP.out _ (by first | exact Below.refl _ _ | exact (Below.refl _ _).drew)).mono ?_; rintro e w3 ⟨rfl, h3⟩; have H3 : Hid (Half w w3 4 M T) := h3; clear h3 c2 g0 g1 g2 g3 HP; have c2 := G2.out w3 H3.out.below; obtain ⟨g0, g1, g2, g3⟩ := G3.out w3 H3.out.below)
            | (go_at_call 8; refine (HQ.out _ _ H3.out (by first | exact Below.refl _ _ | exact (Below.refl _ _).drew)).mono ?_; rintro e w4 ⟨rfl, h4⟩; have H4 : Hid (Both w w4 4 T) := h4; clear h4 c2 g0 g1 g2 g3 HQ; have c2 := G2.out w4 H4.out.below; obtain ⟨g0, g1, g2, g3⟩ := G3.out w4 H4.out.below)
            | fail)
          go_wp2_with fail
          go_meet
          first | exact ⟨T, HFT.out, H4.out⟩ | exact ⟨T, HFT.out, H4.out.grown (Below.refl _ _).drew⟩
        · obtain ⟨T, hT⟩ : ∃ T, T = mkM 4 M zf hk hl hz ht := ⟨_, rfl⟩
          obtain ⟨E, hE⟩ : ∃ E, E = errP 4 zf hk hl hz ht := ⟨_, rfl⟩
          have HFT : Hid (Fit T) := by rw [hT]; exact HF.out.mk 4 zf hk hl hz ht
          have HP : Hid (∀ wc, Below wr.heap.size wr wc → Calls Tryd.prog 9 #[.pointer (some ⟨p, 0, none⟩), .int .i64 zf, .agg #[.int .i64 hk, .int .i64 hl, .bool hz, .int .i64 ht]] wc fun e w' => e = .returned (.int .i64 E) ∧ Half w w' 4 M T) := fun wc h => by
            have HG := HI.out.grown h
            have := hmake_any (w.heap.size + 1) w.heap.size 4 zf hk hl hz ht M wc (by omega) (by omega) HG.mem (HW.out.on HG.below)
            rw [HPQ.out.1, ← hE, ← hT] at this
            exact this.mono fun e w' ⟨h1, h2, h3⟩ => ⟨h1, HG.half (by rw [HPQ.out.1]; exact h2) h3⟩
          have HQ : Hid (∀ wa wc, Half w wa 4 M T → Below wa.heap.size wa wc → Calls Tryd.prog 10 #[.pointer (some ⟨q, 0, none⟩), .int .i64 zf, .agg #[.int .i64 hk, .int .i64 hl, .bool hz, .int .i64 ht]] wc fun e w' => e = .returned (.int .i64 E) ∧ Both w w' 4 T) := fun wa wc ha h => by
            have HG := ha.grown h
            have := hrmake_any (w.heap.size + 2) (w.heap.size + 2) 4 zf hk hl hz ht M wc (by omega) (by omega) HG.ref
            rw [← hE, ← hT] at this
            rw [← HPQ.out.2]
            exact this.mono fun e w' ⟨h1, h2, h3⟩ => ⟨h1, HG.turn h2 h3⟩
          clear hT hE
          go_wp2
          go_region_held3 (fun w' => w'.cell? ⟨b2, o2 + k, none⟩ = some (.int .i64 zf) ∧ w'.cell? ⟨b3, o3 + k * 4, none⟩ = some (.int .i64 hk) ∧ w'.cell? ⟨b3, o3 + k * 4 + 1, none⟩ = some (.int .i64 hl) ∧ w'.cell? ⟨b3, o3 + k * 4 + 2, none⟩ = some (.bool hz) ∧ w'.cell? ⟨b3, o3 + k * 4 + 3, none⟩ = some (.int .i64 ht)) (first | exact ⟨by assumption, by assumption, by assumption, by assumption, by assumption⟩ | go_keep)
          (first
            | (go_at_call 9; refine (HP.out _ (by first | exact Below.refl _ _ | exact (Below.refl _ _).drew)).mono ?_; rintro e w3 ⟨rfl, h3⟩; have H3 : Hid (Half w w3 4 M T) := h3; clear h3 c2 g0 g1 g2 g3 HP; have c2 := G2.out w3 H3.out.below; obtain ⟨g0, g1, g2, g3⟩ := G3.out w3 H3.out.below)
            | (go_at_call 10; refine (HQ.out _ _ H3.out (by first | exact Below.refl _ _ | exact (Below.refl _ _).drew)).mono ?_; rintro e w4 ⟨rfl, h4⟩; have H4 : Hid (Both w w4 4 T) := h4; clear h4 c2 g0 g1 g2 g3 HQ; have c2 := G2.out w4 H4.out.below; obtain ⟨g0, g1, g2, g3⟩ := G3.out w4 H4.out.below)
            | fail)
          go_wp2_with fail
          go_meet
          first | exact ⟨T, HFT.out, H4.out⟩ | exact ⟨T, HFT.out, H4.out.grown (Below.refl _ _).drew⟩
        · obtain ⟨C, hC⟩ : ∃ C, C = chk hk hl hz ht := ⟨_, rfl⟩
          have HP : Hid (∀ wc, Below wr.heap.size wr wc → Calls Tryd.prog 11 #[.agg #[.int .i64 hk, .int .i64 hl, .bool hz, .int .i64 ht]] wc fun e w' => e = .returned (.int .i64 C) ∧ Both w w' 4 M) := fun wc h => by
            rw [hC]
            exact (check_any hk hl hz ht wc).mono fun e w' ⟨h1, h2⟩ => ⟨h1, (HI.out.grown h).grown h2⟩
          have HQ : Hid (∀ wa wc, Both w wa 4 M → Below wa.heap.size wa wc → Calls Tryd.prog 12 #[.agg #[.int .i64 hk, .int .i64 hl, .bool hz, .int .i64 ht]] wc fun e w' => e = .returned (.int .i64 C) ∧ Both w w' 4 M) := fun wa wc ha h => by
            rw [hC]
            exact (rcheck_any hk hl hz ht wc).mono fun e w' ⟨h1, h2⟩ => ⟨h1, (ha.grown h).grown h2⟩
          clear hC
          go_wp2
          go_region_held3 (fun w' => w'.cell? ⟨b3, o3 + k * 4, none⟩ = some (.int .i64 hk) ∧ w'.cell? ⟨b3, o3 + k * 4 + 1, none⟩ = some (.int .i64 hl) ∧ w'.cell? ⟨b3, o3 + k * 4 + 2, none⟩ = some (.bool hz) ∧ w'.cell? ⟨b3, o3 + k * 4 + 3, none⟩ = some (.int .i64 ht)) (first | exact ⟨by assumption, by assumption, by assumption, by assumption⟩ | go_keep)
          (first
            | (go_at_call 11; refine (HP.out _ (by first | exact Below.refl _ _ | exact (Below.refl _ _).drew)).mono ?_; rintro e w3 ⟨rfl, h3⟩; have H3 : Hid (Both w w3 4 M) := h3; clear h3 g0 g1 g2 g3 HP; obtain ⟨g0, g1, g2, g3⟩ := G3.out w3 H3.out.below)
            | (go_at_call 12; refine (HQ.out _ _ H3.out (by first | exact Below.refl _ _ | exact (Below.refl _ _).drew)).mono ?_; rintro e w4 ⟨rfl, h4⟩; have H4 : Hid (Both w w4 4 M) := h4; clear h4 g0 g1 g2 g3 HQ; obtain ⟨g0, g1, g2, g3⟩ := G3.out w4 H4.out.below)
            | fail)
          go_wp2_with fail
          go_meet
          first | exact ⟨M, HF.out, H4.out⟩ | exact ⟨M, HF.out, H4.out.grown (Below.refl _ _).drew⟩
      case rest =>
        obtain ⟨M2, hF2, h4⟩ := hcut
        have H4 : Hid (Both w wc 4 M2) := h4
        have HF2 : Hid (Fit M2) := hF2
        clear h4 hF2 c1 c2 g0 g1 g2 g3 HI HF hq'
        have c2 := G2.out wc H4.out.below
        have HG : Hid (∀ wx, Both w wx 4 M2 → Calls Tryd.prog 13 #[.pointer (some ⟨p, 0, none⟩), .int .i64 zf] wx fun e w' => e = .returned (.tuple #[.agg #[.int .i64 (ghK 4 M2 zf), .int .i64 (ghL 4 M2 zf), .bool (ghZ 4 M2 zf), .int .i64 (ghT 4 M2 zf)], .int .i64 (ghE 4 M2 zf)]) ∧ Below wx.heap.size wx w') := fun wx h => by
          have := hget_any (w.heap.size + 1) w.heap.size 4 zf M2 wx (by omega) (by omega) h.mem (HW.out.on h.below) HF2.out
          rwa [HPQ.out.1] at this
        have HH : Hid (∀ wx, Both w wx 4 M2 → Calls Tryd.prog 14 #[.pointer (some ⟨q, 0, none⟩), .int .i64 zf] wx fun e w' => e = .returned (.tuple #[.agg #[.int .i64 (ghK 4 M2 zf), .int .i64 (ghL 4 M2 zf), .bool (ghZ 4 M2 zf), .int .i64 (ghT 4 M2 zf)], .int .i64 (ghE 4 M2 zf)]) ∧ Below wx.heap.size wx w') := fun wx h => by
          have := hrget_any (w.heap.size + 2) (w.heap.size + 2) 4 zf M2 wx (by omega) (by omega) h.ref HF2.out
          rwa [HPQ.out.2] at this
        have HS : Hid (∀ wx, Both w wx 4 M2 → Calls Tryd.prog 15 #[.pointer (some ⟨p, 0, none⟩), .int .i64 zf, .int .i64 zk] wx fun e w' => e = .returned (.int .i64 (isE 4 M2 zf zk)) ∧ Below wx.heap.size wx w') := fun wx h => by
          have := his_any (w.heap.size + 1) w.heap.size 4 zf zk M2 wx (by omega) (by omega) h.mem (HW.out.on h.below) HF2.out
          rwa [HPQ.out.1] at this
        have HT : Hid (∀ wx, Both w wx 4 M2 → Calls Tryd.prog 16 #[.pointer (some ⟨q, 0, none⟩), .int .i64 zf, .int .i64 zk] wx fun e w' => e = .returned (.int .i64 (isE 4 M2 zf zk)) ∧ Below wx.heap.size wx w') := fun wx h => by
          have := hris_any (w.heap.size + 2) (w.heap.size + 2) 4 zf zk M2 wx (by omega) (by omega) h.ref HF2.out
          rwa [HPQ.out.2] at this
        have HA : Hid (∀ wx, Both w wx 4 M2 → Calls Tryd.prog 17 #[.pointer (some ⟨p, 0, none⟩), .pointer (some ⟨q, 0, none⟩)] wx fun e w' => e = .returned (.bool true) ∧ Below wx.heap.size wx w') := fun wx h => by
          have := alike_any 4 M2 w wx (by omega) (by omega) h
          rwa [HPQ.out.1, HPQ.out.2] at this
        generalize ghK 4 M2 zf = K at HG HH
        generalize ghL 4 M2 zf = L at HG HH
        generalize ghZ 4 M2 zf = Z at HG HH
        generalize ghT 4 M2 zf = T at HG HH
        generalize ghE 4 M2 zf = E at HG HH
        generalize isE 4 M2 zf zk = I at HS HT
        go_upto_region 17 with (first
          | (go_at_call 13; refine (HG.out _ H4.out).mono ?_; rintro e w5 ⟨rfl, hB5⟩; have H5 : Hid (Both w w5 4 M2) := H4.out.grown hB5; clear hB5 c2)
          | fail)
        have K5 := seen H5.out K L Z T 33
        generalize w5.alloc _ = v5 at K5 ⊢
        generalize w5.heap.size = Da at K5 ⊢
        have H6 : Hid (Both w v5 4 M2) := K5.1
        have HB6 : Hid (Box4 v5 Da K L Z T) := K5.2
        clear K5 H5 H4 HG
        have c2 := G2.out v5 H6.out.below
        go_upto_region 18 with (first
          | (go_at_call 14; refine (HH.out _ H6.out).mono ?_; rintro e w7 ⟨rfl, hB7⟩; have H7 : Hid (Both w w7 4 M2) := H6.out.grown hB7; have HB7 : Hid (Box4 w7 Da K L Z T) := HB6.out.on hB7; clear hB7 c2)
          | fail)
        have K7 := seen H7.out K L Z T 33
        have A7 := HB7.out.on (bal (Below.refl w7.heap.size w7) (.cells #[.int .i64 K, .int .i64 L, .bool Z, .int .i64 T] 33))
        generalize w7.alloc _ = v7 at K7 A7 ⊢
        generalize w7.heap.size = Db at K7 ⊢
        have H8 : Hid (Both w v7 4 M2 ∧ Box4 v7 Da K L Z T ∧ Box4 v7 Db K L Z T) := ⟨K7.1, A7, K7.2⟩
        clear K7 A7 H7 HB7 H6 HB6 HH
        have hne := neqH K L Z T
        have bE : (E != E) = false := by simp
        have bI : (I != I) = false := by simp
        have XA := H8.out.2.1
        have XB := H8.out.2.2
        have x0 := XA.c0
        have x1 := XA.c1
        have x2 := XA.c2
        have x3 := XA.c3
        have y0 := XB.c0
        have y1 := XB.c1
        have y2 := XB.c2
        have y3 := XB.c3
        clear XA XB
        have c2 := G2.out v7 H8.out.1.below
        have c4 := G4.out v7 H8.out.1.below
        go_region_held3 (fun w' => w'.cell? ⟨Da, 0, none⟩ = some (.int .i64 K) ∧ w'.cell? ⟨Da, 1, none⟩ = some (.int .i64 L) ∧ w'.cell? ⟨Da, 2, none⟩ = some (.bool Z) ∧ w'.cell? ⟨Da, 3, none⟩ = some (.int .i64 T) ∧ w'.cell? ⟨Db, 0, none⟩ = some (.int .i64 K) ∧ w'.cell? ⟨Db, 1, none⟩ = some (.int .i64 L) ∧ w'.cell? ⟨Db, 2, none⟩ = some (.bool Z) ∧ w'.cell? ⟨Db, 3, none⟩ = some (.int .i64 T) ∧ w'.cell? ⟨b2, o2 + k, none⟩ = some (.int .i64 zf) ∧ w'.cell? ⟨b4, o4 + k, none⟩ = some (.int .i64 zk)) (first | exact ⟨by assumption, by assumption, by assumption, by assumption, by assumption, by assumption, by assumption, by assumption, by assumption, by assumption⟩ | go_keep)
        (first
          | (go_at_call 15; refine (HS.out _ (by first | exact H8.out.1 | exact H8.out.1.grown (Below.refl _ _).drew)).mono ?_; rintro e w9 ⟨rfl, hB9⟩; have H9 : Hid (Both w w9 4 M2 ∧ Box4 w9 Da K L Z T ∧ Box4 w9 Db K L Z T) := (by have hb : Below v7.heap.size v7 w9 := (by first | exact hB9 | exact (Below.refl _ _).drew.trans hB9); exact ⟨H8.out.1.grown hb, H8.out.2.1.on hb, H8.out.2.2.on hb⟩); clear hB9 HS; clear x0 x1 x2 x3 y0 y1 y2 y3 c2 c4; have XA := H9.out.2.1; have XB := H9.out.2.2; have x0 := XA.c0; have x1 := XA.c1; have x2 := XA.c2; have x3 := XA.c3; have y0 := XB.c0; have y1 := XB.c1; have y2 := XB.c2; have y3 := XB.c3; clear XA XB; have c2 := G2.out w9 H9.out.1.below; have c4 := G4.out w9 H9.out.1.below)
          | (go_at_call 16; refine (HT.out _ (by first | exact H9.out.1 | exact H9.out.1.grown (Below.refl _ _).drew)).mono ?_; rintro e wx ⟨rfl, hBx⟩; have Hx : Hid (Both w wx 4 M2 ∧ Box4 wx Da K L Z T ∧ Box4 wx Db K L Z T) := (by have hb : Below w9.heap.size w9 wx := (by first | exact hBx | exact (Below.refl _ _).drew.trans hBx); exact ⟨H9.out.1.grown hb, H9.out.2.1.on hb, H9.out.2.2.on hb⟩); clear hBx HT; clear x0 x1 x2 x3 y0 y1 y2 y3 c2 c4; have XA := Hx.out.2.1; have XB := Hx.out.2.2; have x0 := XA.c0; have x1 := XA.c1; have x2 := XA.c2; have x3 := XA.c3; have y0 := XB.c0; have y1 := XB.c1; have y2 := XB.c2; have y3 := XB.c3; clear XA XB; have c2 := G2.out wx Hx.out.1.below; have c4 := G4.out wx Hx.out.1.below)
          | (go_at_call 17; refine (HA.out _ (by first | exact Hx.out.1 | exact Hx.out.1.grown (Below.refl _ _).drew)).mono ?_; rintro e wy ⟨rfl, hBy⟩; have Hy : Hid (Both w wy 4 M2 ∧ Box4 wy Da K L Z T ∧ Box4 wy Db K L Z T) := (by have hb : Below wx.heap.size wx wy := (by first | exact hBy | exact (Below.refl _ _).drew.trans hBy); exact ⟨Hx.out.1.grown hb, Hx.out.2.1.on hb, Hx.out.2.2.on hb⟩); clear hBy HA; clear x0 x1 x2 x3 y0 y1 y2 y3 c2 c4; have XA := Hy.out.2.1; have XB := Hy.out.2.2; have x0 := XA.c0; have x1 := XA.c1; have x2 := XA.c2; have x3 := XA.c3; have y0 := XB.c0; have y1 := XB.c1; have y2 := XB.c2; have y3 := XB.c3; clear XA XB; have c2 := G2.out wy Hy.out.1.below; have c4 := G4.out wy Hy.out.1.below)
          | fail)
        go_wp2
        go_roundw
        case rel => first | exact ⟨k + 1, by omega, by go_num, M2, HF2.out, Hy.out.1⟩ | exact ⟨k + 1, by omega, by go_num, M2, HF2.out, Hy.out.1.grown (Below.refl _ _).drew⟩
        case measure => simp [intOf]; omega
    · have hin' : ¬ k < len1 ∨ (k < len1 ∧ ¬ k < len2) ∨ (k < len1 ∧ k < len2 ∧ ¬ k < len3) ∨ (k < len1 ∧ k < len2 ∧ k < len3 ∧ ¬ k < len4) ∨ (k < len1 ∧ k < len2 ∧ k < len3 ∧ k < len4 ∧ ¬ k < 40) := by omega
      clear hin
      rcases hin' with h1 | ⟨h1, h2⟩ | ⟨h1, h2, h3⟩ | ⟨h1, h2, h3, h4⟩ | ⟨h1, h2, h3, h4, h5⟩
      all_goals
        go_wp2_with (first
          | (go_at_call 18; refine (awake_any _).mono ?_; rintro e w8 ⟨rfl, hB8⟩; have H8 : Hid (Below w.heap.size w w8) := HI.out.below.trans (hB8.mono HI.out.below.size); clear hB8)
          | fail)
        go_ret
        exact ⟨rfl, H8.out⟩

/-! ### The statement's frame -/
/-- The heap that the program's own initialisers leave meets the condition. -/
theorem door_met (os : Os) (args : Array Value) : laidMetH Tryd.prog Rows.headPlaysRow.laid ((World.doorLaid Tryd.prog 400 os).forCall (fun _ _ => 0) ⟨#[], args, []⟩).memory :=
  laidMetH_of_parts3 (fuel := 8) (laidMet_of_run' 8 (by kernel_rfl) (by kernel_rfl)) (by kernel_rfl) (by kernel_rfl)
set_option maxRecDepth 100000 in
theorem lifted (os : Os) (started : os.Started) (H : Type) (enc : TypeId × Value → H) :
    ReturnsInHanded {} Tryd.checked os 3 .any (fun w args => (Rows.headPlaysSpec.pre enc Tryd.prog Tryd.f3 [] false w args ∧ laidMetH Tryd.prog Rows.headPlaysRow.laid w) ∧ sizedMet enc Tryd.prog Tryd.f3 (OpenSpec.ofChange Rows.headPlaysSpec) false w args) (Rows.headPlaysSpec.post enc Tryd.prog Tryd.f3 false true false false) := by
  refine returnsInHanded_of_change_and (C := Tryd.checked) (X := fun w _ => laidMetH Tryd.prog Rows.headPlaysRow.laid w) (fun _ _ _ hh h => h.of_heap hh) own started (by kernel_rfl) Tryd.func3
    (ChangeSpec.witness_shaped (enc := enc) (C := Tryd.checked) (os := os) (X := fun w _ => laidMetH Tryd.prog Rows.headPlaysRow.laid w) false (World.doorLaid Tryd.prog 400 os) #[.slice none 0 0, .slice none 0 0, .slice none 0 0, .slice none 0 0, .slice none 0 0] 8 rfl (World.shaped_of_RefB (by kernel_rfl) (by kernel_rfl)) (by kernel_rfl) (by kernel_rfl) (by kernel_rfl) (door_met os _)) ?_
  intro W base args ds gs before hval0 hW _ _ hL _
  have hval : ∀ (j : Nat) t v, Tryd.f3.params[j]? = some t → args[j]? = some v → Value.okWide Tryd.prog W .any base t v := hval0
  have hW' := hW
  obtain ⟨p, q, hA0, hV, rfl, hfz, hnd⟩ := hW
  have hA : DataW.TrodAll enc Tryd.prog W 0 (fun _ => true) true Tryd.f3.params.toList args.toList ds p := hA0
  rw [Tryd.params3] at hA hval
  obtain ⟨v0, vs0, d0, ds0, p0, q0, hargs, rfl, rfl, h0, r0⟩ := trodAll_cons hA
  obtain ⟨v1, vs1, d1, ds1, p1, q1, rfl, rfl, rfl, h1, r1⟩ := trodAll_cons r0
  obtain ⟨v2, vs2, d2, ds2, p2, q2, rfl, rfl, rfl, h2, r2⟩ := trodAll_cons r1
  obtain ⟨v3, vs3, d3, ds3, p3, q3, rfl, rfl, rfl, h3, r3⟩ := trodAll_cons r2
  obtain ⟨v4, vs4, d4, ds4, p4, q4, rfl, rfl, rfl, h4, r4⟩ := trodAll_cons r3
  obtain ⟨rfl, rfl, rfl⟩ := trodAll_nil r4
  obtain rfl : args = #[v0, v1, v2, v3, v4] := by cases args; simp_all
  obtain ⟨rfl, rfl⟩ := trodVars_none hV
  obtain ⟨a0, len0, cap0, rfl⟩ := okWide_slice Tryd.underlying22 (hval 0 22 v0 rfl rfl)
  have k0 := h0
  have lt0 : ∀ x ∈ p0, x.block < W.heap.size := by obtain ⟨m, hm⟩ := k0; exact DataW.trod_lt m _ _ _ hm
  have w0 : Came .u64 W.heap.size W a0 len0 ∧ len0 ≤ 9223372036854775807 := by
    obtain ⟨fuel, hf⟩ := h0
    rcases open_ints Tryd.underlying22 Tryd.underlying48 (by kernel_rfl) hf with ⟨hcs, _⟩ | ⟨x, l, c, zs, hcs, _, hl, hm, hz, _, hcell, hwz⟩
    · simp [Value.cells] at hcs
      obtain ⟨rfl, rfl, rfl⟩ := hcs
      exact came_of_row (zs := []) (.inl ⟨rfl, rfl, rfl, rfl⟩)
    · simp [Value.cells] at hcs
      obtain ⟨rfl, rfl, rfl⟩ := hcs
      exact came_of_row (.inr ⟨_, rfl, hl, hm, by simpa using hz, hcell, hwz⟩)
  obtain ⟨a1, len1, cap1, rfl⟩ := okWide_slice Tryd.underlying23 (hval 1 23 v1 rfl rfl)
  have k1 := h1
  have lt1 : ∀ x ∈ p1, x.block < W.heap.size := by obtain ⟨m, hm⟩ := k1; exact DataW.trod_lt m _ _ _ hm
  have w1 : Came .u8 W.heap.size W a1 len1 ∧ len1 ≤ 9223372036854775807 := by
    obtain ⟨fuel, hf⟩ := h1
    rcases open_ints Tryd.underlying23 Tryd.underlying5 (by kernel_rfl) hf with ⟨hcs, _⟩ | ⟨x, l, c, zs, hcs, _, hl, hm, hz, _, hcell, hwz⟩
    · simp [Value.cells] at hcs
      obtain ⟨rfl, rfl, rfl⟩ := hcs
      exact came_of_row (zs := []) (.inl ⟨rfl, rfl, rfl, rfl⟩)
    · simp [Value.cells] at hcs
      obtain ⟨rfl, rfl, rfl⟩ := hcs
      exact came_of_row (.inr ⟨_, rfl, hl, hm, by simpa using hz, hcell, hwz⟩)
  obtain ⟨a2, len2, cap2, rfl⟩ := okWide_slice Tryd.underlying24 (hval 2 24 v2 rfl rfl)
  have k2 := h2
  have lt2 : ∀ x ∈ p2, x.block < W.heap.size := by obtain ⟨m, hm⟩ := k2; exact DataW.trod_lt m _ _ _ hm
  have w2 : Came .i64 W.heap.size W a2 len2 ∧ len2 ≤ 9223372036854775807 := by
    obtain ⟨fuel, hf⟩ := h2
    rcases open_ints Tryd.underlying24 Tryd.underlying3 (by kernel_rfl) hf with ⟨hcs, _⟩ | ⟨x, l, c, zs, hcs, _, hl, hm, hz, _, hcell, hwz⟩
    · simp [Value.cells] at hcs
      obtain ⟨rfl, rfl, rfl⟩ := hcs
      exact came_of_row (zs := []) (.inl ⟨rfl, rfl, rfl, rfl⟩)
    · simp [Value.cells] at hcs
      obtain ⟨rfl, rfl, rfl⟩ := hcs
      exact came_of_row (.inr ⟨_, rfl, hl, hm, by simpa using hz, hcell, hwz⟩)
  obtain ⟨a3, len3, cap3, rfl⟩ := okWide_slice Tryd.underlying25 (hval 3 25 v3 rfl rfl)
  have k3 := h3
  have lt3 : ∀ x ∈ p3, x.block < W.heap.size := by obtain ⟨m, hm⟩ := k3; exact DataW.trod_lt m _ _ _ hm
  have w3 : CameH W.heap.size W a3 len3 ∧ len3 ≤ 9223372036854775807 := by
    obtain ⟨fuel, hf⟩ := h3
    exact cameH_of (by simpa [Value.cells] using hf)
  obtain ⟨a4, len4, cap4, rfl⟩ := okWide_slice Tryd.underlying24 (hval 4 24 v4 rfl rfl)
  have k4 := h4
  have lt4 : ∀ x ∈ p4, x.block < W.heap.size := by obtain ⟨m, hm⟩ := k4; exact DataW.trod_lt m _ _ _ hm
  have w4 : Came .i64 W.heap.size W a4 len4 ∧ len4 ≤ 9223372036854775807 := by
    obtain ⟨fuel, hf⟩ := h4
    rcases open_ints Tryd.underlying24 Tryd.underlying3 (by kernel_rfl) hf with ⟨hcs, _⟩ | ⟨x, l, c, zs, hcs, _, hl, hm, hz, _, hcell, hwz⟩
    · simp [Value.cells] at hcs
      obtain ⟨rfl, rfl, rfl⟩ := hcs
      exact came_of_row (zs := []) (.inl ⟨rfl, rfl, rfl, rfl⟩)
    · simp [Value.cells] at hcs
      obtain ⟨rfl, rfl, rfl⟩ := hcs
      exact came_of_row (.inr ⟨_, rfl, hl, hm, by simpa using hz, hcell, hwz⟩)
  clear hA0 hval0
  refine (walk a0 len0 cap0 a1 len1 cap1 a2 len2 cap2 a3 len3 cap3 a4 len4 cap4 W w0.1 w0.2 w1.1 w1.2 w2.1 w2.2 w3.1 w3.2 w4.1 w4.2 (of_laid hL)).mono fun e W' ⟨he, bel⟩ => ?_
  subst he
  exact ⟨_, rfl, _, _, _, [], _, [], hW', trodAll_mk1 (shut_bool Tryd.underlying4 _), (trodAll_cons_mk (Below.trod laidOut (by kernel_rfl) (of_decide_eq_true (by kernel_rfl)) k0 bel lt0) (trodAll_cons_mk (Below.trod laidOut (by kernel_rfl) (of_decide_eq_true (by kernel_rfl)) k1 bel lt1) (trodAll_cons_mk (Below.trod laidOut (by kernel_rfl) (of_decide_eq_true (by kernel_rfl)) k2 bel lt2) (trodAll_cons_mk (Below.trod laidOut (by kernel_rfl) (of_decide_eq_true (by kernel_rfl)) k3 bel lt3) (trodAll_cons_mk (Below.trod laidOut (by kernel_rfl) (of_decide_eq_true (by kernel_rfl)) k4 bel lt4) trodAll_mk0))))), rfl, bel.frame _, fun h => by cases h⟩

theorem over : Rows.headPlaysRow.holds Tryd.pinned (OpenSpec.ofChange Rows.headPlaysSpec) :=
  OpenClaim.holds_of_wide 3 Tryd.f3 rfl rfl rfl rfl rfl rfl rfl ⟨rfl, rfl, rfl, rfl, rfl⟩ rfl rfl rfl rfl rfl (by kernel_rfl) Tryd.func3 (by kernel_rfl)
    (of_decide_eq_true (by kernel_rfl)) (by unfold Func.isWrapper; first | (rw [if_pos (by decide +kernel)]; kernel_rfl) | (rw [if_neg (by decide +kernel)]; exact ⟨rfl, rfl⟩))
    (fun os started H enc _ => lifted os started H enc)

theorem proved : Rows.HeadPlaysCardSaid :=
  Claim7.holds_tied_plain_at .later [] [.data] true (true, "9f2baa4341344afafe72d5f32ba4b545fe19e605ac74589830f02a71c48f995a") false
    over (fun _ h => by cases h) (by kernel_rfl) (fun _ h => by cases h) headPlays_row_tie rfl ⟨rfl, rfl⟩ (by kernel_rfl) rfl
    (fun g fn hf hfn => by
      obtain rfl : g = 3 := Option.some.inj ((show Tryd.prog.funcNamed Rows.headPlaysRow.func = some 3 by kernel_rfl).symm.trans hf) |>.symm
      obtain rfl : fn = Tryd.f3 := (Option.some.inj (Tryd.func3.symm.trans hfn)).symm
      exact ⟨by kernel_rfl, fun j t ht => by
        rw [Tryd.params3] at ht
        have hm : t ∈ [22, 23, 24, 25, 24] := by simpa using Array.mem_of_getElem? ht
        have hall : ([22, 23, 24, 25, 24].all fun u => !Tryd.prog.wantsStandIn u) = true := by kernel_rfl
        exact (show Tryd.prog.wantsStandIn t = false by simpa using List.all_eq_true.1 hall t hm)⟩)
    (by kernel_rfl)
end Go.Proofs.YtlpnnpapeoahkaaDoor.headPlays
namespace Go.Proofs.YtlpnnpapeoahkaaDoor
theorem headPlays_holds : Rows.HeadPlaysCardSaid := headPlays.proved
#print axioms headPlays_holds
end Go.Proofs.YtlpnnpapeoahkaaDoor
