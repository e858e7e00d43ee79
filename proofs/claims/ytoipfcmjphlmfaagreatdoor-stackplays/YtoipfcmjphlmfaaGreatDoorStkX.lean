/- The walk of StackPlays (written by mk_plays.py). -/
import Derived.Test.YtoipfcmjphlmfaaGreatDoorStkU
import Derived.Test.YtoipfcmjphlmfaaGreatDoorStkI
import Derived.Test.YtoipfcmjphlmfaaGreatDoorBunThd
import Derived.Test.YtoipfcmjphlmfaaGreatDoorBunMem
import Derived.Deep.CutBlock
import Derived.Deep.RegionHeld3
import Derived.BigRegion
namespace Go.Proofs.YtoipfcmjphlmfaaGreatDoor.Pstack
open Go.Proofs.YtoipfcmjphlmfaaGreatDoor.Pbase Go.Proofs.YtoipfcmjphlmfaaGreatDoor.Pfield Go.Proofs.YtoipfcmjphlmfaaGreatDoor.Play Go.Proofs.YtoipfcmjphlmfaaGreatDoor.Pmem Go.Proofs.YtoipfcmjphlmfaaGreatDoor.Pthd
open Go.RowKit M
set_option linter.unusedVariables false

theorem rem5s {z : Int} (h : (Lit.int .u8 z).wf = true) : z.tmod 5 = 0 ∨ z.tmod 5 = 1 ∨ z.tmod 5 = 2 ∨ z.tmod 5 = 3 ∨ z.tmod 5 = 4 := by
  obtain ⟨r, h1, h2⟩ := rem_u8 h 5 (by omega)
  have : z.tmod 5 = (r : Int) := h1
  omega
theorem both_sx {w wr : World} {M : Nat → Nat → Int} (h : Both w wr 3 M) (hT : Ts w) (hF : Fit M) : Sx wr (w.heap.size + 1) w.heap.size 3 M := sx_of hT h.below h.mem hF (by omega) (by omega)
theorem both_rx {w wr : World} {M : Nat → Nat → Int} (h : Both w wr 3 M) (hF : Fit M) : Rx wr (w.heap.size + 2) (w.heap.size + 2) 3 M := ⟨h.ref, hF, by omega, by omega⟩
/-- The memories, two records in blocks of the statement's own, and the same list twice. -/
structure Kt (w W : World) (M : Nat → Nat → Int) (Da Db : Nat) (Y : Rc) (L : List Rc) (a1 : Option Addr) (cp1 : Nat) (a2 : Option Addr) (cp2 : Nat) : Prop where
  both : Both w W 3 M
  xa : RowR W Da Y
  xb : RowR W Db Y
  one : Recs W 0 (.slice a1 L.length cp1) L
  two : Recs W 0 (.slice a2 L.length cp2) L
theorem Kt.on {w W W' : World} {M : Nat → Nat → Int} {Da Db : Nat} {Y : Rc} {L : List Rc} {a1 : Option Addr} {cp1 : Nat} {a2 : Option Addr} {cp2 : Nat} (h : Kt w W M Da Db Y L a1 cp1 a2 cp2) (hB : Below W.heap.size W W') : Kt w W' M Da Db Y L a1 cp1 a2 cp2 :=
  ⟨h.both.grown hB, h.xa.on hB, h.xb.on hB, h.one.on hB, h.two.on hB⟩
/-- The memories and two records. -/
structure Kd (w W : World) (M : Nat → Nat → Int) (Da Db : Nat) (Y : Rc) : Prop where
  both : Both w W 3 M
  xa : RowR W Da Y
  xb : RowR W Db Y
theorem Kd.on {w W W' : World} {M : Nat → Nat → Int} {Da Db : Nat} {Y : Rc} (h : Kd w W M Da Db Y) (hB : Below W.heap.size W W') : Kd w W' M Da Db Y := ⟨h.both.grown hB, h.xa.on hB, h.xb.on hB⟩
theorem al_len (N : Nat) (M : Nat → Nat → Int) (f : Int) : (alL N M f).length ≤ 6 := by
  unfold alL
  split
  · rename_i h
    rw [List.length_map, List.length_range]
    unfold alE at h
    split at h
    · rename_i hg
      exact (gt_dp hg).2.2
    · rename_i hg
      exact absurd h hg
  · exact Nat.zero_le _
theorem zero_base {w : World} {base : Nat} {v : Value} {L : List Rc} (h : Recs w base v L) : Recs w 0 v L := h.keep (Nat.zero_le _) (Nat.le_refl _) (fun _ _ _ => rfl)
set_option maxRecDepth 100000 in
set_option maxHeartbeats 40000000 in
theorem plays_walk (a0 : Option Addr) (len0 cap0 : Nat) (a1 : Option Addr) (len1 cap1 : Nat) (a2 : Option Addr) (len2 cap2 : Nat) (a3 : Option Addr) (len3 cap3 : Nat) (a4 : Option Addr) (len4 cap4 : Nat) (w : World) (w0 : Hid (Came .u64 w.heap.size w a0 len0)) (l0 : len0 ≤ 9223372036854775807) (D1 : Hid (Came .u8 w.heap.size w a1 len1)) (l1 : len1 ≤ 9223372036854775807) (D2 : Hid (Came .i64 w.heap.size w a2 len2)) (l2 : len2 ≤ 9223372036854775807) (D3 : Hid (CameR w.heap.size w a3 len3)) (l3 : len3 ≤ 9223372036854775807) (D4 : Hid (CameT w.heap.size w a4 len4)) (l4 : len4 ≤ 9223372036854775807) (hT : Ts w) :
    Calls Tryz.prog 3 #[.slice a0 len0 cap0, .slice a1 len1 cap1, .slice a2 len2 cap2, .slice a3 len3 cap3, .slice a4 len4 cap4] w fun e w' => e = .returned (.bool true) ∧ Below w.heap.size w w' := by
  have HT := rhide hT
  clear hT
  go_enter Tryz.func3, Tryz.ntmps3
  go_wp2_with (first
    | (go_at_call 4; refine (laid_any a0 len0 cap0 3 _ (by omega) (by omega) w0 l0).mono ?_; rintro e1 w1 ⟨rfl, M0, hF0, hB0⟩; have HI0 : Hid (∃ M, Fit M ∧ Both w w1 3 M) := ⟨M0, hF0, hB0⟩; clear hF0 hB0)
    | fail)
  have HPQ0 : w.heap.size + 1 = w.heap.size + 1 ∧ w.heap.size + 2 = w.heap.size + 2 := ⟨rfl, rfl⟩
  generalize hp : w.heap.size + 1 = p
  generalize hq : w.heap.size + 2 = q
  have HPQ : Hid (w.heap.size + 1 = p ∧ w.heap.size + 2 = q) := ⟨hp, hq⟩
  clear hp hq HPQ0 w0 l0
  go_loopw [13] (fun i wr => ∃ k : Nat, k ≤ len1 ∧ i = .int .i64 k ∧ ∃ M, Fit M ∧ Both w wr 3 M) (fun i _ => len1 - (intOf i).toNat)
  case atStart => exact ⟨0, by omega, rfl, HI0.out⟩
  case round =>
    obtain ⟨k, hk0, rfl, M, hF, hI⟩ := hrel
    have HI := rhide hI
    have HF := rhide hF
    clear hI hF HI0
    by_cases hin : k < len1 ∧ k < len2 ∧ k < len3 ∧ k < len4 ∧ k < 40
    · obtain ⟨h1, h2, h3, h4, h5⟩ := hin
      obtain ⟨b1, o1, z1, rfl, HZ1, G1⟩ := D1.out.any h1
      obtain ⟨b2, o2, zf, rfl, _, G2⟩ := D2.out.any h2
      obtain ⟨b3, o3, c, rfl, hc, G3⟩ := D3.out.at h3
      obtain ⟨b4, o4, t, rfl, ht, G4⟩ := D4.out.at h4
      have HTh := rhide ht
      clear hc ht
      have i1 : (k : Int) < (len1 : Int) := by omega
      have i2 : (k : Int) < (len2 : Int) := by omega
      have i3 : (k : Int) < (len3 : Int) := by omega
      have i4 : (k : Int) < (len4 : Int) := by omega
      have i5 : (k : Int) < 40 := by omega
      have c1 := G1.out wr HI.out.below
      have c2 := G2.out wr HI.out.below
      obtain ⟨g0, g1, g2, g3, g4, g5⟩ := G3.out wr HI.out.below
      obtain ⟨t0, t1, t2, t3, t4⟩ := G4.out wr HI.out.below
      have hq' := rem5s HZ1.out
      clear HZ1
      go_upto_block 2 with fail
      go_cut [] from 62 to 164 (fun wc => ∃ M, Fit M ∧ Both w wc 3 M)
      case first =>
        rcases hq' with hq | hq | hq | hq | hq
        · as_aux_lemma =>
            obtain ⟨M1, hT⟩ : ∃ M1, M1 = mkM 3 M zf t := ⟨_, rfl⟩
            obtain ⟨E, hE⟩ : ∃ E, E = mkE 3 zf t := ⟨_, rfl⟩
            have HFT : Hid (Fit M1) := by rw [hT]; exact Pthd.fit_mk HF.out 3 zf t
            have HA : Hid (∀ wc, Below wr.heap.size wr wc → Calls Tryz.prog 5 #[.pointer (some ⟨p, 0, none⟩), .int .i64 zf, .agg #[.int .i64 t.st, .int .i64 t.co, .int .i64 t.tc, .int .i64 t.rc, .int .i64 t.de]] wc fun e w' => e = .returned (.int .i64 E) ∧ Half w w' 3 M M1) := fun wc h => by
              have HG := HI.out.grown h
              have := Pthd.make_any (w.heap.size + 1) w.heap.size 3 zf t M wc (both_sx HG HT.out HF.out).mx HTh.out
              rw [HPQ.out.1, ← hE, ← hT] at this
              exact this.mono fun e w' ⟨h1, h2, h3⟩ => ⟨h1, HG.half (by rw [HPQ.out.1]; exact h2.mem) h3⟩
            have HB : Hid (∀ wa wc, Half w wa 3 M M1 → Below wa.heap.size wa wc → Calls Tryz.prog 6 #[.pointer (some ⟨q, 0, none⟩), .int .i64 zf, .agg #[.int .i64 t.st, .int .i64 t.co, .int .i64 t.tc, .int .i64 t.rc, .int .i64 t.de]] wc fun e w' => e = .returned (.int .i64 E) ∧ Both w w' 3 M1) := fun wa wc ha h => by
              have HG := ha.grown h
              have := Pthd.rmake_any (w.heap.size + 2) (w.heap.size + 2) 3 zf t M wc ⟨HG.ref, HF.out, by omega, by omega⟩
              rw [← hE, ← hT] at this
              rw [← HPQ.out.2]
              exact this.mono fun e w' ⟨h1, h2, h3, _⟩ => ⟨h1, HG.turn h2.ref h3⟩
            have bE : (E != E) = false := by simp
            clear hT hE
            go_wp2
            go_region_held3 (fun w' => w'.cell? ⟨b2, o2 + k, none⟩ = some (.int .i64 zf) ∧ w'.cell? ⟨b4, o4 + k * 5, none⟩ = some (.int .i64 t.st) ∧ w'.cell? ⟨b4, o4 + k * 5 + 1, none⟩ = some (.int .i64 t.co) ∧ w'.cell? ⟨b4, o4 + k * 5 + 2, none⟩ = some (.int .i64 t.tc) ∧ w'.cell? ⟨b4, o4 + k * 5 + 3, none⟩ = some (.int .i64 t.rc) ∧ w'.cell? ⟨b4, o4 + k * 5 + 4, none⟩ = some (.int .i64 t.de)) (first | (refine ⟨?_, ?_, ?_, ?_, ?_, ?_⟩ <;> with_reducible assumption) | go_keep)
            (first
              | (go_at_call 5; refine (HA.out _ (by first | exact Below.refl _ _ | exact (Below.refl _ _).drew | exact ((Below.refl _ _).drew).drew)).mono ?_; rintro e w3 ⟨rfl, h3⟩; have H3 : Hid (Half w w3 3 M M1) := h3; clear h3 c2 t0 t1 t2 t3 t4 HA; have c2 := G2.out w3 H3.out.below; obtain ⟨t0, t1, t2, t3, t4⟩ := G4.out w3 H3.out.below)
              | (go_at_call 6; refine (HB.out _ _ H3.out (by first | exact Below.refl _ _ | exact (Below.refl _ _).drew | exact ((Below.refl _ _).drew).drew)).mono ?_; rintro e w4 ⟨rfl, h4⟩; have H4 : Hid (Both w w4 3 M1) := h4; clear h4 c2 t0 t1 t2 t3 t4 HB H3; have c2 := G2.out w4 H4.out.below; obtain ⟨t0, t1, t2, t3, t4⟩ := G4.out w4 H4.out.below)
              | fail)
            all_goals
              go_wp2_with fail
              go_meet
              first | exact ⟨M1, HFT.out, H4.out⟩ | exact ⟨M1, HFT.out, H4.out.grown (Below.refl _ _).drew⟩
        · as_aux_lemma =>
            obtain ⟨M1, hT⟩ : ∃ M1, M1 = psM 3 M zf c := ⟨_, rfl⟩
            obtain ⟨E, hE⟩ : ∃ E, E = psE 3 M zf c := ⟨_, rfl⟩
            have HFT : Hid (Fit M1) := by rw [hT]; exact fit_ps HF.out 3 zf c
            have HA : Hid (∀ wc, Below wr.heap.size wr wc → Calls Tryz.prog 7 #[.pointer (some ⟨p, 0, none⟩), .int .i64 zf, .agg #[.int .i64 c.co, .int .i64 c.tb, .int .i64 c.pg, .int .i64 c.l, .int .i64 c.e, .int .i64 c.ip]] wc fun e w' => e = .returned (.int .i64 E) ∧ Half w w' 3 M M1) := fun wc h => by
              have HG := HI.out.grown h
              have := push_any (w.heap.size + 1) w.heap.size 3 zf c M wc (both_sx HG HT.out HF.out)
              rw [HPQ.out.1, ← hE, ← hT] at this
              exact this.mono fun e w' ⟨h1, h2, h3⟩ => ⟨h1, HG.half (by rw [HPQ.out.1]; exact h2.mx.mem) h3⟩
            have HB : Hid (∀ wa wc, Half w wa 3 M M1 → Below wa.heap.size wa wc → Calls Tryz.prog 8 #[.pointer (some ⟨q, 0, none⟩), .int .i64 zf, .agg #[.int .i64 c.co, .int .i64 c.tb, .int .i64 c.pg, .int .i64 c.l, .int .i64 c.e, .int .i64 c.ip]] wc fun e w' => e = .returned (.int .i64 E) ∧ Both w w' 3 M1) := fun wa wc ha h => by
              have HG := ha.grown h
              have := rpush_any (w.heap.size + 2) (w.heap.size + 2) 3 zf c M wc ⟨HG.ref, HF.out, by omega, by omega⟩
              rw [← hE, ← hT] at this
              rw [← HPQ.out.2]
              exact this.mono fun e w' ⟨h1, h2, h3, _⟩ => ⟨h1, HG.turn h2.ref h3⟩
            have bE : (E != E) = false := by simp
            clear hT hE
            go_wp2
            go_region_held3 (fun w' => w'.cell? ⟨b2, o2 + k, none⟩ = some (.int .i64 zf) ∧ w'.cell? ⟨b3, o3 + k * 6, none⟩ = some (.int .i64 c.co) ∧ w'.cell? ⟨b3, o3 + k * 6 + 1, none⟩ = some (.int .i64 c.tb) ∧ w'.cell? ⟨b3, o3 + k * 6 + 2, none⟩ = some (.int .i64 c.pg) ∧ w'.cell? ⟨b3, o3 + k * 6 + 3, none⟩ = some (.int .i64 c.l) ∧ w'.cell? ⟨b3, o3 + k * 6 + 4, none⟩ = some (.int .i64 c.e) ∧ w'.cell? ⟨b3, o3 + k * 6 + 5, none⟩ = some (.int .i64 c.ip)) (first | (refine ⟨?_, ?_, ?_, ?_, ?_, ?_, ?_⟩ <;> with_reducible assumption) | go_keep)
            (first
              | (go_at_call 7; refine (HA.out _ (by first | exact Below.refl _ _ | exact (Below.refl _ _).drew | exact ((Below.refl _ _).drew).drew)).mono ?_; rintro e w3 ⟨rfl, h3⟩; have H3 : Hid (Half w w3 3 M M1) := h3; clear h3 c2 g0 g1 g2 g3 g4 g5 HA; have c2 := G2.out w3 H3.out.below; obtain ⟨g0, g1, g2, g3, g4, g5⟩ := G3.out w3 H3.out.below)
              | (go_at_call 8; refine (HB.out _ _ H3.out (by first | exact Below.refl _ _ | exact (Below.refl _ _).drew | exact ((Below.refl _ _).drew).drew)).mono ?_; rintro e w4 ⟨rfl, h4⟩; have H4 : Hid (Both w w4 3 M1) := h4; clear h4 c2 g0 g1 g2 g3 g4 g5 HB H3; have c2 := G2.out w4 H4.out.below; obtain ⟨g0, g1, g2, g3, g4, g5⟩ := G3.out w4 H4.out.below)
              | fail)
            all_goals
              go_wp2_with fail
              go_meet
              first | exact ⟨M1, HFT.out, H4.out⟩ | exact ⟨M1, HFT.out, H4.out.grown (Below.refl _ _).drew⟩
        · as_aux_lemma =>
            obtain ⟨M1, hT⟩ : ∃ M1, M1 = psM 3 M zf c := ⟨_, rfl⟩
            obtain ⟨E, hE⟩ : ∃ E, E = psE 3 M zf c := ⟨_, rfl⟩
            have HFT : Hid (Fit M1) := by rw [hT]; exact fit_ps HF.out 3 zf c
            have HA : Hid (∀ wc, Below wr.heap.size wr wc → Calls Tryz.prog 7 #[.pointer (some ⟨p, 0, none⟩), .int .i64 zf, .agg #[.int .i64 c.co, .int .i64 c.tb, .int .i64 c.pg, .int .i64 c.l, .int .i64 c.e, .int .i64 c.ip]] wc fun e w' => e = .returned (.int .i64 E) ∧ Half w w' 3 M M1) := fun wc h => by
              have HG := HI.out.grown h
              have := push_any (w.heap.size + 1) w.heap.size 3 zf c M wc (both_sx HG HT.out HF.out)
              rw [HPQ.out.1, ← hE, ← hT] at this
              exact this.mono fun e w' ⟨h1, h2, h3⟩ => ⟨h1, HG.half (by rw [HPQ.out.1]; exact h2.mx.mem) h3⟩
            have HB : Hid (∀ wa wc, Half w wa 3 M M1 → Below wa.heap.size wa wc → Calls Tryz.prog 8 #[.pointer (some ⟨q, 0, none⟩), .int .i64 zf, .agg #[.int .i64 c.co, .int .i64 c.tb, .int .i64 c.pg, .int .i64 c.l, .int .i64 c.e, .int .i64 c.ip]] wc fun e w' => e = .returned (.int .i64 E) ∧ Both w w' 3 M1) := fun wa wc ha h => by
              have HG := ha.grown h
              have := rpush_any (w.heap.size + 2) (w.heap.size + 2) 3 zf c M wc ⟨HG.ref, HF.out, by omega, by omega⟩
              rw [← hE, ← hT] at this
              rw [← HPQ.out.2]
              exact this.mono fun e w' ⟨h1, h2, h3, _⟩ => ⟨h1, HG.turn h2.ref h3⟩
            have bE : (E != E) = false := by simp
            clear hT hE
            go_wp2
            go_region_held3 (fun w' => w'.cell? ⟨b2, o2 + k, none⟩ = some (.int .i64 zf) ∧ w'.cell? ⟨b3, o3 + k * 6, none⟩ = some (.int .i64 c.co) ∧ w'.cell? ⟨b3, o3 + k * 6 + 1, none⟩ = some (.int .i64 c.tb) ∧ w'.cell? ⟨b3, o3 + k * 6 + 2, none⟩ = some (.int .i64 c.pg) ∧ w'.cell? ⟨b3, o3 + k * 6 + 3, none⟩ = some (.int .i64 c.l) ∧ w'.cell? ⟨b3, o3 + k * 6 + 4, none⟩ = some (.int .i64 c.e) ∧ w'.cell? ⟨b3, o3 + k * 6 + 5, none⟩ = some (.int .i64 c.ip)) (first | (refine ⟨?_, ?_, ?_, ?_, ?_, ?_, ?_⟩ <;> with_reducible assumption) | go_keep)
            (first
              | (go_at_call 7; refine (HA.out _ (by first | exact Below.refl _ _ | exact (Below.refl _ _).drew | exact ((Below.refl _ _).drew).drew)).mono ?_; rintro e w3 ⟨rfl, h3⟩; have H3 : Hid (Half w w3 3 M M1) := h3; clear h3 c2 g0 g1 g2 g3 g4 g5 HA; have c2 := G2.out w3 H3.out.below; obtain ⟨g0, g1, g2, g3, g4, g5⟩ := G3.out w3 H3.out.below)
              | (go_at_call 8; refine (HB.out _ _ H3.out (by first | exact Below.refl _ _ | exact (Below.refl _ _).drew | exact ((Below.refl _ _).drew).drew)).mono ?_; rintro e w4 ⟨rfl, h4⟩; have H4 : Hid (Both w w4 3 M1) := h4; clear h4 c2 g0 g1 g2 g3 g4 g5 HB H3; have c2 := G2.out w4 H4.out.below; obtain ⟨g0, g1, g2, g3, g4, g5⟩ := G3.out w4 H4.out.below)
              | fail)
            all_goals
              go_wp2_with fail
              go_meet
              first | exact ⟨M1, HFT.out, H4.out⟩ | exact ⟨M1, HFT.out, H4.out.grown (Below.refl _ _).drew⟩
        · as_aux_lemma =>
            obtain ⟨M1, hT⟩ : ∃ M1, M1 = ppM 3 M zf := ⟨_, rfl⟩
            obtain ⟨E, hE⟩ : ∃ E, E = tpE 3 M zf := ⟨_, rfl⟩
            obtain ⟨X, hX⟩ : ∃ X, X = tpX 3 M zf := ⟨_, rfl⟩
            have HFT : Hid (Fit M1) := by rw [hT]; exact fit_pp HF.out 3 zf
            have HA : Hid (Calls Tryz.prog 9 #[.pointer (some ⟨p, 0, none⟩), .int .i64 zf] wr fun e w' => e = .returned (.tuple #[.agg #[.int .i64 X.co, .int .i64 X.tb, .int .i64 X.pg, .int .i64 X.l, .int .i64 X.e, .int .i64 X.ip], .int .i64 E]) ∧ Half w w' 3 M M1) := by
              have HG := HI.out
              have := pop_any (w.heap.size + 1) w.heap.size 3 zf M wr (both_sx HG HT.out HF.out)
              rw [HPQ.out.1, ← hE, ← hT, ← hX] at this
              exact this.mono fun e w' ⟨h1, h2, h3⟩ => ⟨h1, HG.half (by rw [HPQ.out.1]; exact h2.mx.mem) h3⟩
            have HB : Hid (∀ wa Da, Half w wa 3 M M1 ∧ RowR wa Da X → Calls Tryz.prog 10 #[.pointer (some ⟨q, 0, none⟩), .int .i64 zf] wa fun e w' => e = .returned (.tuple #[.agg #[.int .i64 X.co, .int .i64 X.tb, .int .i64 X.pg, .int .i64 X.l, .int .i64 X.e, .int .i64 X.ip], .int .i64 E]) ∧ Both w w' 3 M1 ∧ RowR w' Da X) := fun wa Da ha => by
              have HG := ha.1
              have := rpop_any (w.heap.size + 2) (w.heap.size + 2) 3 zf M wa ⟨HG.ref, HF.out, by omega, by omega⟩
              rw [← hE, ← hT, ← hX] at this
              rw [← HPQ.out.2]
              exact this.mono fun e w' ⟨h1, h2, h3, h4⟩ => ⟨h1, HG.turn h2.ref h3, ha.2.keep h4.t⟩
            have bE : (E != E) = false := by simp
            have hne := neqR X
            clear hT hE hX g0 g1 g2 g3 g4 g5
            go_upto_region 19 with (first
              | (go_at_call 9; refine HA.out.mono ?_; rintro e w3 ⟨rfl, h3⟩; have H3 : Hid (Half w w3 3 M M1) := h3; clear h3 c2 HA)
              | fail)
            have K3 : Half w (w3.alloc (.cells #[.int .i64 X.co, .int .i64 X.tb, .int .i64 X.pg, .int .i64 X.l, .int .i64 X.e, .int .i64 X.ip] 38)) 3 M M1 ∧ RowR (w3.alloc (.cells #[.int .i64 X.co, .int .i64 X.tb, .int .i64 X.pg, .int .i64 X.l, .int .i64 X.e, .int .i64 X.ip] 38)) w3.heap.size X := ⟨H3.out.grown (bal (Below.refl _ _) _), rowR_new w3 X⟩
            generalize w3.alloc _ = v3 at K3 ⊢
            generalize w3.heap.size = Da at K3 ⊢
            have H5 := rhide K3
            have c2 := G2.out v3 K3.1.below
            clear K3 H3
            go_upto_region 20 with (first
              | (go_at_call 10; refine (HB.out _ _ H5.out).mono ?_; rintro e w4 ⟨rfl, h4⟩; have H6 := rhide h4; clear h4 c2 HB H5)
              | fail)
            have K4 : Both w (w4.alloc (.cells #[.int .i64 X.co, .int .i64 X.tb, .int .i64 X.pg, .int .i64 X.l, .int .i64 X.e, .int .i64 X.ip] 38)) 3 M1 ∧ RowR (w4.alloc (.cells #[.int .i64 X.co, .int .i64 X.tb, .int .i64 X.pg, .int .i64 X.l, .int .i64 X.e, .int .i64 X.ip] 38)) Da X ∧ RowR (w4.alloc (.cells #[.int .i64 X.co, .int .i64 X.tb, .int .i64 X.pg, .int .i64 X.l, .int .i64 X.e, .int .i64 X.ip] 38)) w4.heap.size X := ⟨H6.out.1.grown (bal (Below.refl _ _) _), H6.out.2.on (bal (Below.refl _ _) _), rowR_new w4 X⟩
            generalize w4.alloc _ = v4 at K4 ⊢
            generalize w4.heap.size = Db at K4 ⊢
            have H7 := rhide K4
            clear K4 H6
            have x0 := H7.out.2.1.c0
            have x1 := H7.out.2.1.c1
            have x2 := H7.out.2.1.c2
            have x3 := H7.out.2.1.c3
            have x4 := H7.out.2.1.c4
            have x5 := H7.out.2.1.c5
            have y0 := H7.out.2.2.c0
            have y1 := H7.out.2.2.c1
            have y2 := H7.out.2.2.c2
            have y3 := H7.out.2.2.c3
            have y4 := H7.out.2.2.c4
            have y5 := H7.out.2.2.c5
            go_wp2_with fail
            go_meet
            exact ⟨M1, HFT.out, H7.out.1⟩
        · as_aux_lemma =>
            obtain ⟨M1, hT⟩ : ∃ M1, M1 = ipM 3 M zf c.ip := ⟨_, rfl⟩
            obtain ⟨E, hE⟩ : ∃ E, E = ipE 3 M zf c.ip := ⟨_, rfl⟩
            have HFT : Hid (Fit M1) := by rw [hT]; exact fit_ip HF.out 3 zf c.ip
            have HA : Hid (∀ wc, Below wr.heap.size wr wc → Calls Tryz.prog 11 #[.pointer (some ⟨p, 0, none⟩), .int .i64 zf, .int .i64 c.ip] wc fun e w' => e = .returned (.int .i64 E) ∧ Half w w' 3 M M1) := fun wc h => by
              have HG := HI.out.grown h
              have := ip_any (w.heap.size + 1) w.heap.size 3 zf c.ip M wc (both_sx HG HT.out HF.out)
              rw [HPQ.out.1, ← hE, ← hT] at this
              exact this.mono fun e w' ⟨h1, h2, h3⟩ => ⟨h1, HG.half (by rw [HPQ.out.1]; exact h2.mx.mem) h3⟩
            have HB : Hid (∀ wa wc, Half w wa 3 M M1 → Below wa.heap.size wa wc → Calls Tryz.prog 12 #[.pointer (some ⟨q, 0, none⟩), .int .i64 zf, .int .i64 c.ip] wc fun e w' => e = .returned (.int .i64 E) ∧ Both w w' 3 M1) := fun wa wc ha h => by
              have HG := ha.grown h
              have := rip_any (w.heap.size + 2) (w.heap.size + 2) 3 zf c.ip M wc ⟨HG.ref, HF.out, by omega, by omega⟩
              rw [← hE, ← hT] at this
              rw [← HPQ.out.2]
              exact this.mono fun e w' ⟨h1, h2, h3, _⟩ => ⟨h1, HG.turn h2.ref h3⟩
            have bE : (E != E) = false := by simp
            clear hT hE
            clear g0 g1 g2 g3 g4
            go_wp2
            go_region_held3 (fun w' => w'.cell? ⟨b2, o2 + k, none⟩ = some (.int .i64 zf) ∧ w'.cell? ⟨b3, o3 + k * 6 + 5, none⟩ = some (.int .i64 c.ip)) (first | (refine ⟨?_, ?_⟩ <;> with_reducible assumption) | go_keep)
            (first
              | (go_at_call 11; refine (HA.out _ (by first | exact Below.refl _ _ | exact (Below.refl _ _).drew | exact ((Below.refl _ _).drew).drew)).mono ?_; rintro e w3 ⟨rfl, h3⟩; have H3 : Hid (Half w w3 3 M M1) := h3; clear h3 c2 g5 HA; have c2 := G2.out w3 H3.out.below; obtain ⟨_, _, _, _, _, g5⟩ := G3.out w3 H3.out.below)
              | (go_at_call 12; refine (HB.out _ _ H3.out (by first | exact Below.refl _ _ | exact (Below.refl _ _).drew | exact ((Below.refl _ _).drew).drew)).mono ?_; rintro e w4 ⟨rfl, h4⟩; have H4 : Hid (Both w w4 3 M1) := h4; clear h4 c2 g5 HB H3; have c2 := G2.out w4 H4.out.below; obtain ⟨_, _, _, _, _, g5⟩ := G3.out w4 H4.out.below)
              | fail)
            all_goals
              go_wp2_with fail
              go_meet
              first | exact ⟨M1, HFT.out, H4.out⟩ | exact ⟨M1, HFT.out, H4.out.grown (Below.refl _ _).drew⟩
      case rest =>
        as_aux_lemma =>
          obtain ⟨M2, hF2, h4⟩ := hcut
          have H4 := rhide h4
          have HF2 := rhide hF2
          clear h4 hF2 c1 c2 g0 g1 g2 g3 g4 g5 t0 t1 t2 t3 t4 HI HF hq'
          have c2 := G2.out wc H4.out.below
          have HG : Hid (∀ wx, Both w wx 3 M2 → Calls Tryz.prog 13 #[.pointer (some ⟨p, 0, none⟩), .int .i64 zf] wx fun e w' => e = .returned (.tuple #[.agg #[.int .i64 (tpX 3 M2 zf).co, .int .i64 (tpX 3 M2 zf).tb, .int .i64 (tpX 3 M2 zf).pg, .int .i64 (tpX 3 M2 zf).l, .int .i64 (tpX 3 M2 zf).e, .int .i64 (tpX 3 M2 zf).ip], .int .i64 (tpE 3 M2 zf)]) ∧ Below wx.heap.size wx w') := fun wx h => by
            have := top_any (w.heap.size + 1) w.heap.size 3 zf M2 wx (both_sx h HT.out HF2.out)
            rwa [HPQ.out.1] at this
          have HH : Hid (∀ wx, Both w wx 3 M2 → Calls Tryz.prog 14 #[.pointer (some ⟨q, 0, none⟩), .int .i64 zf] wx fun e w' => e = .returned (.tuple #[.agg #[.int .i64 (tpX 3 M2 zf).co, .int .i64 (tpX 3 M2 zf).tb, .int .i64 (tpX 3 M2 zf).pg, .int .i64 (tpX 3 M2 zf).l, .int .i64 (tpX 3 M2 zf).e, .int .i64 (tpX 3 M2 zf).ip], .int .i64 (tpE 3 M2 zf)]) ∧ Below wx.heap.size wx w') := fun wx h => by
            have := rtop_any (w.heap.size + 2) (w.heap.size + 2) 3 zf M2 wx (both_rx h HF2.out)
            rwa [HPQ.out.2] at this
          have HAl : Hid (∀ wx, Both w wx 3 M2 → Calls Tryz.prog 15 #[.pointer (some ⟨p, 0, none⟩), .int .i64 zf] wx fun e w' => ∃ a cp, e = .returned (.tuple #[.slice a (alL 3 M2 zf).length cp, .int .i64 (alE 3 M2 zf)]) ∧ Recs w' 0 (.slice a (alL 3 M2 zf).length cp) (alL 3 M2 zf) ∧ Below wx.heap.size wx w') := fun wx h => by
            have := all_any (w.heap.size + 1) w.heap.size 3 zf M2 wx (both_sx h HT.out HF2.out)
            rw [HPQ.out.1] at this
            refine this.mono ?_
            rintro e w' ⟨v, rfl, r1, r2⟩
            obtain ⟨a, cp, rfl⟩ := r1.slice
            exact ⟨a, cp, rfl, zero_base r1, r2⟩
          have HBl : Hid (∀ wx, Both w wx 3 M2 → Calls Tryz.prog 16 #[.pointer (some ⟨q, 0, none⟩), .int .i64 zf] wx fun e w' => ∃ a cp, e = .returned (.tuple #[.slice a (alL 3 M2 zf).length cp, .int .i64 (alE 3 M2 zf)]) ∧ Recs w' 0 (.slice a (alL 3 M2 zf).length cp) (alL 3 M2 zf) ∧ Below wx.heap.size wx w') := fun wx h => by
            have := rall_any (w.heap.size + 2) (w.heap.size + 2) 3 zf M2 wx (both_rx h HF2.out)
            rw [HPQ.out.2] at this
            refine this.mono ?_
            rintro e w' ⟨v, rfl, r1, r2⟩
            obtain ⟨a, cp, rfl⟩ := r1.slice
            exact ⟨a, cp, rfl, zero_base r1, r2⟩
          generalize tpX 3 M2 zf = Y at HG HH
          generalize tpE 3 M2 zf = E at HG HH
          have hl6 := al_len 3 M2 zf
          generalize alL 3 M2 zf = L at HAl HBl hl6
          generalize alE 3 M2 zf = E2 at HAl HBl
          go_upto_region 23 with (first
            | (go_at_call 13; refine (HG.out _ H4.out).mono ?_; rintro e w5 ⟨rfl, hB5⟩; have H5 := rhide (H4.out.grown hB5); clear hB5 c2)
            | fail)
          have K5 : Both w (w5.alloc (.cells #[.int .i64 Y.co, .int .i64 Y.tb, .int .i64 Y.pg, .int .i64 Y.l, .int .i64 Y.e, .int .i64 Y.ip] 38)) 3 M2 ∧ RowR (w5.alloc (.cells #[.int .i64 Y.co, .int .i64 Y.tb, .int .i64 Y.pg, .int .i64 Y.l, .int .i64 Y.e, .int .i64 Y.ip] 38)) w5.heap.size Y := ⟨H5.out.grown (bal (Below.refl _ _) _), rowR_new w5 Y⟩
          generalize w5.alloc _ = v5 at K5 ⊢
          generalize w5.heap.size = Da at K5 ⊢
          have H6 := rhide K5
          clear K5 H5 H4 HG
          have c2 := G2.out v5 H6.out.1.below
          go_upto_region 24 with (first
            | (go_at_call 14; refine (HH.out _ H6.out.1).mono ?_; rintro e w7 ⟨rfl, hB7⟩; have H7 : Hid (Both w w7 3 M2 ∧ RowR w7 Da Y) := ⟨H6.out.1.grown hB7, H6.out.2.on hB7⟩; clear hB7 c2 HH H6)
            | fail)
          have K7 : Kd w (w7.alloc (.cells #[.int .i64 Y.co, .int .i64 Y.tb, .int .i64 Y.pg, .int .i64 Y.l, .int .i64 Y.e, .int .i64 Y.ip] 38)) M2 Da w7.heap.size Y := ⟨H7.out.1.grown (bal (Below.refl _ _) _), H7.out.2.on (bal (Below.refl _ _) _), rowR_new w7 Y⟩
          generalize w7.alloc _ = v7 at K7 ⊢
          generalize w7.heap.size = Db at K7 ⊢
          have H8 := rhide K7
          clear K7 H7
          have c2 := G2.out v7 H8.out.both.below
          go_upto_region 26 with (first
            | (go_at_call 15; refine (HAl.out _ H8.out.both).mono ?_; rintro e w9 ⟨b1', cp1, rfl, r1, hB⟩; have H9 := rhide (H8.out.on hB); have HR1 := rhide r1; clear r1 hB c2 HAl H8; have c2 := G2.out w9 H9.out.both.below)
            | (go_at_call 16; refine (HBl.out _ H9.out.both).mono ?_; rintro e wA ⟨b2', cp2, rfl, r2, hB⟩; have HK0 : Hid (Kt w wA M2 Da Db Y L b1' cp1 b2' cp2) := ⟨(H9.out.on hB).both, (H9.out.on hB).xa, (H9.out.on hB).xb, HR1.out.on hB, r2⟩; clear r2 hB c2 HBl H9 HR1)
            | fail)
          have HS : Hid (∀ wx, Kt w wx M2 Da Db Y L b1' cp1 b2' cp2 → Calls Tryz.prog 17 #[.agg #[.int .i64 c.co, .int .i64 c.tb, .int .i64 c.pg, .int .i64 c.l, .int .i64 c.e, .int .i64 c.ip]] wx fun e w' => e = .returned (.int .i64 (rkE c)) ∧ Below wx.heap.size wx w') := fun wx h => check_any c wx
          have HC : Hid (∀ wx, Kt w wx M2 Da Db Y L b1' cp1 b2' cp2 → Calls Tryz.prog 18 #[.agg #[.int .i64 c.co, .int .i64 c.tb, .int .i64 c.pg, .int .i64 c.l, .int .i64 c.e, .int .i64 c.ip]] wx fun e w' => e = .returned (.int .i64 (rkE c)) ∧ Below wx.heap.size wx w') := fun wx h => rrcheck_any c wx
          have HA : Hid (∀ wx, Kt w wx M2 Da Db Y L b1' cp1 b2' cp2 → Calls Tryz.prog 19 #[.pointer (some ⟨p, 0, none⟩), .pointer (some ⟨q, 0, none⟩)] wx fun e w' => e = .returned (.bool true) ∧ Below wx.heap.size wx w') := fun wx h => by
            have := alike_any 3 M2 w wx (by omega) (by omega) h.both
            rwa [HPQ.out.1, HPQ.out.2] at this
          generalize rkE c = I at HS HC
          have hne := neqR Y
          have bE : (E != E) = false := by simp
          have bE2 : (E2 != E2) = false := by simp
          have bI : (I != I) = false := by simp
          have bL : ((L.length : Int) != (L.length : Int)) = false := by simp
          have x0 := HK0.out.xa.c0
          have x1 := HK0.out.xa.c1
          have x2 := HK0.out.xa.c2
          have x3 := HK0.out.xa.c3
          have x4 := HK0.out.xa.c4
          have x5 := HK0.out.xa.c5
          have y0 := HK0.out.xb.c0
          have y1 := HK0.out.xb.c1
          have y2 := HK0.out.xb.c2
          have y3 := HK0.out.xb.c3
          have y4 := HK0.out.xb.c4
          have y5 := HK0.out.xb.c5
          obtain ⟨g0, g1, g2, g3, g4, g5⟩ := G3.out wA HK0.out.both.below
          go_region_held3 (fun w' => w'.cell? ⟨Da, 0, none⟩ = some (.int .i64 Y.co) ∧ w'.cell? ⟨Da, 1, none⟩ = some (.int .i64 Y.tb) ∧ w'.cell? ⟨Da, 2, none⟩ = some (.int .i64 Y.pg) ∧ w'.cell? ⟨Da, 3, none⟩ = some (.int .i64 Y.l) ∧ w'.cell? ⟨Da, 4, none⟩ = some (.int .i64 Y.e) ∧ w'.cell? ⟨Da, 5, none⟩ = some (.int .i64 Y.ip) ∧ w'.cell? ⟨Db, 0, none⟩ = some (.int .i64 Y.co) ∧ w'.cell? ⟨Db, 1, none⟩ = some (.int .i64 Y.tb) ∧ w'.cell? ⟨Db, 2, none⟩ = some (.int .i64 Y.pg) ∧ w'.cell? ⟨Db, 3, none⟩ = some (.int .i64 Y.l) ∧ w'.cell? ⟨Db, 4, none⟩ = some (.int .i64 Y.e) ∧ w'.cell? ⟨Db, 5, none⟩ = some (.int .i64 Y.ip) ∧ w'.cell? ⟨b3, o3 + k * 6, none⟩ = some (.int .i64 c.co) ∧ w'.cell? ⟨b3, o3 + k * 6 + 1, none⟩ = some (.int .i64 c.tb) ∧ w'.cell? ⟨b3, o3 + k * 6 + 2, none⟩ = some (.int .i64 c.pg) ∧ w'.cell? ⟨b3, o3 + k * 6 + 3, none⟩ = some (.int .i64 c.l) ∧ w'.cell? ⟨b3, o3 + k * 6 + 4, none⟩ = some (.int .i64 c.e) ∧ w'.cell? ⟨b3, o3 + k * 6 + 5, none⟩ = some (.int .i64 c.ip)) (first | (refine ⟨?_, ?_, ?_, ?_, ?_, ?_, ?_, ?_, ?_, ?_, ?_, ?_, ?_, ?_, ?_, ?_, ?_, ?_⟩ <;> with_reducible assumption) | go_keep)
          (first
            | (go_at_call 17; refine (HS.out _ (by first | exact HK0.out | exact HK0.out.on (Below.refl _ _).drew)).mono ?_; rintro e wu ⟨rfl, hB⟩; have Hu : Hid (Kt w wu M2 Da Db Y L b1' cp1 b2' cp2) := HK0.out.on (by first | exact hB | exact (Below.refl _ _).drew.trans hB); clear hB HS; clear x0 x1 x2 x3 x4 x5 y0 y1 y2 y3 y4 y5 g0 g1 g2 g3 g4 g5; have x0 := Hu.out.xa.c0; have x1 := Hu.out.xa.c1; have x2 := Hu.out.xa.c2; have x3 := Hu.out.xa.c3; have x4 := Hu.out.xa.c4; have x5 := Hu.out.xa.c5; have y0 := Hu.out.xb.c0; have y1 := Hu.out.xb.c1; have y2 := Hu.out.xb.c2; have y3 := Hu.out.xb.c3; have y4 := Hu.out.xb.c4; have y5 := Hu.out.xb.c5; obtain ⟨g0, g1, g2, g3, g4, g5⟩ := G3.out wu Hu.out.both.below)
            | (go_at_call 18; refine (HC.out _ (by first | exact Hu.out | exact Hu.out.on (Below.refl _ _).drew)).mono ?_; rintro e wv ⟨rfl, hB⟩; have Hv : Hid (Kt w wv M2 Da Db Y L b1' cp1 b2' cp2) := Hu.out.on (by first | exact hB | exact (Below.refl _ _).drew.trans hB); clear hB HC; clear x0 x1 x2 x3 x4 x5 y0 y1 y2 y3 y4 y5 g0 g1 g2 g3 g4 g5; have x0 := Hv.out.xa.c0; have x1 := Hv.out.xa.c1; have x2 := Hv.out.xa.c2; have x3 := Hv.out.xa.c3; have x4 := Hv.out.xa.c4; have x5 := Hv.out.xa.c5; have y0 := Hv.out.xb.c0; have y1 := Hv.out.xb.c1; have y2 := Hv.out.xb.c2; have y3 := Hv.out.xb.c3; have y4 := Hv.out.xb.c4; have y5 := Hv.out.xb.c5; obtain ⟨g0, g1, g2, g3, g4, g5⟩ := G3.out wv Hv.out.both.below)
            | (go_at_call 19; refine (HA.out _ (by first | exact Hv.out | exact Hv.out.on (Below.refl _ _).drew)).mono ?_; rintro e wy ⟨rfl, hB⟩; have Hy : Hid (Kt w wy M2 Da Db Y L b1' cp1 b2' cp2) := Hv.out.on (by first | exact hB | exact (Below.refl _ _).drew.trans hB); clear hB HA; clear x0 x1 x2 x3 x4 x5 y0 y1 y2 y3 y4 y5 g0 g1 g2 g3 g4 g5; have x0 := Hy.out.xa.c0; have x1 := Hy.out.xa.c1; have x2 := Hy.out.xa.c2; have x3 := Hy.out.xa.c3; have x4 := Hy.out.xa.c4; have x5 := Hy.out.xa.c5; have y0 := Hy.out.xb.c0; have y1 := Hy.out.xb.c1; have y2 := Hy.out.xb.c2; have y3 := Hy.out.xb.c3; have y4 := Hy.out.xb.c4; have y5 := Hy.out.xb.c5; obtain ⟨g0, g1, g2, g3, g4, g5⟩ := G3.out wy Hy.out.both.below)
            | fail)
          go_wp2
          go_loopw [26] (fun i wr => ∃ j : Nat, j ≤ L.length ∧ i = .int .i64 j ∧ Kt w wr M2 Da Db Y L b1' cp1 b2' cp2) (fun i _ => L.length - (intOf i).toNat)
          case atStart => first | exact ⟨0, by omega, rfl, Hy.out⟩ | exact ⟨0, by omega, rfl, Hy.out.on (Below.refl _ _).drew⟩
          case round =>
            obtain ⟨j, hj0, rfl, hJ⟩ := hrel
            have HJ := rhide hJ
            clear hJ Hy x0 x1 x2 x3 x4 x5 y0 y1 y2 y3 y4 y5 g0 g1 g2 g3 g4 g5
            by_cases hjn : j < L.length
            · have n1 : (j : Int) < (L.length : Int) := by omega
              have hwj : wrap64 ((j : Int) + 1) = (j : Int) + 1 := by unfold wrap64; omega
              obtain ⟨x, hx⟩ : ∃ x, L[j]? = some x := ⟨_, List.getElem?_eq_getElem hjn⟩
              obtain ⟨ga, rfl, _, _, q0, q1, q2, q3, q4, q5⟩ := HJ.out.one.at hx
              obtain ⟨gb, rfl, _, _, r0, r1, r2, r3, r4, r5⟩ := HJ.out.two.at hx
              have hnx := neqR x
              clear hx
              go_wp2
              go_region
              go_wp2
              go_roundw
              case rel => first | exact ⟨j + 1, by omega, by go_num, HJ.out⟩ | exact ⟨j + 1, by omega, by go_num, HJ.out.on (Below.refl _ _).drew⟩
              case measure => simp [intOf]; omega
            · go_wp2
              go_roundw
              case rel => exact ⟨k + 1, by omega, by go_num, M2, HF2.out, HJ.out.both⟩
              case measure => simp [intOf]; omega
    · have hin' : ¬ k < len1 ∨ (k < len1 ∧ ¬ k < len2) ∨ (k < len1 ∧ k < len2 ∧ ¬ k < len3) ∨ (k < len1 ∧ k < len2 ∧ k < len3 ∧ ¬ k < len4) ∨ (k < len1 ∧ k < len2 ∧ k < len3 ∧ k < len4 ∧ ¬ k < 40) := by omega
      clear hin
      rcases hin' with h1 | ⟨h1, h2⟩ | ⟨h1, h2, h3⟩ | ⟨h1, h2, h3, h4⟩ | ⟨h1, h2, h3, h4, h5⟩
      all_goals
        go_wp2_with (first
          | (go_at_call 20; refine (awake_any _ (HT.out.on HI.out.below)).mono ?_; rintro e w8 ⟨rfl, hB8⟩; have H8 : Hid (Below w.heap.size w w8) := HI.out.below.trans (hB8.mono HI.out.below.size); clear hB8)
          | fail)
        go_ret
        exact ⟨rfl, H8.out⟩
end Go.Proofs.YtoipfcmjphlmfaaGreatDoor.Pstack
