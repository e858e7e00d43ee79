/- The walk of TcapPlays over the program's contracts (written by mk_plays.py). -/
import Derived.Test.YtlnckhebikiclaaDoorTcpT
import Derived.Test.YtlnckhebikiclaaDoorTcpI
import Derived.Test.YtlnckhebikiclaaDoorBunMem
import Derived.Deep.CutBlock
import Derived.Deep.RegionHeld3
import Derived.BigRegion
namespace Go.Proofs.YtlnckhebikiclaaDoor.Ptcap
open Go.Proofs.YtlnckhebikiclaaDoor.Pbase Go.Proofs.YtlnckhebikiclaaDoor.Pfield Go.Proofs.YtlnckhebikiclaaDoor.Play Go.Proofs.YtlnckhebikiclaaDoor.Pmem
open Go.RowKit M
set_option linter.unusedVariables false

/-- What the walk asks of the program. -/
structure Prg (w : World) : Prop where
  make : ∀ wc M (f : Int) (c : Bd), Fb c → MemIs wc (w.heap.size + 1) w.heap.size 4 M → Fit M → Below w.heap.size w wc → Calls Tryd.prog 7 #[.pointer (some ⟨w.heap.size + 1, 0, none⟩), .int .i64 f, .agg #[.bool c.inf, .int .i64 c.lf, .int .i64 c.pr]] wc fun e w' => e = .returned (.int .i64 (mkE 4 f c)) ∧ MemIs w' (w.heap.size + 1) w.heap.size 4 (mkM 4 M f c) ∧ But w.heap.size wc w'
  put : ∀ wc M (f : Int) (c : Bd), Fb c → MemIs wc (w.heap.size + 1) w.heap.size 4 M → Fit M → Below w.heap.size w wc → Calls Tryd.prog 9 #[.pointer (some ⟨w.heap.size + 1, 0, none⟩), .int .i64 f, .agg #[.bool c.inf, .int .i64 c.lf, .int .i64 c.pr]] wc fun e w' => e = .returned (.int .i64 (puE 4 M f c)) ∧ MemIs w' (w.heap.size + 1) w.heap.size 4 (puM 4 M f c) ∧ But w.heap.size wc w'
  give : ∀ wc M (f g n p : Int), In64 n → In64 p → MemIs wc (w.heap.size + 1) w.heap.size 4 M → Fit M → Below w.heap.size w wc → Calls Tryd.prog 11 #[.pointer (some ⟨w.heap.size + 1, 0, none⟩), .int .i64 f, .int .i64 g, .int .i64 n, .int .i64 p] wc fun e w' => e = .returned (.int .i64 (gvE 4 M f g n p)) ∧ MemIs w' (w.heap.size + 1) w.heap.size 4 (gvM 4 M f g n p) ∧ But w.heap.size wc w'
  charge : ∀ wc M (f n : Int), In64 n → MemIs wc (w.heap.size + 1) w.heap.size 4 M → Fit M → Below w.heap.size w wc → Calls Tryd.prog 13 #[.pointer (some ⟨w.heap.size + 1, 0, none⟩), .int .i64 f, .int .i64 n] wc fun e w' => e = .returned (.tuple #[.bool (chB 4 M f n), .int .i64 (chE 4 M f n)]) ∧ MemIs w' (w.heap.size + 1) w.heap.size 4 (chM 4 M f n) ∧ But w.heap.size wc w'
  get : ∀ wc M (f : Int), MemIs wc (w.heap.size + 1) w.heap.size 4 M → Fit M → Below w.heap.size w wc → Calls Tryd.prog 15 #[.pointer (some ⟨w.heap.size + 1, 0, none⟩), .int .i64 f] wc fun e w' => e = .returned (.tuple #[.agg #[.bool (gtT 4 M f).inf, .int .i64 (gtT 4 M f).lf, .int .i64 (gtT 4 M f).pr], .int .i64 (gtE 4 M f)]) ∧ Below wc.heap.size wc w'
  can : ∀ wc M (f : Int), MemIs wc (w.heap.size + 1) w.heap.size 4 M → Fit M → Below w.heap.size w wc → Calls Tryd.prog 17 #[.pointer (some ⟨w.heap.size + 1, 0, none⟩), .int .i64 f] wc fun e w' => e = .returned (.bool (cnB 4 M f)) ∧ Below wc.heap.size wc w'
  sum : ∀ wc M, MemIs wc (w.heap.size + 1) w.heap.size 4 M → Fit M → Below w.heap.size w wc → Calls Tryd.prog 19 #[.pointer (some ⟨w.heap.size + 1, 0, none⟩)] wc fun e w' => e = .returned (.int .i64 (smK 4 M 4)) ∧ Below wc.heap.size wc w'
  check : ∀ wc (c : Bd), Fb c → Below w.heap.size w wc → Calls Tryd.prog 21 #[.agg #[.bool c.inf, .int .i64 c.lf, .int .i64 c.pr]] wc fun e w' => e = .returned (.int .i64 (ckE c)) ∧ Below wc.heap.size wc w'
  awake : ∀ wc, Below w.heap.size w wc → Calls Tryd.prog 24 #[] wc fun e w' => e = .returned (.bool true) ∧ Below wc.heap.size wc w'
theorem rem4t {z : Int} (h : (Lit.int .u8 z).wf = true) : z.tmod 4 = 0 ∨ z.tmod 4 = 1 ∨ z.tmod 4 = 2 ∨ z.tmod 4 = 3 := by
  obtain ⟨r, h1, h2⟩ := rem_u8 h 4 (by omega)
  have : z.tmod 4 = (r : Int) := h1
  omega
theorem i64_wf {a : Int} (h : (Lit.int .i64 a).wf = true) : In64 a := by
  have h' : (decide (IntKind.i64.min ≤ a) && decide (a ≤ IntKind.i64.max)) = true := h
  have e1 : IntKind.i64.min = -9223372036854775808 := by decide
  have e2 : IntKind.i64.max = 9223372036854775807 := by decide
  rw [e1, e2] at h'
  unfold In64
  simpa using h'
theorem both_rx {w wr : World} {M : Nat → Nat → Int} (h : Both w wr 4 M) (hF : Fit M) : Rx wr (w.heap.size + 2) (w.heap.size + 2) 4 M := ⟨h.ref, hF, by omega, by omega⟩
/-- The memories and two budgets. -/
structure Kd (w W : World) (M : Nat → Nat → Int) (Da Db : Nat) (Y : Bd) : Prop where
  both : Both w W 4 M
  xa : RowB W Da Y
  xb : RowB W Db Y
theorem Kd.on {w W W' : World} {M : Nat → Nat → Int} {Da Db : Nat} {Y : Bd} (h : Kd w W M Da Db Y) (hB : Below W.heap.size W W') : Kd w W' M Da Db Y := ⟨h.both.grown hB, h.xa.on hB, h.xb.on hB⟩
set_option maxRecDepth 100000 in
set_option maxHeartbeats 40000000 in
theorem plays_walk (a0 : Option Addr) (len0 cap0 : Nat) (a1 : Option Addr) (len1 cap1 : Nat) (a2 : Option Addr) (len2 cap2 : Nat) (a3 : Option Addr) (len3 cap3 : Nat) (a4 : Option Addr) (len4 cap4 : Nat) (a5 : Option Addr) (len5 cap5 : Nat) (w : World) (w0 : Hid (Came .u64 w.heap.size w a0 len0)) (l0 : len0 ≤ 9223372036854775807) (D1 : Hid (Came .u8 w.heap.size w a1 len1)) (l1 : len1 ≤ 9223372036854775807) (D2 : Hid (Came .i64 w.heap.size w a2 len2)) (l2 : len2 ≤ 9223372036854775807) (D3 : Hid (Came .i64 w.heap.size w a3 len3)) (l3 : len3 ≤ 9223372036854775807) (D4 : Hid (CameB w.heap.size w a4 len4)) (l4 : len4 ≤ 9223372036854775807) (D5 : Hid (Came .i64 w.heap.size w a5 len5)) (l5 : len5 ≤ 9223372036854775807) (HP : Hid (Prg w)) :
    Calls Tryd.prog 3 #[.slice a0 len0 cap0, .slice a1 len1 cap1, .slice a2 len2 cap2, .slice a3 len3 cap3, .slice a4 len4 cap4, .slice a5 len5 cap5] w fun e w' => e = .returned (.bool true) ∧ Below w.heap.size w w' := by
  go_enter Tryd.func3, Tryd.ntmps3
  go_wp2_with (first
    | (go_at_call 6; refine (laid_any a0 len0 cap0 4 _ (by omega) (by omega) w0 l0).mono ?_; rintro e1 w1 ⟨rfl, M0, hF0, hB0⟩; have HI0 : Hid (∃ M, Fit M ∧ Both w w1 4 M) := ⟨M0, hF0, hB0⟩; clear hF0 hB0)
    | fail)
  have HPQ0 : w.heap.size + 1 = w.heap.size + 1 ∧ w.heap.size + 2 = w.heap.size + 2 := ⟨rfl, rfl⟩
  generalize hp : w.heap.size + 1 = p
  generalize hq : w.heap.size + 2 = q
  have HPQ : Hid (w.heap.size + 1 = p ∧ w.heap.size + 2 = q) := ⟨hp, hq⟩
  clear hp hq HPQ0 w0 l0
  go_loopw [15] (fun i wr => ∃ k : Nat, k ≤ len1 ∧ i = .int .i64 k ∧ ∃ M, Fit M ∧ Both w wr 4 M) (fun i _ => len1 - (intOf i).toNat)
  case atStart => exact ⟨0, by omega, rfl, HI0.out⟩
  case round =>
    obtain ⟨k, hk0, rfl, M, hF, hI⟩ := hrel
    have HI := rhide hI
    have HF := rhide hF
    clear hI hF HI0
    by_cases hin : k < len1 ∧ k < len2 ∧ k < len3 ∧ k < len4 ∧ k < len5 ∧ k < 40
    · obtain ⟨h1, h2, h3, h4, h5, h6⟩ := hin
      obtain ⟨b1, o1, z1, rfl, HZ1, G1⟩ := D1.out.any h1
      obtain ⟨b2, o2, zf, rfl, _, G2⟩ := D2.out.any h2
      obtain ⟨b3, o3, zg, rfl, _, G3⟩ := D3.out.any h3
      obtain ⟨b4, o4, c, rfl, hc, G4⟩ := D4.out.at h4
      obtain ⟨b5, o5, zn, rfl, HZ5, G5⟩ := D5.out.any h5
      have HC := rhide hc
      have HZn := rhide (i64_wf HZ5.out)
      clear hc HZ5
      have i1 : (k : Int) < (len1 : Int) := by omega
      have i2 : (k : Int) < (len2 : Int) := by omega
      have i3 : (k : Int) < (len3 : Int) := by omega
      have i4 : (k : Int) < (len4 : Int) := by omega
      have i5 : (k : Int) < (len5 : Int) := by omega
      have i6 : (k : Int) < 40 := by omega
      have c1 := G1.out wr HI.out.below
      have c2 := G2.out wr HI.out.below
      have c3 := G3.out wr HI.out.below
      have c5 := G5.out wr HI.out.below
      obtain ⟨g0, g1, g2⟩ := G4.out wr HI.out.below
      have hq' := rem4t HZ1.out
      clear HZ1
      go_upto_block 2 with fail
      go_cut [16, 17] from 67 to 186 (fun vx vy wc => ∃ M E, vx = .int .i64 E ∧ vy = .int .i64 E ∧ Fit M ∧ Both w wc 4 M)
      case first =>
        rcases hq' with hq | hq | hq | hq
        · as_aux_lemma =>
            clear c3 c5
            obtain ⟨M1, hT⟩ : ∃ M1, M1 = mkM 4 M zf c := ⟨_, rfl⟩
            obtain ⟨E, hE⟩ : ∃ E, E = mkE 4 zf c := ⟨_, rfl⟩
            have HFT : Hid (Fit M1) := by rw [hT]; exact fit_mk HF.out 4 zf c
            have HA : Hid (∀ wa wc, Both w wa 4 M → Below wa.heap.size wa wc → Calls Tryd.prog 7 #[.pointer (some ⟨p, 0, none⟩), .int .i64 zf, .agg #[.bool c.inf, .int .i64 c.lf, .int .i64 c.pr]] wc fun e w' => e = .returned (.int .i64 E) ∧ Half w w' 4 M M1) := fun wa wc ha h => by
              have HG := ha.grown h
              have := HP.out.make wc M zf c HC.out HG.mem HF.out HG.below
              rw [HPQ.out.1, ← hE, ← hT] at this
              exact this.mono fun e w' ⟨h1, h2, h3⟩ => ⟨h1, HG.half (by rw [HPQ.out.1]; exact h2) h3⟩
            have HB : Hid (∀ wa wc, Half w wa 4 M M1 → Below wa.heap.size wa wc → Calls Tryd.prog 8 #[.pointer (some ⟨q, 0, none⟩), .int .i64 zf, .agg #[.bool c.inf, .int .i64 c.lf, .int .i64 c.pr]] wc fun e w' => e = .returned (.int .i64 E) ∧ Both w w' 4 M1) := fun wa wc ha h => by
              have HG := ha.grown h
              have := rmake_any (w.heap.size + 2) (w.heap.size + 2) 4 zf c M wc ⟨HG.ref, HF.out, by omega, by omega⟩
              rw [← hE, ← hT] at this
              rw [← HPQ.out.2]
              exact this.mono fun e w' ⟨h1, h2, h3, _⟩ => ⟨h1, HG.turn h2.ref h3⟩
            clear hT hE
            go_wp2
            go_region_held3 (fun w' => w'.cell? ⟨b2, o2 + k, none⟩ = some (.int .i64 zf) ∧ w'.cell? ⟨b4, o4 + k * 3, none⟩ = some (.bool c.inf) ∧ w'.cell? ⟨b4, o4 + k * 3 + 1, none⟩ = some (.int .i64 c.lf) ∧ w'.cell? ⟨b4, o4 + k * 3 + 2, none⟩ = some (.int .i64 c.pr)) (first | (refine ⟨?_, ?_, ?_, ?_⟩ <;> with_reducible assumption) | go_keep)
            (first
              | (go_at_call 7; refine (HA.out _ _ HI.out (by first | exact Below.refl _ _ | exact (Below.refl _ _).drew | exact ((Below.refl _ _).drew).drew)).mono ?_; rintro e w3 ⟨rfl, hj⟩; have H3 := rhide hj; clear hj c2 g0 g1 g2 HA HI; have c2 := G2.out w3 H3.out.below; obtain ⟨g0, g1, g2⟩ := G4.out w3 H3.out.below)
              | fail)
            go_wp2
            go_region_held3 (fun w' => w'.cell? ⟨b2, o2 + k, none⟩ = some (.int .i64 zf) ∧ w'.cell? ⟨b4, o4 + k * 3, none⟩ = some (.bool c.inf) ∧ w'.cell? ⟨b4, o4 + k * 3 + 1, none⟩ = some (.int .i64 c.lf) ∧ w'.cell? ⟨b4, o4 + k * 3 + 2, none⟩ = some (.int .i64 c.pr)) (first | (refine ⟨?_, ?_, ?_, ?_⟩ <;> with_reducible assumption) | go_keep)
            (first
              | (go_at_call 8; refine (HB.out _ _ H3.out (by first | exact Below.refl _ _ | exact (Below.refl _ _).drew | exact ((Below.refl _ _).drew).drew)).mono ?_; rintro e w4 ⟨rfl, hj⟩; have H4 := rhide hj; clear hj c2 g0 g1 g2 HB H3; have c2 := G2.out w4 H4.out.below; obtain ⟨g0, g1, g2⟩ := G4.out w4 H4.out.below)
              | fail)
            go_wp2_with fail
            go_meet
            first | exact ⟨M1, E, rfl, rfl, HFT.out, H4.out⟩ | exact ⟨M1, E, rfl, rfl, HFT.out, H4.out.grown (Below.refl _ _).drew⟩
        · as_aux_lemma =>
            clear c3 c5
            obtain ⟨M1, hT⟩ : ∃ M1, M1 = puM 4 M zf c := ⟨_, rfl⟩
            obtain ⟨E, hE⟩ : ∃ E, E = puE 4 M zf c := ⟨_, rfl⟩
            have HFT : Hid (Fit M1) := by rw [hT]; exact fit_pu HF.out 4 zf c
            have HA : Hid (∀ wa wc, Both w wa 4 M → Below wa.heap.size wa wc → Calls Tryd.prog 9 #[.pointer (some ⟨p, 0, none⟩), .int .i64 zf, .agg #[.bool c.inf, .int .i64 c.lf, .int .i64 c.pr]] wc fun e w' => e = .returned (.int .i64 E) ∧ Half w w' 4 M M1) := fun wa wc ha h => by
              have HG := ha.grown h
              have := HP.out.put wc M zf c HC.out HG.mem HF.out HG.below
              rw [HPQ.out.1, ← hE, ← hT] at this
              exact this.mono fun e w' ⟨h1, h2, h3⟩ => ⟨h1, HG.half (by rw [HPQ.out.1]; exact h2) h3⟩
            have HB : Hid (∀ wa wc, Half w wa 4 M M1 → Below wa.heap.size wa wc → Calls Tryd.prog 10 #[.pointer (some ⟨q, 0, none⟩), .int .i64 zf, .agg #[.bool c.inf, .int .i64 c.lf, .int .i64 c.pr]] wc fun e w' => e = .returned (.int .i64 E) ∧ Both w w' 4 M1) := fun wa wc ha h => by
              have HG := ha.grown h
              have := rput_any (w.heap.size + 2) (w.heap.size + 2) 4 zf c M wc ⟨HG.ref, HF.out, by omega, by omega⟩
              rw [← hE, ← hT] at this
              rw [← HPQ.out.2]
              exact this.mono fun e w' ⟨h1, h2, h3, _⟩ => ⟨h1, HG.turn h2.ref h3⟩
            clear hT hE
            go_wp2
            go_region_held3 (fun w' => w'.cell? ⟨b2, o2 + k, none⟩ = some (.int .i64 zf) ∧ w'.cell? ⟨b4, o4 + k * 3, none⟩ = some (.bool c.inf) ∧ w'.cell? ⟨b4, o4 + k * 3 + 1, none⟩ = some (.int .i64 c.lf) ∧ w'.cell? ⟨b4, o4 + k * 3 + 2, none⟩ = some (.int .i64 c.pr)) (first | (refine ⟨?_, ?_, ?_, ?_⟩ <;> with_reducible assumption) | go_keep)
            (first
              | (go_at_call 9; refine (HA.out _ _ HI.out (by first | exact Below.refl _ _ | exact (Below.refl _ _).drew | exact ((Below.refl _ _).drew).drew)).mono ?_; rintro e w3 ⟨rfl, hj⟩; have H3 := rhide hj; clear hj c2 g0 g1 g2 HA HI; have c2 := G2.out w3 H3.out.below; obtain ⟨g0, g1, g2⟩ := G4.out w3 H3.out.below)
              | fail)
            go_wp2
            go_region_held3 (fun w' => w'.cell? ⟨b2, o2 + k, none⟩ = some (.int .i64 zf) ∧ w'.cell? ⟨b4, o4 + k * 3, none⟩ = some (.bool c.inf) ∧ w'.cell? ⟨b4, o4 + k * 3 + 1, none⟩ = some (.int .i64 c.lf) ∧ w'.cell? ⟨b4, o4 + k * 3 + 2, none⟩ = some (.int .i64 c.pr)) (first | (refine ⟨?_, ?_, ?_, ?_⟩ <;> with_reducible assumption) | go_keep)
            (first
              | (go_at_call 10; refine (HB.out _ _ H3.out (by first | exact Below.refl _ _ | exact (Below.refl _ _).drew | exact ((Below.refl _ _).drew).drew)).mono ?_; rintro e w4 ⟨rfl, hj⟩; have H4 := rhide hj; clear hj c2 g0 g1 g2 HB H3; have c2 := G2.out w4 H4.out.below; obtain ⟨g0, g1, g2⟩ := G4.out w4 H4.out.below)
              | fail)
            go_wp2_with fail
            go_meet
            first | exact ⟨M1, E, rfl, rfl, HFT.out, H4.out⟩ | exact ⟨M1, E, rfl, rfl, HFT.out, H4.out.grown (Below.refl _ _).drew⟩
        · as_aux_lemma =>
            clear g0 g1
            obtain ⟨M1, hT⟩ : ∃ M1, M1 = gvM 4 M zf zg zn c.pr := ⟨_, rfl⟩
            obtain ⟨E, hE⟩ : ∃ E, E = gvE 4 M zf zg zn c.pr := ⟨_, rfl⟩
            have HFT : Hid (Fit M1) := by rw [hT]; exact fit_gv HF.out 4 zf zg zn c.pr
            have HA : Hid (∀ wa wc, Both w wa 4 M → Below wa.heap.size wa wc → Calls Tryd.prog 11 #[.pointer (some ⟨p, 0, none⟩), .int .i64 zf, .int .i64 zg, .int .i64 zn, .int .i64 c.pr] wc fun e w' => e = .returned (.int .i64 E) ∧ Half w w' 4 M M1) := fun wa wc ha h => by
              have HG := ha.grown h
              have := HP.out.give wc M zf zg zn c.pr HZn.out HC.out.2 HG.mem HF.out HG.below
              rw [HPQ.out.1, ← hE, ← hT] at this
              exact this.mono fun e w' ⟨h1, h2, h3⟩ => ⟨h1, HG.half (by rw [HPQ.out.1]; exact h2) h3⟩
            have HB : Hid (∀ wa wc, Half w wa 4 M M1 → Below wa.heap.size wa wc → Calls Tryd.prog 12 #[.pointer (some ⟨q, 0, none⟩), .int .i64 zf, .int .i64 zg, .int .i64 zn, .int .i64 c.pr] wc fun e w' => e = .returned (.int .i64 E) ∧ Both w w' 4 M1) := fun wa wc ha h => by
              have HG := ha.grown h
              have := rgive_any (w.heap.size + 2) (w.heap.size + 2) 4 zf zg zn c.pr M wc ⟨HG.ref, HF.out, by omega, by omega⟩
              rw [← hE, ← hT] at this
              rw [← HPQ.out.2]
              exact this.mono fun e w' ⟨h1, h2, h3, _⟩ => ⟨h1, HG.turn h2.ref h3⟩
            clear hT hE
            go_wp2
            go_region_held3 (fun w' => w'.cell? ⟨b2, o2 + k, none⟩ = some (.int .i64 zf) ∧ w'.cell? ⟨b3, o3 + k, none⟩ = some (.int .i64 zg) ∧ w'.cell? ⟨b5, o5 + k, none⟩ = some (.int .i64 zn) ∧ w'.cell? ⟨b4, o4 + k * 3 + 2, none⟩ = some (.int .i64 c.pr)) (first | (refine ⟨?_, ?_, ?_, ?_⟩ <;> with_reducible assumption) | go_keep)
            (first
              | (go_at_call 11; refine (HA.out _ _ HI.out (by first | exact Below.refl _ _ | exact (Below.refl _ _).drew | exact ((Below.refl _ _).drew).drew)).mono ?_; rintro e w3 ⟨rfl, hj⟩; have H3 := rhide hj; clear hj c2 c3 c5 g2 HA HI; have c2 := G2.out w3 H3.out.below; have c3 := G3.out w3 H3.out.below; have c5 := G5.out w3 H3.out.below; obtain ⟨_, _, g2⟩ := G4.out w3 H3.out.below)
              | fail)
            go_wp2
            go_region_held3 (fun w' => w'.cell? ⟨b2, o2 + k, none⟩ = some (.int .i64 zf) ∧ w'.cell? ⟨b3, o3 + k, none⟩ = some (.int .i64 zg) ∧ w'.cell? ⟨b5, o5 + k, none⟩ = some (.int .i64 zn) ∧ w'.cell? ⟨b4, o4 + k * 3 + 2, none⟩ = some (.int .i64 c.pr)) (first | (refine ⟨?_, ?_, ?_, ?_⟩ <;> with_reducible assumption) | go_keep)
            (first
              | (go_at_call 12; refine (HB.out _ _ H3.out (by first | exact Below.refl _ _ | exact (Below.refl _ _).drew | exact ((Below.refl _ _).drew).drew)).mono ?_; rintro e w4 ⟨rfl, hj⟩; have H4 := rhide hj; clear hj c2 c3 c5 g2 HB H3; have c2 := G2.out w4 H4.out.below; have c3 := G3.out w4 H4.out.below; have c5 := G5.out w4 H4.out.below; obtain ⟨_, _, g2⟩ := G4.out w4 H4.out.below)
              | fail)
            go_wp2_with fail
            go_meet
            first | exact ⟨M1, E, rfl, rfl, HFT.out, H4.out⟩ | exact ⟨M1, E, rfl, rfl, HFT.out, H4.out.grown (Below.refl _ _).drew⟩
        · as_aux_lemma =>
            clear c3 g0 g1 g2
            obtain ⟨M1, hT⟩ : ∃ M1, M1 = chM 4 M zf zn := ⟨_, rfl⟩
            obtain ⟨E, hE⟩ : ∃ E, E = chE 4 M zf zn := ⟨_, rfl⟩
            obtain ⟨X, hX⟩ : ∃ X, X = chB 4 M zf zn := ⟨_, rfl⟩
            have HFT : Hid (Fit M1) := by rw [hT]; exact fit_ch HF.out 4 zf zn
            have HA : Hid (∀ wa wc, Both w wa 4 M → Below wa.heap.size wa wc → Calls Tryd.prog 13 #[.pointer (some ⟨p, 0, none⟩), .int .i64 zf, .int .i64 zn] wc fun e w' => e = .returned (.tuple #[.bool X, .int .i64 E]) ∧ Half w w' 4 M M1) := fun wa wc ha h => by
              have HG := ha.grown h
              have := HP.out.charge wc M zf zn HZn.out HG.mem HF.out HG.below
              rw [HPQ.out.1, ← hE, ← hT, ← hX] at this
              exact this.mono fun e w' ⟨h1, h2, h3⟩ => ⟨h1, HG.half (by rw [HPQ.out.1]; exact h2) h3⟩
            have HB : Hid (∀ wa wc, Half w wa 4 M M1 → Below wa.heap.size wa wc → Calls Tryd.prog 14 #[.pointer (some ⟨q, 0, none⟩), .int .i64 zf, .int .i64 zn] wc fun e w' => e = .returned (.tuple #[.bool X, .int .i64 E]) ∧ Both w w' 4 M1) := fun wa wc ha h => by
              have HG := ha.grown h
              have := rcharge_any (w.heap.size + 2) (w.heap.size + 2) 4 zf zn M wc ⟨HG.ref, HF.out, by omega, by omega⟩
              rw [← hE, ← hT, ← hX] at this
              rw [← HPQ.out.2]
              exact this.mono fun e w' ⟨h1, h2, h3, _⟩ => ⟨h1, HG.turn h2.ref h3⟩
            clear hT hE hX
            go_wp2
            go_region_held3 (fun w' => w'.cell? ⟨b2, o2 + k, none⟩ = some (.int .i64 zf) ∧ w'.cell? ⟨b5, o5 + k, none⟩ = some (.int .i64 zn)) (first | (refine ⟨?_, ?_⟩ <;> with_reducible assumption) | go_keep)
            (first
              | (go_at_call 13; refine (HA.out _ _ HI.out (by first | exact Below.refl _ _ | exact (Below.refl _ _).drew | exact ((Below.refl _ _).drew).drew)).mono ?_; rintro e w3 ⟨rfl, hj⟩; have H3 := rhide hj; clear hj c2 c5 HA HI; have c2 := G2.out w3 H3.out.below; have c5 := G5.out w3 H3.out.below)
              | fail)
            go_wp2
            go_region_held3 (fun w' => w'.cell? ⟨b2, o2 + k, none⟩ = some (.int .i64 zf) ∧ w'.cell? ⟨b5, o5 + k, none⟩ = some (.int .i64 zn)) (first | (refine ⟨?_, ?_⟩ <;> with_reducible assumption) | go_keep)
            (first
              | (go_at_call 14; refine (HB.out _ _ H3.out (by first | exact Below.refl _ _ | exact (Below.refl _ _).drew | exact ((Below.refl _ _).drew).drew)).mono ?_; rintro e w4 ⟨rfl, hj⟩; have H4 := rhide hj; clear hj c2 c5 HB H3; have c2 := G2.out w4 H4.out.below; have c5 := G5.out w4 H4.out.below)
              | fail)
            have bX : (X != X) = false := by simp
            go_wp2_with fail
            go_meet
            first | exact ⟨M1, E, rfl, rfl, HFT.out, H4.out⟩ | exact ⟨M1, E, rfl, rfl, HFT.out, H4.out.grown (Below.refl _ _).drew⟩
      case rest =>
        as_aux_lemma =>
          obtain ⟨M2, E0, hvx, hvy, hF2, h4⟩ := hcut
          subst hvx
          subst hvy
          have H4 := rhide h4
          have HF2 := rhide hF2
          clear h4 hF2 c1 c2 c3 c5 g0 g1 g2 HI HF hq'
          have c2 := G2.out wc H4.out.below
          have HG : Hid (∀ wx, Both w wx 4 M2 → Calls Tryd.prog 15 #[.pointer (some ⟨p, 0, none⟩), .int .i64 zf] wx fun e w' => e = .returned (.tuple #[.agg #[.bool (gtT 4 M2 zf).inf, .int .i64 (gtT 4 M2 zf).lf, .int .i64 (gtT 4 M2 zf).pr], .int .i64 (gtE 4 M2 zf)]) ∧ Below wx.heap.size wx w') := fun wx h => by
            have := HP.out.get wx M2 zf h.mem HF2.out h.below
            rwa [HPQ.out.1] at this
          have HH : Hid (∀ wx, Both w wx 4 M2 → Calls Tryd.prog 16 #[.pointer (some ⟨q, 0, none⟩), .int .i64 zf] wx fun e w' => e = .returned (.tuple #[.agg #[.bool (gtT 4 M2 zf).inf, .int .i64 (gtT 4 M2 zf).lf, .int .i64 (gtT 4 M2 zf).pr], .int .i64 (gtE 4 M2 zf)]) ∧ Below wx.heap.size wx w') := fun wx h => by
            have := rget_any (w.heap.size + 2) (w.heap.size + 2) 4 zf M2 wx (both_rx h HF2.out)
            rwa [HPQ.out.2] at this
          generalize gtT 4 M2 zf = Y at HG HH
          generalize gtE 4 M2 zf = E at HG HH
          go_upto_region 26 with (first
            | (go_at_call 15; refine (HG.out _ H4.out).mono ?_; rintro e w5 ⟨rfl, hB5⟩; have H5 := rhide (H4.out.grown hB5); clear hB5 c2)
            | fail)
          have K5 : Both w (w5.alloc (.cells #[.bool Y.inf, .int .i64 Y.lf, .int .i64 Y.pr] 33)) 4 M2 ∧ RowB (w5.alloc (.cells #[.bool Y.inf, .int .i64 Y.lf, .int .i64 Y.pr] 33)) w5.heap.size Y := ⟨H5.out.grown (bal (Below.refl _ _) _), rowB_new w5 Y⟩
          generalize w5.alloc _ = v5 at K5 ⊢
          generalize w5.heap.size = Da at K5 ⊢
          have H6 := rhide K5
          clear K5 H5 H4 HG
          have c2 := G2.out v5 H6.out.1.below
          go_upto_region 27 with (first
            | (go_at_call 16; refine (HH.out _ H6.out.1).mono ?_; rintro e w7 ⟨rfl, hB7⟩; have H7 : Hid (Both w w7 4 M2 ∧ RowB w7 Da Y) := ⟨H6.out.1.grown hB7, H6.out.2.on hB7⟩; clear hB7 c2 HH H6)
            | fail)
          have K7 : Kd w (w7.alloc (.cells #[.bool Y.inf, .int .i64 Y.lf, .int .i64 Y.pr] 33)) M2 Da w7.heap.size Y := ⟨H7.out.1.grown (bal (Below.refl _ _) _), H7.out.2.on (bal (Below.refl _ _) _), rowB_new w7 Y⟩
          generalize w7.alloc _ = v7 at K7 ⊢
          generalize w7.heap.size = Db at K7 ⊢
          have HK0 := rhide K7
          clear K7 H7
          have HN : Hid (∀ wx, Kd w wx M2 Da Db Y → Calls Tryd.prog 17 #[.pointer (some ⟨p, 0, none⟩), .int .i64 zf] wx fun e w' => e = .returned (.bool (cnB 4 M2 zf)) ∧ Below wx.heap.size wx w') := fun wx h => by
            have := HP.out.can wx M2 zf h.both.mem HF2.out h.both.below
            rwa [HPQ.out.1] at this
          have HO : Hid (∀ wx, Kd w wx M2 Da Db Y → Calls Tryd.prog 18 #[.pointer (some ⟨q, 0, none⟩), .int .i64 zf] wx fun e w' => e = .returned (.bool (cnB 4 M2 zf)) ∧ Below wx.heap.size wx w') := fun wx h => by
            have := rcan_any (w.heap.size + 2) (w.heap.size + 2) 4 zf M2 wx (both_rx h.both HF2.out)
            rwa [HPQ.out.2] at this
          have HU : Hid (∀ wx, Kd w wx M2 Da Db Y → Calls Tryd.prog 19 #[.pointer (some ⟨p, 0, none⟩)] wx fun e w' => e = .returned (.int .i64 (smK 4 M2 4)) ∧ Below wx.heap.size wx w') := fun wx h => by
            have := HP.out.sum wx M2 h.both.mem HF2.out h.both.below
            rwa [HPQ.out.1] at this
          have HV : Hid (∀ wx, Kd w wx M2 Da Db Y → Calls Tryd.prog 20 #[.pointer (some ⟨q, 0, none⟩)] wx fun e w' => e = .returned (.int .i64 (smK 4 M2 4)) ∧ Below wx.heap.size wx w') := fun wx h => by
            have := rsum_any (w.heap.size + 2) (w.heap.size + 2) 4 M2 wx (both_rx h.both HF2.out)
            rwa [HPQ.out.2] at this
          have HS : Hid (∀ wx, Kd w wx M2 Da Db Y → Calls Tryd.prog 21 #[.agg #[.bool c.inf, .int .i64 c.lf, .int .i64 c.pr]] wx fun e w' => e = .returned (.int .i64 (ckE c)) ∧ Below wx.heap.size wx w') := fun wx h => HP.out.check wx c HC.out h.both.below
          have HT : Hid (∀ wx, Kd w wx M2 Da Db Y → Calls Tryd.prog 22 #[.agg #[.bool c.inf, .int .i64 c.lf, .int .i64 c.pr]] wx fun e w' => e = .returned (.int .i64 (ckE c)) ∧ Below wx.heap.size wx w') := fun wx h => rcheck_any c wx
          have HA : Hid (∀ wx, Kd w wx M2 Da Db Y → Calls Tryd.prog 23 #[.pointer (some ⟨p, 0, none⟩), .pointer (some ⟨q, 0, none⟩)] wx fun e w' => e = .returned (.bool true) ∧ Below wx.heap.size wx w') := fun wx h => by
            have := alike_any 4 M2 w wx (by omega) (by omega) h.both
            rwa [HPQ.out.1, HPQ.out.2] at this
          generalize cnB 4 M2 zf = A at HN HO
          generalize smK 4 M2 4 = S at HU HV
          generalize ckE c = I at HS HT
          have hne := neqB Y
          have b0 : (E0 != E0) = false := by simp
          have bE : (E != E) = false := by simp
          have bA : (A != A) = false := by simp
          have bS : (S != S) = false := by simp
          have bI : (I != I) = false := by simp
          have x0 := HK0.out.xa.c0
          have x1 := HK0.out.xa.c1
          have x2 := HK0.out.xa.c2
          have y0 := HK0.out.xb.c0
          have y1 := HK0.out.xb.c1
          have y2 := HK0.out.xb.c2
          have c2 := G2.out v7 HK0.out.both.below
          obtain ⟨g0, g1, g2⟩ := G4.out v7 HK0.out.both.below
          go_region_held3 (fun w' => w'.cell? ⟨Da, 0, none⟩ = some (.bool Y.inf) ∧ w'.cell? ⟨Da, 1, none⟩ = some (.int .i64 Y.lf) ∧ w'.cell? ⟨Da, 2, none⟩ = some (.int .i64 Y.pr) ∧ w'.cell? ⟨Db, 0, none⟩ = some (.bool Y.inf) ∧ w'.cell? ⟨Db, 1, none⟩ = some (.int .i64 Y.lf) ∧ w'.cell? ⟨Db, 2, none⟩ = some (.int .i64 Y.pr) ∧ w'.cell? ⟨b2, o2 + k, none⟩ = some (.int .i64 zf) ∧ w'.cell? ⟨b4, o4 + k * 3, none⟩ = some (.bool c.inf) ∧ w'.cell? ⟨b4, o4 + k * 3 + 1, none⟩ = some (.int .i64 c.lf) ∧ w'.cell? ⟨b4, o4 + k * 3 + 2, none⟩ = some (.int .i64 c.pr)) (first | (refine ⟨?_, ?_, ?_, ?_, ?_, ?_, ?_, ?_, ?_, ?_⟩ <;> with_reducible assumption) | go_keep)
          (first
            | (go_at_call 17; refine (HN.out _ (by first | exact HK0.out | exact HK0.out.on (Below.refl _ _).drew)).mono ?_; rintro e w8 ⟨rfl, hB⟩; have H8 : Hid (Kd w w8 M2 Da Db Y) := HK0.out.on (by first | exact hB | exact (Below.refl _ _).drew.trans hB); clear hB HN; clear x0 x1 x2 y0 y1 y2 c2 g0 g1 g2; have x0 := H8.out.xa.c0; have x1 := H8.out.xa.c1; have x2 := H8.out.xa.c2; have y0 := H8.out.xb.c0; have y1 := H8.out.xb.c1; have y2 := H8.out.xb.c2; have c2 := G2.out w8 H8.out.both.below; obtain ⟨g0, g1, g2⟩ := G4.out w8 H8.out.both.below)
            | (go_at_call 18; refine (HO.out _ (by first | exact H8.out | exact H8.out.on (Below.refl _ _).drew)).mono ?_; rintro e w9 ⟨rfl, hB⟩; have H9 : Hid (Kd w w9 M2 Da Db Y) := H8.out.on (by first | exact hB | exact (Below.refl _ _).drew.trans hB); clear hB HO; clear x0 x1 x2 y0 y1 y2 c2 g0 g1 g2; have x0 := H9.out.xa.c0; have x1 := H9.out.xa.c1; have x2 := H9.out.xa.c2; have y0 := H9.out.xb.c0; have y1 := H9.out.xb.c1; have y2 := H9.out.xb.c2; have c2 := G2.out w9 H9.out.both.below; obtain ⟨g0, g1, g2⟩ := G4.out w9 H9.out.both.below)
            | (go_at_call 19; refine (HU.out _ (by first | exact H9.out | exact H9.out.on (Below.refl _ _).drew)).mono ?_; rintro e w10 ⟨rfl, hB⟩; have H10 : Hid (Kd w w10 M2 Da Db Y) := H9.out.on (by first | exact hB | exact (Below.refl _ _).drew.trans hB); clear hB HU; clear x0 x1 x2 y0 y1 y2 c2 g0 g1 g2; have x0 := H10.out.xa.c0; have x1 := H10.out.xa.c1; have x2 := H10.out.xa.c2; have y0 := H10.out.xb.c0; have y1 := H10.out.xb.c1; have y2 := H10.out.xb.c2; have c2 := G2.out w10 H10.out.both.below; obtain ⟨g0, g1, g2⟩ := G4.out w10 H10.out.both.below)
            | (go_at_call 20; refine (HV.out _ (by first | exact H10.out | exact H10.out.on (Below.refl _ _).drew)).mono ?_; rintro e w11 ⟨rfl, hB⟩; have H11 : Hid (Kd w w11 M2 Da Db Y) := H10.out.on (by first | exact hB | exact (Below.refl _ _).drew.trans hB); clear hB HV; clear x0 x1 x2 y0 y1 y2 c2 g0 g1 g2; have x0 := H11.out.xa.c0; have x1 := H11.out.xa.c1; have x2 := H11.out.xa.c2; have y0 := H11.out.xb.c0; have y1 := H11.out.xb.c1; have y2 := H11.out.xb.c2; have c2 := G2.out w11 H11.out.both.below; obtain ⟨g0, g1, g2⟩ := G4.out w11 H11.out.both.below)
            | (go_at_call 21; refine (HS.out _ (by first | exact H11.out | exact H11.out.on (Below.refl _ _).drew)).mono ?_; rintro e w12 ⟨rfl, hB⟩; have H12 : Hid (Kd w w12 M2 Da Db Y) := H11.out.on (by first | exact hB | exact (Below.refl _ _).drew.trans hB); clear hB HS; clear x0 x1 x2 y0 y1 y2 c2 g0 g1 g2; have x0 := H12.out.xa.c0; have x1 := H12.out.xa.c1; have x2 := H12.out.xa.c2; have y0 := H12.out.xb.c0; have y1 := H12.out.xb.c1; have y2 := H12.out.xb.c2; have c2 := G2.out w12 H12.out.both.below; obtain ⟨g0, g1, g2⟩ := G4.out w12 H12.out.both.below)
            | (go_at_call 22; refine (HT.out _ (by first | exact H12.out | exact H12.out.on (Below.refl _ _).drew)).mono ?_; rintro e w13 ⟨rfl, hB⟩; have H13 : Hid (Kd w w13 M2 Da Db Y) := H12.out.on (by first | exact hB | exact (Below.refl _ _).drew.trans hB); clear hB HT; clear x0 x1 x2 y0 y1 y2 c2 g0 g1 g2; have x0 := H13.out.xa.c0; have x1 := H13.out.xa.c1; have x2 := H13.out.xa.c2; have y0 := H13.out.xb.c0; have y1 := H13.out.xb.c1; have y2 := H13.out.xb.c2; have c2 := G2.out w13 H13.out.both.below; obtain ⟨g0, g1, g2⟩ := G4.out w13 H13.out.both.below)
            | (go_at_call 23; refine (HA.out _ (by first | exact H13.out | exact H13.out.on (Below.refl _ _).drew)).mono ?_; rintro e w14 ⟨rfl, hB⟩; have H14 : Hid (Kd w w14 M2 Da Db Y) := H13.out.on (by first | exact hB | exact (Below.refl _ _).drew.trans hB); clear hB HA; clear x0 x1 x2 y0 y1 y2 c2 g0 g1 g2; have x0 := H14.out.xa.c0; have x1 := H14.out.xa.c1; have x2 := H14.out.xa.c2; have y0 := H14.out.xb.c0; have y1 := H14.out.xb.c1; have y2 := H14.out.xb.c2; have c2 := G2.out w14 H14.out.both.below; obtain ⟨g0, g1, g2⟩ := G4.out w14 H14.out.both.below)
            | fail)
          go_wp2
          go_roundw
          case rel => first | exact ⟨k + 1, by omega, by go_num, M2, HF2.out, H14.out.both⟩ | exact ⟨k + 1, by omega, by go_num, M2, HF2.out, H14.out.both.grown (Below.refl _ _).drew⟩
          case measure => simp [intOf]; omega
    · have hin' : ¬ k < len1 ∨ (k < len1 ∧ ¬ k < len2) ∨ (k < len1 ∧ k < len2 ∧ ¬ k < len3) ∨ (k < len1 ∧ k < len2 ∧ k < len3 ∧ ¬ k < len4) ∨ (k < len1 ∧ k < len2 ∧ k < len3 ∧ k < len4 ∧ ¬ k < len5) ∨ (k < len1 ∧ k < len2 ∧ k < len3 ∧ k < len4 ∧ k < len5 ∧ ¬ k < 40) := by omega
      clear hin
      rcases hin' with h1 | ⟨h1, h2⟩ | ⟨h1, h2, h3⟩ | ⟨h1, h2, h3, h4⟩ | ⟨h1, h2, h3, h4, h5⟩ | ⟨h1, h2, h3, h4, h5, h6⟩
      all_goals
        go_wp2_with (first
          | (go_at_call 24; refine (HP.out.awake _ HI.out.below).mono ?_; rintro e w8 ⟨rfl, hB8⟩; have H8 : Hid (Below w.heap.size w w8) := HI.out.below.trans (hB8.mono HI.out.below.size); clear hB8)
          | fail)
        go_ret
        exact ⟨rfl, H8.out⟩
end Go.Proofs.YtlnckhebikiclaaDoor.Ptcap
