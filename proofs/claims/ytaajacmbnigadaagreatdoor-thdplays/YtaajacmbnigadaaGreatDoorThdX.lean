/- The walk of ThdPlays, over the program's contracts as one hypothesis (Prg); written by mk_plays.py. -/
import Derived.Test.YtaajacmbnigadaaGreatDoorThdJ
import Derived.Test.YtaajacmbnigadaaGreatDoorThdI
import Derived.Test.YtaajacmbnigadaaGreatDoorBunRegs
import Derived.Test.YtaajacmbnigadaaGreatDoorBunMem
import Derived.Deep.CutBlock
import Derived.Deep.RegionHeld3
import Derived.BigRegion
namespace Go.Proofs.YtaajacmbnigadaaGreatDoor.Pthd
open Go.Proofs.YtaajacmbnigadaaGreatDoor.Pbase Go.Proofs.YtaajacmbnigadaaGreatDoor.Play Go.Proofs.YtaajacmbnigadaaGreatDoor.Pmem
open Go.RowKit
set_option linter.unusedVariables false

/-- What is asked of the program: its calls, at the memory that the statement lays at w. -/
structure Prg (w : World) : Prop where
  make : ∀ wc M (f : Int) (t : Th), Fi t → MemIs wc (w.heap.size + 1) w.heap.size 3 M → Fit M → Below w.heap.size w wc → Calls Tryz.prog 7 #[.pointer (some ⟨w.heap.size + 1, 0, none⟩), .int .i64 f, .agg #[.int .i64 t.st, .int .i64 t.co, .int .i64 t.tc, .int .i64 t.rc, .int .i64 t.de]] wc fun e w' => e = .returned (.int .i64 (mkE 3 f t)) ∧ MemIs w' (w.heap.size + 1) w.heap.size 3 (mkM 3 M f t) ∧ But w.heap.size wc w'
  put : ∀ wc M (f : Int) (t : Th), Fi t → MemIs wc (w.heap.size + 1) w.heap.size 3 M → Fit M → Below w.heap.size w wc → Calls Tryz.prog 9 #[.pointer (some ⟨w.heap.size + 1, 0, none⟩), .int .i64 f, .agg #[.int .i64 t.st, .int .i64 t.co, .int .i64 t.tc, .int .i64 t.rc, .int .i64 t.de]] wc fun e w' => e = .returned (.int .i64 (puE 3 M f t)) ∧ MemIs w' (w.heap.size + 1) w.heap.size 3 (puM 3 M f t) ∧ But w.heap.size wc w'
  state : ∀ wc M (f : Int) (x : Int), In64 x → MemIs wc (w.heap.size + 1) w.heap.size 3 M → Fit M → Below w.heap.size w wc → Calls Tryz.prog 11 #[.pointer (some ⟨w.heap.size + 1, 0, none⟩), .int .i64 f, .int .i64 x] wc fun e w' => e = .returned (.int .i64 (stE 3 M f x)) ∧ MemIs w' (w.heap.size + 1) w.heap.size 3 (stM 3 M f x) ∧ But w.heap.size wc w'
  reg : ∀ wc M (f : Int) (i v : Int), (0 ≤ v ∧ v ≤ 18446744073709551615) → MemIs wc (w.heap.size + 1) w.heap.size 3 M → Fit M → Below w.heap.size w wc → Calls Tryz.prog 19 #[.pointer (some ⟨w.heap.size + 1, 0, none⟩), .int .i64 f, .int .i64 i, .int .u64 v] wc fun e w' => e = .returned (.int .i64 (rgE 3 M f i)) ∧ MemIs w' (w.heap.size + 1) w.heap.size 3 (rgM 3 M f i v) ∧ But w.heap.size wc w'
  save : ∀ wc M (f : Int) (r : Nat) (L : Nat → Int), Pregs.FileIs wc r L → FitL L → MemIs wc (w.heap.size + 1) w.heap.size 3 M → Fit M → Below w.heap.size w wc → Calls Tryz.prog 15 #[.pointer (some ⟨w.heap.size + 1, 0, none⟩), .int .i64 f, .pointer (some ⟨r, 0, none⟩)] wc fun e w' => e = .returned (.int .i64 (svE 3 M f)) ∧ MemIs w' (w.heap.size + 1) w.heap.size 3 (svM 3 M f L) ∧ But w.heap.size wc w'
  load : ∀ wc M (f : Int) (r : Nat) (L : Nat → Int), Pregs.FileIs wc r L → FitL L → MemIs wc (w.heap.size + 1) w.heap.size 3 M → Fit M → Below w.heap.size w wc → Calls Tryz.prog 17 #[.pointer (some ⟨w.heap.size + 1, 0, none⟩), .int .i64 f, .pointer (some ⟨r, 0, none⟩)] wc fun e w' => e = .returned (.int .i64 (svE 3 M f)) ∧ Pregs.FileIs w' r (ldL 3 M f L) ∧ But r wc w'
  get : ∀ wc M (f : Int), MemIs wc (w.heap.size + 1) w.heap.size 3 M → Fit M → Below w.heap.size w wc → Calls Tryz.prog 21 #[.pointer (some ⟨w.heap.size + 1, 0, none⟩), .int .i64 f] wc fun e w' => e = .returned (.tuple #[.agg #[.int .i64 (gtT 3 M f).st, .int .i64 (gtT 3 M f).co, .int .i64 (gtT 3 M f).tc, .int .i64 (gtT 3 M f).rc, .int .i64 (gtT 3 M f).de], .int .i64 (gtE 3 M f)]) ∧ Below wc.heap.size wc w'
  check : ∀ wc (t : Th), Fi t → Below w.heap.size w wc → Calls Tryz.prog 23 #[.agg #[.int .i64 t.st, .int .i64 t.co, .int .i64 t.tc, .int .i64 t.rc, .int .i64 t.de]] wc fun e w' => e = .returned (.int .i64 (ckE t)) ∧ Below wc.heap.size wc w'
  awake : ∀ wc, Below w.heap.size w wc → Calls Tryz.prog 28 #[] wc fun e w' => e = .returned (.bool true) ∧ Below wc.heap.size wc w'
theorem rem6 {z : Int} (h : (Lit.int .u8 z).wf = true) : z.tmod 6 = 0 ∨ z.tmod 6 = 1 ∨ z.tmod 6 = 2 ∨ z.tmod 6 = 3 ∨ z.tmod 6 = 4 ∨ z.tmod 6 = 5 := by
  obtain ⟨r, h1, h2⟩ := rem_u8 h 6 (by omega)
  have : z.tmod 6 = (r : Int) := h1
  omega
theorem u64_wf {a : Int} (h : (Lit.int .u64 a).wf = true) : 0 ≤ a ∧ a ≤ 18446744073709551615 := by
  have h' : (decide (IntKind.u64.min ≤ a) && decide (a ≤ IntKind.u64.max)) = true := h
  have e1 : IntKind.u64.min = 0 := by decide
  have e2 : IntKind.u64.max = 18446744073709551615 := by decide
  rw [e1, e2] at h'
  simpa using h'
theorem fit_seti {L : Nat → Int} (h : FitL L) {i v : Int} (hv : 0 ≤ v ∧ v ≤ 18446744073709551615) : FitL (Pregs.setR L i v) := by
  intro j hj
  unfold Pregs.setR
  split
  · dsimp only
    split
    · exact hv
    · exact h j hj
  · exact h j hj
theorem refAt_on {w w' : World} {base q b cap : Nat} {L : Nat → Int} (h : Pregs.RefAt w base q L b cap) (hB : Below w.heap.size w w') : Pregs.RefAt w' base q L b cap :=
  ⟨h.ge, (hB.block q h.lt).trans h.head, h.list.more hB, h.gb⟩
theorem Jt.both {w W : World} {M : Nat → Nat → Int} {pr T R s : Nat} {L L' : Nat → Int} (h : Jt w W M M pr T R s L L') : Both w W 3 M := ⟨h.mem, h.rr.rx.ref, h.below⟩
/-- All, and two threads in blocks of the statement's own. -/
structure Kr (w W : World) (M : Nat → Nat → Int) (pr s : Nat) (L : Nat → Int) (b0 cp Da Db : Nat) (Y : Th) : Prop where
  jt : Jt w W M M pr pr s s L L
  xa : RowT W Da Y
  xb : RowT W Db Y
  ra : Pregs.RefAt W s s L b0 cp
theorem Kr.on {w W W' : World} {M : Nat → Nat → Int} {pr s : Nat} {L : Nat → Int} {b0 cp Da Db : Nat} {Y : Th} (h : Kr w W M pr s L b0 cp Da Db Y) (hB : Below W.heap.size W W') : Kr w W' M pr s L b0 cp Da Db Y :=
  ⟨h.jt.on hB, h.xa.on hB, h.xb.on hB, refAt_on h.ra hB⟩
theorem seen {w W : World} {M : Nat → Nat → Int} {pr s : Nat} {L : Nat → Int} (h : Jt w W M M pr pr s s L L) (y : Th) : Jt w (W.alloc (.cells #[.int .i64 y.st, .int .i64 y.co, .int .i64 y.tc, .int .i64 y.rc, .int .i64 y.de] 37)) M M pr pr s s L L ∧ RowT (W.alloc (.cells #[.int .i64 y.st, .int .i64 y.co, .int .i64 y.tc, .int .i64 y.rc, .int .i64 y.de] 37)) W.heap.size y :=
  ⟨h.on (bal (Below.refl _ _) _), rowT_new W y⟩
set_option maxRecDepth 100000 in
set_option maxHeartbeats 40000000 in
theorem plays_walk (a0 : Option Addr) (len0 cap0 : Nat) (a1 : Option Addr) (len1 cap1 : Nat) (a2 : Option Addr) (len2 cap2 : Nat) (a3 : Option Addr) (len3 cap3 : Nat) (a4 : Option Addr) (len4 cap4 : Nat) (a5 : Option Addr) (len5 cap5 : Nat) (w : World) (w0 : Hid (Came .u64 w.heap.size w a0 len0)) (l0 : len0 ≤ 9223372036854775807) (D1 : Hid (Came .u8 w.heap.size w a1 len1)) (l1 : len1 ≤ 9223372036854775807) (D2 : Hid (Came .i64 w.heap.size w a2 len2)) (l2 : len2 ≤ 9223372036854775807) (D3 : Hid (CameT w.heap.size w a3 len3)) (l3 : len3 ≤ 9223372036854775807) (D4 : Hid (Came .i64 w.heap.size w a4 len4)) (l4 : len4 ≤ 9223372036854775807) (D5 : Hid (Came .u64 w.heap.size w a5 len5)) (l5 : len5 ≤ 9223372036854775807) (HP : Hid (Prg w)) :
    Calls Tryz.prog 3 #[.slice a0 len0 cap0, .slice a1 len1 cap1, .slice a2 len2 cap2, .slice a3 len3 cap3, .slice a4 len4 cap4, .slice a5 len5 cap5] w fun e w' => e = .returned (.bool true) ∧ Below w.heap.size w w' := by
  go_enter Tryz.func3, Tryz.ntmps3
  go_wp2_with (first
    | (go_at_call 4; refine (laid_any a0 len0 cap0 3 _ (by omega) (by omega) w0 l0).mono ?_; rintro e1 w1 ⟨rfl, M0, hF0, hB0⟩; have HB0 := rhide (And.intro hF0 hB0); clear hF0 hB0)
    | (go_at_call 5; refine (Pregs.new_any _).mono ?_; rintro e2 w2 ⟨rfl, hw⟩; have HW2 := rhide hw; clear hw)
    | (go_at_call 6; refine (Pregs.rnew_any _).mono ?_; rintro e3 w3 ⟨rfl, hR, hB⟩; rw [HW2.out] at hR hB; have HI0 := rhide (jt_new HB0.out.1 HB0.out.2 hR hB); have hs : w2.heap.size = w1.heap.size + 1 := (by rw [HW2.out, Pregs.newW_size]); have HS2 := rhide hs; clear hR hB hs)
    | fail)
  rw [← HS2.out] at HI0
  generalize w2.heap.size = s at HI0 HS2 ⊢
  generalize w1.heap.size = pr at HI0 HS2 ⊢
  clear HB0 HW2
  have HPQ0 : w.heap.size + 1 = w.heap.size + 1 ∧ w.heap.size + 2 = w.heap.size + 2 := ⟨rfl, rfl⟩
  generalize hp : w.heap.size + 1 = p
  generalize hq : w.heap.size + 2 = q
  have HPQ : Hid (w.heap.size + 1 = p ∧ w.heap.size + 2 = q) := ⟨hp, hq⟩
  clear hp hq HPQ0 w0 l0
  go_loopw [17] (fun i wr => ∃ k : Nat, k ≤ len1 ∧ i = .int .i64 k ∧ ∃ M L, Jt w wr M M pr pr s s L L) (fun i _ => len1 - (intOf i).toNat)
  case atStart => exact ⟨0, by omega, rfl, _, _, HI0.out⟩
  case round =>
    obtain ⟨k, hk0, rfl, M, L, hI⟩ := hrel
    have HI := rhide hI
    clear hI HI0
    by_cases hin : k < len1 ∧ k < len2 ∧ k < len3 ∧ k < len4 ∧ k < len5 ∧ k < 40
    · obtain ⟨h1, h2, h3, h4, h5, h6⟩ := hin
      obtain ⟨b1, o1, z1, rfl, HZ1, G1⟩ := D1.out.any h1
      obtain ⟨b2, o2, zf, rfl, _, G2⟩ := D2.out.any h2
      obtain ⟨b3, o3, c, rfl, hc, G3⟩ := D3.out.at h3
      obtain ⟨b4, o4, za, rfl, hz4, G4⟩ := D4.out.any h4
      obtain ⟨b5, o5, zv, rfl, hz5, G5⟩ := D5.out.any h5
      have HC := rhide hc
      have HZ5 := rhide (u64_wf hz5.out)
      have HZ4 := rhide (in64_wf hz4.out)
      clear hc hz4 hz5
      have i1 : (k : Int) < (len1 : Int) := by omega
      have i2 : (k : Int) < (len2 : Int) := by omega
      have i3 : (k : Int) < (len3 : Int) := by omega
      have i4 : (k : Int) < (len4 : Int) := by omega
      have i5 : (k : Int) < (len5 : Int) := by omega
      have i6 : (k : Int) < 40 := by omega
      have c1 := G1.out wr HI.out.below
      have c2 := G2.out wr HI.out.below
      have c4 := G4.out wr HI.out.below
      have c5 := G5.out wr HI.out.below
      obtain ⟨g0, g1, g2, g3, g4⟩ := G3.out wr HI.out.below
      have hq' := rem6 HZ1.out
      clear HZ1
      go_upto_block 2 with fail
      go_cut [18, 19] from 71 to 221 (fun vx vy wc => ∃ M L E, vx = .int .i64 E ∧ vy = .int .i64 E ∧ Jt w wc M M pr pr s s L L)
      case first =>
        rcases hq' with hq | hq | hq | hq | hq | hq
        · as_aux_lemma =>
            obtain ⟨M1, hT⟩ : ∃ M1, M1 = mkM 3 M zf c := ⟨_, rfl⟩
            obtain ⟨E, hE⟩ : ∃ E, E = mkE 3 zf c := ⟨_, rfl⟩
            have HFT : Hid (Fit M1) := by rw [hT]; exact fit_mk HI.out.fm 3 zf c
            have HA : Hid (∀ wa wc, Jt w wa M M pr pr s s L L → Below wa.heap.size wa wc → Calls Tryz.prog 7 #[.pointer (some ⟨p, 0, none⟩), .int .i64 zf, .agg #[.int .i64 c.st, .int .i64 c.co, .int .i64 c.tc, .int .i64 c.rc, .int .i64 c.de]] wc fun e w' => e = .returned (.int .i64 E) ∧ Jt w w' M1 M pr pr s s L L) := fun wa wc ha h => by
              have HG := ha.on h
              have := HP.out.make wc M zf c HC.out HG.mem HG.fm HG.below
              rw [HPQ.out.1, ← hE, ← hT] at this
              exact this.mono fun e w' ⟨h1, h2, h3⟩ => ⟨h1, HG.pm (by rw [HPQ.out.1]; exact h2) HFT.out h3⟩
            have HB : Hid (∀ wa wc, Jt w wa M1 M pr pr s s L L → Below wa.heap.size wa wc → Calls Tryz.prog 8 #[.pointer (some ⟨q, 0, none⟩), .int .i64 zf, .agg #[.int .i64 c.st, .int .i64 c.co, .int .i64 c.tc, .int .i64 c.rc, .int .i64 c.de]] wc fun e w' => e = .returned (.int .i64 E) ∧ Jt w w' M1 M1 pr pr s s L L) := fun wa wc ha h => by
              have HG := ha.on h
              have := rmake_any (w.heap.size + 2) (w.heap.size + 2) 3 zf c M wc HG.rr.rx
              rw [← hE, ← hT] at this
              rw [← HPQ.out.2]
              exact this.mono fun e w' ⟨h1, h2, h3, h4⟩ => ⟨h1, HG.dm h2 h3 h4⟩
            clear hT hE
            go_wp2
            go_region_held3 (fun w' => w'.cell? ⟨b2, o2 + k, none⟩ = some (.int .i64 zf) ∧ w'.cell? ⟨b3, o3 + k * 5, none⟩ = some (.int .i64 c.st) ∧ w'.cell? ⟨b3, o3 + k * 5 + 1, none⟩ = some (.int .i64 c.co) ∧ w'.cell? ⟨b3, o3 + k * 5 + 2, none⟩ = some (.int .i64 c.tc) ∧ w'.cell? ⟨b3, o3 + k * 5 + 3, none⟩ = some (.int .i64 c.rc) ∧ w'.cell? ⟨b3, o3 + k * 5 + 4, none⟩ = some (.int .i64 c.de)) (first | exact ⟨by assumption, by assumption, by assumption, by assumption, by assumption, by assumption⟩ | go_keep)
            (first
              | (go_at_call 7; refine (HA.out _ _ HI.out (by first | exact Below.refl _ _ | exact (Below.refl _ _).drew | exact ((Below.refl _ _).drew).drew)).mono ?_; rintro e w3 ⟨rfl, hj⟩; have H3 := rhide hj; clear hj c2 g0 g1 g2 g3 g4 HA HI; have c2 := G2.out w3 H3.out.below; obtain ⟨g0, g1, g2, g3, g4⟩ := G3.out w3 H3.out.below)
              | fail)
            go_wp2
            go_region_held3 (fun w' => w'.cell? ⟨b2, o2 + k, none⟩ = some (.int .i64 zf) ∧ w'.cell? ⟨b3, o3 + k * 5, none⟩ = some (.int .i64 c.st) ∧ w'.cell? ⟨b3, o3 + k * 5 + 1, none⟩ = some (.int .i64 c.co) ∧ w'.cell? ⟨b3, o3 + k * 5 + 2, none⟩ = some (.int .i64 c.tc) ∧ w'.cell? ⟨b3, o3 + k * 5 + 3, none⟩ = some (.int .i64 c.rc) ∧ w'.cell? ⟨b3, o3 + k * 5 + 4, none⟩ = some (.int .i64 c.de)) (first | exact ⟨by assumption, by assumption, by assumption, by assumption, by assumption, by assumption⟩ | go_keep)
            (first
              | (go_at_call 8; refine (HB.out _ _ H3.out (by first | exact Below.refl _ _ | exact (Below.refl _ _).drew | exact ((Below.refl _ _).drew).drew)).mono ?_; rintro e w4 ⟨rfl, hj⟩; have H4 := rhide hj; clear hj c2 g0 g1 g2 g3 g4 HB H3; have c2 := G2.out w4 H4.out.below; obtain ⟨g0, g1, g2, g3, g4⟩ := G3.out w4 H4.out.below)
              | fail)
            go_wp2_with fail
            go_meet
            first | exact ⟨M1, L, E, rfl, rfl, H4.out⟩ | exact ⟨M1, L, E, rfl, rfl, H4.out.on (Below.refl _ _).drew⟩
        · as_aux_lemma =>
            obtain ⟨M1, hT⟩ : ∃ M1, M1 = puM 3 M zf c := ⟨_, rfl⟩
            obtain ⟨E, hE⟩ : ∃ E, E = puE 3 M zf c := ⟨_, rfl⟩
            have HFT : Hid (Fit M1) := by rw [hT]; exact fit_pu HI.out.fm 3 zf c
            have HA : Hid (∀ wa wc, Jt w wa M M pr pr s s L L → Below wa.heap.size wa wc → Calls Tryz.prog 9 #[.pointer (some ⟨p, 0, none⟩), .int .i64 zf, .agg #[.int .i64 c.st, .int .i64 c.co, .int .i64 c.tc, .int .i64 c.rc, .int .i64 c.de]] wc fun e w' => e = .returned (.int .i64 E) ∧ Jt w w' M1 M pr pr s s L L) := fun wa wc ha h => by
              have HG := ha.on h
              have := HP.out.put wc M zf c HC.out HG.mem HG.fm HG.below
              rw [HPQ.out.1, ← hE, ← hT] at this
              exact this.mono fun e w' ⟨h1, h2, h3⟩ => ⟨h1, HG.pm (by rw [HPQ.out.1]; exact h2) HFT.out h3⟩
            have HB : Hid (∀ wa wc, Jt w wa M1 M pr pr s s L L → Below wa.heap.size wa wc → Calls Tryz.prog 10 #[.pointer (some ⟨q, 0, none⟩), .int .i64 zf, .agg #[.int .i64 c.st, .int .i64 c.co, .int .i64 c.tc, .int .i64 c.rc, .int .i64 c.de]] wc fun e w' => e = .returned (.int .i64 E) ∧ Jt w w' M1 M1 pr pr s s L L) := fun wa wc ha h => by
              have HG := ha.on h
              have := rput_any (w.heap.size + 2) (w.heap.size + 2) 3 zf c M wc HG.rr.rx
              rw [← hE, ← hT] at this
              rw [← HPQ.out.2]
              exact this.mono fun e w' ⟨h1, h2, h3, h4⟩ => ⟨h1, HG.dm h2 h3 h4⟩
            clear hT hE
            go_wp2
            go_region_held3 (fun w' => w'.cell? ⟨b2, o2 + k, none⟩ = some (.int .i64 zf) ∧ w'.cell? ⟨b3, o3 + k * 5, none⟩ = some (.int .i64 c.st) ∧ w'.cell? ⟨b3, o3 + k * 5 + 1, none⟩ = some (.int .i64 c.co) ∧ w'.cell? ⟨b3, o3 + k * 5 + 2, none⟩ = some (.int .i64 c.tc) ∧ w'.cell? ⟨b3, o3 + k * 5 + 3, none⟩ = some (.int .i64 c.rc) ∧ w'.cell? ⟨b3, o3 + k * 5 + 4, none⟩ = some (.int .i64 c.de)) (first | exact ⟨by assumption, by assumption, by assumption, by assumption, by assumption, by assumption⟩ | go_keep)
            (first
              | (go_at_call 9; refine (HA.out _ _ HI.out (by first | exact Below.refl _ _ | exact (Below.refl _ _).drew | exact ((Below.refl _ _).drew).drew)).mono ?_; rintro e w3 ⟨rfl, hj⟩; have H3 := rhide hj; clear hj c2 g0 g1 g2 g3 g4 HA HI; have c2 := G2.out w3 H3.out.below; obtain ⟨g0, g1, g2, g3, g4⟩ := G3.out w3 H3.out.below)
              | fail)
            go_wp2
            go_region_held3 (fun w' => w'.cell? ⟨b2, o2 + k, none⟩ = some (.int .i64 zf) ∧ w'.cell? ⟨b3, o3 + k * 5, none⟩ = some (.int .i64 c.st) ∧ w'.cell? ⟨b3, o3 + k * 5 + 1, none⟩ = some (.int .i64 c.co) ∧ w'.cell? ⟨b3, o3 + k * 5 + 2, none⟩ = some (.int .i64 c.tc) ∧ w'.cell? ⟨b3, o3 + k * 5 + 3, none⟩ = some (.int .i64 c.rc) ∧ w'.cell? ⟨b3, o3 + k * 5 + 4, none⟩ = some (.int .i64 c.de)) (first | exact ⟨by assumption, by assumption, by assumption, by assumption, by assumption, by assumption⟩ | go_keep)
            (first
              | (go_at_call 10; refine (HB.out _ _ H3.out (by first | exact Below.refl _ _ | exact (Below.refl _ _).drew | exact ((Below.refl _ _).drew).drew)).mono ?_; rintro e w4 ⟨rfl, hj⟩; have H4 := rhide hj; clear hj c2 g0 g1 g2 g3 g4 HB H3; have c2 := G2.out w4 H4.out.below; obtain ⟨g0, g1, g2, g3, g4⟩ := G3.out w4 H4.out.below)
              | fail)
            go_wp2_with fail
            go_meet
            first | exact ⟨M1, L, E, rfl, rfl, H4.out⟩ | exact ⟨M1, L, E, rfl, rfl, H4.out.on (Below.refl _ _).drew⟩
        · as_aux_lemma =>
            obtain ⟨M1, hT⟩ : ∃ M1, M1 = stM 3 M zf za := ⟨_, rfl⟩
            obtain ⟨E, hE⟩ : ∃ E, E = stE 3 M zf za := ⟨_, rfl⟩
            have HFT : Hid (Fit M1) := by rw [hT]; exact fit_st HI.out.fm 3 zf za
            have HA : Hid (∀ wa wc, Jt w wa M M pr pr s s L L → Below wa.heap.size wa wc → Calls Tryz.prog 11 #[.pointer (some ⟨p, 0, none⟩), .int .i64 zf, .int .i64 za] wc fun e w' => e = .returned (.int .i64 E) ∧ Jt w w' M1 M pr pr s s L L) := fun wa wc ha h => by
              have HG := ha.on h
              have := HP.out.state wc M zf za HZ4.out HG.mem HG.fm HG.below
              rw [HPQ.out.1, ← hE, ← hT] at this
              exact this.mono fun e w' ⟨h1, h2, h3⟩ => ⟨h1, HG.pm (by rw [HPQ.out.1]; exact h2) HFT.out h3⟩
            have HB : Hid (∀ wa wc, Jt w wa M1 M pr pr s s L L → Below wa.heap.size wa wc → Calls Tryz.prog 12 #[.pointer (some ⟨q, 0, none⟩), .int .i64 zf, .int .i64 za] wc fun e w' => e = .returned (.int .i64 E) ∧ Jt w w' M1 M1 pr pr s s L L) := fun wa wc ha h => by
              have HG := ha.on h
              have := rstate_any (w.heap.size + 2) (w.heap.size + 2) 3 zf za M wc HG.rr.rx
              rw [← hE, ← hT] at this
              rw [← HPQ.out.2]
              exact this.mono fun e w' ⟨h1, h2, h3, h4⟩ => ⟨h1, HG.dm h2 h3 h4⟩
            clear hT hE
            go_wp2
            go_region_held3 (fun w' => w'.cell? ⟨b2, o2 + k, none⟩ = some (.int .i64 zf) ∧ w'.cell? ⟨b4, o4 + k, none⟩ = some (.int .i64 za)) (first | exact ⟨by assumption, by assumption⟩ | go_keep)
            (first
              | (go_at_call 11; refine (HA.out _ _ HI.out (by first | exact Below.refl _ _ | exact (Below.refl _ _).drew | exact ((Below.refl _ _).drew).drew)).mono ?_; rintro e w3 ⟨rfl, hj⟩; have H3 := rhide hj; clear hj c2 c4 HA HI; have c2 := G2.out w3 H3.out.below; have c4 := G4.out w3 H3.out.below)
              | fail)
            go_wp2
            go_region_held3 (fun w' => w'.cell? ⟨b2, o2 + k, none⟩ = some (.int .i64 zf) ∧ w'.cell? ⟨b4, o4 + k, none⟩ = some (.int .i64 za)) (first | exact ⟨by assumption, by assumption⟩ | go_keep)
            (first
              | (go_at_call 12; refine (HB.out _ _ H3.out (by first | exact Below.refl _ _ | exact (Below.refl _ _).drew | exact ((Below.refl _ _).drew).drew)).mono ?_; rintro e w4 ⟨rfl, hj⟩; have H4 := rhide hj; clear hj c2 c4 HB H3; have c2 := G2.out w4 H4.out.below; have c4 := G4.out w4 H4.out.below)
              | fail)
            go_wp2_with fail
            go_meet
            first | exact ⟨M1, L, E, rfl, rfl, H4.out⟩ | exact ⟨M1, L, E, rfl, rfl, H4.out.on (Below.refl _ _).drew⟩
        · as_aux_lemma =>
            obtain ⟨L1, hL⟩ : ∃ L1, L1 = Pregs.setR L za zv := ⟨_, rfl⟩
            obtain ⟨M1, hT⟩ : ∃ M1, M1 = svM 3 M zf L1 := ⟨_, rfl⟩
            obtain ⟨E, hE⟩ : ∃ E, E = svE 3 M zf := ⟨_, rfl⟩
            have HFL : Hid (FitL L1) := by rw [hL]; exact fit_seti HI.out.fl HZ5.out
            have HFT : Hid (Fit M1) := by rw [hT]; exact fit_sv HI.out.fm 3 zf HFL.out
            have HA : Hid (∀ wa wc, Jt w wa M M pr pr s s L L → Below wa.heap.size wa wc → Calls Tryz.prog 13 #[.pointer (some ⟨pr, 0, none⟩), .int .i64 za, .int .u64 zv] wc fun e w' => e = .returned (.int .i64 (Pregs.errR za)) ∧ Jt w w' M M pr pr s s L1 L) := fun wa wc ha h => by
              have HG := ha.on h
              rw [hL]
              exact (Pregs.set_any pr za zv L wc HG.file).mono fun e w' ⟨h1, h2⟩ => ⟨h1, HG.pg (by rw [h2]; exact HG.file.set _) (by rw [← hL]; exact HFL.out) (by rw [h2]; exact (But.refl _ _).setRow _)⟩
            have HB : Hid (∀ wa wc, Jt w wa M M pr pr s s L1 L → Below wa.heap.size wa wc → Calls Tryz.prog 14 #[.pointer (some ⟨s, 0, none⟩), .int .i64 za, .int .u64 zv] wc fun e w' => e = .returned (.int .i64 (Pregs.errR za)) ∧ Jt w w' M M pr pr s s L1 L1) := fun wa wc ha h => by
              have HG := ha.on h
              exact (Pregs.rset_any s s za zv L wc HG.rr.rf).mono fun e w' ⟨h1, h2, h3⟩ => ⟨h1, HG.dg (by rw [hL]; exact h2) HFL.out h3⟩
            have HC3 : Hid (∀ wa wc, Jt w wa M M pr pr s s L1 L1 → Below wa.heap.size wa wc → Calls Tryz.prog 15 #[.pointer (some ⟨p, 0, none⟩), .int .i64 zf, .pointer (some ⟨pr, 0, none⟩)] wc fun e w' => e = .returned (.int .i64 E) ∧ Jt w w' M1 M pr pr s s L1 L1) := fun wa wc ha h => by
              have HG := ha.on h
              have := HP.out.save wc M zf pr L1 HG.file HG.fl HG.mem HG.fm HG.below
              rw [HPQ.out.1, ← hE, ← hT] at this
              exact this.mono fun e w' ⟨h1, h2, h3⟩ => ⟨h1, HG.pm (by rw [HPQ.out.1]; exact h2) HFT.out h3⟩
            have HD3 : Hid (∀ wa wc, Jt w wa M1 M pr pr s s L1 L1 → Below wa.heap.size wa wc → Calls Tryz.prog 16 #[.pointer (some ⟨q, 0, none⟩), .int .i64 zf, .pointer (some ⟨s, 0, none⟩)] wc fun e w' => e = .returned (.int .i64 E) ∧ Jt w w' M1 M1 pr pr s s L1 L1) := fun wa wc ha h => by
              have HG := ha.on h
              have := rsave_any (w.heap.size + 2) (w.heap.size + 2) 3 zf M pr s s L1 wc HG.rr
              rw [← hE, ← hT] at this
              rw [← HPQ.out.2]
              exact this.mono fun e w' ⟨h1, h2, h3, h4⟩ => ⟨h1, HG.dm h2.rx h3 h4⟩
            clear hT hE hL
            go_wp2
            go_region_held3 (fun w' => w'.cell? ⟨b4, o4 + k, none⟩ = some (.int .i64 za) ∧ w'.cell? ⟨b5, o5 + k, none⟩ = some (.int .u64 zv)) (first | exact ⟨by assumption, by assumption⟩ | go_keep)
            (first
              | (go_at_call 13; refine (HA.out _ _ HI.out (by first | exact Below.refl _ _ | exact (Below.refl _ _).drew | exact ((Below.refl _ _).drew).drew)).mono ?_; rintro e w3 ⟨rfl, hj⟩; have H3 := rhide hj; clear hj c2 c4 c5 HA HI; have c2 := G2.out w3 H3.out.below; have c4 := G4.out w3 H3.out.below; have c5 := G5.out w3 H3.out.below)
              | fail)
            go_wp2
            go_region_held3 (fun w' => w'.cell? ⟨b4, o4 + k, none⟩ = some (.int .i64 za) ∧ w'.cell? ⟨b5, o5 + k, none⟩ = some (.int .u64 zv)) (first | exact ⟨by assumption, by assumption⟩ | go_keep)
            (first
              | (go_at_call 14; refine (HB.out _ _ H3.out (by first | exact Below.refl _ _ | exact (Below.refl _ _).drew | exact ((Below.refl _ _).drew).drew)).mono ?_; rintro e w4 ⟨rfl, hj⟩; have H4 := rhide hj; clear hj c2 c4 c5 HB H3; have c2 := G2.out w4 H4.out.below; have c4 := G4.out w4 H4.out.below; have c5 := G5.out w4 H4.out.below)
              | fail)
            go_wp2_with (first
              | (go_at_call 15; refine (HC3.out _ _ H4.out (by first | exact Below.refl _ _ | exact (Below.refl _ _).drew | exact ((Below.refl _ _).drew).drew)).mono ?_; rintro e w5 ⟨rfl, hj⟩; have H5 := rhide hj; clear hj c2 c4 c5 HC3 H4; have c2 := G2.out w5 H5.out.below; have c4 := G4.out w5 H5.out.below; have c5 := G5.out w5 H5.out.below)
              | (go_at_call 16; refine (HD3.out _ _ H5.out (by first | exact Below.refl _ _ | exact (Below.refl _ _).drew | exact ((Below.refl _ _).drew).drew)).mono ?_; rintro e w6 ⟨rfl, hj⟩; have H6 := rhide hj; clear hj c2 c4 c5 HD3 H5; have c2 := G2.out w6 H6.out.below; have c4 := G4.out w6 H6.out.below; have c5 := G5.out w6 H6.out.below)
              | fail)
            go_meet
            first | exact ⟨M1, L1, E, rfl, rfl, H6.out⟩ | exact ⟨M1, L1, E, rfl, rfl, H6.out.on (Below.refl _ _).drew⟩
        · as_aux_lemma =>
            obtain ⟨L1, hL⟩ : ∃ L1, L1 = ldL 3 M zf L := ⟨_, rfl⟩
            obtain ⟨E, hE⟩ : ∃ E, E = svE 3 M zf := ⟨_, rfl⟩
            have HFL : Hid (FitL L1) := by rw [hL]; exact fit_ld HI.out.fm 3 zf HI.out.fl
            have HA : Hid (∀ wa wc, Jt w wa M M pr pr s s L L → Below wa.heap.size wa wc → Calls Tryz.prog 17 #[.pointer (some ⟨p, 0, none⟩), .int .i64 zf, .pointer (some ⟨pr, 0, none⟩)] wc fun e w' => e = .returned (.int .i64 E) ∧ Jt w w' M M pr pr s s L1 L) := fun wa wc ha h => by
              have HG := ha.on h
              have := HP.out.load wc M zf pr L HG.file HG.fl HG.mem HG.fm HG.below
              rw [HPQ.out.1, ← hE, ← hL] at this
              exact this.mono fun e w' ⟨h1, h2, h3⟩ => ⟨h1, HG.pg h2 HFL.out h3⟩
            have HB : Hid (∀ wa wc, Jt w wa M M pr pr s s L1 L → Below wa.heap.size wa wc → Calls Tryz.prog 18 #[.pointer (some ⟨q, 0, none⟩), .int .i64 zf, .pointer (some ⟨s, 0, none⟩)] wc fun e w' => e = .returned (.int .i64 E) ∧ Jt w w' M M pr pr s s L1 L1) := fun wa wc ha h => by
              have HG := ha.on h
              have := rloadt_any (w.heap.size + 2) (w.heap.size + 2) 3 zf M pr s s L wc HG.rr
              rw [← hE, ← hL] at this
              rw [← HPQ.out.2]
              exact this.mono fun e w' ⟨h1, h2, h3⟩ => ⟨h1, HG.dg h2.rf HFL.out h3⟩
            clear hE hL
            go_wp2_with (first
              | (go_at_call 17; refine (HA.out _ _ HI.out (by first | exact Below.refl _ _ | exact (Below.refl _ _).drew | exact ((Below.refl _ _).drew).drew)).mono ?_; rintro e w3 ⟨rfl, hj⟩; have H3 := rhide hj; clear hj c2 HA HI; have c2 := G2.out w3 H3.out.below)
              | (go_at_call 18; refine (HB.out _ _ H3.out (by first | exact Below.refl _ _ | exact (Below.refl _ _).drew | exact ((Below.refl _ _).drew).drew)).mono ?_; rintro e w4 ⟨rfl, hj⟩; have H4 := rhide hj; clear hj c2 HB H3; have c2 := G2.out w4 H4.out.below)
              | fail)
            go_meet
            first | exact ⟨M, L1, E, rfl, rfl, H4.out⟩ | exact ⟨M, L1, E, rfl, rfl, H4.out.on (Below.refl _ _).drew⟩
        · as_aux_lemma =>
            obtain ⟨M1, hT⟩ : ∃ M1, M1 = rgM 3 M zf za zv := ⟨_, rfl⟩
            obtain ⟨E, hE⟩ : ∃ E, E = rgE 3 M zf za := ⟨_, rfl⟩
            have HFT : Hid (Fit M1) := by rw [hT]; exact fit_rg HI.out.fm 3 zf za zv HZ5.out
            have HA : Hid (∀ wa wc, Jt w wa M M pr pr s s L L → Below wa.heap.size wa wc → Calls Tryz.prog 19 #[.pointer (some ⟨p, 0, none⟩), .int .i64 zf, .int .i64 za, .int .u64 zv] wc fun e w' => e = .returned (.int .i64 E) ∧ Jt w w' M1 M pr pr s s L L) := fun wa wc ha h => by
              have HG := ha.on h
              have := HP.out.reg wc M zf za zv HZ5.out HG.mem HG.fm HG.below
              rw [HPQ.out.1, ← hE, ← hT] at this
              exact this.mono fun e w' ⟨h1, h2, h3⟩ => ⟨h1, HG.pm (by rw [HPQ.out.1]; exact h2) HFT.out h3⟩
            have HB : Hid (∀ wa wc, Jt w wa M1 M pr pr s s L L → Below wa.heap.size wa wc → Calls Tryz.prog 20 #[.pointer (some ⟨q, 0, none⟩), .int .i64 zf, .int .i64 za, .int .u64 zv] wc fun e w' => e = .returned (.int .i64 E) ∧ Jt w w' M1 M1 pr pr s s L L) := fun wa wc ha h => by
              have HG := ha.on h
              have := rreg_any (w.heap.size + 2) (w.heap.size + 2) 3 zf za zv M wc HG.rr.rx HZ5.out
              rw [← hE, ← hT] at this
              rw [← HPQ.out.2]
              exact this.mono fun e w' ⟨h1, h2, h3, h4⟩ => ⟨h1, HG.dm h2 h3 h4⟩
            clear hT hE
            go_wp2
            go_region_held3 (fun w' => w'.cell? ⟨b2, o2 + k, none⟩ = some (.int .i64 zf) ∧ w'.cell? ⟨b4, o4 + k, none⟩ = some (.int .i64 za) ∧ w'.cell? ⟨b5, o5 + k, none⟩ = some (.int .u64 zv)) (first | exact ⟨by assumption, by assumption, by assumption⟩ | go_keep)
            (first
              | (go_at_call 19; refine (HA.out _ _ HI.out (by first | exact Below.refl _ _ | exact (Below.refl _ _).drew | exact ((Below.refl _ _).drew).drew)).mono ?_; rintro e w3 ⟨rfl, hj⟩; have H3 := rhide hj; clear hj c2 c4 c5 HA HI; have c2 := G2.out w3 H3.out.below; have c4 := G4.out w3 H3.out.below; have c5 := G5.out w3 H3.out.below)
              | fail)
            go_wp2
            go_region_held3 (fun w' => w'.cell? ⟨b2, o2 + k, none⟩ = some (.int .i64 zf) ∧ w'.cell? ⟨b4, o4 + k, none⟩ = some (.int .i64 za) ∧ w'.cell? ⟨b5, o5 + k, none⟩ = some (.int .u64 zv)) (first | exact ⟨by assumption, by assumption, by assumption⟩ | go_keep)
            (first
              | (go_at_call 20; refine (HB.out _ _ H3.out (by first | exact Below.refl _ _ | exact (Below.refl _ _).drew | exact ((Below.refl _ _).drew).drew)).mono ?_; rintro e w4 ⟨rfl, hj⟩; have H4 := rhide hj; clear hj c2 c4 c5 HB H3; have c2 := G2.out w4 H4.out.below; have c4 := G4.out w4 H4.out.below; have c5 := G5.out w4 H4.out.below)
              | fail)
            go_wp2_with fail
            go_meet
            first | exact ⟨M1, L, E, rfl, rfl, H4.out⟩ | exact ⟨M1, L, E, rfl, rfl, H4.out.on (Below.refl _ _).drew⟩
      case rest =>
        as_aux_lemma =>
          obtain ⟨M2, L2, E0, hvx, hvy, h4⟩ := hcut
          subst hvx
          subst hvy
          have H4 : Hid (Jt w wc M2 M2 pr pr s s L2 L2) := h4
          clear h4 c1 c2 c4 c5 g0 g1 g2 g3 g4 HI hq'
          have c2 := G2.out wc H4.out.below
          have HG : Hid (∀ wx, Jt w wx M2 M2 pr pr s s L2 L2 → Calls Tryz.prog 21 #[.pointer (some ⟨p, 0, none⟩), .int .i64 zf] wx fun e w' => e = .returned (.tuple #[.agg #[.int .i64 (gtT 3 M2 zf).st, .int .i64 (gtT 3 M2 zf).co, .int .i64 (gtT 3 M2 zf).tc, .int .i64 (gtT 3 M2 zf).rc, .int .i64 (gtT 3 M2 zf).de], .int .i64 (gtE 3 M2 zf)]) ∧ Below wx.heap.size wx w') := fun wx h => by
            have := HP.out.get wx M2 zf h.mem h.fm h.below
            rwa [HPQ.out.1] at this
          have HH : Hid (∀ wx, Jt w wx M2 M2 pr pr s s L2 L2 → Calls Tryz.prog 22 #[.pointer (some ⟨q, 0, none⟩), .int .i64 zf] wx fun e w' => e = .returned (.tuple #[.agg #[.int .i64 (gtT 3 M2 zf).st, .int .i64 (gtT 3 M2 zf).co, .int .i64 (gtT 3 M2 zf).tc, .int .i64 (gtT 3 M2 zf).rc, .int .i64 (gtT 3 M2 zf).de], .int .i64 (gtE 3 M2 zf)]) ∧ Below wx.heap.size wx w') := fun wx h => by
            have := rget_any (w.heap.size + 2) (w.heap.size + 2) 3 zf M2 wx h.rr.rx
            rwa [HPQ.out.2] at this
          generalize hY : gtT 3 M2 zf = Y at HG HH
          generalize gtE 3 M2 zf = E at HG HH
          clear hY
          go_upto_region 32 with (first
            | (go_at_call 21; refine (HG.out _ H4.out).mono ?_; rintro e w5 ⟨rfl, hB5⟩; have H5 := rhide (H4.out.on hB5); clear hB5 c2)
            | fail)
          have K5 := seen H5.out Y
          generalize w5.alloc _ = v5 at K5 ⊢
          generalize w5.heap.size = Da at K5 ⊢
          have H6 := rhide K5.1
          have HB6 : Hid (RowT v5 Da Y) := K5.2
          clear K5 H5 H4 HG
          have c2 := G2.out v5 H6.out.below
          go_upto_region 33 with (first
            | (go_at_call 22; refine (HH.out _ H6.out).mono ?_; rintro e w7 ⟨rfl, hB7⟩; have H7 := rhide (H6.out.on hB7); have HB7 : Hid (RowT w7 Da Y) := HB6.out.on hB7; clear hB7 c2)
            | fail)
          have K7 := seen H7.out Y
          have A7 := HB7.out.on (bal (Below.refl w7.heap.size w7) (.cells #[.int .i64 Y.st, .int .i64 Y.co, .int .i64 Y.tc, .int .i64 Y.rc, .int .i64 Y.de] 37))
          generalize w7.alloc _ = v7 at K7 A7 ⊢
          generalize w7.heap.size = Db at K7 ⊢
          obtain ⟨b0, cp, hra⟩ := K7.1.rr.rf
          have H8 : Hid (Kr w v7 M2 pr s L2 b0 cp Da Db Y) := ⟨K7.1, A7, K7.2, hra⟩
          clear K7 A7 H7 HB7 H6 HB6 HH hra
          have HS : Hid (∀ wx, Kr w wx M2 pr s L2 b0 cp Da Db Y → Calls Tryz.prog 23 #[.agg #[.int .i64 c.st, .int .i64 c.co, .int .i64 c.tc, .int .i64 c.rc, .int .i64 c.de]] wx fun e w' => e = .returned (.int .i64 (ckE c)) ∧ Below wx.heap.size wx w') := fun wx h => HP.out.check wx c HC.out h.jt.below
          have HT : Hid (∀ wx, Kr w wx M2 pr s L2 b0 cp Da Db Y → Calls Tryz.prog 24 #[.agg #[.int .i64 c.st, .int .i64 c.co, .int .i64 c.tc, .int .i64 c.rc, .int .i64 c.de]] wx fun e w' => e = .returned (.int .i64 (ckE c)) ∧ Below wx.heap.size wx w') := fun wx h => rcheck_any c wx
          have HL : Hid (∀ wx, Kr w wx M2 pr s L2 b0 cp Da Db Y → Calls Tryz.prog 26 #[.pointer (some ⟨pr, 0, none⟩)] wx fun e w' => e = .returned (.slice (some ⟨wx.heap.size, 0, none⟩) 8 8) ∧ Pregs.ListIs w' wx.heap.size L2 ∧ Below wx.heap.size wx w') := fun wx h => (Pregs.all_any pr L2 wx h.jt.file).mono fun e w' ⟨h1, h2⟩ => ⟨h1, by rw [h2]; exact Pregs.allW_is wx L2, by rw [h2]; exact Pregs.allW_below wx L2⟩
          have HWd : Hid (∀ wx, Kr w wx M2 pr s L2 b0 cp Da Db Y → ∀ {x : Nat}, Pregs.ListIs wx x L2 → Calls Tryz.prog 25 #[.slice (some ⟨x, 0, none⟩) 8 8, .slice (some ⟨b0, 0, none⟩) 8 cp] wx fun e w' => e = .returned (.bool true) ∧ Below wx.heap.size wx w') := fun wx h x hx => (Pregs.words_same x 8 b0 cp L2 wx hx h.ra.list).mono fun e w' ⟨h1, m, h2⟩ => ⟨h1, by rw [h2]; exact Pregs.below_drewN (Below.refl _ _) m⟩
          have HA : Hid (∀ wx, Kr w wx M2 pr s L2 b0 cp Da Db Y → Calls Tryz.prog 27 #[.pointer (some ⟨p, 0, none⟩), .pointer (some ⟨q, 0, none⟩)] wx fun e w' => e = .returned (.bool true) ∧ Below wx.heap.size wx w') := fun wx h => by
            have := alike_any 3 M2 w wx (by omega) (by omega) h.jt.both
            rwa [HPQ.out.1, HPQ.out.2] at this
          generalize ckE c = I at HS HT
          have hne := neqT Y
          have bz0 : (E0 != E0) = false := by simp
          have bE : (E != E) = false := by simp
          have bI : (I != I) = false := by simp
          have x0 := H8.out.xa.c0
          have y0 := H8.out.xb.c0
          have x1 := H8.out.xa.c1
          have y1 := H8.out.xb.c1
          have x2 := H8.out.xa.c2
          have y2 := H8.out.xb.c2
          have x3 := H8.out.xa.c3
          have y3 := H8.out.xb.c3
          have x4 := H8.out.xa.c4
          have y4 := H8.out.xb.c4
          have u0 := H8.out.ra.cell
          obtain ⟨g0, g1, g2, g3, g4⟩ := G3.out v7 H8.out.jt.below
          go_region_held3 (fun w' => w'.cell? ⟨Da, 0, none⟩ = some (.int .i64 Y.st) ∧ w'.cell? ⟨Da, 1, none⟩ = some (.int .i64 Y.co) ∧ w'.cell? ⟨Da, 2, none⟩ = some (.int .i64 Y.tc) ∧ w'.cell? ⟨Da, 3, none⟩ = some (.int .i64 Y.rc) ∧ w'.cell? ⟨Da, 4, none⟩ = some (.int .i64 Y.de) ∧ w'.cell? ⟨Db, 0, none⟩ = some (.int .i64 Y.st) ∧ w'.cell? ⟨Db, 1, none⟩ = some (.int .i64 Y.co) ∧ w'.cell? ⟨Db, 2, none⟩ = some (.int .i64 Y.tc) ∧ w'.cell? ⟨Db, 3, none⟩ = some (.int .i64 Y.rc) ∧ w'.cell? ⟨Db, 4, none⟩ = some (.int .i64 Y.de) ∧ w'.cell? ⟨b3, o3 + k * 5, none⟩ = some (.int .i64 c.st) ∧ w'.cell? ⟨b3, o3 + k * 5 + 1, none⟩ = some (.int .i64 c.co) ∧ w'.cell? ⟨b3, o3 + k * 5 + 2, none⟩ = some (.int .i64 c.tc) ∧ w'.cell? ⟨b3, o3 + k * 5 + 3, none⟩ = some (.int .i64 c.rc) ∧ w'.cell? ⟨b3, o3 + k * 5 + 4, none⟩ = some (.int .i64 c.de) ∧ w'.cell? ⟨s, 0, none⟩ = some (.slice (some ⟨b0, 0, none⟩) 8 cp)) (first | exact ⟨by assumption, by assumption, by assumption, by assumption, by assumption, by assumption, by assumption, by assumption, by assumption, by assumption, by assumption, by assumption, by assumption, by assumption, by assumption, by assumption⟩ | go_keep)
          (first
            | (go_at_call 23; refine (HS.out _ (by first | exact H8.out | exact H8.out.on (Below.refl _ _).drew)).mono ?_; rintro e w9 ⟨rfl, hB⟩; have H9 : Hid (Kr w w9 M2 pr s L2 b0 cp Da Db Y) := H8.out.on (by first | exact hB | exact (Below.refl _ _).drew.trans hB); clear HS; clear x0 x1 x2 x3 x4 y0 y1 y2 y3 y4 g0 g1 g2 g3 g4 u0; have x0 := H9.out.xa.c0; have y0 := H9.out.xb.c0; have x1 := H9.out.xa.c1; have y1 := H9.out.xb.c1; have x2 := H9.out.xa.c2; have y2 := H9.out.xb.c2; have x3 := H9.out.xa.c3; have y3 := H9.out.xb.c3; have x4 := H9.out.xa.c4; have y4 := H9.out.xb.c4; have u0 := H9.out.ra.cell; obtain ⟨g0, g1, g2, g3, g4⟩ := G3.out w9 H9.out.jt.below; clear hB)
            | (go_at_call 24; refine (HT.out _ (by first | exact H9.out | exact H9.out.on (Below.refl _ _).drew)).mono ?_; rintro e wu ⟨rfl, hB⟩; have Hu : Hid (Kr w wu M2 pr s L2 b0 cp Da Db Y) := H9.out.on (by first | exact hB | exact (Below.refl _ _).drew.trans hB); clear HT; clear x0 x1 x2 x3 x4 y0 y1 y2 y3 y4 g0 g1 g2 g3 g4 u0; have x0 := Hu.out.xa.c0; have y0 := Hu.out.xb.c0; have x1 := Hu.out.xa.c1; have y1 := Hu.out.xb.c1; have x2 := Hu.out.xa.c2; have y2 := Hu.out.xb.c2; have x3 := Hu.out.xa.c3; have y3 := Hu.out.xb.c3; have x4 := Hu.out.xa.c4; have y4 := Hu.out.xb.c4; have u0 := Hu.out.ra.cell; obtain ⟨g0, g1, g2, g3, g4⟩ := G3.out wu Hu.out.jt.below; clear hB)
            | (go_at_call 26; refine (HL.out _ (by first | exact Hu.out | exact Hu.out.on (Below.refl _ _).drew)).mono ?_; rintro e wv ⟨rfl, hxl, hB⟩; have Hv : Hid (Kr w wv M2 pr s L2 b0 cp Da Db Y) := Hu.out.on (by first | exact hB | exact (Below.refl _ _).drew.trans hB); clear HL; clear x0 x1 x2 x3 x4 y0 y1 y2 y3 y4 g0 g1 g2 g3 g4 u0; have x0 := Hv.out.xa.c0; have y0 := Hv.out.xb.c0; have x1 := Hv.out.xa.c1; have y1 := Hv.out.xb.c1; have x2 := Hv.out.xa.c2; have y2 := Hv.out.xb.c2; have x3 := Hv.out.xa.c3; have y3 := Hv.out.xb.c3; have x4 := Hv.out.xa.c4; have y4 := Hv.out.xb.c4; have u0 := Hv.out.ra.cell; obtain ⟨g0, g1, g2, g3, g4⟩ := G3.out wv Hv.out.jt.below; have HXL := rhide hxl; clear hxl hB)
            | (go_at_call 25; refine (HWd.out _ (by first | exact Hv.out | exact Hv.out.on (Below.refl _ _).drew) (by first | exact HXL.out | exact HXL.out.more (Below.refl _ _).drew)).mono ?_; rintro e wx ⟨rfl, hB⟩; have Hx : Hid (Kr w wx M2 pr s L2 b0 cp Da Db Y) := Hv.out.on (by first | exact hB | exact (Below.refl _ _).drew.trans hB); clear HWd; clear x0 x1 x2 x3 x4 y0 y1 y2 y3 y4 g0 g1 g2 g3 g4 u0; have x0 := Hx.out.xa.c0; have y0 := Hx.out.xb.c0; have x1 := Hx.out.xa.c1; have y1 := Hx.out.xb.c1; have x2 := Hx.out.xa.c2; have y2 := Hx.out.xb.c2; have x3 := Hx.out.xa.c3; have y3 := Hx.out.xb.c3; have x4 := Hx.out.xa.c4; have y4 := Hx.out.xb.c4; have u0 := Hx.out.ra.cell; obtain ⟨g0, g1, g2, g3, g4⟩ := G3.out wx Hx.out.jt.below; clear hB)
            | (go_at_call 27; refine (HA.out _ (by first | exact Hx.out | exact Hx.out.on (Below.refl _ _).drew)).mono ?_; rintro e wy ⟨rfl, hB⟩; have Hy : Hid (Kr w wy M2 pr s L2 b0 cp Da Db Y) := Hx.out.on (by first | exact hB | exact (Below.refl _ _).drew.trans hB); clear HA; clear x0 x1 x2 x3 x4 y0 y1 y2 y3 y4 g0 g1 g2 g3 g4 u0; have x0 := Hy.out.xa.c0; have y0 := Hy.out.xb.c0; have x1 := Hy.out.xa.c1; have y1 := Hy.out.xb.c1; have x2 := Hy.out.xa.c2; have y2 := Hy.out.xb.c2; have x3 := Hy.out.xa.c3; have y3 := Hy.out.xb.c3; have x4 := Hy.out.xa.c4; have y4 := Hy.out.xb.c4; have u0 := Hy.out.ra.cell; obtain ⟨g0, g1, g2, g3, g4⟩ := G3.out wy Hy.out.jt.below; clear hB)
            | fail)
          go_wp2
          go_roundw
          case rel => first | exact ⟨k + 1, by omega, by go_num, M2, L2, Hy.out.jt⟩ | exact ⟨k + 1, by omega, by go_num, M2, L2, Hy.out.jt.on (Below.refl _ _).drew⟩
          case measure => simp [intOf]; omega
    · have hin' : ¬ k < len1 ∨ (k < len1 ∧ ¬ k < len2) ∨ (k < len1 ∧ k < len2 ∧ ¬ k < len3) ∨ (k < len1 ∧ k < len2 ∧ k < len3 ∧ ¬ k < len4) ∨ (k < len1 ∧ k < len2 ∧ k < len3 ∧ k < len4 ∧ ¬ k < len5) ∨ (k < len1 ∧ k < len2 ∧ k < len3 ∧ k < len4 ∧ k < len5 ∧ ¬ k < 40) := by omega
      clear hin
      rcases hin' with h1 | ⟨h1, h2⟩ | ⟨h1, h2, h3⟩ | ⟨h1, h2, h3, h4⟩ | ⟨h1, h2, h3, h4, h5⟩ | ⟨h1, h2, h3, h4, h5, h6⟩
      all_goals
        go_wp2_with (first
          | (go_at_call 28; refine (HP.out.awake _ HI.out.below).mono ?_; rintro e w8 ⟨rfl, hB8⟩; have H8 : Hid (Below w.heap.size w w8) := HI.out.below.trans (hB8.mono HI.out.below.size); clear hB8)
          | fail)
        go_ret
        exact ⟨rfl, H8.out⟩
end Go.Proofs.YtaajacmbnigadaaGreatDoor.Pthd
