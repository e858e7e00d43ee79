/- The walk of RingPlays (written by mk_plays.py). -/
import Derived.Test.YtdplailaolfpkaaDoorRngD
import Derived.Test.YtdplailaolfpkaaDoorRngS
import Derived.Test.YtdplailaolfpkaaDoorRngI
import Derived.Test.YtdplailaolfpkaaDoorBunMem
import Derived.Deep.CutBlock
import Derived.Deep.RegionHeld3
import Derived.BigRegion
namespace Go.Proofs.YtdplailaolfpkaaDoor.Pring
open Go.Proofs.YtdplailaolfpkaaDoor.Pbase Go.Proofs.YtdplailaolfpkaaDoor.Pfield Go.Proofs.YtdplailaolfpkaaDoor.Play Go.Proofs.YtdplailaolfpkaaDoor.Pmem
open Go.RowKit M
set_option linter.unusedVariables false

theorem rem5r {z : Int} (h : (Lit.int .u8 z).wf = true) : z.tmod 5 = 0 ∨ z.tmod 5 = 1 ∨ z.tmod 5 = 2 ∨ z.tmod 5 = 3 ∨ z.tmod 5 = 4 := by
  obtain ⟨r, h1, h2⟩ := rem_u8 h 5 (by omega)
  have : z.tmod 5 = (r : Int) := h1
  omega
theorem u64_wf {a : Int} (h : (Lit.int .u64 a).wf = true) : 0 ≤ a ∧ a ≤ 18446744073709551615 := by
  have h' : (decide (IntKind.u64.min ≤ a) && decide (a ≤ IntKind.u64.max)) = true := h
  have e1 : IntKind.u64.min = 0 := by decide
  have e2 : IntKind.u64.max = 18446744073709551615 := by decide
  rw [e1, e2] at h'
  simpa using h'
theorem both_mx {w wr : World} {M : Nat → Nat → Int} (h : Both w wr 2 M) (hT : Ts w) (hF : Fit M) : Mx wr (w.heap.size + 1) w.heap.size 2 M := mx_of hT h.below h.mem hF (by omega) (by omega)
theorem both_rx {w wr : World} {M : Nat → Nat → Int} (h : Both w wr 2 M) (hF : Fit M) : Rx wr (w.heap.size + 2) (w.heap.size + 2) 2 M := ⟨h.ref, hF, by omega, by omega⟩
/-- The memories and the same list twice. -/
structure Kt (w W : World) (M : Nat → Nat → Int) (L : List Ev) (a1 : Option Addr) (cp1 : Nat) (a2 : Option Addr) (cp2 : Nat) : Prop where
  both : Both w W 2 M
  one : Evs W 0 (.slice a1 L.length cp1) L
  two : Evs W 0 (.slice a2 L.length cp2) L
theorem Kt.on {w W W' : World} {M : Nat → Nat → Int} {L : List Ev} {a1 : Option Addr} {cp1 : Nat} {a2 : Option Addr} {cp2 : Nat} (h : Kt w W M L a1 cp1 a2 cp2) (hB : Below W.heap.size W W') : Kt w W' M L a1 cp1 a2 cp2 :=
  ⟨h.both.grown hB, h.one.on hB, h.two.on hB⟩
theorem al_len (N : Nat) {M : Nat → Nat → Int} (hF : Fit M) (f : Int) : (alL N M f).length ≤ 8 := by
  unfold alL
  split
  · rename_i h
    rw [List.length_map, List.length_range]
    unfold alE at h
    split at h
    · rename_i hp
      have := (pl_yes hF hp).2.2.2
      omega
    · rename_i hp
      exact absurd h hp
  · exact Nat.zero_le _
set_option maxRecDepth 100000 in
set_option maxHeartbeats 40000000 in
theorem plays_walk (a0 : Option Addr) (len0 cap0 : Nat) (a1 : Option Addr) (len1 cap1 : Nat) (a2 : Option Addr) (len2 cap2 : Nat) (a3 : Option Addr) (len3 cap3 : Nat) (a4 : Int) (w : World) (w0 : Hid (Came .u64 w.heap.size w a0 len0)) (l0 : len0 ≤ 9223372036854775807) (D1 : Hid (Came .u8 w.heap.size w a1 len1)) (l1 : len1 ≤ 9223372036854775807) (D2 : Hid (Came .i64 w.heap.size w a2 len2)) (l2 : len2 ≤ 9223372036854775807) (D3 : Hid (CameE w.heap.size w a3 len3)) (l3 : len3 ≤ 9223372036854775807) (w4 : (Lit.int .u64 a4).wf = true) (hT : Ts w) :
    Calls Tryd.prog 3 #[.slice a0 len0 cap0, .slice a1 len1 cap1, .slice a2 len2 cap2, .slice a3 len3 cap3, .int .u64 a4] w fun e w' => e = .returned (.bool true) ∧ Below w.heap.size w w' := by
  have HT := rhide hT
  have hz := u64_wf w4
  have HO : Hid (∀ wx, Below w.heap.size w wx → Calls Tryd.prog 7 #[.int .u64 a4] wx fun e w' => e = .returned (.tuple #[.agg #[.int .i64 (ofX a4).k, .int .i64 (ofX a4).t], .int .i64 (ofE a4)]) ∧ Below wx.heap.size wx w') := fun wx h => of_any a4 hz wx (HT.out.wd.on h)
  have HQ : Hid (∀ wx, Calls Tryd.prog 8 #[.int .u64 a4] wx fun e w' => e = .returned (.tuple #[.agg #[.int .i64 (ofX a4).k, .int .i64 (ofX a4).t], .int .i64 (ofE a4)]) ∧ Below wx.heap.size wx w') := fun wx => rof_any a4 hz wx
  clear hT hz w4
  generalize ofX a4 = Z at HO HQ
  generalize ofE a4 = Ez at HO HQ
  have hnz := neqE Z
  have bz : (Ez != Ez) = false := by simp
  go_enter Tryd.func3, Tryd.ntmps3
  go_upto_region 4 with (first
    | (go_at_call 6; refine (laid_any a0 len0 cap0 2 _ (by omega) (by omega) w0 l0).mono ?_; rintro e1 w1 ⟨rfl, M0, hF0, hB0⟩; have HI0 : Hid (∃ M, Fit M ∧ Both w w1 2 M) := ⟨M0, hF0, hB0⟩; clear hF0 hB0)
    | fail)
  have HPQ0 : w.heap.size + 1 = w.heap.size + 1 ∧ w.heap.size + 2 = w.heap.size + 2 := ⟨rfl, rfl⟩
  generalize hp : w.heap.size + 1 = p
  generalize hq : w.heap.size + 2 = q
  have HPQ : Hid (w.heap.size + 1 = p ∧ w.heap.size + 2 = q) := ⟨hp, hq⟩
  clear hp hq HPQ0 w0 l0
  go_upto_region 5 with (first
    | (go_at_call 7; refine (HO.out _ (by obtain ⟨M, _, hB⟩ := HI0.out; exact hB.below)).mono ?_; rintro e2 w2 ⟨rfl, hb⟩; have H2 : Hid (∃ M, Fit M ∧ Both w w2 2 M) := (by obtain ⟨M, hF, hB⟩ := HI0.out; exact ⟨M, hF, hB.grown hb⟩); clear hb HI0 HO)
    | fail)
  have K2 : (∃ M, Fit M ∧ Both w (w2.alloc (.cells #[.int .i64 Z.k, .int .i64 Z.t] 32)) 2 M) ∧ RowE (w2.alloc (.cells #[.int .i64 Z.k, .int .i64 Z.t] 32)) w2.heap.size Z := ⟨by obtain ⟨M, hF, hB⟩ := H2.out; exact ⟨M, hF, hB.grown (bal (Below.refl _ _) _)⟩, rowE_new w2 Z⟩
  generalize w2.alloc _ = v2 at K2 ⊢
  generalize w2.heap.size = Za at K2 ⊢
  have H3 := rhide K2
  clear K2 H2
  go_upto_region 6 with (first
    | (go_at_call 8; refine (HQ.out _).mono ?_; rintro e3 w3 ⟨rfl, hb⟩; have H4 : Hid ((∃ M, Fit M ∧ Both w w3 2 M) ∧ RowE w3 Za Z) := ⟨by obtain ⟨M, hF, hB⟩ := H3.out.1; exact ⟨M, hF, hB.grown hb⟩, H3.out.2.on hb⟩; clear hb H3 HQ)
    | fail)
  have K4 : (∃ M, Fit M ∧ Both w (w3.alloc (.cells #[.int .i64 Z.k, .int .i64 Z.t] 32)) 2 M) ∧ RowE (w3.alloc (.cells #[.int .i64 Z.k, .int .i64 Z.t] 32)) Za Z ∧ RowE (w3.alloc (.cells #[.int .i64 Z.k, .int .i64 Z.t] 32)) w3.heap.size Z := ⟨by obtain ⟨M, hF, hB⟩ := H4.out.1; exact ⟨M, hF, hB.grown (bal (Below.refl _ _) _)⟩, H4.out.2.on (bal (Below.refl _ _) _), rowE_new w3 Z⟩
  generalize w3.alloc _ = v4 at K4 ⊢
  generalize w3.heap.size = Zb at K4 ⊢
  have x0 := K4.2.1.c0
  have x1 := K4.2.1.c1
  have y0 := K4.2.2.c0
  have y1 := K4.2.2.c1
  have HI0 := rhide K4.1
  clear K4 H4
  go_wp2
  clear x0 x1 y0 y1
  go_loopw [17] (fun i wr => ∃ k : Nat, k ≤ len1 ∧ i = .int .i64 k ∧ ∃ M, Fit M ∧ Both w wr 2 M) (fun i _ => len1 - (intOf i).toNat)
  case atStart => exact ⟨0, by omega, rfl, HI0.out⟩
  case round =>
    obtain ⟨k, hk0, rfl, M, hF, hI⟩ := hrel
    have HI := rhide hI
    have HF := rhide hF
    clear hI hF HI0
    by_cases hin : k < len1 ∧ k < len2 ∧ k < len3 ∧ k < 60
    · obtain ⟨h1, h2, h3, h4⟩ := hin
      obtain ⟨b1, o1, z1, rfl, HZ1, G1⟩ := D1.out.any h1
      obtain ⟨b2, o2, zf, rfl, _, G2⟩ := D2.out.any h2
      obtain ⟨b3, o3, c, rfl, hc, G3⟩ := D3.out.at h3
      clear hc
      have i1 : (k : Int) < (len1 : Int) := by omega
      have i2 : (k : Int) < (len2 : Int) := by omega
      have i3 : (k : Int) < (len3 : Int) := by omega
      have i4 : (k : Int) < 60 := by omega
      have c1 := G1.out wr HI.out.below
      have c2 := G2.out wr HI.out.below
      obtain ⟨g0, g1⟩ := G3.out wr HI.out.below
      have hq' := rem5r HZ1.out
      clear HZ1
      go_upto_block 2 with fail
      go_cut [] from 78 to 164 (fun wc => ∃ M, Fit M ∧ Both w wc 2 M)
      case first =>
        rcases hq' with hq | hq | hq | hq | hq
        · as_aux_lemma =>
            obtain ⟨M1, hT⟩ : ∃ M1, M1 = crM 2 M zf := ⟨_, rfl⟩
            obtain ⟨E, hE⟩ : ∃ E, E = crE 2 M zf := ⟨_, rfl⟩
            have HFT : Hid (Fit M1) := by rw [hT]; exact fit_cr HF.out 2 zf
            have HA : Hid (∀ wc, Below wr.heap.size wr wc → Calls Tryd.prog 9 #[.pointer (some ⟨p, 0, none⟩), .int .i64 zf] wc fun e w' => e = .returned (.int .i64 E) ∧ Half w w' 2 M M1) := fun wc h => by
              have HG := HI.out.grown h
              have := clear_any (w.heap.size + 1) w.heap.size 2 zf M wc (both_mx HG HT.out HF.out)
              rw [HPQ.out.1, ← hE, ← hT] at this
              exact this.mono fun e w' ⟨h1, h2, h3⟩ => ⟨h1, HG.half (by rw [HPQ.out.1]; exact h2.mem) h3⟩
            have HB : Hid (∀ wa wc, Half w wa 2 M M1 → Below wa.heap.size wa wc → Calls Tryd.prog 10 #[.pointer (some ⟨q, 0, none⟩), .int .i64 zf] wc fun e w' => e = .returned (.int .i64 E) ∧ Both w w' 2 M1) := fun wa wc ha h => by
              have HG := ha.grown h
              have := rclear_any (w.heap.size + 2) (w.heap.size + 2) 2 zf M wc ⟨HG.ref, HF.out, by omega, by omega⟩
              rw [← hE, ← hT] at this
              rw [← HPQ.out.2]
              exact this.mono fun e w' ⟨h1, h2⟩ => ⟨h1, HG.turn h2.rx.ref h2.below⟩
            have bE : (E != E) = false := by simp
            clear hT hE
            clear g0 g1
            go_wp2
            go_region_held3 (fun w' => w'.cell? ⟨b2, o2 + k, none⟩ = some (.int .i64 zf)) (first | with_reducible assumption | go_keep)
            (first
              | (go_at_call 9; refine (HA.out _ (by first | exact Below.refl _ _ | exact (Below.refl _ _).drew | exact ((Below.refl _ _).drew).drew)).mono ?_; rintro e w3 ⟨rfl, h3⟩; have H3 : Hid (Half w w3 2 M M1) := h3; clear h3 c2 HA; have c2 := G2.out w3 H3.out.below)
              | (go_at_call 10; refine (HB.out _ _ H3.out (by first | exact Below.refl _ _ | exact (Below.refl _ _).drew | exact ((Below.refl _ _).drew).drew)).mono ?_; rintro e w4 ⟨rfl, h4⟩; have H4 : Hid (Both w w4 2 M1) := h4; clear h4 c2 HB H3; have c2 := G2.out w4 H4.out.below)
              | fail)
            all_goals
              go_wp2_with fail
              go_meet
              first | exact ⟨M1, HFT.out, H4.out⟩ | exact ⟨M1, HFT.out, H4.out.grown (Below.refl _ _).drew⟩
        · as_aux_lemma =>
            obtain ⟨M1, hT⟩ : ∃ M1, M1 = puM 2 M zf c := ⟨_, rfl⟩
            obtain ⟨E, hE⟩ : ∃ E, E = puE 2 M zf c := ⟨_, rfl⟩
            have HFT : Hid (Fit M1) := by rw [hT]; exact fit_pu HF.out 2 zf c
            have HA : Hid (∀ wc, Below wr.heap.size wr wc → Calls Tryd.prog 11 #[.pointer (some ⟨p, 0, none⟩), .int .i64 zf, .agg #[.int .i64 c.k, .int .i64 c.t]] wc fun e w' => e = .returned (.int .i64 E) ∧ Half w w' 2 M M1) := fun wc h => by
              have HG := HI.out.grown h
              have := put_any (w.heap.size + 1) w.heap.size 2 zf c M wc (both_mx HG HT.out HF.out)
              rw [HPQ.out.1, ← hE, ← hT] at this
              exact this.mono fun e w' ⟨h1, h2, h3⟩ => ⟨h1, HG.half (by rw [HPQ.out.1]; exact h2.mem) h3⟩
            have HB : Hid (∀ wa wc, Half w wa 2 M M1 → Below wa.heap.size wa wc → Calls Tryd.prog 12 #[.pointer (some ⟨q, 0, none⟩), .int .i64 zf, .agg #[.int .i64 c.k, .int .i64 c.t]] wc fun e w' => e = .returned (.int .i64 E) ∧ Both w w' 2 M1) := fun wa wc ha h => by
              have HG := ha.grown h
              have := rput_any (w.heap.size + 2) (w.heap.size + 2) 2 zf c M wc ⟨HG.ref, HF.out, by omega, by omega⟩
              rw [← hE, ← hT] at this
              rw [← HPQ.out.2]
              exact this.mono fun e w' ⟨h1, h2⟩ => ⟨h1, HG.turn h2.rx.ref h2.below⟩
            have bE : (E != E) = false := by simp
            clear hT hE
            go_wp2
            go_region_held3 (fun w' => w'.cell? ⟨b2, o2 + k, none⟩ = some (.int .i64 zf) ∧ w'.cell? ⟨b3, o3 + k * 2, none⟩ = some (.int .i64 c.k) ∧ w'.cell? ⟨b3, o3 + k * 2 + 1, none⟩ = some (.int .i64 c.t)) (first | (refine ⟨?_, ?_, ?_⟩ <;> with_reducible assumption) | go_keep)
            (first
              | (go_at_call 11; refine (HA.out _ (by first | exact Below.refl _ _ | exact (Below.refl _ _).drew | exact ((Below.refl _ _).drew).drew)).mono ?_; rintro e w3 ⟨rfl, h3⟩; have H3 : Hid (Half w w3 2 M M1) := h3; clear h3 c2 g0 g1 HA; have c2 := G2.out w3 H3.out.below; obtain ⟨g0, g1⟩ := G3.out w3 H3.out.below)
              | (go_at_call 12; refine (HB.out _ _ H3.out (by first | exact Below.refl _ _ | exact (Below.refl _ _).drew | exact ((Below.refl _ _).drew).drew)).mono ?_; rintro e w4 ⟨rfl, h4⟩; have H4 : Hid (Both w w4 2 M1) := h4; clear h4 c2 g0 g1 HB H3; have c2 := G2.out w4 H4.out.below; obtain ⟨g0, g1⟩ := G3.out w4 H4.out.below)
              | fail)
            all_goals
              go_wp2_with fail
              go_meet
              first | exact ⟨M1, HFT.out, H4.out⟩ | exact ⟨M1, HFT.out, H4.out.grown (Below.refl _ _).drew⟩
        · as_aux_lemma =>
            obtain ⟨M1, hT⟩ : ∃ M1, M1 = puM 2 M zf c := ⟨_, rfl⟩
            obtain ⟨E, hE⟩ : ∃ E, E = puE 2 M zf c := ⟨_, rfl⟩
            have HFT : Hid (Fit M1) := by rw [hT]; exact fit_pu HF.out 2 zf c
            have HA : Hid (∀ wc, Below wr.heap.size wr wc → Calls Tryd.prog 11 #[.pointer (some ⟨p, 0, none⟩), .int .i64 zf, .agg #[.int .i64 c.k, .int .i64 c.t]] wc fun e w' => e = .returned (.int .i64 E) ∧ Half w w' 2 M M1) := fun wc h => by
              have HG := HI.out.grown h
              have := put_any (w.heap.size + 1) w.heap.size 2 zf c M wc (both_mx HG HT.out HF.out)
              rw [HPQ.out.1, ← hE, ← hT] at this
              exact this.mono fun e w' ⟨h1, h2, h3⟩ => ⟨h1, HG.half (by rw [HPQ.out.1]; exact h2.mem) h3⟩
            have HB : Hid (∀ wa wc, Half w wa 2 M M1 → Below wa.heap.size wa wc → Calls Tryd.prog 12 #[.pointer (some ⟨q, 0, none⟩), .int .i64 zf, .agg #[.int .i64 c.k, .int .i64 c.t]] wc fun e w' => e = .returned (.int .i64 E) ∧ Both w w' 2 M1) := fun wa wc ha h => by
              have HG := ha.grown h
              have := rput_any (w.heap.size + 2) (w.heap.size + 2) 2 zf c M wc ⟨HG.ref, HF.out, by omega, by omega⟩
              rw [← hE, ← hT] at this
              rw [← HPQ.out.2]
              exact this.mono fun e w' ⟨h1, h2⟩ => ⟨h1, HG.turn h2.rx.ref h2.below⟩
            have bE : (E != E) = false := by simp
            clear hT hE
            go_wp2
            go_region_held3 (fun w' => w'.cell? ⟨b2, o2 + k, none⟩ = some (.int .i64 zf) ∧ w'.cell? ⟨b3, o3 + k * 2, none⟩ = some (.int .i64 c.k) ∧ w'.cell? ⟨b3, o3 + k * 2 + 1, none⟩ = some (.int .i64 c.t)) (first | (refine ⟨?_, ?_, ?_⟩ <;> with_reducible assumption) | go_keep)
            (first
              | (go_at_call 11; refine (HA.out _ (by first | exact Below.refl _ _ | exact (Below.refl _ _).drew | exact ((Below.refl _ _).drew).drew)).mono ?_; rintro e w3 ⟨rfl, h3⟩; have H3 : Hid (Half w w3 2 M M1) := h3; clear h3 c2 g0 g1 HA; have c2 := G2.out w3 H3.out.below; obtain ⟨g0, g1⟩ := G3.out w3 H3.out.below)
              | (go_at_call 12; refine (HB.out _ _ H3.out (by first | exact Below.refl _ _ | exact (Below.refl _ _).drew | exact ((Below.refl _ _).drew).drew)).mono ?_; rintro e w4 ⟨rfl, h4⟩; have H4 : Hid (Both w w4 2 M1) := h4; clear h4 c2 g0 g1 HB H3; have c2 := G2.out w4 H4.out.below; obtain ⟨g0, g1⟩ := G3.out w4 H4.out.below)
              | fail)
            all_goals
              go_wp2_with fail
              go_meet
              first | exact ⟨M1, HFT.out, H4.out⟩ | exact ⟨M1, HFT.out, H4.out.grown (Below.refl _ _).drew⟩
        · as_aux_lemma =>
            obtain ⟨M1, hT⟩ : ∃ M1, M1 = tkM 2 M zf := ⟨_, rfl⟩
            obtain ⟨E, hE⟩ : ∃ E, E = tkE 2 M zf := ⟨_, rfl⟩
            obtain ⟨X, hX⟩ : ∃ X, X = tkX 2 M zf := ⟨_, rfl⟩
            have HFT : Hid (Fit M1) := by rw [hT]; exact fit_tk HF.out 2 zf
            have HA : Hid (Calls Tryd.prog 13 #[.pointer (some ⟨p, 0, none⟩), .int .i64 zf] wr fun e w' => e = .returned (.tuple #[.agg #[.int .i64 X.k, .int .i64 X.t], .int .i64 E]) ∧ Half w w' 2 M M1) := by
              have HG := HI.out
              have := take_any (w.heap.size + 1) w.heap.size 2 zf M wr (both_mx HG HT.out HF.out)
              rw [HPQ.out.1, ← hE, ← hT, ← hX] at this
              exact this.mono fun e w' ⟨h1, h2, h3⟩ => ⟨h1, HG.half (by rw [HPQ.out.1]; exact h2.mem) h3⟩
            have HB : Hid (∀ wa Da, Half w wa 2 M M1 ∧ RowE wa Da X → Calls Tryd.prog 14 #[.pointer (some ⟨q, 0, none⟩), .int .i64 zf] wa fun e w' => e = .returned (.tuple #[.agg #[.int .i64 X.k, .int .i64 X.t], .int .i64 E]) ∧ Both w w' 2 M1 ∧ RowE w' Da X) := fun wa Da ha => by
              have HG := ha.1
              have := rtake_any (w.heap.size + 2) (w.heap.size + 2) 2 zf M wa ⟨HG.ref, HF.out, by omega, by omega⟩
              rw [← hE, ← hT, ← hX] at this
              rw [← HPQ.out.2]
              exact this.mono fun e w' ⟨h1, h2⟩ => ⟨h1, HG.turn h2.rx.ref h2.below, ha.2.keep h2.kp.t⟩
            have bE : (E != E) = false := by simp
            have hne := neqE X
            clear hT hE hX g0 g1
            go_upto_region 23 with (first
              | (go_at_call 13; refine HA.out.mono ?_; rintro e w3 ⟨rfl, h3⟩; have H3 : Hid (Half w w3 2 M M1) := h3; clear h3 c2 HA)
              | fail)
            have K3 : Half w (w3.alloc (.cells #[.int .i64 X.k, .int .i64 X.t] 32)) 2 M M1 ∧ RowE (w3.alloc (.cells #[.int .i64 X.k, .int .i64 X.t] 32)) w3.heap.size X := ⟨H3.out.grown (bal (Below.refl _ _) _), rowE_new w3 X⟩
            generalize w3.alloc _ = v3 at K3 ⊢
            generalize w3.heap.size = Da at K3 ⊢
            have H5 := rhide K3
            have c2 := G2.out v3 K3.1.below
            clear K3 H3
            go_upto_region 24 with (first
              | (go_at_call 14; refine (HB.out _ _ H5.out).mono ?_; rintro e w4 ⟨rfl, h4⟩; have H6 := rhide h4; clear h4 c2 HB H5)
              | fail)
            have K4 : Both w (w4.alloc (.cells #[.int .i64 X.k, .int .i64 X.t] 32)) 2 M1 ∧ RowE (w4.alloc (.cells #[.int .i64 X.k, .int .i64 X.t] 32)) Da X ∧ RowE (w4.alloc (.cells #[.int .i64 X.k, .int .i64 X.t] 32)) w4.heap.size X := ⟨H6.out.1.grown (bal (Below.refl _ _) _), H6.out.2.on (bal (Below.refl _ _) _), rowE_new w4 X⟩
            generalize w4.alloc _ = v4 at K4 ⊢
            generalize w4.heap.size = Db at K4 ⊢
            have H7 := rhide K4
            clear K4 H6
            have x0 := H7.out.2.1.c0
            have x1 := H7.out.2.1.c1
            have y0 := H7.out.2.2.c0
            have y1 := H7.out.2.2.c1
            go_wp2_with fail
            go_meet
            exact ⟨M1, HFT.out, H7.out.1⟩
        · as_aux_lemma =>
            obtain ⟨M1, hT⟩ : ∃ M1, M1 = Phead.mkM 2 M zf 6 0 false 0 := ⟨_, rfl⟩
            obtain ⟨E, hE⟩ : ∃ E, E = Phead.errP 2 zf 6 0 false 0 := ⟨_, rfl⟩
            have HFT : Hid (Fit M1) := by rw [hT]; exact Phead.fit_mk HF.out 2 zf 6 0 false 0
            have HA : Hid (∀ wc, Below wr.heap.size wr wc → Calls Tryd.prog 15 #[.pointer (some ⟨p, 0, none⟩), .int .i64 zf, .agg #[.int .i64 6, .int .i64 0, .bool false, .int .i64 0]] wc fun e w' => e = .returned (.int .i64 E) ∧ Half w w' 2 M M1) := fun wc h => by
              have HG := HI.out.grown h
              have := Phead.hmake_any (w.heap.size + 1) w.heap.size 2 zf 6 0 false 0 M wc (by omega) (by omega) HG.mem (HT.out.hd.on HG.below)
              rw [HPQ.out.1, ← hE, ← hT] at this
              exact this.mono fun e w' ⟨h1, h2, h3⟩ => ⟨h1, HG.half (by rw [HPQ.out.1]; exact h2) h3⟩
            have HB : Hid (∀ wa wc, Half w wa 2 M M1 → Below wa.heap.size wa wc → Calls Tryd.prog 16 #[.pointer (some ⟨q, 0, none⟩), .int .i64 zf, .agg #[.int .i64 6, .int .i64 0, .bool false, .int .i64 0]] wc fun e w' => e = .returned (.int .i64 E) ∧ Both w w' 2 M1) := fun wa wc ha h => by
              have HG := ha.grown h
              have := Phead.hrmake_any (w.heap.size + 2) (w.heap.size + 2) 2 zf 6 0 false 0 M wc (by omega) (by omega) HG.ref
              rw [← hE, ← hT] at this
              rw [← HPQ.out.2]
              exact this.mono fun e w' ⟨h1, h2, h3⟩ => ⟨h1, HG.turn h2 h3⟩
            have bE : (E != E) = false := by simp
            clear hT hE
            clear g0 g1
            go_wp2
            go_region_held3 (fun w' => w'.cell? ⟨b2, o2 + k, none⟩ = some (.int .i64 zf)) (first | with_reducible assumption | go_keep)
            (first
              | (go_at_call 15; refine (HA.out _ (by first | exact Below.refl _ _ | exact (Below.refl _ _).drew | exact ((Below.refl _ _).drew).drew)).mono ?_; rintro e w3 ⟨rfl, h3⟩; have H3 : Hid (Half w w3 2 M M1) := h3; clear h3 c2 HA; have c2 := G2.out w3 H3.out.below)
              | (go_at_call 16; refine (HB.out _ _ H3.out (by first | exact Below.refl _ _ | exact (Below.refl _ _).drew | exact ((Below.refl _ _).drew).drew)).mono ?_; rintro e w4 ⟨rfl, h4⟩; have H4 : Hid (Both w w4 2 M1) := h4; clear h4 c2 HB H3; have c2 := G2.out w4 H4.out.below)
              | fail)
            all_goals
              go_wp2_with fail
              go_meet
              first | exact ⟨M1, HFT.out, H4.out⟩ | exact ⟨M1, HFT.out, H4.out.grown (Below.refl _ _).drew⟩
      case rest =>
        as_aux_lemma =>
          obtain ⟨M2, hF2, h4⟩ := hcut
          have H4 := rhide h4
          have HF2 := rhide hF2
          clear h4 hF2 c1 c2 g0 g1 HI HF hq'
          have c2 := G2.out wc H4.out.below
          have HAl : Hid (∀ wx, Both w wx 2 M2 → Calls Tryd.prog 17 #[.pointer (some ⟨p, 0, none⟩), .int .i64 zf] wx fun e w' => ∃ a cp, e = .returned (.tuple #[.slice a (alL 2 M2 zf).length cp, .int .i64 (alE 2 M2 zf)]) ∧ Evs w' 0 (.slice a (alL 2 M2 zf).length cp) (alL 2 M2 zf) ∧ Below wx.heap.size wx w') := fun wx h => by
            have := all_any (w.heap.size + 1) w.heap.size 2 zf M2 wx (both_mx h HT.out HF2.out)
            rw [HPQ.out.1] at this
            refine this.mono ?_
            rintro e w' ⟨v, rfl, r1, r2⟩
            obtain ⟨a, cp, rfl⟩ := r1.slice
            exact ⟨a, cp, rfl, r1.downTo (Nat.zero_le _), r2⟩
          have HBl : Hid (∀ wx, Both w wx 2 M2 → Calls Tryd.prog 18 #[.pointer (some ⟨q, 0, none⟩), .int .i64 zf] wx fun e w' => ∃ a cp, e = .returned (.tuple #[.slice a (alL 2 M2 zf).length cp, .int .i64 (alE 2 M2 zf)]) ∧ Evs w' 0 (.slice a (alL 2 M2 zf).length cp) (alL 2 M2 zf) ∧ Below wx.heap.size wx w') := fun wx h => by
            have := rall_any (w.heap.size + 2) (w.heap.size + 2) 2 zf M2 wx (both_rx h HF2.out)
            rw [HPQ.out.2] at this
            refine this.mono ?_
            rintro e w' ⟨v, rfl, r1, r2⟩
            obtain ⟨a, cp, rfl⟩ := r1.slice
            exact ⟨a, cp, rfl, r1.downTo (Nat.zero_le _), r2⟩
          have hl8 := al_len 2 HF2.out zf
          generalize alL 2 M2 zf = L at HAl HBl hl8
          generalize alE 2 M2 zf = E2 at HAl HBl
          go_upto_region 28 with (first
            | (go_at_call 17; refine (HAl.out _ H4.out).mono ?_; rintro e w9 ⟨b1', cp1, rfl, r1, hB⟩; have H9 := rhide (H4.out.grown hB); have HR1 := rhide r1; clear r1 hB c2 HAl H4; have c2 := G2.out w9 H9.out.below)
            | (go_at_call 18; refine (HBl.out _ H9.out).mono ?_; rintro e wA ⟨b2', cp2, rfl, r2, hB⟩; have HK0 : Hid (Kt w wA M2 L b1' cp1 b2' cp2) := ⟨H9.out.grown hB, HR1.out.on hB, r2⟩; clear r2 hB c2 HBl H9 HR1)
            | fail)
          have HW : Hid (∀ wx, Kt w wx M2 L b1' cp1 b2' cp2 → Calls Tryd.prog 19 #[.agg #[.int .i64 c.k, .int .i64 c.t]] wx fun e w' => e = .returned (.tuple #[.int .u64 (wdW c), .int .i64 (ckE c)]) ∧ Below wx.heap.size wx w') := fun wx h => word_any c wx (HT.out.wd.on h.both.below)
          have HV : Hid (∀ wx, Kt w wx M2 L b1' cp1 b2' cp2 → Calls Tryd.prog 20 #[.agg #[.int .i64 c.k, .int .i64 c.t]] wx fun e w' => e = .returned (.tuple #[.int .u64 (wdW c), .int .i64 (ckE c)]) ∧ Below wx.heap.size wx w') := fun wx h => rword_any c wx
          have HS : Hid (∀ wx, Kt w wx M2 L b1' cp1 b2' cp2 → Calls Tryd.prog 21 #[.agg #[.int .i64 c.k, .int .i64 c.t]] wx fun e w' => e = .returned (.int .i64 (ckE c)) ∧ Below wx.heap.size wx w') := fun wx h => check_any c wx
          have HC : Hid (∀ wx, Kt w wx M2 L b1' cp1 b2' cp2 → Calls Tryd.prog 22 #[.agg #[.int .i64 c.k, .int .i64 c.t]] wx fun e w' => e = .returned (.int .i64 (ckE c)) ∧ Below wx.heap.size wx w') := fun wx h => rcheck_any c wx
          have HA : Hid (∀ wx, Kt w wx M2 L b1' cp1 b2' cp2 → Calls Tryd.prog 23 #[.pointer (some ⟨p, 0, none⟩), .pointer (some ⟨q, 0, none⟩)] wx fun e w' => e = .returned (.bool true) ∧ Below wx.heap.size wx w') := fun wx h => by
            have := alike_any 2 M2 w wx (by omega) (by omega) h.both
            rwa [HPQ.out.1, HPQ.out.2] at this
          generalize ckE c = I at HS HC HW HV
          generalize wdW c = J at HW HV
          have bE2 : (E2 != E2) = false := by simp
          have bI : (I != I) = false := by simp
          have bJ : (J != J) = false := by simp
          have bL : ((L.length : Int) != (L.length : Int)) = false := by simp
          obtain ⟨g0, g1⟩ := G3.out wA HK0.out.both.below
          go_upto_region 30 with (first
            | (go_at_call 19; refine (HW.out _ HK0.out).mono ?_; rintro e wB ⟨rfl, hB⟩; have HK1 := rhide (HK0.out.on hB); clear hB HW HK0 g0 g1; obtain ⟨g0, g1⟩ := G3.out wB HK1.out.both.below)
            | (go_at_call 20; refine (HV.out _ HK1.out).mono ?_; rintro e wC ⟨rfl, hB⟩; have HK2 := rhide (HK1.out.on hB); clear hB HV HK1 g0 g1; obtain ⟨g0, g1⟩ := G3.out wC HK2.out.both.below)
            | fail)
          go_region_held3 (fun w' => w'.cell? ⟨b3, o3 + k * 2, none⟩ = some (.int .i64 c.k) ∧ w'.cell? ⟨b3, o3 + k * 2 + 1, none⟩ = some (.int .i64 c.t)) (first | (refine ⟨?_, ?_⟩ <;> with_reducible assumption) | go_keep)
          (first
            | (go_at_call 21; refine (HS.out _ (by first | exact HK2.out | exact HK2.out.on (Below.refl _ _).drew)).mono ?_; rintro e wu ⟨rfl, hB⟩; have Hu : Hid (Kt w wu M2 L b1' cp1 b2' cp2) := HK2.out.on (by first | exact hB | exact (Below.refl _ _).drew.trans hB); clear hB HS; clear g0 g1; obtain ⟨g0, g1⟩ := G3.out wu Hu.out.both.below)
            | (go_at_call 22; refine (HC.out _ (by first | exact Hu.out | exact Hu.out.on (Below.refl _ _).drew)).mono ?_; rintro e wv ⟨rfl, hB⟩; have Hv : Hid (Kt w wv M2 L b1' cp1 b2' cp2) := Hu.out.on (by first | exact hB | exact (Below.refl _ _).drew.trans hB); clear hB HC; clear g0 g1; obtain ⟨g0, g1⟩ := G3.out wv Hv.out.both.below)
            | (go_at_call 23; refine (HA.out _ (by first | exact Hv.out | exact Hv.out.on (Below.refl _ _).drew)).mono ?_; rintro e wy ⟨rfl, hB⟩; have Hy : Hid (Kt w wy M2 L b1' cp1 b2' cp2) := Hv.out.on (by first | exact hB | exact (Below.refl _ _).drew.trans hB); clear hB HA; clear g0 g1; obtain ⟨g0, g1⟩ := G3.out wy Hy.out.both.below)
            | fail)
          go_wp2
          go_loopw [30] (fun i wr => ∃ j : Nat, j ≤ L.length ∧ i = .int .i64 j ∧ Kt w wr M2 L b1' cp1 b2' cp2) (fun i _ => L.length - (intOf i).toNat)
          case atStart => first | exact ⟨0, by omega, rfl, Hy.out⟩ | exact ⟨0, by omega, rfl, Hy.out.on (Below.refl _ _).drew⟩
          case round =>
            obtain ⟨j, hj0, rfl, hJ⟩ := hrel
            have HJ := rhide hJ
            clear hJ Hy g0 g1
            by_cases hjn : j < L.length
            · have n1 : (j : Int) < (L.length : Int) := by omega
              have hwj : wrap64 ((j : Int) + 1) = (j : Int) + 1 := by unfold wrap64; omega
              obtain ⟨x, hx⟩ : ∃ x, L[j]? = some x := ⟨_, List.getElem?_eq_getElem hjn⟩
              obtain ⟨ga, rfl, _, _, q0, q1⟩ := HJ.out.one.at hx
              obtain ⟨gb, rfl, _, _, r0, r1⟩ := HJ.out.two.at hx
              have hnx := neqE x
              clear hx
              go_wp2
              go_region
              go_wp2
              go_roundw
              case rel => first | exact ⟨j + 1, by omega, by go_num, HJ.out⟩ | exact ⟨j + 1, by omega, by go_num, HJ.out.on (Below.refl _ _).drew⟩
              case measure => simp [intOf]; omega
            · go_wp2
              go_roundw
              case rel => exact ⟨k + 1, by omega, by go_num, M2, HF2.out, HJ.out.both⟩
              case measure => simp [intOf]; omega
    · have hin' : ¬ k < len1 ∨ (k < len1 ∧ ¬ k < len2) ∨ (k < len1 ∧ k < len2 ∧ ¬ k < len3) ∨ (k < len1 ∧ k < len2 ∧ k < len3 ∧ ¬ k < 60) := by omega
      clear hin
      rcases hin' with h1 | ⟨h1, h2⟩ | ⟨h1, h2, h3⟩ | ⟨h1, h2, h3, h4⟩
      all_goals
        go_wp2_with (first
          | (go_at_call 24; refine (awake_any _).mono ?_; rintro e w8 ⟨rfl, hB8⟩; have H8 : Hid (Below w.heap.size w w8) := HI.out.below.trans (hB8.mono HI.out.below.size); clear hB8)
          | fail)
        go_ret
        exact ⟨rfl, H8.out⟩
end Go.Proofs.YtdplailaolfpkaaDoor.Pring
