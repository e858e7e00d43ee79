/- The walk of RcvPlays, over the program's contracts (written by mk_plays.py). -/
import Derived.Test.YtcoggdnpjpiacaaGreatDoorRcvJ
import Derived.Test.YtcoggdnpjpiacaaGreatDoorRcvI
import Derived.Test.YtcoggdnpjpiacaaGreatDoorBunRing
import Derived.BigRegion
namespace Go.Proofs.YtcoggdnpjpiacaaGreatDoor.Prcv
open Go.Proofs.YtcoggdnpjpiacaaGreatDoor.Pbase Go.Proofs.YtcoggdnpjpiacaaGreatDoor.Pfield Go.Proofs.YtcoggdnpjpiacaaGreatDoor.Play Go.Proofs.YtcoggdnpjpiacaaGreatDoor.Pmem Go.Proofs.YtcoggdnpjpiacaaGreatDoor.Pring
open Go.RowKit M
set_option linter.unusedVariables false

theorem rem6r {z : Int} (h : (Lit.int .u8 z).wf = true) : z.tmod 6 = 0 ∨ z.tmod 6 = 1 ∨ z.tmod 6 = 2 ∨ z.tmod 6 = 3 ∨ z.tmod 6 = 4 ∨ z.tmod 6 = 5 := by
  obtain ⟨r, h1, h2⟩ := rem_u8 h 6 (by omega)
  have : z.tmod 6 = (r : Int) := h1
  omega
theorem both_rx {w wr : World} {M : Nat → Nat → Int} (h : Both w wr 2 M) (hF : Fit M) : Rx wr (w.heap.size + 2) (w.heap.size + 2) 2 M := ⟨h.ref, hF, by omega, by omega⟩
/-- The memories and two endpoints. -/
structure Kd (w W : World) (M : Nat → Nat → Int) (Da Db : Nat) (Y : Rv) : Prop where
  both : Both w W 2 M
  xa : RowW W Da Y
  xb : RowW W Db Y
theorem Kd.on {w W W' : World} {M : Nat → Nat → Int} {Da Db : Nat} {Y : Rv} (h : Kd w W M Da Db Y) (hB : Below W.heap.size W W') : Kd w W' M Da Db Y := ⟨h.both.grown hB, h.xa.on hB, h.xb.on hB⟩
set_option maxRecDepth 100000 in
set_option maxHeartbeats 40000000 in
theorem plays_walk (a0 : Option Addr) (len0 cap0 : Nat) (a1 : Option Addr) (len1 cap1 : Nat) (a2 : Option Addr) (len2 cap2 : Nat) (a3 : Option Addr) (len3 cap3 : Nat) (a4 : Option Addr) (len4 cap4 : Nat) (w : World) (w0 : Hid (Came .u64 w.heap.size w a0 len0)) (l0 : len0 ≤ 9223372036854775807) (D1 : Hid (Came .u8 w.heap.size w a1 len1)) (l1 : len1 ≤ 9223372036854775807) (D2 : Hid (Came .i64 w.heap.size w a2 len2)) (l2 : len2 ≤ 9223372036854775807) (D3 : Hid (CameW w.heap.size w a3 len3)) (l3 : len3 ≤ 9223372036854775807) (D4 : Hid (CameE w.heap.size w a4 len4)) (l4 : len4 ≤ 9223372036854775807) (HP : Hid (Prg 2 w)) :
    Calls Tryz.prog 3 #[.slice a0 len0 cap0, .slice a1 len1 cap1, .slice a2 len2 cap2, .slice a3 len3 cap3, .slice a4 len4 cap4] w fun e w' => e = .returned (.bool true) ∧ Below w.heap.size w w' := by
  go_enter Tryz.func3, Tryz.ntmps3
  go_wp2_with (first
    | (go_at_call 4; refine (laid_any a0 len0 cap0 2 _ (by omega) (by omega) w0 l0).mono ?_; rintro e1 w1 ⟨rfl, M0, hF0, hB0⟩; have HI0 : Hid (∃ M, Fit M ∧ Both w w1 2 M) := ⟨M0, hF0, hB0⟩; clear hF0 hB0)
    | fail)
  have HPQ0 : w.heap.size + 1 = w.heap.size + 1 ∧ w.heap.size + 2 = w.heap.size + 2 := ⟨rfl, rfl⟩
  generalize hp : w.heap.size + 1 = p
  generalize hq : w.heap.size + 2 = q
  have HPQ : Hid (w.heap.size + 1 = p ∧ w.heap.size + 2 = q) := ⟨hp, hq⟩
  clear hp hq HPQ0 w0 l0
  go_loopw [13] (fun i wr => ∃ k : Nat, k ≤ len1 ∧ i = .int .i64 k ∧ ∃ M, Fit M ∧ Both w wr 2 M) (fun i _ => len1 - (intOf i).toNat)
  case atStart => exact ⟨0, by omega, rfl, HI0.out⟩
  case round =>
    obtain ⟨k, hk0, rfl, M, hF, hI⟩ := hrel
    have HI := rhide hI
    have HF := rhide hF
    clear hI hF HI0
    by_cases hin : k < len1 ∧ k < len2 ∧ k < len3 ∧ k < len4 ∧ k < 60
    · obtain ⟨h1, h2, h3, h4, h5⟩ := hin
      obtain ⟨b1, o1, z1, rfl, HZ1, G1⟩ := D1.out.any h1
      obtain ⟨b2, o2, zf, rfl, _, G2⟩ := D2.out.any h2
      obtain ⟨b3, o3, c, rfl, hc, G3⟩ := D3.out.at h3
      obtain ⟨b4, o4, ev, rfl, hev, G4⟩ := D4.out.at h4
      have HC := rhide hc
      have HE := rhide hev
      clear hc hev
      have i1 : (k : Int) < (len1 : Int) := by omega
      have i2 : (k : Int) < (len2 : Int) := by omega
      have i3 : (k : Int) < (len3 : Int) := by omega
      have i4 : (k : Int) < (len4 : Int) := by omega
      have i5 : (k : Int) < 60 := by omega
      have c1 := G1.out wr HI.out.below
      have c2 := G2.out wr HI.out.below
      obtain ⟨d0, d1, d2, d3, d4⟩ := G3.out wr HI.out.below
      obtain ⟨g0, g1⟩ := G4.out wr HI.out.below
      have hq' := rem6r HZ1.out
      clear HZ1
      obtain ⟨t, ht⟩ : ∃ t, z1.tmod 6 = t := ⟨_, rfl⟩
      rw [ht] at hq'
      have u1 : IntKind.i64.wrap t = t := wrapi_small (by omega) (by omega)
      have HA : Hid (∀ wx, Below wr.heap.size wr wx → Calls Tryz.prog 5 #[.pointer (some ⟨p, 0, none⟩), .pointer (some ⟨q, 0, none⟩), .int .i64 t, .int .i64 zf, .agg #[.int .i64 c.th, .int .i64 c.pa, .int .i64 c.co, .bool c.wa, .int .i64 c.lo], .agg #[.int .i64 ev.k, .int .i64 ev.t]] wx fun x w' => x = .returned (.bool true) ∧ ∃ M', Fit M' ∧ Both w w' 2 M') := fun wx h => act_any w wx t zf hq' c ev M HP HF HC.out HE.out (HI.out.grown h) p q HPQ.out.1 HPQ.out.2
      clear hq'
      go_upto_region 7 with fail
      go_region_held3 (fun w' => w'.cell? ⟨b1, o1 + k, none⟩ = some (.int .u8 z1) ∧ w'.cell? ⟨b2, o2 + k, none⟩ = some (.int .i64 zf) ∧ w'.cell? ⟨b3, o3 + k * 5, none⟩ = some (.int .i64 c.th) ∧ w'.cell? ⟨b3, o3 + k * 5 + 1, none⟩ = some (.int .i64 c.pa) ∧ w'.cell? ⟨b3, o3 + k * 5 + 2, none⟩ = some (.int .i64 c.co) ∧ w'.cell? ⟨b3, o3 + k * 5 + 3, none⟩ = some (.bool c.wa) ∧ w'.cell? ⟨b3, o3 + k * 5 + 4, none⟩ = some (.int .i64 c.lo) ∧ w'.cell? ⟨b4, o4 + k * 2, none⟩ = some (.int .i64 ev.k) ∧ w'.cell? ⟨b4, o4 + k * 2 + 1, none⟩ = some (.int .i64 ev.t)) (first | (refine ⟨?_, ?_, ?_, ?_, ?_, ?_, ?_, ?_, ?_⟩ <;> with_reducible assumption) | go_keep)
      (first
        | (go_at_call 5; refine (HA.out _ (by first | exact Below.refl _ _ | exact (Below.refl _ _).drew | exact ((Below.refl _ _).drew).drew)).mono ?_; rintro e w3 ⟨rfl, M2, hF2, h4⟩; have H4 := rhide h4; have HF2 := rhide hF2; clear h4 hF2 c1 c2 d0 d1 d2 d3 d4 g0 g1 HA HI HF; have c1 := G1.out w3 H4.out.below; have c2 := G2.out w3 H4.out.below; obtain ⟨d0, d1, d2, d3, d4⟩ := G3.out w3 H4.out.below; obtain ⟨g0, g1⟩ := G4.out w3 H4.out.below)
        | fail)
      have HG : Hid (∀ wx, Both w wx 2 M2 → Calls Tryz.prog 6 #[.pointer (some ⟨p, 0, none⟩), .int .i64 zf] wx fun e w' => e = .returned (.tuple #[.agg #[.int .i64 (vgX 2 M2 zf).th, .int .i64 (vgX 2 M2 zf).pa, .int .i64 (vgX 2 M2 zf).co, .bool (vgX 2 M2 zf).wa, .int .i64 (vgX 2 M2 zf).lo], .int .i64 (vgE 2 M2 zf)]) ∧ Below wx.heap.size wx w') := fun wx h => by
        have := HP.out.get wx M2 zf h.mem HF2.out h.below
        rwa [HPQ.out.1] at this
      have HH : Hid (∀ wx, Both w wx 2 M2 → Calls Tryz.prog 7 #[.pointer (some ⟨q, 0, none⟩), .int .i64 zf] wx fun e w' => e = .returned (.tuple #[.agg #[.int .i64 (vgX 2 M2 zf).th, .int .i64 (vgX 2 M2 zf).pa, .int .i64 (vgX 2 M2 zf).co, .bool (vgX 2 M2 zf).wa, .int .i64 (vgX 2 M2 zf).lo], .int .i64 (vgE 2 M2 zf)]) ∧ Below wx.heap.size wx w') := fun wx h => by
        have := vget_any (w.heap.size + 2) (w.heap.size + 2) 2 zf M2 wx (both_rx h HF2.out)
        rwa [HPQ.out.2] at this
      generalize vgX 2 M2 zf = Y at HG HH
      generalize vgE 2 M2 zf = E at HG HH
      go_upto_region 10 with (first
        | (go_at_call 6; refine (HG.out _ (by first | exact H4.out | exact H4.out.grown (Below.refl _ _).drew)).mono ?_; rintro e w5 ⟨rfl, hB5⟩; have H5 := rhide (H4.out.grown (by first | exact hB5 | exact (Below.refl _ _).drew.trans hB5)); clear hB5 c1 c2 d0 d1 d2 d3 d4 g0 g1)
        | fail)
      have K5 : Both w (w5.alloc (.cells #[.int .i64 Y.th, .int .i64 Y.pa, .int .i64 Y.co, .bool Y.wa, .int .i64 Y.lo] 33)) 2 M2 ∧ RowW (w5.alloc (.cells #[.int .i64 Y.th, .int .i64 Y.pa, .int .i64 Y.co, .bool Y.wa, .int .i64 Y.lo] 33)) w5.heap.size Y := ⟨H5.out.grown (bal (Below.refl _ _) _), rowW_new w5 Y⟩
      generalize w5.alloc _ = v5 at K5 ⊢
      generalize w5.heap.size = Da at K5 ⊢
      have H6 := rhide K5
      clear K5 H5 H4 HG
      have c2 := G2.out v5 H6.out.1.below
      go_upto_region 11 with (first
        | (go_at_call 7; refine (HH.out _ H6.out.1).mono ?_; rintro e w7 ⟨rfl, hB7⟩; have H7 : Hid (Both w w7 2 M2 ∧ RowW w7 Da Y) := ⟨H6.out.1.grown hB7, H6.out.2.on hB7⟩; clear hB7 c2 HH H6)
        | fail)
      have K7 : Kd w (w7.alloc (.cells #[.int .i64 Y.th, .int .i64 Y.pa, .int .i64 Y.co, .bool Y.wa, .int .i64 Y.lo] 33)) M2 Da w7.heap.size Y := ⟨H7.out.1.grown (bal (Below.refl _ _) _), H7.out.2.on (bal (Below.refl _ _) _), rowW_new w7 Y⟩
      generalize w7.alloc _ = v7 at K7 ⊢
      generalize w7.heap.size = Db at K7 ⊢
      have HK0 := rhide K7
      clear K7 H7
      have HS : Hid (∀ wx, Kd w wx M2 Da Db Y → Calls Tryz.prog 8 #[.agg #[.int .i64 c.th, .int .i64 c.pa, .int .i64 c.co, .bool c.wa, .int .i64 c.lo]] wx fun e w' => e = .returned (.int .i64 (vkE c)) ∧ Below wx.heap.size wx w') := fun wx h => HP.out.check wx c HC.out h.both.below
      have HT : Hid (∀ wx, Kd w wx M2 Da Db Y → Calls Tryz.prog 9 #[.agg #[.int .i64 c.th, .int .i64 c.pa, .int .i64 c.co, .bool c.wa, .int .i64 c.lo]] wx fun e w' => e = .returned (.int .i64 (vkE c)) ∧ Below wx.heap.size wx w') := fun wx h => vcheck_any c wx
      have HAl : Hid (∀ wx, Kd w wx M2 Da Db Y → Calls Tryz.prog 10 #[.pointer (some ⟨p, 0, none⟩), .pointer (some ⟨q, 0, none⟩)] wx fun e w' => e = .returned (.bool true) ∧ Below wx.heap.size wx w') := fun wx h => by
        have := alike_any 2 M2 w wx (by omega) (by omega) h.both
        rwa [HPQ.out.1, HPQ.out.2] at this
      generalize vkE c = I at HS HT
      have hne := neqW Y
      have bE : (E != E) = false := by simp
      have bI : (I != I) = false := by simp
      have x0 := HK0.out.xa.c0
      have x1 := HK0.out.xa.c1
      have x2 := HK0.out.xa.c2
      have x3 := HK0.out.xa.c3
      have x4 := HK0.out.xa.c4
      have y0 := HK0.out.xb.c0
      have y1 := HK0.out.xb.c1
      have y2 := HK0.out.xb.c2
      have y3 := HK0.out.xb.c3
      have y4 := HK0.out.xb.c4
      obtain ⟨d0, d1, d2, d3, d4⟩ := G3.out v7 HK0.out.both.below
      go_region_held3 (fun w' => w'.cell? ⟨Da, 0, none⟩ = some (.int .i64 Y.th) ∧ w'.cell? ⟨Da, 1, none⟩ = some (.int .i64 Y.pa) ∧ w'.cell? ⟨Da, 2, none⟩ = some (.int .i64 Y.co) ∧ w'.cell? ⟨Da, 3, none⟩ = some (.bool Y.wa) ∧ w'.cell? ⟨Da, 4, none⟩ = some (.int .i64 Y.lo) ∧ w'.cell? ⟨Db, 0, none⟩ = some (.int .i64 Y.th) ∧ w'.cell? ⟨Db, 1, none⟩ = some (.int .i64 Y.pa) ∧ w'.cell? ⟨Db, 2, none⟩ = some (.int .i64 Y.co) ∧ w'.cell? ⟨Db, 3, none⟩ = some (.bool Y.wa) ∧ w'.cell? ⟨Db, 4, none⟩ = some (.int .i64 Y.lo) ∧ w'.cell? ⟨b3, o3 + k * 5, none⟩ = some (.int .i64 c.th) ∧ w'.cell? ⟨b3, o3 + k * 5 + 1, none⟩ = some (.int .i64 c.pa) ∧ w'.cell? ⟨b3, o3 + k * 5 + 2, none⟩ = some (.int .i64 c.co) ∧ w'.cell? ⟨b3, o3 + k * 5 + 3, none⟩ = some (.bool c.wa) ∧ w'.cell? ⟨b3, o3 + k * 5 + 4, none⟩ = some (.int .i64 c.lo)) (first | (refine ⟨?_, ?_, ?_, ?_, ?_, ?_, ?_, ?_, ?_, ?_, ?_, ?_, ?_, ?_, ?_⟩ <;> with_reducible assumption) | go_keep)
      (first
            | (go_at_call 8; refine (HS.out _ (by first | exact HK0.out | exact HK0.out.on (Below.refl _ _).drew)).mono ?_; rintro e wu ⟨rfl, hB⟩; have Hu : Hid (Kd w wu M2 Da Db Y) := HK0.out.on (by first | exact hB | exact (Below.refl _ _).drew.trans hB); clear hB HS; clear x0 x1 x2 x3 x4 y0 y1 y2 y3 y4 d0 d1 d2 d3 d4; have x0 := Hu.out.xa.c0; have x1 := Hu.out.xa.c1; have x2 := Hu.out.xa.c2; have x3 := Hu.out.xa.c3; have x4 := Hu.out.xa.c4; have y0 := Hu.out.xb.c0; have y1 := Hu.out.xb.c1; have y2 := Hu.out.xb.c2; have y3 := Hu.out.xb.c3; have y4 := Hu.out.xb.c4; obtain ⟨d0, d1, d2, d3, d4⟩ := G3.out wu Hu.out.both.below)
            | (go_at_call 9; refine (HT.out _ (by first | exact Hu.out | exact Hu.out.on (Below.refl _ _).drew)).mono ?_; rintro e wv ⟨rfl, hB⟩; have Hv : Hid (Kd w wv M2 Da Db Y) := Hu.out.on (by first | exact hB | exact (Below.refl _ _).drew.trans hB); clear hB HT; clear x0 x1 x2 x3 x4 y0 y1 y2 y3 y4 d0 d1 d2 d3 d4; have x0 := Hv.out.xa.c0; have x1 := Hv.out.xa.c1; have x2 := Hv.out.xa.c2; have x3 := Hv.out.xa.c3; have x4 := Hv.out.xa.c4; have y0 := Hv.out.xb.c0; have y1 := Hv.out.xb.c1; have y2 := Hv.out.xb.c2; have y3 := Hv.out.xb.c3; have y4 := Hv.out.xb.c4; obtain ⟨d0, d1, d2, d3, d4⟩ := G3.out wv Hv.out.both.below)
            | (go_at_call 10; refine (HAl.out _ (by first | exact Hv.out | exact Hv.out.on (Below.refl _ _).drew)).mono ?_; rintro e wy ⟨rfl, hB⟩; have Hy : Hid (Kd w wy M2 Da Db Y) := Hv.out.on (by first | exact hB | exact (Below.refl _ _).drew.trans hB); clear hB HAl; clear x0 x1 x2 x3 x4 y0 y1 y2 y3 y4 d0 d1 d2 d3 d4; have x0 := Hy.out.xa.c0; have x1 := Hy.out.xa.c1; have x2 := Hy.out.xa.c2; have x3 := Hy.out.xa.c3; have x4 := Hy.out.xa.c4; have y0 := Hy.out.xb.c0; have y1 := Hy.out.xb.c1; have y2 := Hy.out.xb.c2; have y3 := Hy.out.xb.c3; have y4 := Hy.out.xb.c4; obtain ⟨d0, d1, d2, d3, d4⟩ := G3.out wy Hy.out.both.below)
            | fail)
      go_wp2
      go_roundw
      case rel => first | exact ⟨k + 1, by omega, by go_num, M2, HF2.out, Hy.out.both⟩ | exact ⟨k + 1, by omega, by go_num, M2, HF2.out, Hy.out.both.grown (Below.refl _ _).drew⟩
      case measure => simp [intOf]; omega
    · have hin' : ¬ k < len1 ∨ (k < len1 ∧ ¬ k < len2) ∨ (k < len1 ∧ k < len2 ∧ ¬ k < len3) ∨ (k < len1 ∧ k < len2 ∧ k < len3 ∧ ¬ k < len4) ∨ (k < len1 ∧ k < len2 ∧ k < len3 ∧ k < len4 ∧ ¬ k < 60) := by omega
      clear hin
      rcases hin' with h1 | ⟨h1, h2⟩ | ⟨h1, h2, h3⟩ | ⟨h1, h2, h3, h4⟩ | ⟨h1, h2, h3, h4, h5⟩
      all_goals
        go_wp2_with (first
          | (go_at_call 11; refine (HP.out.awake _ HI.out.below).mono ?_; rintro e w8 ⟨rfl, hB8⟩; have H8 : Hid (Below w.heap.size w w8) := HI.out.below.trans (hB8.mono HI.out.below.size); clear hB8)
          | fail)
        go_ret
        exact ⟨rfl, H8.out⟩
end Go.Proofs.YtcoggdnpjpiacaaGreatDoor.Prcv
