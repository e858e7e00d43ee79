/- TlbPlays returns true for every room and every list of acts, and leaves its arguments as they were. No condition. -/
import Derived.Test.YtamfdnkjfmfcoaaRows
import Derived.Test.YtamfdnkjfmfcoaaTlbX
import Derived.WalkKit
import Derived.ProofKit
import Derived.OpenShut
import Derived.ShutString
import Derived.ChangeOld
import Derived.Below
namespace Go.Proofs.Ytamfdnkjfmfcoaa.tlbPlays
open Go.ChangeShapes Go.WideShapes Go.ChangeAt Go.RowKit
set_option linter.unusedVariables false

theorem own : ownKnob Try.prog.godebug = none := by kernel_rfl
theorem laidOut : laidOutB Try.prog = true := by kernel_rfl

set_option maxRecDepth 100000 in
set_option maxHeartbeats 2000000 in
theorem walk_bad (r : Int) (a1 a2 a3 : Option Addr) (len1 cap1 len2 cap2 len3 cap3 : Nat) (w : World) (hr : r < 0 ∨ 8 < r) :
    Calls Try.prog 3 #[.int .i64 r, .slice a1 len1 cap1, .slice a2 len2 cap2, .slice a3 len3 cap3] w fun e w' => e = .returned (.bool true) ∧ Below w.heap.size w w' := by
  have HN : Hid (r < 0 ∨ 8 < r) := hr
  clear hr
  go_enter Try.func3, Try.ntmps3
  go_wp2_with (first
    | (go_at_call 7; refine (new_bad r _ HN.out).mono ?_; rintro e w1 ⟨rfl, rfl⟩)
    | (go_at_call 8; refine (rnew_bad r _ HN.out).mono ?_; rintro e w2 ⟨rfl, rfl⟩)
    | (go_at_call 9; refine (awake_any _).mono ?_; rintro e w4 ⟨rfl, hw4⟩))
  go_ret
  exact ⟨rfl, hw4⟩
set_option maxRecDepth 100000 in
set_option maxHeartbeats 16000000 in
theorem walk_ok (R : Nat) (hR : R ≤ 8) (a1 a2 a3 : Option Addr) (len1 cap1 len2 cap2 len3 cap3 : Nat) (w : World)
    (HC1 : Hid (Came .u8 w.heap.size w a1 len1)) (HC2 : Hid (CameK w.heap.size w a2 len2)) (HC3' : Hid (CameP w.heap.size w a3 len3)) (hl1 : len1 ≤ 9223372036854775807) (hl2 : len2 ≤ 9223372036854775807) (hl3 : len3 ≤ 9223372036854775807) :
    Calls Try.prog 3 #[.int .i64 (R : Int), .slice a1 len1 cap1, .slice a2 len2 cap2, .slice a3 len3 cap3] w fun e w' => e = .returned (.bool true) ∧ Below w.heap.size w w' := by
  go_enter Try.func3, Try.ntmps3
  go_wp2_with (first
    | (go_at_call 7; refine (new_ok (R : Int) _ (by omega) (by omega)).mono ?_; rintro e w1 ⟨rfl, ht1, hb1⟩; have HT1 : Hid (TlbIs w1 (w.heap.size + 1) w.heap.size R []) := ht1; have HB1 : Hid (Below w.heap.size w w1) := hb1; clear ht1 hb1)
    | (go_at_call 8; refine (rnew_ok (R : Int) _ (by omega) (by omega)).mono ?_; rintro e w2 ⟨rfl, hr2, hb2⟩; have HB : Hid (Both w w2 (w.heap.size + 1) w.heap.size w1.heap.size R []) := ⟨HT1.out.more hb2, ⟨none, 0, hr2 _ HB1.out.size⟩, belowt HB1.out hb2, Nat.le_refl _⟩; clear hr2 hb2))
  obtain ⟨q, hq⟩ : ∃ q, q = w1.heap.size := ⟨_, rfl⟩
  rw [← hq] at HB ⊢
  clear hq HT1 HB1
  go_loopw [13] (fun i wr => ∃ j : Nat, j ≤ len1 ∧ j ≤ 100 ∧ i = .int .i64 j ∧ ∃ S, Both w wr (w.heap.size + 1) w.heap.size q R S ∧ Fine S R j) (fun i _ => 100 - (intOf i).toNat)
  case atStart => exact ⟨0, by omega, by omega, rfl, [], HB.out, fine_nil R⟩
  case round =>
    obtain ⟨j, hj, hj1, rfl, S, hB, hF⟩ := hrel
    have HB0 : Hid (Both w wr (w.heap.size + 1) w.heap.size q R S) := hB
    have HF : Hid (Fine S R j) := hF
    clear hB hF HB
    by_cases hin : j < len1 ∧ j < len2 ∧ j < len3 ∧ j < 100
    · obtain ⟨h0, h1, h2, h3⟩ := hin
      obtain ⟨b1, o1, z1, rfl, c1, HZ1⟩ := HC1.out.at HB0.out.below h0
      obtain ⟨b2, o2, kk1, kk2, rfl, HK0'⟩ := HC2.out.at (show 0 < len2 by omega)
      have HK0 : Hid (∀ W', Below w.heap.size w W' → W'.cell? ⟨b2, o2, none⟩ = some (.int .i64 kk1) ∧ W'.cell? ⟨b2, o2 + 1, none⟩ = some (.int .i64 kk2)) := fun W' hW => by have := HK0'.out W' hW; simpa using this
      clear HK0'
      have i0 : (j : Int) < (len1 : Int) := by omega
      have i1 : (j : Int) < (len2 : Int) := by omega
      have i2 : (j : Int) < (len3 : Int) := by omega
      have i3 : (j : Int) < 100 := by omega
      have i4 : (0 : Int) < (len2 : Int) := by omega
      obtain ⟨kq, hkq, hkq7⟩ := rem_u8 HZ1.out 7 (by omega)
      have hrem : z1.tmod 7 = (kq : Int) := hkq
      clear hkq
      by_cases hsix : kq = 6
      · subst hsix
        have hlen : ((S.length : Int) != (S.length : Int)) = false := by simp
        go_wp2_with (first
          | (go_at_call 10; refine (flush_but _ _ R S _ HB0.out.tlb).mono ?_; rintro e w3 ⟨rfl, ht3, hb3⟩; have HH : Hid (Half w w3 (w.heap.size + 1) w.heap.size q R S []) := HB0.out.half ht3 hb3; obtain ⟨ao, cap, hr⟩ := HH.out.ref; have HR : Hid (RefIs w.heap.size w3 q R ao cap S) := hr; clear ht3 hb3 hr)
          | (go_at_call 11; refine (rflush_any _ _ _ _ _ S _ HR.out).mono ?_; rintro e w4 ⟨rfl, hr4, ho4, hb4, hs4⟩; have HB2' : Hid (Both w w4 (w.heap.size + 1) w.heap.size q R []) := HH.out.both ⟨none, 0, hr4⟩ ho4 (hb4 _ (Nat.le_refl _)); clear hr4 ho4 hb4 hs4))
        have HF2' : Hid (Fine [] R (j + 1)) := fine_flush R (j + 1)
        obtain ⟨S2, hS2⟩ : ∃ x, x = ([] : List En) := ⟨_, rfl⟩
        rw [← hS2] at HB2' HF2'
        have HB2 : Hid (Both w w4 (w.heap.size + 1) w.heap.size q R S2) := HB2'.out
        have HF2 : Hid (Fine S2 R (j + 1)) := HF2'.out
        clear hS2 HB2' HF2' HH HR hlen
        have HL2 : Hid (S2.length ≤ 8) := Nat.le_trans HF2.out.len (by omega)
        obtain ⟨N, hN⟩ : ∃ N, N = S2.length := ⟨_, rfl⟩
        have HN : Hid (N = S2.length) := hN
        clear hN
        have KEYS := fun wx hx => keys_any (w.heap.size + 1) w.heap.size R S2 wx hx HF2.out.ok (Nat.le_trans HL2.out (by omega))
        have LEN := fun wx hx => len_some (w.heap.size + 1) w.heap.size R S2 wx hx
        rw [← HN.out] at KEYS LEN
        have hN8 : N ≤ 8 := by rw [HN.out]; exact HL2.out
        go_wp2_with (first
          | (go_at_call 14; refine (KEYS _ HB2.out.tlb).mono ?_; rintro e w3 ⟨g, rfl, hg3, hc3, hb3⟩; have HB3 : Hid (Both w w3 (w.heap.size + 1) w.heap.size q R S2) := HB2.out.more hb3; have HC3 : Hid (∀ j x, S2[j]? = some x → w3.cell? ⟨g, j * 2, none⟩ = some (.int .i64 x.1.1) ∧ w3.cell? ⟨g, j * 2 + 1, none⟩ = some (.int .i64 x.1.2)) := hc3; clear hg3 hc3 hb3; obtain ⟨ao3, cap3, hr3⟩ := HB3.out.ref; have v3 : w3.cell? ⟨q, 0, none⟩ = some (.slice ao3 N cap3) := (by rw [HN.out]; exact hr3.cell); clear hr3)
          | (go_at_call 15; refine (LEN _ HB3.out.tlb).mono ?_; rintro e w4 ⟨rfl, hw4⟩; subst w4)
          | (go_at_call 16; refine (made_some _ _ _ HB3.out.tlb.ents).mono ?_; rintro e w4 ⟨rfl, hw4⟩; subst w4))
        go_loopw [15] (fun jj wi => ∃ l : Nat, l ≤ N ∧ jj = .int .i64 l ∧ Both w wi (w.heap.size + 1) w.heap.size q R S2 ∧ Below w3.heap.size w3 wi) (fun jj _ => N - (intOf jj).toNat)
        case atStart => exact ⟨0, by omega, rfl, HB3.out, Below.refl _ _⟩
        case round =>
          obtain ⟨l, hl, rfl, hB4, hW4⟩ := hrel
          have HB4 : Hid (Both w wr (w.heap.size + 1) w.heap.size q R S2) := hB4
          have HW4 : Hid (Below w3.heap.size w3 wr) := hW4
          clear hB4 hW4 v3 KEYS LEN
          by_cases hlN : l < N
          · have hli : (l : Int) < (N : Int) := by omega
            obtain ⟨x, hx⟩ : ∃ x, S2[l]? = some x := ⟨S2[l]'(by rw [← HN.out]; exact hlN), List.getElem?_eq_getElem _⟩
            have hm := tnK_mem HF2.out.ok.keys (List.mem_of_getElem? hx)
            have HX : Hid (S2[l]? = some x) := hx
            clear hx
            obtain ⟨⟨x1, x2⟩, ⟨y0, y1, y2, y3⟩, tx⟩ := x
            have GET : ∀ wx, TlbIs wx (w.heap.size + 1) w.heap.size R S2 → Calls Try.prog 17 #[.pointer (some ⟨w.heap.size + 1, 0, none⟩), .agg #[.int .i64 x1, .int .i64 x2]] wx fun e w' => e = .returned (.tuple #[.agg #[.bool y0, .int .i64 y1, .int .i64 y2, .int .i64 y3], .bool true]) ∧ Below wx.heap.size wx w' := fun wx hx => by
              have := get_any (w.heap.size + 1) w.heap.size R S2 (x1, x2) wx hx
              rw [hm.2.1, hm.2.2] at this
              exact this
            clear hm
            have m0 : wr.cell? ⟨g, l * 2, none⟩ = some (.int .i64 x1) := keeps HW4.out (HC3.out l _ HX.out).1
            have m1 : wr.cell? ⟨g, l * 2 + 1, none⟩ = some (.int .i64 x2) := keeps HW4.out (HC3.out l _ HX.out).2
            go_wp2_with (go_at_call 17; refine (GET _ HB4.out.tlb).mono ?_; rintro e w5 ⟨rfl, hb5⟩; have HB5 : Hid (Both w w5 (w.heap.size + 1) w.heap.size q R S2) := HB4.out.more hb5; have HW5 : Hid (Below w3.heap.size w3 w5) := belowt HW4.out hb5; clear hb5)
            obtain ⟨w6, hw6⟩ : ∃ x, x = w5.alloc (.cells #[.bool y0, .int .i64 y1, .int .i64 y2, .int .i64 y3] 38) := ⟨_, rfl⟩
            rw [← hw6]
            have HB6 : Hid (Both w w6 (w.heap.size + 1) w.heap.size q R S2) := by rw [hw6]; exact HB5.out.alloc _
            have HW6 : Hid (Below w3.heap.size w3 w6) := by rw [hw6]; exact bal HW5.out _
            have z0 : w6.cell? ⟨w5.heap.size, 0, none⟩ = some (.bool y0) := by rw [hw6]; simp
            have z1 : w6.cell? ⟨w5.heap.size, 1, none⟩ = some (.int .i64 y1) := by rw [hw6]; simp
            have z2 : w6.cell? ⟨w5.heap.size, 2, none⟩ = some (.int .i64 y2) := by rw [hw6]; simp
            have z3 : w6.cell? ⟨w5.heap.size, 3, none⟩ = some (.int .i64 y3) := by rw [hw6]; simp
            have n0 : w6.cell? ⟨g, l * 2, none⟩ = some (.int .i64 x1) := keeps HW6.out (HC3.out l _ HX.out).1
            have n1 : w6.cell? ⟨g, l * 2 + 1, none⟩ = some (.int .i64 x2) := keeps HW6.out (HC3.out l _ HX.out).2
            clear hw6 m0 m1 GET
            obtain ⟨ao6, cap6, hr6⟩ := HB6.out.ref
            have v6 : w6.cell? ⟨q, 0, none⟩ = some (.slice ao6 N cap6) := by rw [HN.out]; exact hr6.cell
            obtain ⟨gg, off, rfl, _, _, _, hc6, _⟩ := hr6.ent HX.out
            have g0 : w6.cell? ⟨gg, off + l * 6, none⟩ = some (.int .i64 x1) := hc6 0 (by omega)
            have g1 : w6.cell? ⟨gg, off + l * 6 + 1, none⟩ = some (.int .i64 x2) := hc6 1 (by omega)
            have g2 : w6.cell? ⟨gg, off + l * 6 + 2, none⟩ = some (.bool y0) := hc6 2 (by omega)
            have g3 : w6.cell? ⟨gg, off + l * 6 + 3, none⟩ = some (.int .i64 y1) := hc6 3 (by omega)
            have g4 : w6.cell? ⟨gg, off + l * 6 + 4, none⟩ = some (.int .i64 y2) := hc6 4 (by omega)
            have g5 : w6.cell? ⟨gg, off + l * 6 + 5, none⟩ = some (.int .i64 y3) := hc6 5 (by omega)
            clear hc6 hr6
            have hnk : ∀ w, (binOp .neq 36 (.agg #[.int .i64 x1, .int .i64 x2]) (.agg #[.int .i64 x1, .int .i64 x2])).run Try.prog w = .ok (.bool false) w := fun w => by have := neqK (x1, x2) (x1, x2) w; simpa using this
            have hnp : ∀ w, (binOp .neq 38 (.agg #[.bool y0, .int .i64 y1, .int .i64 y2, .int .i64 y3]) (.agg #[.bool y0, .int .i64 y1, .int .i64 y2, .int .i64 y3])).run Try.prog w = .ok (.bool false) w := fun w => by have := neqP (y0, y1, y2, y3) (y0, y1, y2, y3) w; simpa using this
            go_quiet (fail)
            obtain ⟨w7, hw7⟩ : ∃ x, x = w6.drewN nq := ⟨_, rfl⟩
            rw [← hw7]
            have HB7 : Hid (Both w w7 (w.heap.size + 1) w.heap.size q R S2) := by rw [hw7]; exact HB6.out.drewN _
            have HW7 : Hid (Below w3.heap.size w3 w7) := by rw [hw7]; exact below_drewN HW6.out _
            clear hw7 hnk hnp
            go_wp2
            go_roundw
            case rel => exact ⟨l + 1, by omega, by go_num, HB7.out, HW7.out⟩
            case measure => simp [intOf]; omega
          · obtain rfl : l = N := by omega
            have hli : ¬ (l : Int) < (l : Int) := by omega
            have GET := fun wx hx => get_any (w.heap.size + 1) w.heap.size R S2 (kk1, kk2) wx hx
            have RGET := fun wx ao cap hx => rget_any w.heap.size q cap R ao S2 (kk1, kk2) wx hx (Nat.le_trans HL2.out (by omega))
            generalize hasK S2 (kk1, kk2) = yy at GET RGET
            generalize ptK S2 (kk1, kk2) = pp at GET RGET
            obtain ⟨y0, y1, y2, y3⟩ := pp
            simp only [pv] at GET RGET
            have hnp : ∀ w, (binOp .neq 38 (.agg #[.bool y0, .int .i64 y1, .int .i64 y2, .int .i64 y3]) (.agg #[.bool y0, .int .i64 y1, .int .i64 y2, .int .i64 y3])).run Try.prog w = .ok (.bool false) w := fun w => by have := neqP (y0, y1, y2, y3) (y0, y1, y2, y3) w; simpa using this
            have k40 := (HK0.out _ HB4.out.below).1
            have k41 := (HK0.out _ HB4.out.below).2
            go_wp2_with (first
              | (go_at_call 17; refine (GET _ HB4.out.tlb).mono ?_; rintro e w5 ⟨rfl, hb5⟩; have HB5 : Hid (Both w w5 (w.heap.size + 1) w.heap.size q R S2) := HB4.out.more hb5; have HB5' : Hid (Both w (w5.alloc (.cells #[.bool y0, .int .i64 y1, .int .i64 y2, .int .i64 y3] 38)) (w.heap.size + 1) w.heap.size q R S2) := HB5.out.alloc _; have k50 := (HK0.out _ HB5'.out.below).1; have k51 := (HK0.out _ HB5'.out.below).2; obtain ⟨ao5, cap5, hr5⟩ := HB5'.out.ref; have HR5 : Hid (RefIs w.heap.size (w5.alloc (.cells #[.bool y0, .int .i64 y1, .int .i64 y2, .int .i64 y3] 38)) q R ao5 cap5 S2) := hr5; clear hb5 hr5)
              | (go_at_call 18; refine (RGET _ _ _ HR5.out).mono ?_; rintro e w6 ⟨rfl, hb6⟩; have HB6 : Hid (Both w w6 (w.heap.size + 1) w.heap.size q R S2) := HB5'.out.more hb6; have x0 : w6.cell? ⟨w5.heap.size, 0, none⟩ = some (.bool y0) := keeps hb6 (by simp); have x1 : w6.cell? ⟨w5.heap.size, 1, none⟩ = some (.int .i64 y1) := keeps hb6 (by simp); have x2 : w6.cell? ⟨w5.heap.size, 2, none⟩ = some (.int .i64 y2) := keeps hb6 (by simp); have x3 : w6.cell? ⟨w5.heap.size, 3, none⟩ = some (.int .i64 y3) := keeps hb6 (by simp); have hs6 : w5.heap.size < w6.heap.size := World.block_lt_of_cell? w6 _ x0; clear hb6))
            go_roundw
            case rel => exact ⟨j + 1, by omega, by omega, by go_num, S2, HB6.out.alloc _, HF2.out⟩
            case measure => simp [intOf]; omega
      · have hne6 : ((kq : Int) == 6) = false := by simp; omega
        obtain ⟨b3, o3, q0, q1, q2, q3, rfl, HQ⟩ := HC3'.out.at h2
        obtain ⟨b2', o2', k1, k2, e2, HK⟩ := HC2.out.at h1
        simp at e2
        obtain ⟨rfl, rfl⟩ := e2
        go_wp2
        have c20 := (HK.out _ HB0.out.below).1
        have c21 := (HK.out _ HB0.out.below).2
        have e0 := (HQ.out _ HB0.out.below).1
        have e1 := (HQ.out _ HB0.out.below).2.1
        have e2 := (HQ.out _ HB0.out.below).2.2.1
        have e3 := (HQ.out _ HB0.out.below).2.2.2
        go_region_held3 (fun w' => w'.cell? ⟨b2, o2 + j * 2, none⟩ = some (.int .i64 k1) ∧ w'.cell? ⟨b2, o2 + j * 2 + 1, none⟩ = some (.int .i64 k2) ∧ w'.cell? ⟨b3, o3 + j * 4, none⟩ = some (.bool q0) ∧ w'.cell? ⟨b3, o3 + j * 4 + 1, none⟩ = some (.int .i64 q1) ∧ w'.cell? ⟨b3, o3 + j * 4 + 2, none⟩ = some (.int .i64 q2) ∧ w'.cell? ⟨b3, o3 + j * 4 + 3, none⟩ = some (.int .i64 q3)) (first | exact ⟨f0, f1, g0, g1, g2, g3⟩ | go_keep)
          ((go_at_call 12; refine (put_some' _ _ R S (k1, k2) (q0, q1, q2, q3) _ HB0.out.tlb.drew HF.out.ok (HF.out.mx (by omega)) HF.out.len hR).mono ?_; rintro e w3 ⟨rfl, ht3, hb3⟩; have HH : Hid (Half w w3 (w.heap.size + 1) w.heap.size q R S (putS R S (k1, k2) (q0, q1, q2, q3))) := HB0.out.drew.half ht3 hb3; have f0 := (HK.out _ HH.out.below).1; have f1 := (HK.out _ HH.out.below).2; have g0 := (HQ.out _ HH.out.below).1; have g1 := (HQ.out _ HH.out.below).2.1; have g2 := (HQ.out _ HH.out.below).2.2.1; have g3 := (HQ.out _ HH.out.below).2.2.2; clear ht3 hb3))
        clear c20 c21 e0 e1 e2 e3
        go_wp2
        obtain ⟨ao, cap, hr⟩ := HH.out.ref
        have HR : Hid (RefIs w.heap.size w3 q R ao cap S) := hr
        clear hr
        go_region_held3 (fun w' => w'.cell? ⟨b2, o2 + j * 2, none⟩ = some (.int .i64 k1) ∧ w'.cell? ⟨b2, o2 + j * 2 + 1, none⟩ = some (.int .i64 k2) ∧ w'.cell? ⟨b3, o3 + j * 4, none⟩ = some (.bool q0) ∧ w'.cell? ⟨b3, o3 + j * 4 + 1, none⟩ = some (.int .i64 q1) ∧ w'.cell? ⟨b3, o3 + j * 4 + 2, none⟩ = some (.int .i64 q2) ∧ w'.cell? ⟨b3, o3 + j * 4 + 3, none⟩ = some (.int .i64 q3)) (first | exact ⟨a0, a1, d0, d1, d2, d3⟩ | go_keep)
          ((go_at_call 13; refine (rput_any w.heap.size q cap R ao S (k1, k2) (q0, q1, q2, q3) _ HR.out.drew HH.out.below.size HF.out.len hR).mono ?_; rintro e w4 ⟨rfl, hr4, ho4, hb4⟩; have HB2' : Hid (Both w w4 (w.heap.size + 1) w.heap.size q R (putS R S (k1, k2) (q0, q1, q2, q3))) := HH.out.drew.both hr4 ho4 (hb4 _ (Nat.le_refl _)); have a0 := (HK.out _ HB2'.out.below).1; have a1 := (HK.out _ HB2'.out.below).2; have d0 := (HQ.out _ HB2'.out.below).1; have d1 := (HQ.out _ HB2'.out.below).2.1; have d2 := (HQ.out _ HB2'.out.below).2.2.1; have d3 := (HQ.out _ HB2'.out.below).2.2.2; clear hr4 ho4 hb4))
        have HF2' : Hid (Fine (putS R S (k1, k2) (q0, q1, q2, q3)) R (j + 1)) := HF.out.put _ _
        obtain ⟨S2, hS2⟩ : ∃ x, x = putS R S (k1, k2) (q0, q1, q2, q3) := ⟨_, rfl⟩
        rw [← hS2] at HB2' HF2'
        have HB2 : Hid (Both w w4 (w.heap.size + 1) w.heap.size q R S2) := HB2'.out
        have HF2 : Hid (Fine S2 R (j + 1)) := HF2'.out
        clear hS2 HB2' HF2' HH HR f0 f1 g0 g1 g2 g3 a0 a1 d0 d1 d2 d3
        have HL2 : Hid (S2.length ≤ 8) := Nat.le_trans HF2.out.len (by omega)
        obtain ⟨N, hN⟩ : ∃ N, N = S2.length := ⟨_, rfl⟩
        have HN : Hid (N = S2.length) := hN
        clear hN
        have KEYS := fun wx hx => keys_any (w.heap.size + 1) w.heap.size R S2 wx hx HF2.out.ok (Nat.le_trans HL2.out (by omega))
        have LEN := fun wx hx => len_some (w.heap.size + 1) w.heap.size R S2 wx hx
        rw [← HN.out] at KEYS LEN
        have hN8 : N ≤ 8 := by rw [HN.out]; exact HL2.out
        go_wp2_with (first
          | (go_at_call 14; refine (KEYS _ HB2.out.tlb).mono ?_; rintro e w3 ⟨g, rfl, hg3, hc3, hb3⟩; have HB3 : Hid (Both w w3 (w.heap.size + 1) w.heap.size q R S2) := HB2.out.more hb3; have HC3 : Hid (∀ j x, S2[j]? = some x → w3.cell? ⟨g, j * 2, none⟩ = some (.int .i64 x.1.1) ∧ w3.cell? ⟨g, j * 2 + 1, none⟩ = some (.int .i64 x.1.2)) := hc3; clear hg3 hc3 hb3; obtain ⟨ao3, cap3, hr3⟩ := HB3.out.ref; have v3 : w3.cell? ⟨q, 0, none⟩ = some (.slice ao3 N cap3) := (by rw [HN.out]; exact hr3.cell); clear hr3)
          | (go_at_call 15; refine (LEN _ HB3.out.tlb).mono ?_; rintro e w4 ⟨rfl, hw4⟩; subst w4)
          | (go_at_call 16; refine (made_some _ _ _ HB3.out.tlb.ents).mono ?_; rintro e w4 ⟨rfl, hw4⟩; subst w4))
        go_loopw [15] (fun jj wi => ∃ l : Nat, l ≤ N ∧ jj = .int .i64 l ∧ Both w wi (w.heap.size + 1) w.heap.size q R S2 ∧ Below w3.heap.size w3 wi) (fun jj _ => N - (intOf jj).toNat)
        case atStart => exact ⟨0, by omega, rfl, HB3.out, Below.refl _ _⟩
        case round =>
          obtain ⟨l, hl, rfl, hB4, hW4⟩ := hrel
          have HB4 : Hid (Both w wr (w.heap.size + 1) w.heap.size q R S2) := hB4
          have HW4 : Hid (Below w3.heap.size w3 wr) := hW4
          clear hB4 hW4 v3 KEYS LEN
          by_cases hlN : l < N
          · have hli : (l : Int) < (N : Int) := by omega
            obtain ⟨x, hx⟩ : ∃ x, S2[l]? = some x := ⟨S2[l]'(by rw [← HN.out]; exact hlN), List.getElem?_eq_getElem _⟩
            have hm := tnK_mem HF2.out.ok.keys (List.mem_of_getElem? hx)
            have HX : Hid (S2[l]? = some x) := hx
            clear hx
            obtain ⟨⟨x1, x2⟩, ⟨y0, y1, y2, y3⟩, tx⟩ := x
            have GET : ∀ wx, TlbIs wx (w.heap.size + 1) w.heap.size R S2 → Calls Try.prog 17 #[.pointer (some ⟨w.heap.size + 1, 0, none⟩), .agg #[.int .i64 x1, .int .i64 x2]] wx fun e w' => e = .returned (.tuple #[.agg #[.bool y0, .int .i64 y1, .int .i64 y2, .int .i64 y3], .bool true]) ∧ Below wx.heap.size wx w' := fun wx hx => by
              have := get_any (w.heap.size + 1) w.heap.size R S2 (x1, x2) wx hx
              rw [hm.2.1, hm.2.2] at this
              exact this
            clear hm
            have m0 : wr.cell? ⟨g, l * 2, none⟩ = some (.int .i64 x1) := keeps HW4.out (HC3.out l _ HX.out).1
            have m1 : wr.cell? ⟨g, l * 2 + 1, none⟩ = some (.int .i64 x2) := keeps HW4.out (HC3.out l _ HX.out).2
            go_wp2_with (go_at_call 17; refine (GET _ HB4.out.tlb).mono ?_; rintro e w5 ⟨rfl, hb5⟩; have HB5 : Hid (Both w w5 (w.heap.size + 1) w.heap.size q R S2) := HB4.out.more hb5; have HW5 : Hid (Below w3.heap.size w3 w5) := belowt HW4.out hb5; clear hb5)
            obtain ⟨w6, hw6⟩ : ∃ x, x = w5.alloc (.cells #[.bool y0, .int .i64 y1, .int .i64 y2, .int .i64 y3] 38) := ⟨_, rfl⟩
            rw [← hw6]
            have HB6 : Hid (Both w w6 (w.heap.size + 1) w.heap.size q R S2) := by rw [hw6]; exact HB5.out.alloc _
            have HW6 : Hid (Below w3.heap.size w3 w6) := by rw [hw6]; exact bal HW5.out _
            have z0 : w6.cell? ⟨w5.heap.size, 0, none⟩ = some (.bool y0) := by rw [hw6]; simp
            have z1 : w6.cell? ⟨w5.heap.size, 1, none⟩ = some (.int .i64 y1) := by rw [hw6]; simp
            have z2 : w6.cell? ⟨w5.heap.size, 2, none⟩ = some (.int .i64 y2) := by rw [hw6]; simp
            have z3 : w6.cell? ⟨w5.heap.size, 3, none⟩ = some (.int .i64 y3) := by rw [hw6]; simp
            have n0 : w6.cell? ⟨g, l * 2, none⟩ = some (.int .i64 x1) := keeps HW6.out (HC3.out l _ HX.out).1
            have n1 : w6.cell? ⟨g, l * 2 + 1, none⟩ = some (.int .i64 x2) := keeps HW6.out (HC3.out l _ HX.out).2
            clear hw6 m0 m1 GET
            obtain ⟨ao6, cap6, hr6⟩ := HB6.out.ref
            have v6 : w6.cell? ⟨q, 0, none⟩ = some (.slice ao6 N cap6) := by rw [HN.out]; exact hr6.cell
            obtain ⟨gg, off, rfl, _, _, _, hc6, _⟩ := hr6.ent HX.out
            have g0 : w6.cell? ⟨gg, off + l * 6, none⟩ = some (.int .i64 x1) := hc6 0 (by omega)
            have g1 : w6.cell? ⟨gg, off + l * 6 + 1, none⟩ = some (.int .i64 x2) := hc6 1 (by omega)
            have g2 : w6.cell? ⟨gg, off + l * 6 + 2, none⟩ = some (.bool y0) := hc6 2 (by omega)
            have g3 : w6.cell? ⟨gg, off + l * 6 + 3, none⟩ = some (.int .i64 y1) := hc6 3 (by omega)
            have g4 : w6.cell? ⟨gg, off + l * 6 + 4, none⟩ = some (.int .i64 y2) := hc6 4 (by omega)
            have g5 : w6.cell? ⟨gg, off + l * 6 + 5, none⟩ = some (.int .i64 y3) := hc6 5 (by omega)
            clear hc6 hr6
            have hnk : ∀ w, (binOp .neq 36 (.agg #[.int .i64 x1, .int .i64 x2]) (.agg #[.int .i64 x1, .int .i64 x2])).run Try.prog w = .ok (.bool false) w := fun w => by have := neqK (x1, x2) (x1, x2) w; simpa using this
            have hnp : ∀ w, (binOp .neq 38 (.agg #[.bool y0, .int .i64 y1, .int .i64 y2, .int .i64 y3]) (.agg #[.bool y0, .int .i64 y1, .int .i64 y2, .int .i64 y3])).run Try.prog w = .ok (.bool false) w := fun w => by have := neqP (y0, y1, y2, y3) (y0, y1, y2, y3) w; simpa using this
            go_quiet (fail)
            obtain ⟨w7, hw7⟩ : ∃ x, x = w6.drewN nq := ⟨_, rfl⟩
            rw [← hw7]
            have HB7 : Hid (Both w w7 (w.heap.size + 1) w.heap.size q R S2) := by rw [hw7]; exact HB6.out.drewN _
            have HW7 : Hid (Below w3.heap.size w3 w7) := by rw [hw7]; exact below_drewN HW6.out _
            clear hw7 hnk hnp
            go_wp2
            go_roundw
            case rel => exact ⟨l + 1, by omega, by go_num, HB7.out, HW7.out⟩
            case measure => simp [intOf]; omega
          · obtain rfl : l = N := by omega
            have hli : ¬ (l : Int) < (l : Int) := by omega
            have GET := fun wx hx => get_any (w.heap.size + 1) w.heap.size R S2 (kk1, kk2) wx hx
            have RGET := fun wx ao cap hx => rget_any w.heap.size q cap R ao S2 (kk1, kk2) wx hx (Nat.le_trans HL2.out (by omega))
            generalize hasK S2 (kk1, kk2) = yy at GET RGET
            generalize ptK S2 (kk1, kk2) = pp at GET RGET
            obtain ⟨y0, y1, y2, y3⟩ := pp
            simp only [pv] at GET RGET
            have hnp : ∀ w, (binOp .neq 38 (.agg #[.bool y0, .int .i64 y1, .int .i64 y2, .int .i64 y3]) (.agg #[.bool y0, .int .i64 y1, .int .i64 y2, .int .i64 y3])).run Try.prog w = .ok (.bool false) w := fun w => by have := neqP (y0, y1, y2, y3) (y0, y1, y2, y3) w; simpa using this
            have k40 := (HK0.out _ HB4.out.below).1
            have k41 := (HK0.out _ HB4.out.below).2
            go_wp2_with (first
              | (go_at_call 17; refine (GET _ HB4.out.tlb).mono ?_; rintro e w5 ⟨rfl, hb5⟩; have HB5 : Hid (Both w w5 (w.heap.size + 1) w.heap.size q R S2) := HB4.out.more hb5; have HB5' : Hid (Both w (w5.alloc (.cells #[.bool y0, .int .i64 y1, .int .i64 y2, .int .i64 y3] 38)) (w.heap.size + 1) w.heap.size q R S2) := HB5.out.alloc _; have k50 := (HK0.out _ HB5'.out.below).1; have k51 := (HK0.out _ HB5'.out.below).2; obtain ⟨ao5, cap5, hr5⟩ := HB5'.out.ref; have HR5 : Hid (RefIs w.heap.size (w5.alloc (.cells #[.bool y0, .int .i64 y1, .int .i64 y2, .int .i64 y3] 38)) q R ao5 cap5 S2) := hr5; clear hb5 hr5)
              | (go_at_call 18; refine (RGET _ _ _ HR5.out).mono ?_; rintro e w6 ⟨rfl, hb6⟩; have HB6 : Hid (Both w w6 (w.heap.size + 1) w.heap.size q R S2) := HB5'.out.more hb6; have x0 : w6.cell? ⟨w5.heap.size, 0, none⟩ = some (.bool y0) := keeps hb6 (by simp); have x1 : w6.cell? ⟨w5.heap.size, 1, none⟩ = some (.int .i64 y1) := keeps hb6 (by simp); have x2 : w6.cell? ⟨w5.heap.size, 2, none⟩ = some (.int .i64 y2) := keeps hb6 (by simp); have x3 : w6.cell? ⟨w5.heap.size, 3, none⟩ = some (.int .i64 y3) := keeps hb6 (by simp); have hs6 : w5.heap.size < w6.heap.size := World.block_lt_of_cell? w6 _ x0; clear hb6))
            go_roundw
            case rel => exact ⟨j + 1, by omega, by omega, by go_num, S2, HB6.out.alloc _, HF2.out⟩
            case measure => simp [intOf]; omega
    · by_cases i0 : (j : Int) < (len1 : Int)
      · by_cases i1 : (j : Int) < (len2 : Int)
        · by_cases i2 : (j : Int) < (len3 : Int)
          · have i3 : ¬ (j : Int) < 100 := by omega
            clear hin
            go_wp2_with (go_at_call 9; refine (awake_any _).mono ?_; rintro e w6 ⟨rfl, hb6⟩; have HB6 : Hid (Below w.heap.size w w6) := belowt HB0.out.below hb6; clear hb6)
            go_ret
            exact ⟨rfl, HB6.out⟩
          · clear hin
            go_wp2_with (go_at_call 9; refine (awake_any _).mono ?_; rintro e w6 ⟨rfl, hb6⟩; have HB6 : Hid (Below w.heap.size w w6) := belowt HB0.out.below hb6; clear hb6)
            go_ret
            exact ⟨rfl, HB6.out⟩
        · clear hin
          go_wp2_with (go_at_call 9; refine (awake_any _).mono ?_; rintro e w6 ⟨rfl, hb6⟩; have HB6 : Hid (Below w.heap.size w w6) := belowt HB0.out.below hb6; clear hb6)
          go_ret
          exact ⟨rfl, HB6.out⟩
      · clear hin
        go_wp2_with (go_at_call 9; refine (awake_any _).mono ?_; rintro e w6 ⟨rfl, hb6⟩; have HB6 : Hid (Below w.heap.size w w6) := belowt HB0.out.below hb6; clear hb6)
        go_ret
        exact ⟨rfl, HB6.out⟩

theorem walk (a0 : Int) (a1 : Option Addr) (len1 cap1 : Nat) (a2 : Option Addr) (len2 cap2 : Nat) (a3 : Option Addr) (len3 cap3 : Nat) (w : World) (w0 : (Lit.int .i64 a0).wf = true) (w1 : Hid (Came .u8 w.heap.size w a1 len1)) (l1 : len1 ≤ 9223372036854775807) (w2 : Hid (CameK w.heap.size w a2 len2)) (l2 : len2 ≤ 9223372036854775807) (w3 : Hid (CameP w.heap.size w a3 len3)) (l3 : len3 ≤ 9223372036854775807) :
    Calls Try.prog 3 #[.int .i64 a0, .slice a1 len1 cap1, .slice a2 len2 cap2, .slice a3 len3 cap3] w fun e w' => e = .returned (.bool true) ∧ Below w.heap.size w w' := by
  by_cases hr : a0 < 0 ∨ 8 < a0
  · exact walk_bad a0 a1 a2 a3 len1 cap1 len2 cap2 len3 cap3 w hr
  · obtain ⟨R, rfl⟩ : ∃ R : Nat, a0 = (R : Int) := ⟨a0.toNat, by omega⟩
    exact walk_ok R (by omega) a1 a2 a3 len1 cap1 len2 cap2 len3 cap3 w w1 w2 w3 l1 l2 l3

/-! ### The statement's frame -/
set_option maxRecDepth 100000 in
theorem lifted (os : Os) (started : os.Started) (H : Type) (enc : TypeId × Value → H) :
    ReturnsInHanded {} Try.checked os 3 .any (Rows.tlbPlaysSpec.pre6 enc Try.prog Try.f3 Rows.tlbPlaysRow.domain false) (Rows.tlbPlaysSpec.post enc Try.prog Try.f3 false true false false) := by
  refine returnsInHanded_of_change (C := Try.checked) own started (by kernel_rfl) Try.func3
    (ChangeSpec.witness6 (enc := enc) (C := Try.checked) false ⟨#[], #[.int .i64 0, .slice none 0 0, .slice none 0 0, .slice none 0 0], []⟩ 8 (by kernel_rfl) (by kernel_rfl) (by kernel_rfl) (by kernel_rfl)) ?_
  intro W base args ds gs before hval0 hW hcnd _
  have hval : ∀ (j : Nat) t v, Try.f3.params[j]? = some t → args[j]? = some v → Value.okWide Try.prog W .any base t v := hval0
  have hW' := hW
  obtain ⟨p, q, hA0, hV, rfl, hfz, hnd⟩ := hW
  have hA : DataW.TrodAll enc Try.prog W 0 (fun _ => true) true Try.f3.params.toList args.toList ds p := hA0
  rw [Try.params3] at hA hval
  obtain ⟨v0, vs0, d0, ds0, p0, q0, hargs, rfl, rfl, h0, r0⟩ := trodAll_cons hA
  obtain ⟨v1, vs1, d1, ds1, p1, q1, rfl, rfl, rfl, h1, r1⟩ := trodAll_cons r0
  obtain ⟨v2, vs2, d2, ds2, p2, q2, rfl, rfl, rfl, h2, r2⟩ := trodAll_cons r1
  obtain ⟨v3, vs3, d3, ds3, p3, q3, rfl, rfl, rfl, h3, r3⟩ := trodAll_cons r2
  obtain ⟨rfl, rfl, rfl⟩ := trodAll_nil r3
  obtain rfl : args = #[v0, v1, v2, v3] := by cases args; simp_all
  obtain ⟨rfl, rfl⟩ := trodVars_none hV
  obtain ⟨a0, rfl, rfl, rfl, w0⟩ := open_int Try.underlying3 (hval 0 3 v0 rfl rfl) h0
  obtain ⟨a1, len1, cap1, rfl⟩ := okWide_slice Try.underlying22 (hval 1 22 v1 rfl rfl)
  have k1 := h1
  have lt1 : ∀ x ∈ p1, x.block < W.heap.size := by obtain ⟨m, hm⟩ := k1; exact DataW.trod_lt m _ _ _ hm
  have w1 : Came .u8 W.heap.size W a1 len1 ∧ len1 ≤ 9223372036854775807 := by
    obtain ⟨fuel, hf⟩ := h1
    rcases open_ints Try.underlying22 Try.underlying5 (by kernel_rfl) hf with ⟨hcs, _⟩ | ⟨x, l, c, zs, hcs, _, hl, hm, hz, _, hcell, hwz⟩
    · simp [Value.cells] at hcs
      obtain ⟨rfl, rfl, rfl⟩ := hcs
      exact came_of_row (zs := []) (.inl ⟨rfl, rfl, rfl, rfl⟩)
    · simp [Value.cells] at hcs
      obtain ⟨rfl, rfl, rfl⟩ := hcs
      exact came_of_row (.inr ⟨_, rfl, hl, hm, by simpa using hz, hcell, hwz⟩)
  obtain ⟨a2, len2, cap2, rfl⟩ := okWide_slice Try.underlying23 (hval 2 23 v2 rfl rfl)
  have k2 := h2
  have lt2 : ∀ x ∈ p2, x.block < W.heap.size := by obtain ⟨m, hm⟩ := k2; exact DataW.trod_lt m _ _ _ hm
  have w2 : CameK W.heap.size W a2 len2 ∧ len2 ≤ 9223372036854775807 := by
    obtain ⟨fuel, hf⟩ := h2
    exact cameK_of (by simpa [Value.cells] using hf)
  obtain ⟨a3, len3, cap3, rfl⟩ := okWide_slice Try.underlying24 (hval 3 24 v3 rfl rfl)
  have k3 := h3
  have lt3 : ∀ x ∈ p3, x.block < W.heap.size := by obtain ⟨m, hm⟩ := k3; exact DataW.trod_lt m _ _ _ hm
  have w3 : CameP W.heap.size W a3 len3 ∧ len3 ≤ 9223372036854775807 := by
    obtain ⟨fuel, hf⟩ := h3
    exact cameP_of (by simpa [Value.cells] using hf)
  clear hA0 hval0
  refine (walk a0 a1 len1 cap1 a2 len2 cap2 a3 len3 cap3 W w0 w1.1 w1.2 w2.1 w2.2 w3.1 w3.2).mono fun e W' ⟨he, bel⟩ => ?_
  subst he
  exact ⟨_, rfl, _, _, _, [], _, [], hW', trodAll_mk1 (shut_bool Try.underlying4 _), (trodAll_cons_mk (shut_int Try.underlying3 w0) (trodAll_cons_mk (Below.trod laidOut (by kernel_rfl) (of_decide_eq_true (by kernel_rfl)) k1 bel lt1) (trodAll_cons_mk (Below.trod laidOut (by kernel_rfl) (of_decide_eq_true (by kernel_rfl)) k2 bel lt2) (trodAll_cons_mk (Below.trod laidOut (by kernel_rfl) (of_decide_eq_true (by kernel_rfl)) k3 bel lt3) trodAll_mk0)))), rfl, bel.frame _, fun h => by cases h⟩

theorem over : Rows.tlbPlaysRow.holds Try.pinned (OpenSpec.ofChange Rows.tlbPlaysSpec) :=
  OpenClaim.holds_of_wide 3 Try.f3 rfl rfl rfl rfl rfl rfl rfl ⟨rfl, rfl, rfl, rfl, rfl⟩ rfl rfl rfl rfl rfl (by kernel_rfl) Try.func3 (by kernel_rfl)
    (of_decide_eq_true (by kernel_rfl)) (by unfold Func.isWrapper; first | (rw [if_pos (by decide +kernel)]; kernel_rfl) | (rw [if_neg (by decide +kernel)]; exact ⟨rfl, rfl⟩))
    (fun os started H enc _ => lifted os started H enc)

theorem proved : Rows.TlbPlaysSaid := over
end Go.Proofs.Ytamfdnkjfmfcoaa.tlbPlays
namespace Go.Proofs.Ytamfdnkjfmfcoaa
theorem tlbPlays_holds : Rows.TlbPlaysSaid := tlbPlays.proved
#print axioms tlbPlays_holds
end Go.Proofs.Ytamfdnkjfmfcoaa
