/- TypPlays returns true for every number of frames and every list of acts, and leaves its arguments as they were. No condition. -/
import Derived.Test.YtiodocdbhjdfaaaRows
import Derived.Test.YtiodocdbhjdfaaaTypW
import Derived.Deep.CutBlock
import Derived.WalkKit
import Derived.ProofKit
import Derived.OpenShut
import Derived.ShutString
import Derived.ChangeOld
import Derived.Below
namespace Go.Proofs.Ytiodocdbhjdfaaa.typPlays
open Go.ChangeShapes Go.WideShapes Go.ChangeAt Go.RowKit
set_option linter.unusedVariables false

theorem own : ownKnob Try.prog.godebug = none := by kernel_rfl
theorem laidOut : laidOutB Try.prog = true := by kernel_rfl

/-- The document's answer lies in block b. -/
def Ys (w : World) (b : Nat) (s : FS) : Prop := w.cell? ⟨b, 0, none⟩ = some (.int .i64 s.is) ∧ w.cell? ⟨b, 1, none⟩ = some (.int .i64 s.cnt) ∧ w.cell? ⟨b, 2, none⟩ = some (.int .i64 s.fr) ∧ w.cell? ⟨b, 3, none⟩ = some (.int .i64 s.was)
theorem Ys.more {w w' : World} {b : Nat} {s : FS} (h : Ys w b s) (k : Below w.heap.size w w') : Ys w' b s := by
  obtain ⟨h0, h1, h2, h3⟩ := h
  have hb := World.block_lt_of_cell? w _ h0
  exact ⟨(k.cell (p := ⟨b, 0, none⟩) hb).trans h0, (k.cell (p := ⟨b, 1, none⟩) hb).trans h1, (k.cell (p := ⟨b, 2, none⟩) hb).trans h2, (k.cell (p := ⟨b, 3, none⟩) hb).trans h3⟩
theorem Ys.drew {w : World} {b : Nat} {s : FS} (h : Ys w b s) : Ys w.drew b s := h
theorem seen {w : World} {b b2 j : Nat} {s : FS} {z : Int} (h : Ys w b s) (c : w.cell? ⟨b2, j, none⟩ = some (.int .i64 z)) : w.cell? ⟨b2, j, none⟩ = some (.int .i64 z) ∧ w.cell? ⟨b, 0, none⟩ = some (.int .i64 s.is) ∧ w.cell? ⟨b, 1, none⟩ = some (.int .i64 s.cnt) ∧ w.cell? ⟨b, 2, none⟩ = some (.int .i64 s.fr) ∧ w.cell? ⟨b, 3, none⟩ = some (.int .i64 s.was) := ⟨c, h⟩
set_option maxRecDepth 100000 in
set_option maxHeartbeats 2000000 in
theorem walk_bad (n : Int) (a1 a2 a3 a4 : Option Addr) (len1 cap1 len2 cap2 len3 cap3 len4 cap4 : Nat) (w : World) (hn : ¬ (1 ≤ n ∧ n ≤ 64)) :
    Calls Try.prog 3 #[.int .i64 n, .slice a1 len1 cap1, .slice a2 len2 cap2, .slice a3 len3 cap3, .slice a4 len4 cap4] w fun e w' => e = .returned (.bool true) ∧ Below w.heap.size w w' := by
  have HN : Hid (¬ (1 ≤ n ∧ n ≤ 64)) := hn
  clear hn
  go_enter Try.func3, Try.ntmps3
  go_wp2_with (first
    | (go_at_call 7; refine (new_bad n _ HN.out).mono ?_; rintro e w1 ⟨rfl, rfl⟩)
    | (go_at_call 8; refine (rnew_bad n _ HN.out).mono ?_; rintro e w2 ⟨rfl, rfl⟩)
    | (go_at_call 9; refine (awake_any _).mono ?_; rintro e w4 ⟨rfl, hw4⟩))
  go_ret
  exact ⟨rfl, hw4⟩
set_option maxRecDepth 100000 in
set_option maxHeartbeats 8000000 in
theorem walk_ok (N : Nat) (hN1 : 1 ≤ N) (hN : N ≤ 64) (a1 a2 a3 a4 : Option Addr) (len1 cap1 len2 cap2 len3 cap3 len4 cap4 : Nat) (w : World)
    (HC1 : Hid (Came .u8 w.heap.size w a1 len1)) (HC2 : Hid (Came .i64 w.heap.size w a2 len2)) (HC3 : Hid (Came .i64 w.heap.size w a3 len3)) (HC4 : Hid (CameB w.heap.size w a4 len4))
    (hl1 : len1 ≤ 9223372036854775807) (hl2 : len2 ≤ 9223372036854775807) (hl3 : len3 ≤ 9223372036854775807) (hl4 : len4 ≤ 9223372036854775807) :
    Calls Try.prog 3 #[.int .i64 N, .slice a1 len1 cap1, .slice a2 len2 cap2, .slice a3 len3 cap3, .slice a4 len4 cap4] w fun e w' => e = .returned (.bool true) ∧ Below w.heap.size w w' := by
  go_enter Try.func3, Try.ntmps3
  go_wp2_with (first
    | (go_at_call 7; refine (new_ok N _ hN1 hN).mono ?_; rintro e w1 ⟨rfl, hc1, hb1⟩; have HN : Hid (TblIs w1 (w.heap.size + 1) w.heap.size N fun _ => noFS) := hc1; have HNB : Hid (Below w.heap.size w w1) := hb1; clear hc1 hb1)
    | (go_at_call 8; refine (rnew_ok N _ hN1 hN).mono ?_; rintro e w2 ⟨rfl, hr2, hb2⟩; have HB2 : Hid (Both w w2 N w1.heap.size fun _ => noFS) := both_new HN.out HNB.out hr2 hb2; clear hr2 hb2))
  clear HN HNB
  obtain ⟨B, hBe⟩ : ∃ B, B = w1.heap.size := ⟨_, rfl⟩
  rw [← hBe] at HB2 ⊢
  clear hBe
  go_loopw [15] (fun i wr => ∃ k : Nat, k ≤ len1 ∧ i = .int .i64 k ∧ ∃ S, Both w wr N B S) (fun i _ => len1 - (intOf i).toNat)
  case atStart => exact ⟨0, by omega, rfl, _, HB2.out⟩
  case round =>
    obtain ⟨k, hk, rfl, S, hI⟩ := hrel
    have HI : Hid (Both w wr N B S) := hI
    clear hI HB2
    by_cases hin : k < len1 ∧ k < len2 ∧ k < len3 ∧ k < len4 ∧ k < 200
    · obtain ⟨h1, h2, h3, h4, h5⟩ := hin
      obtain ⟨b1, o1, z1, rfl, HZ1, G1⟩ := HC1.out.at h1
      obtain ⟨b2, o2, zf, rfl, _, G2⟩ := HC2.out.at h2
      obtain ⟨b3, o3, zn, rfl, _, G3⟩ := HC3.out.at h3
      obtain ⟨b4, o4, zb, rfl, G4⟩ := HC4.out.at h4
      have i1 : (k : Int) < (len1 : Int) := by omega
      have i2 : (k : Int) < (len2 : Int) := by omega
      have i3 : (k : Int) < (len3 : Int) := by omega
      have i4 : (k : Int) < (len4 : Int) := by omega
      have i5 : (k : Int) < 200 := by omega
      have c1 := G1.out wr HI.out.below
      have c2 := G2.out wr HI.out.below
      have c3 := G3.out wr HI.out.below
      have c4 := G4.out wr HI.out.below
      obtain ⟨q, hq0, hq3⟩ := rem_u8 HZ1.out 4 (by omega)
      have hq' : z1.tmod 4 = 0 ∨ z1.tmod 4 = 1 ∨ z1.tmod 4 = 2 ∨ z1.tmod 4 = 3 := by
        have : z1.tmod 4 = (q : Int) := hq0
        omega
      clear hq0 HZ1
      go_upto_block 2 with fail
      go_cut [16, 17] from 73 to 167 (fun va vb wc => ∃ T x, va = .int .i64 x ∧ vb = .int .i64 x ∧ Both w wc N B T)
      case first =>
        rcases hq' with hq | hq | hq | hq
        · obtain ⟨T, hT⟩ : ∃ T, T = mapA N S zf (gRt zn zb) := ⟨_, rfl⟩
          have HT : Hid (mapA N S zf (gRt zn zb) = T) := hT.symm
          have HO : Hid (okA T) := by rw [hT]; exact ok_map HI.out.tbl.ok N zf (ok_rt zn zb)
          clear hT
          go_wp2
          go_region_held3 (fun w' => w'.cell? ⟨b2, o2 + k, none⟩ = some (.int .i64 zf) ∧ w'.cell? ⟨b3, o3 + k, none⟩ = some (.int .i64 zn) ∧ w'.cell? ⟨b4, o4 + k, none⟩ = some (.bool zb)) (first | exact ⟨by assumption, by assumption, by assumption⟩ | go_keep)
          (first | (go_at_call 10; refine (retype_any _ _ N _ zn zb S _ hN1 hN HI.out.drew.tbl).mono ?_; rintro e w3 ⟨rfl, hw3⟩; rw [HT.out] at hw3; have H3 : Hid (Half w w3 N B S T) := (by rw [hw3]; exact HI.out.drew.half HO.out); clear hw3 c2 c3 c4; have c2 := G2.out w3 H3.out.below; have c3 := G3.out w3 H3.out.below; have c4 := G4.out w3 H3.out.below) | fail)
          go_wp2
          go_region_held3 (fun w' => w'.cell? ⟨b2, o2 + k, none⟩ = some (.int .i64 zf) ∧ w'.cell? ⟨b3, o3 + k, none⟩ = some (.int .i64 zn) ∧ w'.cell? ⟨b4, o4 + k, none⟩ = some (.bool zb)) (first | exact ⟨by assumption, by assumption, by assumption⟩ | go_keep)
          (first | (go_at_call 11; refine (rretype_any B B N _ zn zb S _ hN H3.out.drew.ref).mono ?_; rintro e w4 ⟨rfl, hr4, hb4⟩; rw [HT.out] at hr4; have H4 : Hid (Both w w4 N B T) := H3.out.drew.both hr4 hb4; clear hr4 hb4 c2 c3 c4; have c2 := G2.out w4 H4.out.below; have c3 := G3.out w4 H4.out.below; have c4 := G4.out w4 H4.out.below) | fail)
          go_wp2_with fail
          go_meet
          exact ⟨_, _, rfl, rfl, H4.out⟩
        · obtain ⟨T, hT⟩ : ∃ T, T = mapA N S zf (gUt zn zb) := ⟨_, rfl⟩
          have HT : Hid (mapA N S zf (gUt zn zb) = T) := hT.symm
          have HO : Hid (okA T) := by rw [hT]; exact ok_map HI.out.tbl.ok N zf (ok_ut zn zb)
          clear hT
          go_wp2
          go_region_held3 (fun w' => w'.cell? ⟨b2, o2 + k, none⟩ = some (.int .i64 zf) ∧ w'.cell? ⟨b3, o3 + k, none⟩ = some (.int .i64 zn) ∧ w'.cell? ⟨b4, o4 + k, none⟩ = some (.bool zb)) (first | exact ⟨by assumption, by assumption, by assumption⟩ | go_keep)
          (first | (go_at_call 12; refine (untype_any _ _ N _ zn zb S _ hN1 hN HI.out.drew.tbl).mono ?_; rintro e w3 ⟨rfl, hw3⟩; rw [HT.out] at hw3; have H3 : Hid (Half w w3 N B S T) := (by rw [hw3]; exact HI.out.drew.half HO.out); clear hw3 c2 c3 c4; have c2 := G2.out w3 H3.out.below; have c3 := G3.out w3 H3.out.below; have c4 := G4.out w3 H3.out.below) | fail)
          go_wp2
          go_region_held3 (fun w' => w'.cell? ⟨b2, o2 + k, none⟩ = some (.int .i64 zf) ∧ w'.cell? ⟨b3, o3 + k, none⟩ = some (.int .i64 zn) ∧ w'.cell? ⟨b4, o4 + k, none⟩ = some (.bool zb)) (first | exact ⟨by assumption, by assumption, by assumption⟩ | go_keep)
          (first | (go_at_call 13; refine (runtype_any B B N _ zn zb S _ hN H3.out.drew.size H3.out.drew.ref).mono ?_; rintro e w4 ⟨rfl, hr4, hb4⟩; rw [HT.out] at hr4; have H4 : Hid (Both w w4 N B T) := H3.out.drew.both hr4 hb4; clear hr4 hb4 c2 c3 c4; have c2 := G2.out w4 H4.out.below; have c3 := G3.out w4 H4.out.below; have c4 := G4.out w4 H4.out.below) | fail)
          go_wp2_with fail
          go_meet
          exact ⟨_, _, rfl, rfl, H4.out⟩
        · obtain ⟨T, hT⟩ : ∃ T, T = mapA N S zf gRf := ⟨_, rfl⟩
          have HT : Hid (mapA N S zf gRf = T) := hT.symm
          have HO : Hid (okA T) := by rw [hT]; exact ok_map HI.out.tbl.ok N zf ok_rf
          clear hT
          go_wp2_with (first
            | (go_at_call 14; refine (ref_any _ _ N _ S _ hN1 hN HI.out.tbl).mono ?_; rintro e w3 ⟨rfl, hw3⟩; rw [HT.out] at hw3; have H3 : Hid (Half w w3 N B S T) := (by rw [hw3]; exact HI.out.half HO.out); clear hw3 c2 c3 c4; have c2 := G2.out w3 H3.out.below)
            | (go_at_call 15; refine (rref_any B B N _ S _ hN H3.out.ref).mono ?_; rintro e w4 ⟨rfl, hr4, hb4⟩; rw [HT.out] at hr4; have H4 : Hid (Both w w4 N B T) := H3.out.both hr4 hb4; clear hr4 hb4 c2; have c2 := G2.out w4 H4.out.below)
            | fail)
          go_meet
          exact ⟨_, _, rfl, rfl, H4.out⟩
        · obtain ⟨T, hT⟩ : ∃ T, T = mapA N S zf (gUr zn) := ⟨_, rfl⟩
          have HT : Hid (mapA N S zf (gUr zn) = T) := hT.symm
          have HO : Hid (okA T) := by rw [hT]; exact ok_map HI.out.tbl.ok N zf (ok_ur zn)
          clear hT
          go_wp2
          go_region_held3 (fun w' => w'.cell? ⟨b2, o2 + k, none⟩ = some (.int .i64 zf) ∧ w'.cell? ⟨b3, o3 + k, none⟩ = some (.int .i64 zn)) (first | exact ⟨by assumption, by assumption⟩ | go_keep)
          (first | (go_at_call 16; refine (unref_any _ _ N _ zn S _ hN1 hN HI.out.drew.tbl).mono ?_; rintro e w3 ⟨rfl, hw3⟩; rw [HT.out] at hw3; have H3 : Hid (Half w w3 N B S T) := (by rw [hw3]; exact HI.out.drew.half HO.out); clear hw3 c2 c3 c4; have c2 := G2.out w3 H3.out.below; have c3 := G3.out w3 H3.out.below; have c4 := G4.out w3 H3.out.below) | fail)
          go_wp2
          go_region_held3 (fun w' => w'.cell? ⟨b2, o2 + k, none⟩ = some (.int .i64 zf) ∧ w'.cell? ⟨b3, o3 + k, none⟩ = some (.int .i64 zn)) (first | exact ⟨by assumption, by assumption⟩ | go_keep)
          (first | (go_at_call 17; refine (runref_any B B N _ zn S _ hN H3.out.drew.ref).mono ?_; rintro e w4 ⟨rfl, hr4, hb4⟩; rw [HT.out] at hr4; have H4 : Hid (Both w w4 N B T) := H3.out.drew.both hr4 hb4; clear hr4 hb4 c2 c3 c4; have c2 := G2.out w4 H4.out.below; have c3 := G3.out w4 H4.out.below; have c4 := G4.out w4 H4.out.below) | fail)
          go_wp2_with fail
          go_meet
          exact ⟨_, _, rfl, rfl, H4.out⟩
      case rest =>
        obtain ⟨T, x, rfl, rfl, h4⟩ := hcut
        have H4 : Hid (Both w wc N B T) := h4
        clear h4 c1 c2 c3 c4 HI hq'
        have c2 := G2.out wc H4.out.below
        go_wp2_with (first
          | (go_at_call 18; refine (rof_any B B N _ T _ hN H4.out.ref).mono ?_; rintro e w5 ⟨rfl, hb5⟩; have H5 : Hid (Both w w5 N B T) := H4.out.more hb5; clear hb5 c2; have c2 := G2.out w5 H5.out.below)
          | fail)
        obtain ⟨yb, hyb⟩ : ∃ yb, yb = w5.heap.size := ⟨_, rfl⟩
        obtain ⟨w6, hw6⟩ : ∃ w6, w6 = w5.alloc (.cells #[.int .i64 (toldA N T zf).is, .int .i64 (toldA N T zf).cnt, .int .i64 (toldA N T zf).fr, .int .i64 (toldA N T zf).was] 40) := ⟨_, rfl⟩
        have H6 : Hid (Both w w6 N B T) := by rw [hw6]; exact H5.out.more ((Below.refl _ _).alloc (Nat.le_refl _) _)
        have Y6 : Hid (Ys w6 yb (toldA N T zf)) := by rw [hw6, hyb]; exact ⟨by simp, by simp, by simp, by simp⟩
        rw [← hw6, ← hyb]
        clear hw6 hyb c2 H5 H4
        have hS := seen Y6.out.drew (G2.out w6.drew H6.out.drew.below)
        go_region_held3 (fun w' => w'.cell? ⟨b2, o2 + k, none⟩ = some (.int .i64 zf) ∧ w'.cell? ⟨yb, 0, none⟩ = some (.int .i64 (toldA N T zf).is) ∧ w'.cell? ⟨yb, 1, none⟩ = some (.int .i64 (toldA N T zf).cnt) ∧ w'.cell? ⟨yb, 2, none⟩ = some (.int .i64 (toldA N T zf).fr) ∧ w'.cell? ⟨yb, 3, none⟩ = some (.int .i64 (toldA N T zf).was)) (first | assumption | go_keep)
        (first
          | (go_at_call 19; refine (type_any _ _ N _ T _ hN1 hN H6.out.drew.tbl).mono ?_; rintro e w7 ⟨rfl, hm⟩; have H7 : Hid (Both w w7 N B T) := H6.out.drew.more hm; have Y7 : Hid (Ys w7 yb (toldA N T zf)) := Y6.out.drew.more hm; clear hm hS; have hS := seen Y7.out (G2.out w7 H7.out.below))
          | (go_at_call 20; refine (count_any _ _ N _ T _ hN1 hN H7.out.tbl).mono ?_; rintro e w8 ⟨rfl, hm⟩; have H8 : Hid (Both w w8 N B T) := H7.out.more hm; have Y8 : Hid (Ys w8 yb (toldA N T zf)) := Y7.out.more hm; clear hm hS; have hS := seen Y8.out (G2.out w8 H8.out.below))
          | (go_at_call 21; refine (freed_any _ _ N _ T _ hN1 hN H8.out.tbl).mono ?_; rintro e w9 ⟨rfl, hm⟩; have H9 : Hid (Both w w9 N B T) := H8.out.more hm; have Y9 : Hid (Ys w9 yb (toldA N T zf)) := Y8.out.more hm; clear hm hS; have hS := seen Y9.out (G2.out w9 H9.out.below))
          | (go_at_call 22; refine (was_any _ _ N _ T _ hN1 hN H9.out.tbl).mono ?_; rintro e w10 ⟨rfl, hm⟩; have H10 : Hid (Both w w10 N B T) := H9.out.more hm; have Y10 : Hid (Ys w10 yb (toldA N T zf)) := Y9.out.more hm; clear hm hS; have hS := seen Y10.out (G2.out w10 H10.out.below))
          | fail)
        go_wp2_with fail
        go_roundw
        case rel => exact ⟨k + 1, by omega, by go_num, _, H10.out⟩
        case measure => simp [intOf]; omega
    · have hout : ¬ k < len1 ∨ (k < len1 ∧ ¬ k < len2) ∨ (k < len1 ∧ k < len2 ∧ ¬ k < len3) ∨ (k < len1 ∧ k < len2 ∧ k < len3 ∧ ¬ k < len4) ∨ (k < len1 ∧ k < len2 ∧ k < len3 ∧ k < len4 ∧ ¬ k < 200) := by omega
      clear hin
      rcases hout with h1 | ⟨h1, h2⟩ | ⟨h1, h2, h3⟩ | ⟨h1, h2, h3, h4⟩ | ⟨h1, h2, h3, h4, h5⟩
      all_goals
        go_wp2_with (go_at_call 9; refine (awake_any _).mono ?_; rintro e w9 ⟨rfl, h9⟩; have H9 : Hid (Below w.heap.size w w9) := HI.out.below.trans (h9.mono HI.out.below.size); clear h9)
        go_ret
        exact ⟨rfl, H9.out⟩

theorem walk (a0 : Int) (a1 : Option Addr) (len1 cap1 : Nat) (a2 : Option Addr) (len2 cap2 : Nat) (a3 : Option Addr) (len3 cap3 : Nat) (a4 : Option Addr) (len4 cap4 : Nat) (w : World) (w0 : (Lit.int .i64 a0).wf = true) (w1 : Hid (Came .u8 w.heap.size w a1 len1)) (l1 : len1 ≤ 9223372036854775807) (w2 : Hid (Came .i64 w.heap.size w a2 len2)) (l2 : len2 ≤ 9223372036854775807) (w3 : Hid (Came .i64 w.heap.size w a3 len3)) (l3 : len3 ≤ 9223372036854775807) (w4 : Hid (CameB w.heap.size w a4 len4)) (l4 : len4 ≤ 9223372036854775807) :
    Calls Try.prog 3 #[.int .i64 a0, .slice a1 len1 cap1, .slice a2 len2 cap2, .slice a3 len3 cap3, .slice a4 len4 cap4] w fun e w' => e = .returned (.bool true) ∧ Below w.heap.size w w' := by
  by_cases hn : 1 ≤ a0 ∧ a0 ≤ 64
  · obtain ⟨N, rfl⟩ := Int.eq_ofNat_of_zero_le (show 0 ≤ a0 by omega)
    exact walk_ok N (by omega) (by omega) a1 a2 a3 a4 len1 cap1 len2 cap2 len3 cap3 len4 cap4 w w1 w2 w3 w4 l1 l2 l3 l4
  · exact walk_bad a0 a1 a2 a3 a4 len1 cap1 len2 cap2 len3 cap3 len4 cap4 w hn

/-! ### The statement's frame -/
set_option maxRecDepth 100000 in
theorem lifted (os : Os) (started : os.Started) (H : Type) (enc : TypeId × Value → H) :
    ReturnsInHanded {} Try.checked os 3 .any (Rows.typPlaysSpec.pre6 enc Try.prog Try.f3 Rows.typPlaysRow.domain false) (Rows.typPlaysSpec.post enc Try.prog Try.f3 false true false false) := by
  refine returnsInHanded_of_change (C := Try.checked) own started (by kernel_rfl) Try.func3
    (ChangeSpec.witness6 (enc := enc) (C := Try.checked) false ⟨#[], #[.int .i64 0, .slice none 0 0, .slice none 0 0, .slice none 0 0, .slice none 0 0], []⟩ 8 (by kernel_rfl) (by kernel_rfl) (by kernel_rfl) (by kernel_rfl)) ?_
  intro W base args ds gs before hval0 hW hcnd _
  have hval : ∀ (j : Nat) t v, Try.f3.params[j]? = some t → args[j]? = some v → Value.okWide Try.prog W .any base t v := hval0
  have hW' := hW
  obtain ⟨p, q, hA0, hV, rfl, hfz, hnd⟩ := hW
  have hA : DataW.TrodAll enc Try.prog W 0 (fun _ => true) true Try.f3.params.toList args.toList ds p := hA0
  rw [Try.params3] at hA hval
  obtain ⟨v0, vs0, d0, ds0, p0, q0, hargs, rfl, rfl, h0, r0⟩ := trodAll_cons hA
  obtain ⟨v1, vs1, d1, ds1, p1, q1, rfl, rfl, rfl, h1, r1⟩ := trodAll_cons r0
  obtain ⟨v2, vs2, d2, ds2, p2, q2, rfl, rfl, rfl, h2, r2⟩ := trodAll_cons r1
  obtain ⟨v3, vs3, d3, ds3, p3, q3, rfl, rfl, rfl, h3, r3⟩ := trodAll_cons r2
  obtain ⟨v4, vs4, d4, ds4, p4, q4, rfl, rfl, rfl, h4, r4⟩ := trodAll_cons r3
  obtain ⟨rfl, rfl, rfl⟩ := trodAll_nil r4
  obtain rfl : args = #[v0, v1, v2, v3, v4] := by cases args; simp_all
  obtain ⟨rfl, rfl⟩ := trodVars_none hV
  obtain ⟨a0, rfl, rfl, rfl, w0⟩ := open_int Try.underlying3 (hval 0 3 v0 rfl rfl) h0
  obtain ⟨a1, len1, cap1, rfl⟩ := okWide_slice Try.underlying22 (hval 1 22 v1 rfl rfl)
  have k1 := h1
  have lt1 : ∀ x ∈ p1, x.block < W.heap.size := by obtain ⟨m, hm⟩ := k1; exact DataW.trod_lt m _ _ _ hm
  have w1 : Came .u8 W.heap.size W a1 len1 ∧ len1 ≤ 9223372036854775807 := by
    obtain ⟨fuel, hf⟩ := h1
    rcases open_ints Try.underlying22 Try.underlying5 (by kernel_rfl) hf with ⟨hcs, _⟩ | ⟨x, l, c, zs, hcs, _, hl, hm, hz, _, hcell, hwz⟩
    · simp [Value.cells] at hcs
      obtain ⟨rfl, rfl, rfl⟩ := hcs
      exact came_of_row (zs := []) (.inl ⟨rfl, rfl, rfl, rfl⟩)
    · simp [Value.cells] at hcs
      obtain ⟨rfl, rfl, rfl⟩ := hcs
      exact came_of_row (.inr ⟨_, rfl, hl, hm, by simpa using hz, hcell, hwz⟩)
  obtain ⟨a2, len2, cap2, rfl⟩ := okWide_slice Try.underlying23 (hval 2 23 v2 rfl rfl)
  have k2 := h2
  have lt2 : ∀ x ∈ p2, x.block < W.heap.size := by obtain ⟨m, hm⟩ := k2; exact DataW.trod_lt m _ _ _ hm
  have w2 : Came .i64 W.heap.size W a2 len2 ∧ len2 ≤ 9223372036854775807 := by
    obtain ⟨fuel, hf⟩ := h2
    rcases open_ints Try.underlying23 Try.underlying3 (by kernel_rfl) hf with ⟨hcs, _⟩ | ⟨x, l, c, zs, hcs, _, hl, hm, hz, _, hcell, hwz⟩
    · simp [Value.cells] at hcs
      obtain ⟨rfl, rfl, rfl⟩ := hcs
      exact came_of_row (zs := []) (.inl ⟨rfl, rfl, rfl, rfl⟩)
    · simp [Value.cells] at hcs
      obtain ⟨rfl, rfl, rfl⟩ := hcs
      exact came_of_row (.inr ⟨_, rfl, hl, hm, by simpa using hz, hcell, hwz⟩)
  obtain ⟨a3, len3, cap3, rfl⟩ := okWide_slice Try.underlying23 (hval 3 23 v3 rfl rfl)
  have k3 := h3
  have lt3 : ∀ x ∈ p3, x.block < W.heap.size := by obtain ⟨m, hm⟩ := k3; exact DataW.trod_lt m _ _ _ hm
  have w3 : Came .i64 W.heap.size W a3 len3 ∧ len3 ≤ 9223372036854775807 := by
    obtain ⟨fuel, hf⟩ := h3
    rcases open_ints Try.underlying23 Try.underlying3 (by kernel_rfl) hf with ⟨hcs, _⟩ | ⟨x, l, c, zs, hcs, _, hl, hm, hz, _, hcell, hwz⟩
    · simp [Value.cells] at hcs
      obtain ⟨rfl, rfl, rfl⟩ := hcs
      exact came_of_row (zs := []) (.inl ⟨rfl, rfl, rfl, rfl⟩)
    · simp [Value.cells] at hcs
      obtain ⟨rfl, rfl, rfl⟩ := hcs
      exact came_of_row (.inr ⟨_, rfl, hl, hm, by simpa using hz, hcell, hwz⟩)
  obtain ⟨a4, len4, cap4, rfl⟩ := okWide_slice Try.underlying24 (hval 4 24 v4 rfl rfl)
  have k4 := h4
  have lt4 : ∀ x ∈ p4, x.block < W.heap.size := by obtain ⟨m, hm⟩ := k4; exact DataW.trod_lt m _ _ _ hm
  have w4 : CameB W.heap.size W a4 len4 ∧ len4 ≤ 9223372036854775807 := by
    obtain ⟨fuel, hf⟩ := h4
    exact cameB_of (by simpa [Value.cells] using hf)
  clear hA0 hval0
  refine (walk a0 a1 len1 cap1 a2 len2 cap2 a3 len3 cap3 a4 len4 cap4 W w0 w1.1 w1.2 w2.1 w2.2 w3.1 w3.2 w4.1 w4.2).mono fun e W' ⟨he, bel⟩ => ?_
  subst he
  exact ⟨_, rfl, _, _, _, [], _, [], hW', trodAll_mk1 (shut_bool Try.underlying4 _), (trodAll_cons_mk (shut_int Try.underlying3 w0) (trodAll_cons_mk (Below.trod laidOut (by kernel_rfl) (of_decide_eq_true (by kernel_rfl)) k1 bel lt1) (trodAll_cons_mk (Below.trod laidOut (by kernel_rfl) (of_decide_eq_true (by kernel_rfl)) k2 bel lt2) (trodAll_cons_mk (Below.trod laidOut (by kernel_rfl) (of_decide_eq_true (by kernel_rfl)) k3 bel lt3) (trodAll_cons_mk (Below.trod laidOut (by kernel_rfl) (of_decide_eq_true (by kernel_rfl)) k4 bel lt4) trodAll_mk0))))), rfl, bel.frame _, fun h => by cases h⟩

theorem over : Rows.typPlaysRow.holds Try.pinned (OpenSpec.ofChange Rows.typPlaysSpec) :=
  OpenClaim.holds_of_wide 3 Try.f3 rfl rfl rfl rfl rfl rfl rfl ⟨rfl, rfl, rfl, rfl, rfl⟩ rfl rfl rfl rfl rfl (by kernel_rfl) Try.func3 (by kernel_rfl)
    (of_decide_eq_true (by kernel_rfl)) (by unfold Func.isWrapper; first | (rw [if_pos (by decide +kernel)]; kernel_rfl) | (rw [if_neg (by decide +kernel)]; exact ⟨rfl, rfl⟩))
    (fun os started H enc _ => lifted os started H enc)

theorem proved : Rows.TypPlaysSaid := over
end Go.Proofs.Ytiodocdbhjdfaaa.typPlays
namespace Go.Proofs.Ytiodocdbhjdfaaa
theorem typPlays_holds : Rows.TypPlaysSaid := typPlays.proved
#print axioms typPlays_holds
end Go.Proofs.Ytiodocdbhjdfaaa
