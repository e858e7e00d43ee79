/- MemPlays returns true for every number of frames and every list of acts, and leaves its arguments as they were. No condition. -/
import Derived.Test.YtpeidlkoefmbfaaRows
import Derived.Test.YtpeidlkoefmbfaaMemW
import Derived.Test.YtpeidlkoefmbfaaMemI
import Derived.Deep.RegionHeld3
import Derived.WalkKit
import Derived.ProofKit
import Derived.OpenShut
import Derived.ShutString
import Derived.ChangeOld
import Derived.Below
namespace Go.Proofs.Ytpeidlkoefmbfaa.memPlays
open Go.ChangeShapes Go.WideShapes Go.ChangeAt Go.RowKit
open Go.ChangeMaps (open_string shut_string)
set_option linter.unusedVariables false

theorem own : ownKnob Try.prog.godebug = none := by kernel_rfl
theorem laidOut : laidOutB Try.prog = true := by kernel_rfl

/-- WHAT THE WALK IS TOLD OF A SLICE OF INTEGERS THAT CAME IN: it is nil; or it leads to a row of 'cap' cells, the numbers 'zs' (the first 'len' are its elements, the rest its spare room), each fitting its kind. -/
def IsRow (k : IntKind) (w : World) (a : Option Addr) (len cap : Nat) (zs : List Int) : Prop :=
  (a = none ∧ len = 0 ∧ cap = 0 ∧ zs = []) ∨
  ∃ x, a = some x ∧ len ≤ cap ∧ cap ≤ maxLen ∧ zs.length = cap ∧ (∀ i, i < zs.length → w.cell? (x.add i) = some (.int k (zs.getD i 0))) ∧ ∀ n ∈ zs, (Lit.int k n).wf = true

/-- A memory and the document's, side by side, hold the same words. -/
structure Both (w wr : World) (N : Nat) (M : Nat → Nat → Int) : Prop where
  mem : MemIs wr (w.heap.size + 1) w.heap.size N M
  ref : RefIs wr (w.heap.size + 2) (w.heap.size + 2) N M
  below : Below w.heap.size w wr
theorem Both.drewN {w wr : World} {N : Nat} {M : Nat → Nat → Int} (h : Both w wr N M) (n : Nat) : Both w (wr.drewN n) N M := ⟨h.mem.drewN n, h.ref.drewN n, below_drewN h.below n⟩
theorem Both.drew {w wr : World} {N : Nat} {M : Nat → Nat → Int} (h : Both w wr N M) : Both w wr.drew N M := ⟨⟨h.mem.head, h.mem.row⟩, h.ref.on fun _ _ _ => rfl, h.below.drew⟩
theorem Both.grown {w wr w' : World} {N : Nat} {M : Nat → Nat → Int} (h : Both w wr N M) (hB : Below wr.heap.size wr w') : Both w w' N M :=
  ⟨h.mem.below hB h.mem.lt.1 h.mem.lt.2, h.ref.on fun k _ hk => hB.block k hk, h.below.trans (hB.mono h.below.size)⟩
/-- First the one turns, then the other. -/
theorem Both.turn {w w1 w2 w3 : World} {N : Nat} {M M' : Nat → Nat → Int} (h : Both w w1 N M) (h2 : w2 = w1.setRow w.heap.size (cellsM N M')) (h3 : RefIs w3 (w.heap.size + 2) (w.heap.size + 2) N M') (hB : Below (w.heap.size + 2) w2 w3) : Both w w3 N M' := by
  subst h2
  exact ⟨(h.mem.set M').below hB (by omega) (by omega), h3, (below_setRow h.below (Nat.le_refl _) _).trans (hB.mono (by omega))⟩
theorem Both.half {w w1 w2 : World} {N : Nat} {M M' : Nat → Nat → Int} (h : Both w w1 N M) (h2 : w2 = w1.setRow w.heap.size (cellsM N M')) : RefIs w2 (w.heap.size + 2) (w.heap.size + 2) N M ∧ Below w.heap.size w w2 := by
  subst h2
  exact ⟨h.ref.setRow (by omega) _, below_setRow h.below (Nat.le_refl _) _⟩
theorem both_new {w w2 : World} {N : Nat} (h : RefIs w2 (newW w N).heap.size (newW w N).heap.size N fun _ _ => 0) (hB : Below (newW w N).heap.size (newW w N) w2) : Both w w2 N fun _ _ => 0 := by
  rw [newW_size] at h hB
  exact ⟨(newW_is w N).below hB (by omega) (by omega), h, (newW_below w N).trans (hB.mono (by omega))⟩
theorem bounds_u8 {z : Int} (h : (Lit.int .u8 z).wf = true) : 0 ≤ z ∧ z ≤ 255 := by
  have h' : (decide (IntKind.u8.min ≤ z) && decide (z ≤ IntKind.u8.max)) = true := h
  have e1 : IntKind.u8.min = 0 := by decide
  have e2 : IntKind.u8.max = 255 := by decide
  rw [e1, e2] at h'
  simpa using h'
set_option maxRecDepth 100000 in
set_option maxHeartbeats 2000000 in
theorem walk_bad (n : Int) (a1 a2 a3 a4 : Option Addr) (len1 cap1 len2 cap2 len3 cap3 len4 cap4 : Nat) (w : World) (hn : ¬ (1 ≤ n ∧ n ≤ 64)) :
    Calls Try.prog 3 #[.int .i64 n, .slice a1 len1 cap1, .slice a2 len2 cap2, .slice a3 len3 cap3, .slice a4 len4 cap4] w fun e w' => e = .returned (.bool true) ∧ Below w.heap.size w w' := by
  have HN : Hid (¬ (1 ≤ n ∧ n ≤ 64)) := hn
  clear hn
  go_enter Try.func3, Try.ntmps3
  go_wp2_with (first
    | (go_at_call 8; refine (new_bad n _ HN.out).mono ?_; rintro e w1 ⟨rfl, rfl⟩)
    | (go_at_call 9; refine (rnew_bad n _ HN.out).mono ?_; rintro e w2 ⟨rfl, rfl⟩)
    | (go_at_call 10; refine (awake_any _).mono ?_; rintro e w4 ⟨rfl, hw4⟩; subst hw4))
  go_ret
  exact ⟨rfl, newW_below _ 1⟩
set_option maxRecDepth 100000 in
set_option maxHeartbeats 8000000 in
theorem walk_ok (N : Nat) (hN1 : 1 ≤ N) (hN : N ≤ 64) (a1 a2 a3 a4 : Option Addr) (len1 cap1 len2 cap2 len3 cap3 len4 cap4 : Nat) (w : World)
    (HC1 : Hid (Came .u8 w.heap.size w a1 len1)) (HC2 : Hid (Came .i64 w.heap.size w a2 len2)) (HC3 : Hid (Came .i64 w.heap.size w a3 len3)) (HC4 : Hid (Came .u64 w.heap.size w a4 len4))
    (hl1 : len1 ≤ 9223372036854775807) (hl2 : len2 ≤ 9223372036854775807) (hl3 : len3 ≤ 9223372036854775807) (hl4 : len4 ≤ 9223372036854775807) :
    Calls Try.prog 3 #[.int .i64 N, .slice a1 len1 cap1, .slice a2 len2 cap2, .slice a3 len3 cap3, .slice a4 len4 cap4] w fun e w' => e = .returned (.bool true) ∧ Below w.heap.size w w' := by
  go_enter Try.func3, Try.ntmps3
  go_wp2_with (first
    | (go_at_call 8; refine (new_ok N _ hN1 hN).mono ?_; rintro e w1 ⟨rfl, hw1⟩; have hs1 : w1.heap.size = w.heap.size + 2 := (by rw [hw1]; exact newW_size w N); have HW1 : Hid (w1 = newW w N) := hw1; clear hw1)
    | (go_at_call 9; refine (rnew_ok N _ hN1 hN).mono ?_; rintro e w2 ⟨rfl, hr2, hb2⟩; have HB2 : Hid (Both w w2 N fun _ _ => 0) := (by have e := HW1.out; subst e; exact both_new hr2 hb2); clear hr2 hb2))
  clear HW1 hs1
  go_loopw [15] (fun i wr => ∃ k : Nat, k ≤ len1 ∧ i = .int .i64 k ∧ ∃ M, Both w wr N M) (fun i _ => len1 - (intOf i).toNat)
  case atStart => exact ⟨0, by omega, rfl, _, HB2.out⟩
  case round =>
    obtain ⟨k, hk, rfl, M, hI⟩ := hrel
    have HI : Hid (Both w wr N M) := hI
    clear hI HB2
    by_cases hin : k < len1 ∧ k < len2 ∧ k < len3 ∧ k < len4 ∧ k < 60
    · obtain ⟨h1, h2, h3, h4, h5⟩ := hin
      obtain ⟨b1, o1, z1, rfl, c1, HZ⟩ := HC1.out.at HI.out.below h1
      obtain ⟨b2, o2, zf, rfl, l2, c2⟩ := HC2.out.at2 HI.out.below h2
      obtain ⟨b3, o3, zg, rfl, l3, c3⟩ := HC3.out.at2 HI.out.below h3
      obtain ⟨b4, o4, zw, rfl, l4, c4⟩ := HC4.out.at2 HI.out.below h4
      have i1 : (k : Int) < (len1 : Int) := by omega
      have i2 : (k : Int) < (len2 : Int) := by omega
      have i3 : (k : Int) < (len3 : Int) := by omega
      have i4 : (k : Int) < (len4 : Int) := by omega
      have i5 : (k : Int) < 60 := by omega
      have HL2 : Hid (b2 < w.heap.size) := l2
      have HL3 : Hid (b3 < w.heap.size) := l3
      have HL4 : Hid (b4 < w.heap.size) := l4
      have e2 : Hid (w.cell? ⟨b2, o2 + k, none⟩ = some (.int .i64 zf)) := (HI.out.below.cell (p := ⟨b2, o2 + k, none⟩) l2).symm.trans c2
      have e3 : Hid (w.cell? ⟨b3, o3 + k, none⟩ = some (.int .i64 zg)) := (HI.out.below.cell (p := ⟨b3, o3 + k, none⟩) l3).symm.trans c3
      have e4 : Hid (w.cell? ⟨b4, o4 + k, none⟩ = some (.int .u64 zw)) := (HI.out.below.cell (p := ⟨b4, o4 + k, none⟩) l4).symm.trans c4
      clear l2 l3 l4
      have hz : 0 ≤ z1 ∧ z1 ≤ 255 := bounds_u8 HZ.out
      have hq : z1.tmod 5 = 0 ∨ z1.tmod 5 = 1 ∨ z1.tmod 5 = 2 ∨ z1.tmod 5 = 3 ∨ z1.tmod 5 = 4 := by rw [Int.tmod_eq_emod_of_nonneg hz.1]; omega
      clear hz HZ
      rcases hq with hq | hq | hq | hq | hq
      ·
        go_wp2
        go_region_held3 (fun w' => w'.cell? ⟨b2, o2 + k, none⟩ = some (.int .i64 zf) ∧ w'.cell? ⟨b3, o3 + k, none⟩ = some (.int .i64 zg) ∧ w'.cell? ⟨b4, o4 + k, none⟩ = some (.int .u64 zw)) (first | exact ⟨by assumption, by assumption, by assumption⟩ | go_keep)
        (first
          | (go_at_call 11; refine (store_any _ _ N _ _ _ M _ hN1 hN HI.out.drew.mem).mono ?_; rintro e w2 ⟨rfl, hw2⟩; have HW2 : Hid (w2 = wr.drew.setRow w.heap.size (cellsM N (stM N M zf zg zw))) := hw2; have B2 : Below w.heap.size w w2 := (HI.out.drew.half hw2).2; have d2 := (B2.cell (p := ⟨b2, o2 + k, none⟩) HL2.out).trans e2.out; have d3 := (B2.cell (p := ⟨b3, o3 + k, none⟩) HL3.out).trans e3.out; have d4 := (B2.cell (p := ⟨b4, o4 + k, none⟩) HL4.out).trans e4.out; clear hw2 B2)
          | (go_at_call 12; refine (rstore_any _ _ N _ _ _ M _ hN1 hN (HI.out.drew.half HW2.out).1).mono ?_; rintro e w3 ⟨rfl, hr3, hb3⟩; have H3 : Hid (Both w w3 N (stM N M zf zg zw)) := HI.out.drew.turn HW2.out hr3 hb3; have d2 := (H3.out.below.cell (p := ⟨b2, o2 + k, none⟩) HL2.out).trans e2.out; have d3 := (H3.out.below.cell (p := ⟨b3, o3 + k, none⟩) HL3.out).trans e3.out; have d4 := (H3.out.below.cell (p := ⟨b4, o4 + k, none⟩) HL4.out).trans e4.out; clear hr3 hb3))
        go_wp2
        go_quiet ((go_at_call 19; exact Calls.quiet_of_same (load_any _ _ N _ _ (stM N M zf zg zw) _ hN1 hN (H3.out.drewN _).mem)))
        have G4 := H3.out.drewN nq
        generalize w3.drewN nq = w4 at G4 ⊢
        have H4 : Hid (Both w w4 N (stM N M zf zg zw)) := G4
        clear d2 d3
        have d2 := (G4.below.cell (p := ⟨b2, o2 + k, none⟩) HL2.out).trans e2.out
        have d3 := (G4.below.cell (p := ⟨b3, o3 + k, none⟩) HL3.out).trans e3.out
        clear G4 H3
        go_wp2
        go_quiet ((go_at_call 20; exact Calls.quiet_of_same (rload_any _ _ N _ _ (stM N M zf zg zw) _ hN1 hN (H4.out.drewN _).ref)))
        have G5 := H4.out.drewN nq
        generalize w4.drewN nq = w4' at G5 ⊢
        have H4' : Hid (Both w w4' N (stM N M zf zg zw)) := G5
        clear d2 d3
        have d2 := (G5.below.cell (p := ⟨b2, o2 + k, none⟩) HL2.out).trans e2.out
        clear G5 H4
        go_wp2_with (first
          | (go_at_call 21; refine (words_any _ _ N _ (stM N M zf zg zw) _ hN1 hN H4'.out.mem).mono ?_; rintro e w5 ⟨a5, c5, rfl, hL5, hB5⟩; have H5 : Hid (Both w w5 N (stM N M zf zg zw)) := H4'.out.grown hB5; have HL5 : Hid (Lst w5 a5 (wdL N (stM N M zf zg zw) zf)) := hL5; have d5 := (H5.out.below.cell (p := ⟨b2, o2 + k, none⟩) HL2.out).trans e2.out; clear hL5 hB5)
          | (go_at_call 22; refine (rwords_any _ _ N _ (stM N M zf zg zw) _ hN1 hN H5.out.ref).mono ?_; rintro e w6 ⟨a6, c6, rfl, hL6, hB6⟩; have H6 : Hid (Both w w6 N (stM N M zf zg zw)) := H5.out.grown hB6; have HL6 : Hid (Lst w6 a6 (wdL N (stM N M zf zg zw) zf)) := hL6; have HL56 : Hid (Lst w6 a5 (wdL N (stM N M zf zg zw) zf)) := HL5.out.on hB6; clear hL6 hB6)
          | (go_at_call 23; refine (wordsEq_any _ _ _ _ (wdL N (stM N M zf zg zw) zf) _ (wdL_len _ _ _) HL56.out HL6.out).mono ?_; rintro e w7 ⟨rfl, m7, hw7⟩; have H7 : Hid (Both w w7 N (stM N M zf zg zw)) := (by rw [hw7]; exact H6.out.drewN m7); clear hw7)
          | (go_at_call 24; refine (len_some _ _ N _ hN H7.out.mem.cell).mono ?_; rintro e w8 ⟨rfl, hw8⟩; subst hw8))
        go_roundw
        case rel => exact ⟨k + 1, by omega, by go_num, _, H7.out⟩
        case measure => simp [intOf]; omega
      ·
        go_wp2
        go_region_held3 (fun w' => w'.cell? ⟨b2, o2 + k, none⟩ = some (.int .i64 zf) ∧ w'.cell? ⟨b3, o3 + k, none⟩ = some (.int .i64 zg) ∧ w'.cell? ⟨b4, o4 + k, none⟩ = some (.int .u64 zw)) (first | exact ⟨by assumption, by assumption, by assumption⟩ | go_keep)
        (first
          | (go_at_call 11; refine (store_any _ _ N _ _ _ M _ hN1 hN HI.out.drew.mem).mono ?_; rintro e w2 ⟨rfl, hw2⟩; have HW2 : Hid (w2 = wr.drew.setRow w.heap.size (cellsM N (stM N M zf zg zw))) := hw2; have B2 : Below w.heap.size w w2 := (HI.out.drew.half hw2).2; have d2 := (B2.cell (p := ⟨b2, o2 + k, none⟩) HL2.out).trans e2.out; have d3 := (B2.cell (p := ⟨b3, o3 + k, none⟩) HL3.out).trans e3.out; have d4 := (B2.cell (p := ⟨b4, o4 + k, none⟩) HL4.out).trans e4.out; clear hw2 B2)
          | (go_at_call 12; refine (rstore_any _ _ N _ _ _ M _ hN1 hN (HI.out.drew.half HW2.out).1).mono ?_; rintro e w3 ⟨rfl, hr3, hb3⟩; have H3 : Hid (Both w w3 N (stM N M zf zg zw)) := HI.out.drew.turn HW2.out hr3 hb3; have d2 := (H3.out.below.cell (p := ⟨b2, o2 + k, none⟩) HL2.out).trans e2.out; have d3 := (H3.out.below.cell (p := ⟨b3, o3 + k, none⟩) HL3.out).trans e3.out; have d4 := (H3.out.below.cell (p := ⟨b4, o4 + k, none⟩) HL4.out).trans e4.out; clear hr3 hb3))
        go_wp2
        go_quiet ((go_at_call 19; exact Calls.quiet_of_same (load_any _ _ N _ _ (stM N M zf zg zw) _ hN1 hN (H3.out.drewN _).mem)))
        have G4 := H3.out.drewN nq
        generalize w3.drewN nq = w4 at G4 ⊢
        have H4 : Hid (Both w w4 N (stM N M zf zg zw)) := G4
        clear d2 d3
        have d2 := (G4.below.cell (p := ⟨b2, o2 + k, none⟩) HL2.out).trans e2.out
        have d3 := (G4.below.cell (p := ⟨b3, o3 + k, none⟩) HL3.out).trans e3.out
        clear G4 H3
        go_wp2
        go_quiet ((go_at_call 20; exact Calls.quiet_of_same (rload_any _ _ N _ _ (stM N M zf zg zw) _ hN1 hN (H4.out.drewN _).ref)))
        have G5 := H4.out.drewN nq
        generalize w4.drewN nq = w4' at G5 ⊢
        have H4' : Hid (Both w w4' N (stM N M zf zg zw)) := G5
        clear d2 d3
        have d2 := (G5.below.cell (p := ⟨b2, o2 + k, none⟩) HL2.out).trans e2.out
        clear G5 H4
        go_wp2_with (first
          | (go_at_call 21; refine (words_any _ _ N _ (stM N M zf zg zw) _ hN1 hN H4'.out.mem).mono ?_; rintro e w5 ⟨a5, c5, rfl, hL5, hB5⟩; have H5 : Hid (Both w w5 N (stM N M zf zg zw)) := H4'.out.grown hB5; have HL5 : Hid (Lst w5 a5 (wdL N (stM N M zf zg zw) zf)) := hL5; have d5 := (H5.out.below.cell (p := ⟨b2, o2 + k, none⟩) HL2.out).trans e2.out; clear hL5 hB5)
          | (go_at_call 22; refine (rwords_any _ _ N _ (stM N M zf zg zw) _ hN1 hN H5.out.ref).mono ?_; rintro e w6 ⟨a6, c6, rfl, hL6, hB6⟩; have H6 : Hid (Both w w6 N (stM N M zf zg zw)) := H5.out.grown hB6; have HL6 : Hid (Lst w6 a6 (wdL N (stM N M zf zg zw) zf)) := hL6; have HL56 : Hid (Lst w6 a5 (wdL N (stM N M zf zg zw) zf)) := HL5.out.on hB6; clear hL6 hB6)
          | (go_at_call 23; refine (wordsEq_any _ _ _ _ (wdL N (stM N M zf zg zw) zf) _ (wdL_len _ _ _) HL56.out HL6.out).mono ?_; rintro e w7 ⟨rfl, m7, hw7⟩; have H7 : Hid (Both w w7 N (stM N M zf zg zw)) := (by rw [hw7]; exact H6.out.drewN m7); clear hw7)
          | (go_at_call 24; refine (len_some _ _ N _ hN H7.out.mem.cell).mono ?_; rintro e w8 ⟨rfl, hw8⟩; subst hw8))
        go_roundw
        case rel => exact ⟨k + 1, by omega, by go_num, _, H7.out⟩
        case measure => simp [intOf]; omega
      ·
        go_wp2
        go_region_held3 (fun w' => w'.cell? ⟨b2, o2 + k, none⟩ = some (.int .i64 zf) ∧ w'.cell? ⟨b3, o3 + k, none⟩ = some (.int .i64 zg) ∧ w'.cell? ⟨b4, o4 + k, none⟩ = some (.int .u64 zw)) (first | exact ⟨by assumption, by assumption, by assumption⟩ | go_keep)
        (first
          | (go_at_call 13; refine (clear_any _ _ N _ M _ hN1 hN HI.out.drew.mem).mono ?_; rintro e w2 ⟨rfl, hw2⟩; have HW2 : Hid (w2 = wr.drew.setRow w.heap.size (cellsM N (clM N M zf))) := hw2; have B2 : Below w.heap.size w w2 := (HI.out.drew.half hw2).2; have d2 := (B2.cell (p := ⟨b2, o2 + k, none⟩) HL2.out).trans e2.out; have d3 := (B2.cell (p := ⟨b3, o3 + k, none⟩) HL3.out).trans e3.out; have d4 := (B2.cell (p := ⟨b4, o4 + k, none⟩) HL4.out).trans e4.out; clear hw2 B2)
          | (go_at_call 14; refine (rclear_any _ _ N _ M _ hN1 hN (HI.out.drew.half HW2.out).1).mono ?_; rintro e w3 ⟨rfl, hr3, hb3⟩; have H3 : Hid (Both w w3 N (clM N M zf)) := HI.out.drew.turn HW2.out hr3 hb3; have d2 := (H3.out.below.cell (p := ⟨b2, o2 + k, none⟩) HL2.out).trans e2.out; have d3 := (H3.out.below.cell (p := ⟨b3, o3 + k, none⟩) HL3.out).trans e3.out; have d4 := (H3.out.below.cell (p := ⟨b4, o4 + k, none⟩) HL4.out).trans e4.out; clear hr3 hb3))
        go_wp2
        go_quiet ((go_at_call 19; exact Calls.quiet_of_same (load_any _ _ N _ _ (clM N M zf) _ hN1 hN (H3.out.drewN _).mem)))
        have G4 := H3.out.drewN nq
        generalize w3.drewN nq = w4 at G4 ⊢
        have H4 : Hid (Both w w4 N (clM N M zf)) := G4
        clear d2 d3
        have d2 := (G4.below.cell (p := ⟨b2, o2 + k, none⟩) HL2.out).trans e2.out
        have d3 := (G4.below.cell (p := ⟨b3, o3 + k, none⟩) HL3.out).trans e3.out
        clear G4 H3
        go_wp2
        go_quiet ((go_at_call 20; exact Calls.quiet_of_same (rload_any _ _ N _ _ (clM N M zf) _ hN1 hN (H4.out.drewN _).ref)))
        have G5 := H4.out.drewN nq
        generalize w4.drewN nq = w4' at G5 ⊢
        have H4' : Hid (Both w w4' N (clM N M zf)) := G5
        clear d2 d3
        have d2 := (G5.below.cell (p := ⟨b2, o2 + k, none⟩) HL2.out).trans e2.out
        clear G5 H4
        go_wp2_with (first
          | (go_at_call 21; refine (words_any _ _ N _ (clM N M zf) _ hN1 hN H4'.out.mem).mono ?_; rintro e w5 ⟨a5, c5, rfl, hL5, hB5⟩; have H5 : Hid (Both w w5 N (clM N M zf)) := H4'.out.grown hB5; have HL5 : Hid (Lst w5 a5 (wdL N (clM N M zf) zf)) := hL5; have d5 := (H5.out.below.cell (p := ⟨b2, o2 + k, none⟩) HL2.out).trans e2.out; clear hL5 hB5)
          | (go_at_call 22; refine (rwords_any _ _ N _ (clM N M zf) _ hN1 hN H5.out.ref).mono ?_; rintro e w6 ⟨a6, c6, rfl, hL6, hB6⟩; have H6 : Hid (Both w w6 N (clM N M zf)) := H5.out.grown hB6; have HL6 : Hid (Lst w6 a6 (wdL N (clM N M zf) zf)) := hL6; have HL56 : Hid (Lst w6 a5 (wdL N (clM N M zf) zf)) := HL5.out.on hB6; clear hL6 hB6)
          | (go_at_call 23; refine (wordsEq_any _ _ _ _ (wdL N (clM N M zf) zf) _ (wdL_len _ _ _) HL56.out HL6.out).mono ?_; rintro e w7 ⟨rfl, m7, hw7⟩; have H7 : Hid (Both w w7 N (clM N M zf)) := (by rw [hw7]; exact H6.out.drewN m7); clear hw7)
          | (go_at_call 24; refine (len_some _ _ N _ hN H7.out.mem.cell).mono ?_; rintro e w8 ⟨rfl, hw8⟩; subst hw8))
        go_roundw
        case rel => exact ⟨k + 1, by omega, by go_num, _, H7.out⟩
        case measure => simp [intOf]; omega
      ·
        go_wp2
        go_region_held3 (fun w' => w'.cell? ⟨b2, o2 + k, none⟩ = some (.int .i64 zf) ∧ w'.cell? ⟨b3, o3 + k, none⟩ = some (.int .i64 zg) ∧ w'.cell? ⟨b4, o4 + k, none⟩ = some (.int .u64 zw)) (first | exact ⟨by assumption, by assumption, by assumption⟩ | go_keep)
        (first
          | (go_at_call 15; refine (copy_any _ _ N _ _ M _ hN1 hN HI.out.drew.mem).mono ?_; rintro e w2 ⟨rfl, hw2⟩; have HW2 : Hid (w2 = wr.drew.setRow w.heap.size (cellsM N (cpM N M zf zg))) := hw2; have B2 : Below w.heap.size w w2 := (HI.out.drew.half hw2).2; have d2 := (B2.cell (p := ⟨b2, o2 + k, none⟩) HL2.out).trans e2.out; have d3 := (B2.cell (p := ⟨b3, o3 + k, none⟩) HL3.out).trans e3.out; have d4 := (B2.cell (p := ⟨b4, o4 + k, none⟩) HL4.out).trans e4.out; clear hw2 B2)
          | (go_at_call 16; refine (rcopy_any _ _ N _ _ M _ hN1 hN (HI.out.drew.half HW2.out).1).mono ?_; rintro e w3 ⟨rfl, hr3, hb3⟩; have H3 : Hid (Both w w3 N (cpM N M zf zg)) := HI.out.drew.turn HW2.out hr3 hb3; have d2 := (H3.out.below.cell (p := ⟨b2, o2 + k, none⟩) HL2.out).trans e2.out; have d3 := (H3.out.below.cell (p := ⟨b3, o3 + k, none⟩) HL3.out).trans e3.out; have d4 := (H3.out.below.cell (p := ⟨b4, o4 + k, none⟩) HL4.out).trans e4.out; clear hr3 hb3))
        go_wp2
        go_quiet ((go_at_call 19; exact Calls.quiet_of_same (load_any _ _ N _ _ (cpM N M zf zg) _ hN1 hN (H3.out.drewN _).mem)))
        have G4 := H3.out.drewN nq
        generalize w3.drewN nq = w4 at G4 ⊢
        have H4 : Hid (Both w w4 N (cpM N M zf zg)) := G4
        clear d2 d3
        have d2 := (G4.below.cell (p := ⟨b2, o2 + k, none⟩) HL2.out).trans e2.out
        have d3 := (G4.below.cell (p := ⟨b3, o3 + k, none⟩) HL3.out).trans e3.out
        clear G4 H3
        go_wp2
        go_quiet ((go_at_call 20; exact Calls.quiet_of_same (rload_any _ _ N _ _ (cpM N M zf zg) _ hN1 hN (H4.out.drewN _).ref)))
        have G5 := H4.out.drewN nq
        generalize w4.drewN nq = w4' at G5 ⊢
        have H4' : Hid (Both w w4' N (cpM N M zf zg)) := G5
        clear d2 d3
        have d2 := (G5.below.cell (p := ⟨b2, o2 + k, none⟩) HL2.out).trans e2.out
        clear G5 H4
        go_wp2_with (first
          | (go_at_call 21; refine (words_any _ _ N _ (cpM N M zf zg) _ hN1 hN H4'.out.mem).mono ?_; rintro e w5 ⟨a5, c5, rfl, hL5, hB5⟩; have H5 : Hid (Both w w5 N (cpM N M zf zg)) := H4'.out.grown hB5; have HL5 : Hid (Lst w5 a5 (wdL N (cpM N M zf zg) zf)) := hL5; have d5 := (H5.out.below.cell (p := ⟨b2, o2 + k, none⟩) HL2.out).trans e2.out; clear hL5 hB5)
          | (go_at_call 22; refine (rwords_any _ _ N _ (cpM N M zf zg) _ hN1 hN H5.out.ref).mono ?_; rintro e w6 ⟨a6, c6, rfl, hL6, hB6⟩; have H6 : Hid (Both w w6 N (cpM N M zf zg)) := H5.out.grown hB6; have HL6 : Hid (Lst w6 a6 (wdL N (cpM N M zf zg) zf)) := hL6; have HL56 : Hid (Lst w6 a5 (wdL N (cpM N M zf zg) zf)) := HL5.out.on hB6; clear hL6 hB6)
          | (go_at_call 23; refine (wordsEq_any _ _ _ _ (wdL N (cpM N M zf zg) zf) _ (wdL_len _ _ _) HL56.out HL6.out).mono ?_; rintro e w7 ⟨rfl, m7, hw7⟩; have H7 : Hid (Both w w7 N (cpM N M zf zg)) := (by rw [hw7]; exact H6.out.drewN m7); clear hw7)
          | (go_at_call 24; refine (len_some _ _ N _ hN H7.out.mem.cell).mono ?_; rintro e w8 ⟨rfl, hw8⟩; subst hw8))
        go_roundw
        case rel => exact ⟨k + 1, by omega, by go_num, _, H7.out⟩
        case measure => simp [intOf]; omega
      ·
        go_wp2
        go_quiet (first | (go_at_call 17; exact Calls.quiet_of (same_any _ _ N _ _ M _ hN1 hN (HI.out.drewN _).mem)) | (go_at_call 18; exact Calls.quiet_of (rsame_any _ _ N _ _ M _ hN1 hN (HI.out.drewN _).ref)))
        have G3 := HI.out.drewN nq
        generalize wr.drewN nq = w3 at G3 ⊢
        have H3 : Hid (Both w w3 N M) := G3
        have d2 := (G3.below.cell (p := ⟨b2, o2 + k, none⟩) HL2.out).trans e2.out
        have d3 := (G3.below.cell (p := ⟨b3, o3 + k, none⟩) HL3.out).trans e3.out
        clear G3
        go_wp2
        go_quiet ((go_at_call 19; exact Calls.quiet_of_same (load_any _ _ N _ _ (M) _ hN1 hN (H3.out.drewN _).mem)))
        have G4 := H3.out.drewN nq
        generalize w3.drewN nq = w4 at G4 ⊢
        have H4 : Hid (Both w w4 N (M)) := G4
        clear d2 d3
        have d2 := (G4.below.cell (p := ⟨b2, o2 + k, none⟩) HL2.out).trans e2.out
        have d3 := (G4.below.cell (p := ⟨b3, o3 + k, none⟩) HL3.out).trans e3.out
        clear G4 H3
        go_wp2
        go_quiet ((go_at_call 20; exact Calls.quiet_of_same (rload_any _ _ N _ _ (M) _ hN1 hN (H4.out.drewN _).ref)))
        have G5 := H4.out.drewN nq
        generalize w4.drewN nq = w4' at G5 ⊢
        have H4' : Hid (Both w w4' N (M)) := G5
        clear d2 d3
        have d2 := (G5.below.cell (p := ⟨b2, o2 + k, none⟩) HL2.out).trans e2.out
        clear G5 H4
        go_wp2_with (first
          | (go_at_call 21; refine (words_any _ _ N _ (M) _ hN1 hN H4'.out.mem).mono ?_; rintro e w5 ⟨a5, c5, rfl, hL5, hB5⟩; have H5 : Hid (Both w w5 N (M)) := H4'.out.grown hB5; have HL5 : Hid (Lst w5 a5 (wdL N (M) zf)) := hL5; have d5 := (H5.out.below.cell (p := ⟨b2, o2 + k, none⟩) HL2.out).trans e2.out; clear hL5 hB5)
          | (go_at_call 22; refine (rwords_any _ _ N _ (M) _ hN1 hN H5.out.ref).mono ?_; rintro e w6 ⟨a6, c6, rfl, hL6, hB6⟩; have H6 : Hid (Both w w6 N (M)) := H5.out.grown hB6; have HL6 : Hid (Lst w6 a6 (wdL N (M) zf)) := hL6; have HL56 : Hid (Lst w6 a5 (wdL N (M) zf)) := HL5.out.on hB6; clear hL6 hB6)
          | (go_at_call 23; refine (wordsEq_any _ _ _ _ (wdL N (M) zf) _ (wdL_len _ _ _) HL56.out HL6.out).mono ?_; rintro e w7 ⟨rfl, m7, hw7⟩; have H7 : Hid (Both w w7 N (M)) := (by rw [hw7]; exact H6.out.drewN m7); clear hw7)
          | (go_at_call 24; refine (len_some _ _ N _ hN H7.out.mem.cell).mono ?_; rintro e w8 ⟨rfl, hw8⟩; subst hw8))
        go_roundw
        case rel => exact ⟨k + 1, by omega, by go_num, _, H7.out⟩
        case measure => simp [intOf]; omega
    · have hout : ¬ k < len1 ∨ (k < len1 ∧ ¬ k < len2) ∨ (k < len1 ∧ k < len2 ∧ ¬ k < len3) ∨ (k < len1 ∧ k < len2 ∧ k < len3 ∧ ¬ k < len4) ∨ (k < len1 ∧ k < len2 ∧ k < len3 ∧ k < len4 ∧ ¬ k < 60) := by omega
      clear hin
      rcases hout with h1 | ⟨h1, h2⟩ | ⟨h1, h2, h3⟩ | ⟨h1, h2, h3, h4⟩ | ⟨h1, h2, h3, h4, h5⟩
      all_goals
        go_wp2_with (go_at_call 10; refine (awake_any _).mono ?_; rintro e w9 ⟨rfl, hw9⟩; subst hw9)
        go_ret
        exact ⟨rfl, HI.out.below.trans ((newW_below _ 1).mono HI.out.below.size)⟩

/-! ### STEP 1: THE WALK: the Go text returns true, AND WRITES NOTHING THAT WAS THERE: 'Below w.heap.size w w'' (Derived/Below.lean: '.refl', '.alloc', '.drew', '.setCell' at a new block, '.trans'). Open each 'IsRow' by 'rcases' AHEAD of 'go_enter'; part every test ahead of the walk. -/
theorem walk (a0 : Int) (a1 : Option Addr) (len1 cap1 : Nat) (z1 : List Int) (a2 : Option Addr) (len2 cap2 : Nat) (z2 : List Int) (a3 : Option Addr) (len3 cap3 : Nat) (z3 : List Int) (a4 : Option Addr) (len4 cap4 : Nat) (z4 : List Int) (w : World) (w0 : (Lit.int .i64 a0).wf = true) (w1 : IsRow .u8 w a1 len1 cap1 z1) (w2 : IsRow .i64 w a2 len2 cap2 z2) (w3 : IsRow .i64 w a3 len3 cap3 z3) (w4 : IsRow .u64 w a4 len4 cap4 z4) :
    Calls Try.prog 3 #[.int .i64 a0, .slice a1 len1 cap1, .slice a2 len2 cap2, .slice a3 len3 cap3, .slice a4 len4 cap4] w fun e w' => e = .returned (.bool true) ∧ Below w.heap.size w w' := by
  obtain ⟨hC1, hl1⟩ := came_of_row w1
  obtain ⟨hC2, hl2⟩ := came_of_row w2
  obtain ⟨hC3, hl3⟩ := came_of_row w3
  obtain ⟨hC4, hl4⟩ := came_of_row w4
  by_cases hn : 1 ≤ a0 ∧ a0 ≤ 64
  · obtain ⟨N, rfl⟩ := Int.eq_ofNat_of_zero_le (show 0 ≤ a0 by omega)
    exact walk_ok N (by omega) (by omega) a1 a2 a3 a4 len1 cap1 len2 cap2 len3 cap3 len4 cap4 w hC1 hC2 hC3 hC4 hl1 hl2 hl3 hl4
  · exact walk_bad a0 a1 a2 a3 a4 len1 cap1 len2 cap2 len3 cap3 len4 cap4 w hn

/-! ### THE ROW's STEP: WRITTEN OUT: LEAVE IT -/
set_option maxRecDepth 100000 in
theorem lifted (os : Os) (started : os.Started) (H : Type) (enc : TypeId × Value → H) :
    ReturnsInHanded {} Try.checked os 3 .any (Rows.memPlaysSpec.pre6 enc Try.prog Try.f3 Rows.memPlaysRow.domain false) (Rows.memPlaysSpec.post enc Try.prog Try.f3 false true false false) := by
  refine returnsInHanded_of_change (C := Try.checked) own started (by kernel_rfl) Try.func3
    (ChangeSpec.witness6 (enc := enc) (C := Try.checked) false ⟨#[], #[.int .i64 0, .slice none 0 0, .slice none 0 0, .slice none 0 0, .slice none 0 0], []⟩ 8 (by kernel_rfl) (by kernel_rfl) (by kernel_rfl) (by kernel_rfl)) ?_
  intro W base args ds gs before hval0 hW hcnd _
  have hval : ∀ (j : Nat) t v, Try.f3.params[j]? = some t → args[j]? = some v → Value.okWide Try.prog W .any base t v := hval0
  have hW' := hW
  obtain ⟨p, q, hA0, hV, rfl, hfz, hnd⟩ := hW
  have hA : DataW.TrodAll enc Try.prog W 0 (fun _ => true) true Try.f3.params.toList args.toList ds p := hA0
  rw [Try.params3] at hA hval
  obtain ⟨v0, vs0, d0, ds0, p0, q0, hargs, rfl, rfl, h0, r0⟩ := trodAll_cons hA
  obtain ⟨v1, vs1, d1, ds1, p1, q1, rfl, rfl, rfl, h1, r1⟩ := trodAll_cons r0
  obtain ⟨v2, vs2, d2, ds2, p2, q2, rfl, rfl, rfl, h2, r2⟩ := trodAll_cons r1
  obtain ⟨v3, vs3, d3, ds3, p3, q3, rfl, rfl, rfl, h3, r3⟩ := trodAll_cons r2
  obtain ⟨v4, vs4, d4, ds4, p4, q4, rfl, rfl, rfl, h4, r4⟩ := trodAll_cons r3
  obtain ⟨rfl, rfl, rfl⟩ := trodAll_nil r4
  obtain rfl : args = #[v0, v1, v2, v3, v4] := by cases args; simp_all
  obtain ⟨rfl, rfl⟩ := trodVars_none hV
  obtain ⟨a0, rfl, rfl, rfl, w0⟩ := open_int Try.underlying3 (hval 0 3 v0 rfl rfl) h0
  obtain ⟨a1, len1, cap1, rfl⟩ := okWide_slice Try.underlying22 (hval 1 22 v1 rfl rfl)
  have k1 := h1
  have lt1 : ∀ x ∈ p1, x.block < W.heap.size := by obtain ⟨m, hm⟩ := k1; exact DataW.trod_lt m _ _ _ hm
  obtain ⟨z1, w1⟩ : ∃ zs, IsRow .u8 W a1 len1 cap1 zs := by
    obtain ⟨fuel, hf⟩ := h1
    rcases open_ints Try.underlying22 Try.underlying5 (by kernel_rfl) hf with ⟨hcs, _⟩ | ⟨x, l, c, zs, hcs, _, hl, hm, hz, _, hcell, hwz⟩
    · simp [Value.cells] at hcs
      obtain ⟨rfl, rfl, rfl⟩ := hcs
      exact ⟨[], .inl ⟨rfl, rfl, rfl, rfl⟩⟩
    · simp [Value.cells] at hcs
      obtain ⟨rfl, rfl, rfl⟩ := hcs
      exact ⟨zs, .inr ⟨_, rfl, hl, hm, by simpa using hz, hcell, hwz⟩⟩
  obtain ⟨a2, len2, cap2, rfl⟩ := okWide_slice Try.underlying23 (hval 2 23 v2 rfl rfl)
  have k2 := h2
  have lt2 : ∀ x ∈ p2, x.block < W.heap.size := by obtain ⟨m, hm⟩ := k2; exact DataW.trod_lt m _ _ _ hm
  obtain ⟨z2, w2⟩ : ∃ zs, IsRow .i64 W a2 len2 cap2 zs := by
    obtain ⟨fuel, hf⟩ := h2
    rcases open_ints Try.underlying23 Try.underlying3 (by kernel_rfl) hf with ⟨hcs, _⟩ | ⟨x, l, c, zs, hcs, _, hl, hm, hz, _, hcell, hwz⟩
    · simp [Value.cells] at hcs
      obtain ⟨rfl, rfl, rfl⟩ := hcs
      exact ⟨[], .inl ⟨rfl, rfl, rfl, rfl⟩⟩
    · simp [Value.cells] at hcs
      obtain ⟨rfl, rfl, rfl⟩ := hcs
      exact ⟨zs, .inr ⟨_, rfl, hl, hm, by simpa using hz, hcell, hwz⟩⟩
  obtain ⟨a3, len3, cap3, rfl⟩ := okWide_slice Try.underlying23 (hval 3 23 v3 rfl rfl)
  have k3 := h3
  have lt3 : ∀ x ∈ p3, x.block < W.heap.size := by obtain ⟨m, hm⟩ := k3; exact DataW.trod_lt m _ _ _ hm
  obtain ⟨z3, w3⟩ : ∃ zs, IsRow .i64 W a3 len3 cap3 zs := by
    obtain ⟨fuel, hf⟩ := h3
    rcases open_ints Try.underlying23 Try.underlying3 (by kernel_rfl) hf with ⟨hcs, _⟩ | ⟨x, l, c, zs, hcs, _, hl, hm, hz, _, hcell, hwz⟩
    · simp [Value.cells] at hcs
      obtain ⟨rfl, rfl, rfl⟩ := hcs
      exact ⟨[], .inl ⟨rfl, rfl, rfl, rfl⟩⟩
    · simp [Value.cells] at hcs
      obtain ⟨rfl, rfl, rfl⟩ := hcs
      exact ⟨zs, .inr ⟨_, rfl, hl, hm, by simpa using hz, hcell, hwz⟩⟩
  obtain ⟨a4, len4, cap4, rfl⟩ := okWide_slice Try.underlying24 (hval 4 24 v4 rfl rfl)
  have k4 := h4
  have lt4 : ∀ x ∈ p4, x.block < W.heap.size := by obtain ⟨m, hm⟩ := k4; exact DataW.trod_lt m _ _ _ hm
  obtain ⟨z4, w4⟩ : ∃ zs, IsRow .u64 W a4 len4 cap4 zs := by
    obtain ⟨fuel, hf⟩ := h4
    rcases open_ints Try.underlying24 Try.underlying34 (by kernel_rfl) hf with ⟨hcs, _⟩ | ⟨x, l, c, zs, hcs, _, hl, hm, hz, _, hcell, hwz⟩
    · simp [Value.cells] at hcs
      obtain ⟨rfl, rfl, rfl⟩ := hcs
      exact ⟨[], .inl ⟨rfl, rfl, rfl, rfl⟩⟩
    · simp [Value.cells] at hcs
      obtain ⟨rfl, rfl, rfl⟩ := hcs
      exact ⟨zs, .inr ⟨_, rfl, hl, hm, by simpa using hz, hcell, hwz⟩⟩
  clear hA0 hval0
  refine (walk a0 a1 len1 cap1 z1 a2 len2 cap2 z2 a3 len3 cap3 z3 a4 len4 cap4 z4 W w0 w1 w2 w3 w4).mono fun e W' ⟨he, bel⟩ => ?_
  subst he
  exact ⟨_, rfl, _, _, _, [], _, [], hW', trodAll_mk1 (shut_bool Try.underlying4 _), (trodAll_cons_mk (shut_int Try.underlying3 w0) (trodAll_cons_mk (Below.trod laidOut (by kernel_rfl) (of_decide_eq_true (by kernel_rfl)) k1 bel lt1) (trodAll_cons_mk (Below.trod laidOut (by kernel_rfl) (of_decide_eq_true (by kernel_rfl)) k2 bel lt2) (trodAll_cons_mk (Below.trod laidOut (by kernel_rfl) (of_decide_eq_true (by kernel_rfl)) k3 bel lt3) (trodAll_cons_mk (Below.trod laidOut (by kernel_rfl) (of_decide_eq_true (by kernel_rfl)) k4 bel lt4) trodAll_mk0))))), rfl, bel.frame _, fun h => by cases h⟩

theorem over : Rows.memPlaysRow.holds Try.pinned (OpenSpec.ofChange Rows.memPlaysSpec) :=
  OpenClaim.holds_of_wide 3 Try.f3 rfl rfl rfl rfl rfl rfl rfl ⟨rfl, rfl, rfl, rfl, rfl⟩ rfl rfl rfl rfl rfl (by kernel_rfl) Try.func3 (by kernel_rfl)
    (of_decide_eq_true (by kernel_rfl)) (by unfold Func.isWrapper; first | (rw [if_pos (by decide +kernel)]; kernel_rfl) | (rw [if_neg (by decide +kernel)]; exact ⟨rfl, rfl⟩))
    (fun os started H enc _ => lifted os started H enc)

/-- ████ THE STATEMENT ████ -/
theorem proved : Rows.MemPlaysSaid := over
end Go.Proofs.Ytpeidlkoefmbfaa.memPlays
namespace Go.Proofs.Ytpeidlkoefmbfaa
theorem memPlays_holds : Rows.MemPlaysSaid := memPlays.proved
#print axioms memPlays_holds
end Go.Proofs.Ytpeidlkoefmbfaa
