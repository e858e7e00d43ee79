/- MemClears returns true for every list of words and every frame's number, and leaves its arguments as they were. No condition. -/
import Derived.Test.YtpeidlkoefmbfaaRows
import Derived.Test.YtpeidlkoefmbfaaMemE
import Derived.Test.YtpeidlkoefmbfaaMemI
import Derived.WalkKit
import Derived.ProofKit
import Derived.OpenShut
import Derived.ShutString
import Derived.ChangeOld
import Derived.Below
namespace Go.Proofs.Ytpeidlkoefmbfaa.memClears
open Go.ChangeShapes Go.WideShapes Go.ChangeAt Go.RowKit
open Go.ChangeMaps (open_string shut_string)
set_option linter.unusedVariables false

theorem own : ownKnob Try.prog.godebug = none := by kernel_rfl
theorem laidOut : laidOutB Try.prog = true := by kernel_rfl

/-- WHAT THE WALK IS TOLD OF A SLICE OF INTEGERS THAT CAME IN: it is nil; or it leads to a row of 'cap' cells, the numbers 'zs' (the first 'len' are its elements, the rest its spare room), each fitting its kind. -/
def IsRow (k : IntKind) (w : World) (a : Option Addr) (len cap : Nat) (zs : List Int) : Prop :=
  (a = none ∧ len = 0 ∧ cap = 0 ∧ zs = []) ∨
  ∃ x, a = some x ∧ len ≤ cap ∧ cap ≤ maxLen ∧ zs.length = cap ∧ (∀ i, i < zs.length → w.cell? (x.add i) = some (.int k (zs.getD i 0))) ∧ ∀ n ∈ zs, (Lit.int k n).wf = true

theorem wordsW_size (w : World) (M : Nat → Nat → Int) (f : Nat) : (wordsW w M f).heap.size = w.heap.size + 1 := by simp [wordsW]
theorem wordsW_cell (w : World) (M : Nat → Nat → Int) (f : Nat) {j : Nat} (hj : j < 36) : (wordsW w M f).cell? ⟨w.heap.size, j, none⟩ = some (.int .u64 (M f j)) := by
  rw [wordsW, World.cell?_alloc_new, List.getElem?_toArray, frameM_get hj]
theorem wordsW_below {B : Nat} (w₀ w : World) (M : Nat → Nat → Int) (f : Nat) (h : Below B w₀ w) (hB : B ≤ w.heap.size) : Below B w₀ (wordsW w M f) := h.alloc hB _
theorem wordsW_keep (w : World) (M : Nat → Nat → Int) (f : Nat) : ∀ k, k < w.heap.size → (wordsW w M f).heap[k]? = w.heap[k]? := fun k hk => Below.heap_alloc _ _ _ hk
theorem wordsW_mem {w : World} {M V : Nat → Nat → Int} {f p b N : Nat} (h : MemIs w p b N V) : MemIs (wordsW w M f) p b N V := h.on (wordsW_keep _ _ _ _ h.lt.1) (wordsW_keep _ _ _ _ h.lt.2)
theorem wordsW_rows {w : World} {M V : Nat → Nat → Int} {f base n : Nat} {v : Value} (h : RowsIs w base v n V) : RowsIs (wordsW w M f) base v n V := h.alloc _
/-- One more list is kept. -/
theorem rows_step {w wr w3 : World} {v v' : Value} {k : Nat} {M : Nat → Nat → Int} {o : Obj} {xs : List Value} (hM : MemIs wr (w.heap.size + 1) w.heap.size 8 M) (hR : RowsIs wr (w.heap.size + 2) v k M) (hB : Below w.heap.size w wr) (hs : w.heap.size + 2 ≤ wr.heap.size)
    (ho : (wordsW wr M k).ownsRow (w.heap.size + 2) 24 1 v k xs) (hown : w3.ownsRow (w.heap.size + 2) 24 1 v' (k + 1) (xs ++ [.slice (some ⟨wr.heap.size, 0, none⟩) 36 36])) (hg : ((wordsW wr M k).alloc o).grownBy w3 v.ownBlock) :
    MemIs w3 (w.heap.size + 1) w.heap.size 8 M ∧ RowsIs w3 (w.heap.size + 2) v' (k + 1) M ∧ Below w.heap.size w w3 ∧ w.heap.size + 2 ≤ w3.heap.size := by
  have hsz := wordsW_size wr M k
  have hb : Below (w.heap.size + 2) (wordsW wr M k) w3 := ((Below.refl _ _).alloc (by omega) o).grown hg (by simp; omega) (own_ge ho)
  refine ⟨(wordsW_mem hM).below hb (by omega) (by omega), ?_, (wordsW_below _ _ _ _ hB (by omega)).trans (hb.mono (by omega)), by have := hb.size; omega⟩
  exact RowsIs.push hR (fun j _ hj => wordsW_keep _ _ _ _ hj) (Nat.le_refl _) hs (heap_alloc_new _ _) (fun a ha => by rw [List.getElem?_toArray, frameM_get ha]) ho hown hg
theorem rows_slice {w : World} {v : Value} {base n : Nat} {M : Nat → Nat → Int} (h : RowsIs w base v n M) (hn : 0 < n) : ∃ g cap, v = .slice (some ⟨g, 0, none⟩) n cap := by
  obtain ⟨xs, h⟩ := rows_own h
  rcases h.2 with ⟨_, e⟩ | ⟨g, cap, _, e, _⟩
  · omega
  · exact ⟨g, cap, e⟩
theorem rows_read {w : World} {base n g cap : Nat} {M : Nat → Nat → Int} (h : RowsIs w base (.slice (some ⟨g, 0, none⟩) n cap) n M) {j : Nat} (hj : j < n) :
    ∃ r c, w.cell? ⟨g, j, none⟩ = some (.slice (some ⟨r, 0, none⟩) 36 c) ∧ ∀ a, a < 36 → w.cell? ⟨r, 0 + a, none⟩ = some (.int .u64 (M j a)) := by
  obtain ⟨xs, h1, h2⟩ := h.owns
  obtain ⟨r, c, e, _, _, hc⟩ := h2 j hj
  have hl := h1.1
  have hlt : j < xs.length := by omega
  refine ⟨r, c, ?_, fun a ha => by rw [Nat.zero_add]; exact hc a ha⟩
  rw [h1.cellAt (g := g) j (by omega)]
  exact e
theorem cl_other {M : Nat → Nat → Int} {f : Int} {k : Nat} (h : ¬ (k : Int) = f) (j : Nat) : clM 8 M f k j = M k j := by
  unfold clM
  split
  · rename_i h2
    have := okF_yes h2
    simp only
    rw [if_neg (by omega)]
  · rfl
theorem cl_same {M : Nat → Nat → Int} {k : Nat} (hk : k < 8) (j : Nat) : clM 8 M (k : Int) k j = 0 := by
  simp [clM, okF_nat hk]
set_option maxRecDepth 100000 in
set_option maxHeartbeats 4000000 in
theorem walk_ok (a0 : Option Addr) (len0 cap0 : Nat) (f : Int) (w : World) (HC : Hid (Came .u64 w.heap.size w a0 len0)) (hl : len0 ≤ 9223372036854775807) (hE : errF 8 f = 0) (hf0 : 0 ≤ f) (hf8 : f < 8) :
    Calls Try.prog 7 #[.slice a0 len0 cap0, .int .i64 f] w fun e w' => e = .returned (.bool true) ∧ Below w.heap.size w w' := by
  obtain ⟨it, hi, hz0, hz1, hz2⟩ := info_parts infoWords
  go_enter Try.func7, Try.ntmps7
  go_wp2_with (go_at_call 8; refine (new_ok 8 _ (by omega) (by omega)).mono ?_; rintro e w1 ⟨rfl, hw1⟩; have HM1 : Hid (MemIs w1 (w.heap.size + 1) w.heap.size 8 fun _ _ => 0) := (by rw [hw1]; exact newW_is w 8); have HB1 : Hid (Below w.heap.size w w1) := (by rw [hw1]; exact newW_below w 8); clear hw1)
  go_loopw [7] (fun i wr => ∃ k : Nat, k ≤ len0 ∧ i = .int .i64 k ∧ (∃ M, MemIs wr (w.heap.size + 1) w.heap.size 8 M) ∧ Below w.heap.size w wr) (fun i _ => len0 - (intOf i).toNat)
  case atStart => exact ⟨0, Nat.zero_le _, rfl, ⟨_, HM1.out⟩, HB1.out⟩
  case round =>
    obtain ⟨k0, hk0, rfl, ⟨M, hM⟩, hB⟩ := hrel
    have HM : Hid (MemIs wr (w.heap.size + 1) w.heap.size 8 M) := hM
    have HB : Hid (Below w.heap.size w wr) := hB
    clear hM hB HM1 HB1
    by_cases hin : k0 < len0 ∧ k0 < 300
    · obtain ⟨hk1, hk2⟩ := hin
      obtain ⟨bs, os, z, rfl, hz, _⟩ := HC.out.at HB.out hk1
      have hki : (k0 : Int) < (len0 : Int) := by omega
      have hk3 : (k0 : Int) < 300 := by omega
      go_wp2_with (go_at_call 11; refine (store_any _ _ 8 _ _ _ M _ (by omega) (by omega) HM.out).mono ?_; rintro e w2 ⟨rfl, hw2⟩; have HM2 : Hid (∃ M, MemIs w2 (w.heap.size + 1) w.heap.size 8 M) := (by rw [hw2]; exact ⟨_, HM.out.set _⟩); have HB2 : Hid (Below w.heap.size w w2) := (by rw [hw2]; exact below_setRow HB.out (Nat.le_refl _) _); clear hw2)
      go_roundw
      case rel => exact ⟨k0 + 1, by omega, by go_num, HM2.out, HB2.out⟩
      case measure => simp [intOf]; omega
    · have hin' : ¬ k0 < len0 ∨ (k0 < len0 ∧ ¬ k0 < 300) := by omega
      clear hin
      rcases hin' with h1 | ⟨h1, h2⟩
      all_goals
        go_wp2
        go_loopw [8, 9] (fun v i wq => ∃ k : Nat, k ≤ 8 ∧ i = .int .i64 k ∧ MemIs wq (w.heap.size + 1) w.heap.size 8 M ∧ RowsIs wq (w.heap.size + 2) v k M ∧ Below w.heap.size w wq ∧ w.heap.size + 2 ≤ wq.heap.size) (fun _ i _ => 8 - (intOf i).toNat)
        case atStart => exact ⟨0, by omega, rfl, HM.out, RowsIs.nil _ _ _, HB.out, by have := HM.out.lt.1; omega⟩
        case round =>
          obtain ⟨k, hk, rfl, hM, hR, hB, hs⟩ := hrel
          have HMq : Hid (MemIs wr (w.heap.size + 1) w.heap.size 8 M) := hM
          have HRq : Hid (RowsIs wr (w.heap.size + 2) u8 k M) := hR
          have HBq : Hid (Below w.heap.size w wr) := hB
          clear hM hR hB HM HB
          by_cases hlt : k < 8
          · obtain ⟨xs, hxs⟩ := rows_own HRq.out
            have HO : Hid ((wordsW wr M k).ownsRow (w.heap.size + 2) 24 1 u8 k xs) := hxs.alloc _
            have HSZ : Hid ((wordsW wr M k).heap.size = wr.heap.size + 1) := wordsW_size wr M k
            have hlti : (k : Int) < 8 := by omega
            clear hxs
            go_wp2_with (first
              | (go_at_call 21; refine (words_ok _ _ 8 k M _ hlt (by omega) HMq.out).mono ?_; rintro e w2 ⟨rfl, rfl⟩)
              | (at_builtin; go_loud (refine wpList_append_own _ rfl _ _ 58 rfl (w.heap.size + 2) 24 it (.slice none 0 0) 1 24 Try.underlying58 hi hz0 hz1 hz2 rfl (by decide) _ _ _ rfl (HO.out.alloc _) ⟨(wordsW wr M k).heap.size, 0, none⟩ 1 1 [.slice (some ⟨wr.heap.size, 0, none⟩) 36 36] rfl rfl (cell_one_new _ _ _) (by simp [Value.oneCell']) (by unfold maxLen; omega) (by omega) (by simp only [World.size_alloc, HSZ.out]; omega) ?_; intro v' w3 hown' hgrow _; have R : Hid _ := rows_step HMq.out HRq.out HBq.out hs HO.out hown' hgrow; clear hown' hgrow)))
            go_roundw
            case rel => exact ⟨k + 1, by omega, by go_num, R.out.1, R.out.2.1, R.out.2.2.1, R.out.2.2.2⟩
            case measure => simp [intOf]; omega
          · obtain rfl : k = 8 := by omega
            obtain ⟨g, gc, rfl⟩ := rows_slice HRq.out (by omega)
            go_wp2_with (go_at_call 13; refine (clear_any _ _ 8 _ M _ (by omega) (by omega) HMq.out).mono ?_; rintro e w4 ⟨rfl, hw4⟩; have HM4 : Hid (MemIs w4 (w.heap.size + 1) w.heap.size 8 (clM 8 M f)) := (by rw [hw4]; exact HMq.out.set _); have HR4 : Hid (RowsIs w4 (w.heap.size + 2) (.slice (some ⟨g, 0, none⟩) 8 gc) 8 M) := (by rw [hw4]; exact HRq.out.setRow (by omega) _); have HB4 : Hid (Below w.heap.size w w4) := (by rw [hw4]; exact below_setRow HBq.out (Nat.le_refl _) _); have HS4 : Hid (w.heap.size + 2 ≤ w4.heap.size) := (by rw [hw4, setRow_size]; exact hs); clear hw4)
            go_loopw [13] (fun i wq => ∃ k : Nat, k ≤ 8 ∧ i = .int .i64 k ∧ MemIs wq (w.heap.size + 1) w.heap.size 8 (clM 8 M f) ∧ RowsIs wq (w.heap.size + 2) (.slice (some ⟨g, 0, none⟩) 8 gc) 8 M ∧ Below w.heap.size w wq ∧ w.heap.size + 2 ≤ wq.heap.size) (fun i _ => 8 - (intOf i).toNat)
            case atStart => exact ⟨0, by omega, rfl, HM4.out, HR4.out, HB4.out, HS4.out⟩
            case round =>
              obtain ⟨k, hk, rfl, hM, hR, hB, hs5⟩ := hrel
              have HM5 : Hid (MemIs wr (w.heap.size + 1) w.heap.size 8 (clM 8 M f)) := hM
              have HR5 : Hid (RowsIs wr (w.heap.size + 2) (.slice (some ⟨g, 0, none⟩) 8 gc) 8 M) := hR
              have HB5 : Hid (Below w.heap.size w wr) := hB
              have HS5 : Hid (w.heap.size + 2 ≤ wr.heap.size) := hs5
              clear hM hR hB hs5 HM4 HR4 HB4 HS4 HMq HRq HBq hs
              by_cases hlt : k < 8
              · have hlti : (k : Int) < 8 := by omega
                by_cases hkf : (k : Int) = f
                · subst hkf
                  go_wp2_with (go_at_call 21; (refine (words_ok _ _ 8 k (clM 8 M k) _ hlt (by omega) HM5.out).mono ?_; rintro e w6 ⟨rfl, hw6⟩; have HX6 : Hid (∀ j, j < 36 → w6.cell? ⟨wr.heap.size, j, none⟩ = some (.int .u64 0)) := (by rw [hw6]; intro j hj; rw [wordsW_cell _ _ _ hj, cl_same hlt]); have HM6 : Hid (MemIs w6 (w.heap.size + 1) w.heap.size 8 (clM 8 M k)) := (by rw [hw6]; exact wordsW_mem HM5.out); have HR6 : Hid (RowsIs w6 (w.heap.size + 2) (.slice (some ⟨g, 0, none⟩) 8 gc) 8 M) := (by rw [hw6]; exact wordsW_rows HR5.out); have HB6 : Hid (Below w.heap.size w w6) := (by rw [hw6]; exact wordsW_below _ _ _ _ HB5.out (by have := HS5.out; omega)); have HS6 : Hid (w.heap.size + 2 ≤ w6.heap.size) := (by rw [hw6, wordsW_size]; exact Nat.le_succ_of_le HS5.out); clear hw6))
                  go_loopw [16] (fun i wq => ∃ j : Nat, j ≤ 36 ∧ i = .int .i64 j ∧ wq = w6) (fun i _ => 36 - (intOf i).toNat)
                  case atStart => exact ⟨0, by omega, rfl, rfl⟩
                  case round =>
                    obtain ⟨j, hj, rfl, rfl⟩ := hrel
                    by_cases hj36 : j < 36
                    · have hc := HX6.out j hj36
                      have hji : (j : Int) < 36 := by omega
                      go_wp2
                      go_roundw
                      case rel => exact ⟨j + 1, by omega, by go_num, trivial⟩
                      case measure => simp [intOf]; omega
                    · obtain rfl : j = 36 := by omega
                      go_wp2
                      go_roundw
                      case rel => exact ⟨k + 1, by omega, by go_num, HM6.out, HR6.out, HB6.out, HS6.out⟩
                      case measure => simp [intOf]; omega
                · go_wp2_with (first
                    | (go_at_call 21; refine (words_ok _ _ 8 k (clM 8 M f) _ hlt (by omega) HM5.out).mono ?_; rintro e w6 ⟨rfl, hw6⟩; have HX6 : Hid (∀ j, j < 36 → w6.cell? ⟨wr.heap.size, 0 + j, none⟩ = some (.int .u64 (M k j))) := (by rw [hw6]; intro j hj; rw [Nat.zero_add, wordsW_cell _ _ _ hj, cl_other hkf]); have HM6 : Hid (MemIs w6 (w.heap.size + 1) w.heap.size 8 (clM 8 M f)) := (by rw [hw6]; exact wordsW_mem HM5.out); have HR6 : Hid (RowsIs w6 (w.heap.size + 2) (.slice (some ⟨g, 0, none⟩) 8 gc) 8 M) := (by rw [hw6]; exact wordsW_rows HR5.out); have HB6 : Hid (Below w.heap.size w w6) := (by rw [hw6]; exact wordsW_below _ _ _ _ HB5.out (by have := HS5.out; omega)); have HS6 : Hid (w.heap.size + 2 ≤ w6.heap.size) := (by rw [hw6, wordsW_size]; exact Nat.le_succ_of_le HS5.out); clear hw6; obtain ⟨ro, rc, hcell, hro⟩ := rows_read HR6.out hlt; have HY6 : Hid (∀ j, j < 36 → w6.cell? ⟨ro, 0 + j, none⟩ = some (.int .u64 (M k j))) := hro; clear hro)
                    | (go_at_call 23; refine (wordsEq_same _ _ _ _ _ _ 36 (M k) _ (by omega) HX6 HY6).mono ?_; rintro e w7 ⟨rfl, m7, hw7⟩; have HM7 : Hid (MemIs w7 (w.heap.size + 1) w.heap.size 8 (clM 8 M f)) := (by rw [hw7]; exact HM6.out.drewN m7); have HR7 : Hid (RowsIs w7 (w.heap.size + 2) (.slice (some ⟨g, 0, none⟩) 8 gc) 8 M) := (by rw [hw7]; exact HR6.out.drewN m7); have HB7 : Hid (Below w.heap.size w w7) := (by rw [hw7]; exact below_drewN HB6.out m7); have HS7 : Hid (w.heap.size + 2 ≤ w7.heap.size) := (by rw [hw7]; exact HS6.out); clear hw7))
                  go_loopw [16] (fun i wq => ∃ j : Nat, j ≤ 36 ∧ i = .int .i64 j ∧ wq = w7) (fun i _ => 36 - (intOf i).toNat)
                  case atStart => exact ⟨0, by omega, rfl, rfl⟩
                  case round =>
                    obtain ⟨j, hj, rfl, rfl⟩ := hrel
                    by_cases hj36 : j < 36
                    · have hji : (j : Int) < 36 := by omega
                      go_wp2
                      go_roundw
                      case rel => exact ⟨j + 1, by omega, by go_num, trivial⟩
                      case measure => simp [intOf]; omega
                    · obtain rfl : j = 36 := by omega
                      go_wp2
                      go_roundw
                      case rel => exact ⟨k + 1, by omega, by go_num, HM7.out, HR7.out, HB7.out, HS7.out⟩
                      case measure => simp [intOf]; omega
              · obtain rfl : k = 8 := by omega
                go_wp2_with (go_at_call 10; refine (awake_any _).mono ?_; rintro e w8 ⟨rfl, hw8⟩)
                go_ret
                exact ⟨by first | rfl | (simp; omega), HB5.out.trans ((newW_below _ 1).mono HB5.out.size)⟩
set_option maxRecDepth 100000 in
set_option maxHeartbeats 4000000 in
theorem walk_neg (a0 : Option Addr) (len0 cap0 : Nat) (f : Int) (w : World) (HC : Hid (Came .u64 w.heap.size w a0 len0)) (hl : len0 ≤ 9223372036854775807) (hE : errF 8 f = 1) (hf0 : f < 0) :
    Calls Try.prog 7 #[.slice a0 len0 cap0, .int .i64 f] w fun e w' => e = .returned (.bool true) ∧ Below w.heap.size w w' := by
  obtain ⟨it, hi, hz0, hz1, hz2⟩ := info_parts infoWords
  go_enter Try.func7, Try.ntmps7
  go_wp2_with (go_at_call 8; refine (new_ok 8 _ (by omega) (by omega)).mono ?_; rintro e w1 ⟨rfl, hw1⟩; have HM1 : Hid (MemIs w1 (w.heap.size + 1) w.heap.size 8 fun _ _ => 0) := (by rw [hw1]; exact newW_is w 8); have HB1 : Hid (Below w.heap.size w w1) := (by rw [hw1]; exact newW_below w 8); clear hw1)
  go_loopw [7] (fun i wr => ∃ k : Nat, k ≤ len0 ∧ i = .int .i64 k ∧ (∃ M, MemIs wr (w.heap.size + 1) w.heap.size 8 M) ∧ Below w.heap.size w wr) (fun i _ => len0 - (intOf i).toNat)
  case atStart => exact ⟨0, Nat.zero_le _, rfl, ⟨_, HM1.out⟩, HB1.out⟩
  case round =>
    obtain ⟨k0, hk0, rfl, ⟨M, hM⟩, hB⟩ := hrel
    have HM : Hid (MemIs wr (w.heap.size + 1) w.heap.size 8 M) := hM
    have HB : Hid (Below w.heap.size w wr) := hB
    clear hM hB HM1 HB1
    by_cases hin : k0 < len0 ∧ k0 < 300
    · obtain ⟨hk1, hk2⟩ := hin
      obtain ⟨bs, os, z, rfl, hz, _⟩ := HC.out.at HB.out hk1
      have hki : (k0 : Int) < (len0 : Int) := by omega
      have hk3 : (k0 : Int) < 300 := by omega
      go_wp2_with (go_at_call 11; refine (store_any _ _ 8 _ _ _ M _ (by omega) (by omega) HM.out).mono ?_; rintro e w2 ⟨rfl, hw2⟩; have HM2 : Hid (∃ M, MemIs w2 (w.heap.size + 1) w.heap.size 8 M) := (by rw [hw2]; exact ⟨_, HM.out.set _⟩); have HB2 : Hid (Below w.heap.size w w2) := (by rw [hw2]; exact below_setRow HB.out (Nat.le_refl _) _); clear hw2)
      go_roundw
      case rel => exact ⟨k0 + 1, by omega, by go_num, HM2.out, HB2.out⟩
      case measure => simp [intOf]; omega
    · have hin' : ¬ k0 < len0 ∨ (k0 < len0 ∧ ¬ k0 < 300) := by omega
      clear hin
      rcases hin' with h1 | ⟨h1, h2⟩
      all_goals
        go_wp2
        go_loopw [8, 9] (fun v i wq => ∃ k : Nat, k ≤ 8 ∧ i = .int .i64 k ∧ MemIs wq (w.heap.size + 1) w.heap.size 8 M ∧ RowsIs wq (w.heap.size + 2) v k M ∧ Below w.heap.size w wq ∧ w.heap.size + 2 ≤ wq.heap.size) (fun _ i _ => 8 - (intOf i).toNat)
        case atStart => exact ⟨0, by omega, rfl, HM.out, RowsIs.nil _ _ _, HB.out, by have := HM.out.lt.1; omega⟩
        case round =>
          obtain ⟨k, hk, rfl, hM, hR, hB, hs⟩ := hrel
          have HMq : Hid (MemIs wr (w.heap.size + 1) w.heap.size 8 M) := hM
          have HRq : Hid (RowsIs wr (w.heap.size + 2) u8 k M) := hR
          have HBq : Hid (Below w.heap.size w wr) := hB
          clear hM hR hB HM HB
          by_cases hlt : k < 8
          · obtain ⟨xs, hxs⟩ := rows_own HRq.out
            have HO : Hid ((wordsW wr M k).ownsRow (w.heap.size + 2) 24 1 u8 k xs) := hxs.alloc _
            have HSZ : Hid ((wordsW wr M k).heap.size = wr.heap.size + 1) := wordsW_size wr M k
            have hlti : (k : Int) < 8 := by omega
            clear hxs
            go_wp2_with (first
              | (go_at_call 21; refine (words_ok _ _ 8 k M _ hlt (by omega) HMq.out).mono ?_; rintro e w2 ⟨rfl, rfl⟩)
              | (at_builtin; go_loud (refine wpList_append_own _ rfl _ _ 58 rfl (w.heap.size + 2) 24 it (.slice none 0 0) 1 24 Try.underlying58 hi hz0 hz1 hz2 rfl (by decide) _ _ _ rfl (HO.out.alloc _) ⟨(wordsW wr M k).heap.size, 0, none⟩ 1 1 [.slice (some ⟨wr.heap.size, 0, none⟩) 36 36] rfl rfl (cell_one_new _ _ _) (by simp [Value.oneCell']) (by unfold maxLen; omega) (by omega) (by simp only [World.size_alloc, HSZ.out]; omega) ?_; intro v' w3 hown' hgrow _; have R : Hid _ := rows_step HMq.out HRq.out HBq.out hs HO.out hown' hgrow; clear hown' hgrow)))
            go_roundw
            case rel => exact ⟨k + 1, by omega, by go_num, R.out.1, R.out.2.1, R.out.2.2.1, R.out.2.2.2⟩
            case measure => simp [intOf]; omega
          · obtain rfl : k = 8 := by omega
            obtain ⟨g, gc, rfl⟩ := rows_slice HRq.out (by omega)
            go_wp2_with (go_at_call 13; refine (clear_any _ _ 8 _ M _ (by omega) (by omega) HMq.out).mono ?_; rintro e w4 ⟨rfl, hw4⟩; have HM4 : Hid (MemIs w4 (w.heap.size + 1) w.heap.size 8 (clM 8 M f)) := (by rw [hw4]; exact HMq.out.set _); have HR4 : Hid (RowsIs w4 (w.heap.size + 2) (.slice (some ⟨g, 0, none⟩) 8 gc) 8 M) := (by rw [hw4]; exact HRq.out.setRow (by omega) _); have HB4 : Hid (Below w.heap.size w w4) := (by rw [hw4]; exact below_setRow HBq.out (Nat.le_refl _) _); have HS4 : Hid (w.heap.size + 2 ≤ w4.heap.size) := (by rw [hw4, setRow_size]; exact hs); clear hw4)
            go_loopw [13] (fun i wq => ∃ k : Nat, k ≤ 8 ∧ i = .int .i64 k ∧ MemIs wq (w.heap.size + 1) w.heap.size 8 (clM 8 M f) ∧ RowsIs wq (w.heap.size + 2) (.slice (some ⟨g, 0, none⟩) 8 gc) 8 M ∧ Below w.heap.size w wq ∧ w.heap.size + 2 ≤ wq.heap.size) (fun i _ => 8 - (intOf i).toNat)
            case atStart => exact ⟨0, by omega, rfl, HM4.out, HR4.out, HB4.out, HS4.out⟩
            case round =>
              obtain ⟨k, hk, rfl, hM, hR, hB, hs5⟩ := hrel
              have HM5 : Hid (MemIs wr (w.heap.size + 1) w.heap.size 8 (clM 8 M f)) := hM
              have HR5 : Hid (RowsIs wr (w.heap.size + 2) (.slice (some ⟨g, 0, none⟩) 8 gc) 8 M) := hR
              have HB5 : Hid (Below w.heap.size w wr) := hB
              have HS5 : Hid (w.heap.size + 2 ≤ wr.heap.size) := hs5
              clear hM hR hB hs5 HM4 HR4 HB4 HS4 HMq HRq HBq hs
              by_cases hlt : k < 8
              · have hlti : (k : Int) < 8 := by omega
                by_cases hkf : (k : Int) = f
                · exfalso; omega
                · go_wp2_with (first
                    | (go_at_call 21; refine (words_ok _ _ 8 k (clM 8 M f) _ hlt (by omega) HM5.out).mono ?_; rintro e w6 ⟨rfl, hw6⟩; have HX6 : Hid (∀ j, j < 36 → w6.cell? ⟨wr.heap.size, 0 + j, none⟩ = some (.int .u64 (M k j))) := (by rw [hw6]; intro j hj; rw [Nat.zero_add, wordsW_cell _ _ _ hj, cl_other hkf]); have HM6 : Hid (MemIs w6 (w.heap.size + 1) w.heap.size 8 (clM 8 M f)) := (by rw [hw6]; exact wordsW_mem HM5.out); have HR6 : Hid (RowsIs w6 (w.heap.size + 2) (.slice (some ⟨g, 0, none⟩) 8 gc) 8 M) := (by rw [hw6]; exact wordsW_rows HR5.out); have HB6 : Hid (Below w.heap.size w w6) := (by rw [hw6]; exact wordsW_below _ _ _ _ HB5.out (by have := HS5.out; omega)); have HS6 : Hid (w.heap.size + 2 ≤ w6.heap.size) := (by rw [hw6, wordsW_size]; exact Nat.le_succ_of_le HS5.out); clear hw6; obtain ⟨ro, rc, hcell, hro⟩ := rows_read HR6.out hlt; have HY6 : Hid (∀ j, j < 36 → w6.cell? ⟨ro, 0 + j, none⟩ = some (.int .u64 (M k j))) := hro; clear hro)
                    | (go_at_call 23; refine (wordsEq_same _ _ _ _ _ _ 36 (M k) _ (by omega) HX6 HY6).mono ?_; rintro e w7 ⟨rfl, m7, hw7⟩; have HM7 : Hid (MemIs w7 (w.heap.size + 1) w.heap.size 8 (clM 8 M f)) := (by rw [hw7]; exact HM6.out.drewN m7); have HR7 : Hid (RowsIs w7 (w.heap.size + 2) (.slice (some ⟨g, 0, none⟩) 8 gc) 8 M) := (by rw [hw7]; exact HR6.out.drewN m7); have HB7 : Hid (Below w.heap.size w w7) := (by rw [hw7]; exact below_drewN HB6.out m7); have HS7 : Hid (w.heap.size + 2 ≤ w7.heap.size) := (by rw [hw7]; exact HS6.out); clear hw7))
                  go_loopw [16] (fun i wq => ∃ j : Nat, j ≤ 36 ∧ i = .int .i64 j ∧ wq = w7) (fun i _ => 36 - (intOf i).toNat)
                  case atStart => exact ⟨0, by omega, rfl, rfl⟩
                  case round =>
                    obtain ⟨j, hj, rfl, rfl⟩ := hrel
                    by_cases hj36 : j < 36
                    · have hji : (j : Int) < 36 := by omega
                      go_wp2
                      go_roundw
                      case rel => exact ⟨j + 1, by omega, by go_num, trivial⟩
                      case measure => simp [intOf]; omega
                    · obtain rfl : j = 36 := by omega
                      go_wp2
                      go_roundw
                      case rel => exact ⟨k + 1, by omega, by go_num, HM7.out, HR7.out, HB7.out, HS7.out⟩
                      case measure => simp [intOf]; omega
              · obtain rfl : k = 8 := by omega
                go_wp2_with (go_at_call 10; refine (awake_any _).mono ?_; rintro e w8 ⟨rfl, hw8⟩)
                go_ret
                exact ⟨by first | rfl | (simp; omega), HB5.out.trans ((newW_below _ 1).mono HB5.out.size)⟩
set_option maxRecDepth 100000 in
set_option maxHeartbeats 4000000 in
theorem walk_big (a0 : Option Addr) (len0 cap0 : Nat) (f : Int) (w : World) (HC : Hid (Came .u64 w.heap.size w a0 len0)) (hl : len0 ≤ 9223372036854775807) (hE : errF 8 f = 1) (hf0 : 0 ≤ f) (hf8 : ¬ f < 8) :
    Calls Try.prog 7 #[.slice a0 len0 cap0, .int .i64 f] w fun e w' => e = .returned (.bool true) ∧ Below w.heap.size w w' := by
  obtain ⟨it, hi, hz0, hz1, hz2⟩ := info_parts infoWords
  go_enter Try.func7, Try.ntmps7
  go_wp2_with (go_at_call 8; refine (new_ok 8 _ (by omega) (by omega)).mono ?_; rintro e w1 ⟨rfl, hw1⟩; have HM1 : Hid (MemIs w1 (w.heap.size + 1) w.heap.size 8 fun _ _ => 0) := (by rw [hw1]; exact newW_is w 8); have HB1 : Hid (Below w.heap.size w w1) := (by rw [hw1]; exact newW_below w 8); clear hw1)
  go_loopw [7] (fun i wr => ∃ k : Nat, k ≤ len0 ∧ i = .int .i64 k ∧ (∃ M, MemIs wr (w.heap.size + 1) w.heap.size 8 M) ∧ Below w.heap.size w wr) (fun i _ => len0 - (intOf i).toNat)
  case atStart => exact ⟨0, Nat.zero_le _, rfl, ⟨_, HM1.out⟩, HB1.out⟩
  case round =>
    obtain ⟨k0, hk0, rfl, ⟨M, hM⟩, hB⟩ := hrel
    have HM : Hid (MemIs wr (w.heap.size + 1) w.heap.size 8 M) := hM
    have HB : Hid (Below w.heap.size w wr) := hB
    clear hM hB HM1 HB1
    by_cases hin : k0 < len0 ∧ k0 < 300
    · obtain ⟨hk1, hk2⟩ := hin
      obtain ⟨bs, os, z, rfl, hz, _⟩ := HC.out.at HB.out hk1
      have hki : (k0 : Int) < (len0 : Int) := by omega
      have hk3 : (k0 : Int) < 300 := by omega
      go_wp2_with (go_at_call 11; refine (store_any _ _ 8 _ _ _ M _ (by omega) (by omega) HM.out).mono ?_; rintro e w2 ⟨rfl, hw2⟩; have HM2 : Hid (∃ M, MemIs w2 (w.heap.size + 1) w.heap.size 8 M) := (by rw [hw2]; exact ⟨_, HM.out.set _⟩); have HB2 : Hid (Below w.heap.size w w2) := (by rw [hw2]; exact below_setRow HB.out (Nat.le_refl _) _); clear hw2)
      go_roundw
      case rel => exact ⟨k0 + 1, by omega, by go_num, HM2.out, HB2.out⟩
      case measure => simp [intOf]; omega
    · have hin' : ¬ k0 < len0 ∨ (k0 < len0 ∧ ¬ k0 < 300) := by omega
      clear hin
      rcases hin' with h1 | ⟨h1, h2⟩
      all_goals
        go_wp2
        go_loopw [8, 9] (fun v i wq => ∃ k : Nat, k ≤ 8 ∧ i = .int .i64 k ∧ MemIs wq (w.heap.size + 1) w.heap.size 8 M ∧ RowsIs wq (w.heap.size + 2) v k M ∧ Below w.heap.size w wq ∧ w.heap.size + 2 ≤ wq.heap.size) (fun _ i _ => 8 - (intOf i).toNat)
        case atStart => exact ⟨0, by omega, rfl, HM.out, RowsIs.nil _ _ _, HB.out, by have := HM.out.lt.1; omega⟩
        case round =>
          obtain ⟨k, hk, rfl, hM, hR, hB, hs⟩ := hrel
          have HMq : Hid (MemIs wr (w.heap.size + 1) w.heap.size 8 M) := hM
          have HRq : Hid (RowsIs wr (w.heap.size + 2) u8 k M) := hR
          have HBq : Hid (Below w.heap.size w wr) := hB
          clear hM hR hB HM HB
          by_cases hlt : k < 8
          · obtain ⟨xs, hxs⟩ := rows_own HRq.out
            have HO : Hid ((wordsW wr M k).ownsRow (w.heap.size + 2) 24 1 u8 k xs) := hxs.alloc _
            have HSZ : Hid ((wordsW wr M k).heap.size = wr.heap.size + 1) := wordsW_size wr M k
            have hlti : (k : Int) < 8 := by omega
            clear hxs
            go_wp2_with (first
              | (go_at_call 21; refine (words_ok _ _ 8 k M _ hlt (by omega) HMq.out).mono ?_; rintro e w2 ⟨rfl, rfl⟩)
              | (at_builtin; go_loud (refine wpList_append_own _ rfl _ _ 58 rfl (w.heap.size + 2) 24 it (.slice none 0 0) 1 24 Try.underlying58 hi hz0 hz1 hz2 rfl (by decide) _ _ _ rfl (HO.out.alloc _) ⟨(wordsW wr M k).heap.size, 0, none⟩ 1 1 [.slice (some ⟨wr.heap.size, 0, none⟩) 36 36] rfl rfl (cell_one_new _ _ _) (by simp [Value.oneCell']) (by unfold maxLen; omega) (by omega) (by simp only [World.size_alloc, HSZ.out]; omega) ?_; intro v' w3 hown' hgrow _; have R : Hid _ := rows_step HMq.out HRq.out HBq.out hs HO.out hown' hgrow; clear hown' hgrow)))
            go_roundw
            case rel => exact ⟨k + 1, by omega, by go_num, R.out.1, R.out.2.1, R.out.2.2.1, R.out.2.2.2⟩
            case measure => simp [intOf]; omega
          · obtain rfl : k = 8 := by omega
            obtain ⟨g, gc, rfl⟩ := rows_slice HRq.out (by omega)
            go_wp2_with (go_at_call 13; refine (clear_any _ _ 8 _ M _ (by omega) (by omega) HMq.out).mono ?_; rintro e w4 ⟨rfl, hw4⟩; have HM4 : Hid (MemIs w4 (w.heap.size + 1) w.heap.size 8 (clM 8 M f)) := (by rw [hw4]; exact HMq.out.set _); have HR4 : Hid (RowsIs w4 (w.heap.size + 2) (.slice (some ⟨g, 0, none⟩) 8 gc) 8 M) := (by rw [hw4]; exact HRq.out.setRow (by omega) _); have HB4 : Hid (Below w.heap.size w w4) := (by rw [hw4]; exact below_setRow HBq.out (Nat.le_refl _) _); have HS4 : Hid (w.heap.size + 2 ≤ w4.heap.size) := (by rw [hw4, setRow_size]; exact hs); clear hw4)
            go_loopw [13] (fun i wq => ∃ k : Nat, k ≤ 8 ∧ i = .int .i64 k ∧ MemIs wq (w.heap.size + 1) w.heap.size 8 (clM 8 M f) ∧ RowsIs wq (w.heap.size + 2) (.slice (some ⟨g, 0, none⟩) 8 gc) 8 M ∧ Below w.heap.size w wq ∧ w.heap.size + 2 ≤ wq.heap.size) (fun i _ => 8 - (intOf i).toNat)
            case atStart => exact ⟨0, by omega, rfl, HM4.out, HR4.out, HB4.out, HS4.out⟩
            case round =>
              obtain ⟨k, hk, rfl, hM, hR, hB, hs5⟩ := hrel
              have HM5 : Hid (MemIs wr (w.heap.size + 1) w.heap.size 8 (clM 8 M f)) := hM
              have HR5 : Hid (RowsIs wr (w.heap.size + 2) (.slice (some ⟨g, 0, none⟩) 8 gc) 8 M) := hR
              have HB5 : Hid (Below w.heap.size w wr) := hB
              have HS5 : Hid (w.heap.size + 2 ≤ wr.heap.size) := hs5
              clear hM hR hB hs5 HM4 HR4 HB4 HS4 HMq HRq HBq hs
              by_cases hlt : k < 8
              · have hlti : (k : Int) < 8 := by omega
                by_cases hkf : (k : Int) = f
                · exfalso; omega
                · go_wp2_with (first
                    | (go_at_call 21; refine (words_ok _ _ 8 k (clM 8 M f) _ hlt (by omega) HM5.out).mono ?_; rintro e w6 ⟨rfl, hw6⟩; have HX6 : Hid (∀ j, j < 36 → w6.cell? ⟨wr.heap.size, 0 + j, none⟩ = some (.int .u64 (M k j))) := (by rw [hw6]; intro j hj; rw [Nat.zero_add, wordsW_cell _ _ _ hj, cl_other hkf]); have HM6 : Hid (MemIs w6 (w.heap.size + 1) w.heap.size 8 (clM 8 M f)) := (by rw [hw6]; exact wordsW_mem HM5.out); have HR6 : Hid (RowsIs w6 (w.heap.size + 2) (.slice (some ⟨g, 0, none⟩) 8 gc) 8 M) := (by rw [hw6]; exact wordsW_rows HR5.out); have HB6 : Hid (Below w.heap.size w w6) := (by rw [hw6]; exact wordsW_below _ _ _ _ HB5.out (by have := HS5.out; omega)); have HS6 : Hid (w.heap.size + 2 ≤ w6.heap.size) := (by rw [hw6, wordsW_size]; exact Nat.le_succ_of_le HS5.out); clear hw6; obtain ⟨ro, rc, hcell, hro⟩ := rows_read HR6.out hlt; have HY6 : Hid (∀ j, j < 36 → w6.cell? ⟨ro, 0 + j, none⟩ = some (.int .u64 (M k j))) := hro; clear hro)
                    | (go_at_call 23; refine (wordsEq_same _ _ _ _ _ _ 36 (M k) _ (by omega) HX6 HY6).mono ?_; rintro e w7 ⟨rfl, m7, hw7⟩; have HM7 : Hid (MemIs w7 (w.heap.size + 1) w.heap.size 8 (clM 8 M f)) := (by rw [hw7]; exact HM6.out.drewN m7); have HR7 : Hid (RowsIs w7 (w.heap.size + 2) (.slice (some ⟨g, 0, none⟩) 8 gc) 8 M) := (by rw [hw7]; exact HR6.out.drewN m7); have HB7 : Hid (Below w.heap.size w w7) := (by rw [hw7]; exact below_drewN HB6.out m7); have HS7 : Hid (w.heap.size + 2 ≤ w7.heap.size) := (by rw [hw7]; exact HS6.out); clear hw7))
                  go_loopw [16] (fun i wq => ∃ j : Nat, j ≤ 36 ∧ i = .int .i64 j ∧ wq = w7) (fun i _ => 36 - (intOf i).toNat)
                  case atStart => exact ⟨0, by omega, rfl, rfl⟩
                  case round =>
                    obtain ⟨j, hj, rfl, rfl⟩ := hrel
                    by_cases hj36 : j < 36
                    · have hji : (j : Int) < 36 := by omega
                      go_wp2
                      go_roundw
                      case rel => exact ⟨j + 1, by omega, by go_num, trivial⟩
                      case measure => simp [intOf]; omega
                    · obtain rfl : j = 36 := by omega
                      go_wp2
                      go_roundw
                      case rel => exact ⟨k + 1, by omega, by go_num, HM7.out, HR7.out, HB7.out, HS7.out⟩
                      case measure => simp [intOf]; omega
              · obtain rfl : k = 8 := by omega
                go_wp2_with (go_at_call 10; refine (awake_any _).mono ?_; rintro e w8 ⟨rfl, hw8⟩)
                go_ret
                exact ⟨by first | rfl | (simp; omega), HB5.out.trans ((newW_below _ 1).mono HB5.out.size)⟩

/-! ### STEP 1: THE WALK: the Go text returns true, AND WRITES NOTHING THAT WAS THERE: 'Below w.heap.size w w'' (Derived/Below.lean: '.refl', '.alloc', '.drew', '.setCell' at a new block, '.trans'). Open each 'IsRow' by 'rcases' AHEAD of 'go_enter'; part every test ahead of the walk. -/
theorem walk (a0 : Option Addr) (len0 cap0 : Nat) (z0 : List Int) (a1 : Int) (w : World) (w0 : IsRow .u64 w a0 len0 cap0 z0) (w1 : (Lit.int .i64 a1).wf = true) :
    Calls Try.prog 7 #[.slice a0 len0 cap0, .int .i64 a1] w fun e w' => e = .returned (.bool true) ∧ Below w.heap.size w w' := by
  obtain ⟨hC, hl⟩ := came_of_row w0
  clear w0
  cases hk : okF 8 a1
  · have hE : errF 8 a1 = 1 := by simp only [errF, hk]; rfl
    have := okF_no hk
    by_cases hf : a1 < 0
    · exact walk_neg a0 len0 cap0 a1 w hC hl hE hf
    · exact walk_big a0 len0 cap0 a1 w hC hl hE (by omega) (by omega)
  · have hE : errF 8 a1 = 0 := by simp only [errF, hk]; rfl
    have := okF_yes hk
    exact walk_ok a0 len0 cap0 a1 w hC hl hE this.1 (by omega)

/-! ### THE ROW's STEP: WRITTEN OUT: LEAVE IT -/
set_option maxRecDepth 100000 in
theorem lifted (os : Os) (started : os.Started) (H : Type) (enc : TypeId × Value → H) :
    ReturnsInHanded {} Try.checked os 7 .any (Rows.memClearsSpec.pre6 enc Try.prog Try.f7 Rows.memClearsRow.domain false) (Rows.memClearsSpec.post enc Try.prog Try.f7 false true false false) := by
  refine returnsInHanded_of_change (C := Try.checked) own started (by kernel_rfl) Try.func7
    (ChangeSpec.witness6 (enc := enc) (C := Try.checked) false ⟨#[], #[.slice none 0 0, .int .i64 0], []⟩ 8 (by kernel_rfl) (by kernel_rfl) (by kernel_rfl) (by kernel_rfl)) ?_
  intro W base args ds gs before hval0 hW hcnd _
  have hval : ∀ (j : Nat) t v, Try.f7.params[j]? = some t → args[j]? = some v → Value.okWide Try.prog W .any base t v := hval0
  have hW' := hW
  obtain ⟨p, q, hA0, hV, rfl, hfz, hnd⟩ := hW
  have hA : DataW.TrodAll enc Try.prog W 0 (fun _ => true) true Try.f7.params.toList args.toList ds p := hA0
  rw [Try.params7] at hA hval
  obtain ⟨v0, vs0, d0, ds0, p0, q0, hargs, rfl, rfl, h0, r0⟩ := trodAll_cons hA
  obtain ⟨v1, vs1, d1, ds1, p1, q1, rfl, rfl, rfl, h1, r1⟩ := trodAll_cons r0
  obtain ⟨rfl, rfl, rfl⟩ := trodAll_nil r1
  obtain rfl : args = #[v0, v1] := by cases args; simp_all
  obtain ⟨rfl, rfl⟩ := trodVars_none hV
  obtain ⟨a0, len0, cap0, rfl⟩ := okWide_slice Try.underlying24 (hval 0 24 v0 rfl rfl)
  have k0 := h0
  have lt0 : ∀ x ∈ p0, x.block < W.heap.size := by obtain ⟨m, hm⟩ := k0; exact DataW.trod_lt m _ _ _ hm
  obtain ⟨z0, w0⟩ : ∃ zs, IsRow .u64 W a0 len0 cap0 zs := by
    obtain ⟨fuel, hf⟩ := h0
    rcases open_ints Try.underlying24 Try.underlying34 (by kernel_rfl) hf with ⟨hcs, _⟩ | ⟨x, l, c, zs, hcs, _, hl, hm, hz, _, hcell, hwz⟩
    · simp [Value.cells] at hcs
      obtain ⟨rfl, rfl, rfl⟩ := hcs
      exact ⟨[], .inl ⟨rfl, rfl, rfl, rfl⟩⟩
    · simp [Value.cells] at hcs
      obtain ⟨rfl, rfl, rfl⟩ := hcs
      exact ⟨zs, .inr ⟨_, rfl, hl, hm, by simpa using hz, hcell, hwz⟩⟩
  obtain ⟨a1, rfl, rfl, rfl, w1⟩ := open_int Try.underlying3 (hval 1 3 v1 rfl rfl) h1
  clear hA0 hval0
  refine (walk a0 len0 cap0 z0 a1 W w0 w1).mono fun e W' ⟨he, bel⟩ => ?_
  subst he
  exact ⟨_, rfl, _, _, _, [], _, [], hW', trodAll_mk1 (shut_bool Try.underlying4 _), (trodAll_cons_mk (Below.trod laidOut (by kernel_rfl) (of_decide_eq_true (by kernel_rfl)) k0 bel lt0) (trodAll_cons_mk (shut_int Try.underlying3 w1) trodAll_mk0)), rfl, bel.frame _, fun h => by cases h⟩

theorem over : Rows.memClearsRow.holds Try.pinned (OpenSpec.ofChange Rows.memClearsSpec) :=
  OpenClaim.holds_of_wide 7 Try.f7 rfl rfl rfl rfl rfl rfl rfl ⟨rfl, rfl, rfl, rfl, rfl⟩ rfl rfl rfl rfl rfl (by kernel_rfl) Try.func7 (by kernel_rfl)
    (of_decide_eq_true (by kernel_rfl)) (by unfold Func.isWrapper; first | (rw [if_pos (by decide +kernel)]; kernel_rfl) | (rw [if_neg (by decide +kernel)]; exact ⟨rfl, rfl⟩))
    (fun os started H enc _ => lifted os started H enc)

/-- ████ THE STATEMENT ████ -/
theorem proved : Rows.MemClearsSaid := over
end Go.Proofs.Ytpeidlkoefmbfaa.memClears
namespace Go.Proofs.Ytpeidlkoefmbfaa
theorem memClears_holds : Rows.MemClearsSaid := memClears.proved
#print axioms memClears_holds
end Go.Proofs.Ytpeidlkoefmbfaa
