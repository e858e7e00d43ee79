/- What New of package typ answers and makes, for every argument; and what 'awake' of the statements answers. -/
import Derived.Test.YtiodocdbhjdfaaaTypB
import Derived.BigRegion
import Derived.Deep.RegionHeld3
namespace Go.Proofs.Ytiodocdbhjdfaaa
open Go.RowKit
set_option linter.unusedVariables false

theorem infoFrame : (Try.prog.info? 51).map (fun i => (i.zero, i.size, i.bytes)) = some (some (.agg #[.int .i64 0, .int .i64 0, .int .i64 0, .int .i64 0]), 4, 32) := by kernel_rfl
theorem made_frames (N : Nat) : madeCells #[.int .i64 0, .int .i64 0, .int .i64 0, .int .i64 0] (N * 4) = cellsT N fun _ => zFS := by
  apply Array.ext_getElem?
  intro i
  by_cases hi : i < N * 4
  · rw [cellsT_get hi]
    have h4 : i % 4 < 4 := by omega
    have e : fld zFS (i % 4) = 0 := by
      unfold fld zFS
      split
      · rfl
      · split
        · rfl
        · split <;> rfl
    rw [e]
    have key : ∀ j, j < 4 → (#[Value.int .i64 0, .int .i64 0, .int .i64 0, .int .i64 0] : Array Value)[j]? = some (.int .i64 0) := by
      intro j hj
      match j, hj with
      | 0, _ => rfl
      | 1, _ => rfl
      | 2, _ => rfl
      | 3, _ => rfl
    have k4 := key _ h4
    simp only [List.getElem?_toArray] at k4
    simp [madeCells, hi, k4]
  · simp [madeCells, cellsT, hi]
theorem make_frames (N : Nat) (hN : N ≤ 64) (w : World) :
    (Instr.makeSlice 46 (.int .i64 N) (.int .i64 N)).run Try.prog w = .ok (.slice (some ⟨w.heap.size, 0, none⟩) N N) (w.alloc (.cells (cellsT N fun _ => zFS) 51)) := by
  obtain ⟨i0, hi, hz0, hz1, hz2⟩ := info_parts infoFrame
  have := run_make (P := Try.prog) w 46 51 i0 _ Try.underlying46 hi hz0 .i64 .i64 N N (by omega) (by omega) (by rw [hz2]; omega) (by omega)
  rw [hz1] at this
  simpa [Value.cells, made_frames] using this
/-- The frames while New lays them: the first k are laid. -/
def layS (k : Nat) : Nat → FS := fun i => if i < k then noFS else zFS
theorem ok_lay (k : Nat) : okA (layS k) := by
  intro i
  unfold layS
  split <;> exact ⟨by simp [noFS, zFS], by simp [noFS, zFS]⟩
theorem lay_step (k : Nat) : upd (layS k) k noFS = layS (k + 1) := by
  funext i
  simp only [upd, layS]
  by_cases h : i = k
  · subst h
    simp
  · simp only [h, if_false]
    by_cases h2 : i < k
    · rw [if_pos h2, if_pos (by omega)]
    · rw [if_neg h2, if_neg (by omega)]
theorem TblIs.lay {w : World} {p r N k : Nat} (h : TblIs w p r N (layS k)) (hk : k < N) :
    (((w.setCell ⟨r, k * 4, none⟩ (.int .i64 0)).setCell ⟨r, k * 4 + 1, none⟩ (.int .i64 0)).setCell ⟨r, k * 4 + 2, none⟩ (.int .i64 0)).setCell ⟨r, k * 4 + 3, none⟩ (.int .i64 (-1)) = w.setRow r (cellsT N (layS (k + 1))) := by
  rw [h.put0 hk, row_put h.row hk (by omega), row_put h.row hk (by omega), row_put h.row hk (by omega)]
  simp only [upd_same, upd_upd]
  rw [← lay_step]
  simp [setF, noFS]
theorem TblIs.congr {w : World} {p r N : Nat} {S T : Nat → FS} (h : TblIs w p r N S) (hT : okA T) (e : ∀ j, j < N → S j = T j) : TblIs w p r N T := ⟨h.head, by rw [← cellsT_congr e]; exact h.row, hT⟩

theorem new_bad (n : Int) (w : World) (h : ¬ (1 ≤ n ∧ n ≤ 64)) :
    Calls Try.prog 7 #[.int .i64 n] w fun e w' => e = .returned (.tuple #[.pointer none, .int .i64 1]) ∧ w' = w := by
  by_cases h1 : n < 1
  · clear h
    go_enter Try.func7, Try.ntmps7
    go_wp2
    go_ret2
    exact ⟨rfl, rfl⟩
  · have h2 : 64 < n := by omega
    clear h
    go_enter Try.func7, Try.ntmps7
    go_wp2
    go_ret2
    exact ⟨rfl, rfl⟩
theorem new_ok (N : Nat) (w : World) (hN1 : 1 ≤ N) (hN : N ≤ 64) :
    Calls Try.prog 7 #[.int .i64 N] w fun e w' => e = .returned (.tuple #[.pointer (some ⟨w.heap.size + 1, 0, none⟩), .int .i64 0]) ∧ TblIs w' (w.heap.size + 1) w.heap.size N (fun _ => noFS) ∧ Below w.heap.size w w' := by
  have h1 : (1 : Int) ≤ N := by omega
  have h2 : (N : Int) ≤ 64 := by omega
  have hmk := make_frames N hN
  go_enter Try.func7, Try.ntmps7
  go_wp2
  have e0 : layS 0 = fun _ => zFS := by funext i; simp [layS]
  have H0 : Hid (TblIs ((w.alloc (.cells (cellsT N fun _ => zFS) 51)).alloc (.cells #[.slice (some ⟨w.heap.size, 0, none⟩) N N] 48)) (w.heap.size + 1) w.heap.size N (layS 0)) := ⟨heap_alloc2_new _ _ _, by rw [e0]; exact heap_alloc2_old _ _ _, ok_lay 0⟩
  have HB0 : Hid (Below w.heap.size w ((w.alloc (.cells (cellsT N fun _ => zFS) 51)).alloc (.cells #[.slice (some ⟨w.heap.size, 0, none⟩) N N] 48))) := ((Below.refl _ w).alloc (Nat.le_refl _) _).alloc (by simp) _
  clear e0
  go_loopw [21] (fun i wr => ∃ k : Nat, k ≤ N ∧ i = .int .i64 k ∧ TblIs wr (w.heap.size + 1) w.heap.size N (layS k) ∧ Below w.heap.size w wr) (fun i _ => N - (intOf i).toNat)
  case atStart => exact ⟨0, by omega, rfl, H0.out, HB0.out⟩
  case round =>
    obtain ⟨k, hk, rfl, hI, hB⟩ := hrel
    have HI : Hid (TblIs wr (w.heap.size + 1) w.heap.size N (layS k)) := hI
    have HB : Hid (Below w.heap.size w wr) := hB
    clear hI hB H0 HB0 hmk
    by_cases hlt : k < N
    · have hki : (k : Int) < (N : Int) := by omega
      have d0 := HI.out.cell
      go_wp2
      go_region_with (go_at_call 23; (refine (nothing_any _).mono ?_; rintro e w1 ⟨rfl, hw1⟩; have HM : Hid (Below wr.heap.size wr w1) := (by rw [hw1]; exact ((Below.refl _ wr).drew).alloc (Nat.le_refl _) _); have HD : Hid (TblIs w1 (w.heap.size + 1) w.heap.size N (layS k)) := HI.out.more HM.out; clear hw1; have d1 := HD.out.cell; obtain ⟨c0, c1, c2, c3⟩ := HD.out.at hlt; have z0 := HD.out.free (k * 4); have z1 := HD.out.free (k * 4 + 1); have z2 := HD.out.free (k * 4 + 2); have z3 := HD.out.free (k * 4 + 3)))
      all_goals
        have HS : Hid (TblIs (w1.setRow w.heap.size (cellsT N (layS (k + 1)))) (w.heap.size + 1) w.heap.size N (layS (k + 1))) := HD.out.set (ok_lay _)
        have HB1 : Hid (Below w.heap.size w (w1.setRow w.heap.size (cellsT N (layS (k + 1))))) := below_setRow (HB.out.trans (HM.out.mono HB.out.size)) (Nat.le_refl _) _
        rw [HD.out.lay hlt]
        clear c0 c1 c2 c3 z0 z1 z2 z3 d0 d1
        go_wp2
        go_roundw
        case rel => exact ⟨k + 1, by omega, by go_num, HS.out, HB1.out⟩
        case measure => simp [intOf]; omega
    · obtain rfl : k = N := by omega
      go_wp2
      go_ret2
      exact ⟨rfl, HI.out.congr ok_no (fun j hj => by simp [layS, hj]), HB.out⟩

theorem awake_any (w : World) : Calls Try.prog 9 #[] w fun e w' => e = .returned (.bool true) ∧ Below w.heap.size w w' := by
  have he : errA 1 (fun _ => noFS) 0 (hRt 1 true) = 0 := rfl
  have hn : (toldA 1 (mapA 1 (fun _ => noFS) 0 (gRt 1 true)) 0).is = 1 := rfl
  have HO : Hid (okA (mapA 1 (fun _ => noFS) 0 (gRt 1 true))) := ok_map ok_no _ _ (ok_rt 1 true)
  obtain ⟨T, hT⟩ : ∃ T, T = mapA 1 (fun _ => noFS) 0 (gRt 1 true) := ⟨_, rfl⟩
  have HT : Hid (mapA 1 (fun _ => noFS) 0 (gRt 1 true) = T) := hT.symm
  rw [← hT] at hn HO
  clear hT
  go_enter Try.func9, Try.ntmps9
  go_wp2_with (first
    | (go_at_call 7; refine (new_ok 1 _ (by omega) (by omega)).mono ?_; rintro e w1 ⟨rfl, hc1, hb1⟩; have HC1 : Hid (TblIs w1 (w.heap.size + 1) w.heap.size 1 fun _ => noFS) := hc1; have HB1 : Hid (Below w.heap.size w w1) := hb1; clear hc1 hb1)
    | (go_at_call 10; refine (retype_any _ _ 1 0 1 true _ _ (by omega) (by omega) HC1.out).mono ?_; rintro e w2 ⟨rfl, hw2⟩; rw [HT.out] at hw2; rw [he]; have HC2 : Hid (TblIs w2 (w.heap.size + 1) w.heap.size 1 T) := (by rw [hw2]; exact HC1.out.set HO.out); have HB2 : Hid (Below w.heap.size w w2) := (by rw [hw2]; exact below_setRow HB1.out (Nat.le_refl _) _); clear hw2)
    | (go_at_call 19; refine (type_any _ _ 1 0 T _ (by omega) (by omega) HC2.out).mono ?_; rintro e w3 ⟨rfl, hw3⟩; rw [hn]; have HB3 : Hid (Below w.heap.size w w3) := HB2.out.trans (hw3.mono HB2.out.size); clear hw3))
  go_ret
  exact ⟨rfl, HB3.out⟩

end Go.Proofs.Ytiodocdbhjdfaaa
