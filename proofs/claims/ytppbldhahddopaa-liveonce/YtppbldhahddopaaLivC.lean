/- What New of package live answers and makes; and what 'awake' of the statements answers. -/
import Derived.Test.YtppbldhahddopaaLivB
import Derived.BigRegion
namespace Go.Proofs.Ytppbldhahddopaa
open Go.RowKit
set_option linter.unusedVariables false

theorem infoBeing : (Try.prog.info? 53).map (fun i => (i.zero, i.size, i.bytes)) = some (some (.agg #[.bool false, .int .i64 0, .int .i64 0]), 3, 24) := by kernel_rfl
theorem made_beings (N : Nat) : madeCells #[.bool false, .int .i64 0, .int .i64 0] (N * 3) = cellsT N fun _ => noLS := by
  apply Array.ext_getElem?
  intro i
  by_cases hi : i < N * 3
  · rw [cellsT_get hi]
    have h4 : i % 3 < 3 := by omega
    have key : ∀ j, j < 3 → (#[Value.bool false, .int .i64 0, .int .i64 0] : Array Value)[j]? = some (fld noLS j) := by
      intro j hj
      match j, hj with
      | 0, _ => rfl
      | 1, _ => rfl
      | 2, _ => rfl
    have k4 := key _ h4
    simp only [List.getElem?_toArray] at k4
    simp [madeCells, hi, k4]
  · simp [madeCells, cellsT, hi]
theorem make_beings (w : World) :
    (Instr.makeSlice 42 (.int .i64 64) (.int .i64 64)).run Try.prog w = .ok (.slice (some ⟨w.heap.size, 0, none⟩) 64 64) (w.alloc (.cells (cellsT 64 fun _ => noLS) 53)) := by
  obtain ⟨i0, hi, hz0, hz1, hz2⟩ := info_parts infoBeing
  have := run_make (P := Try.prog) w 42 53 i0 _ Try.underlying42 hi hz0 .i64 .i64 64 64 (by omega) (by omega) (by rw [hz2]; omega) (by omega)
  rw [hz1] at this
  simpa [Value.cells, made_beings 64] using this
/-- The call's table has the ids S; nothing of w was changed. -/
structure Own (w wr : World) (S : Nat → LS) : Prop where
  tbl : TblIs wr (w.heap.size + 1) w.heap.size 64 S
  below : Below w.heap.size w wr
theorem Own.drew {w wr : World} {S : Nat → LS} (h : Own w wr S) : Own w wr.drew S := ⟨h.tbl.drew, h.below.drew⟩
theorem Own.drewN {w wr : World} {S : Nat → LS} (h : Own w wr S) (n : Nat) : Own w (wr.drewN n) S := ⟨h.tbl.drewN n, below_drewN h.below n⟩
theorem Own.more {w wr w' : World} {S : Nat → LS} (h : Own w wr S) (k : Below wr.heap.size wr w') : Own w w' S := ⟨h.tbl.more k, h.below.trans (k.mono h.below.size)⟩
theorem Own.did {w wr w' : World} {S T : Nat → LS} (h : Own w wr S) (k : Did wr w' w.heap.size 64 T) (hT : okA T) : Own w w' T := ⟨k.tbl h.tbl hT, h.below.trans (k.below (Nat.le_refl _) h.below.size)⟩
theorem new_any (w : World) :
    Calls Try.prog 8 #[] w fun e w' => e = .returned (.pointer (some ⟨w.heap.size + 1, 0, none⟩)) ∧ Own w w' (fun _ => noLS) := by
  have hmk := make_beings
  go_enter Try.func8, Try.ntmps8
  go_wp2
  go_ret
  exact ⟨rfl, ⟨heap_alloc2_new _ _ _, heap_alloc2_old _ _ _, ok_no⟩, ((Below.refl _ w).alloc (Nat.le_refl _) _).alloc (by simp) _⟩
theorem take_own {w wr : World} {S : Nat → LS} (fl : Int) (h : Own w wr S) :
    Calls Try.prog 12 #[.pointer (some ⟨w.heap.size + 1, 0, none⟩), .int .i64 fl] wr fun e w' => e = .returned (.tuple #[.int .i64 (tkI 64 S fl), .int .i64 (tkE 64 S fl), .int .i64 (tkR 64 S fl)]) ∧ Own w w' (tkS 64 S fl) :=
  (take_any _ _ 64 S fl wr (by omega) (by omega) h.tbl).mono fun _ _ ⟨h1, h2⟩ => ⟨h1, h.did h2 (ok_tk h.tbl.ok 64 fl)⟩
theorem valid_own {w wr : World} {S : Nat → LS} (id ep : Int) (h : Own w wr S) :
    Calls Try.prog 14 #[.pointer (some ⟨w.heap.size + 1, 0, none⟩), .int .i64 id, .int .i64 ep] wr fun e w' => e = .returned (.bool (vaA 64 S id ep)) ∧ Own w w' S :=
  (valid_any _ _ 64 S id ep wr (by omega) (by omega) h.tbl).mono fun _ _ ⟨h1, h2⟩ => ⟨h1, h.more h2⟩
theorem kill_own {w wr : World} {S : Nat → LS} (id ep now : Int) (h : Own w wr S) :
    Calls Try.prog 10 #[.pointer (some ⟨w.heap.size + 1, 0, none⟩), .int .i64 id, .int .i64 ep, .int .i64 now] wr fun e w' => e = .returned (.int .i64 (klR 64 S id ep)) ∧ Own w w' (klS 64 S id ep now) :=
  (kill_any _ _ 64 S id ep now wr (by omega) (by omega) h.tbl).mono fun _ _ ⟨h1, h2⟩ => ⟨h1, h.did h2 (ok_kl h.tbl.ok 64 id ep now)⟩
theorem count_own {w wr : World} {S : Nat → LS} (h : Own w wr S) :
    Calls Try.prog 16 #[.pointer (some ⟨w.heap.size + 1, 0, none⟩)] wr fun e w' => e = .returned (.int .i64 (cnt S 64)) ∧ Own w w' S :=
  (count_any _ _ 64 S wr (by omega) (by omega) h.tbl).mono fun _ _ ⟨h1, h2⟩ => ⟨h1, h.more h2⟩

theorem awake_any (w : World) : Calls Try.prog 18 #[] w fun e w' => e = .returned (.bool true) ∧ Below w.heap.size w w' := by
  obtain ⟨q1, q2, q3, q4⟩ := tk_hit (N := 64) (S := fun _ => noLS) (fl := 0) (k := 0) (by omega) rfl (fun j hj => by omega)
  have q5 : vaA 64 (tkS 64 (fun _ => noLS) 0) 0 0 = true := by rw [q4]; rfl
  have Q : Hid (tkI 64 (fun _ => noLS) 0 = 0 ∧ tkE 64 (fun _ => noLS) 0 = 0 ∧ tkR 64 (fun _ => noLS) 0 = 0) := ⟨q1, q2, q3⟩
  have Q5 : Hid (vaA 64 (tkS 64 (fun _ => noLS) 0) 0 0 = true) := q5
  clear q1 q2 q3 q4 q5
  go_enter Try.func18, Try.ntmps18
  go_wp2_with (first
    | (go_at_call 8; refine (new_any _).mono ?_; rintro e w1 ⟨rfl, h1⟩; have H1 : Hid (Own w w1 fun _ => noLS) := h1; clear h1)
    | (go_at_call 12; refine (take_own 0 H1.out).mono ?_; rintro e w2 ⟨rfl, h2⟩; rw [Q.out.1, Q.out.2.1, Q.out.2.2]; have H2 : Hid (Own w w2 (tkS 64 (fun _ => noLS) 0)) := h2; clear h2)
    | (go_at_call 14; refine (valid_own 0 0 H2.out).mono ?_; rintro e w3 ⟨rfl, h3⟩; rw [Q5.out]; have H3 : Hid (Below w.heap.size w w3) := h3.below; clear h3)
    | fail)
  go_ret
  exact ⟨rfl, H3.out⟩

end Go.Proofs.Ytppbldhahddopaa
