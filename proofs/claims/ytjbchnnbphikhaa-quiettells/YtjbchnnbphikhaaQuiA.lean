/- What the calls of package quiet answer, for every argument that their types allow, over a clock that New made. -/
import Derived.Test.YtjbchnnbphikhaaQuiG
import Derived.Test.YtjbchnnbphikhaaClkA
import Derived.Deep.RegionHeld3
import Derived.BigRegion
namespace Go.Proofs.Ytjbchnnbphikhaa
open Go.RowKit
set_option linter.unusedVariables false

/-! ### seenBy -/
theorem seen_any (p : Nat) (was t : Int) (w : World) :
    Calls Try.prog 27 #[.pointer (some ⟨p, 0, none⟩), .int .i64 was, .int .i64 t] w fun e w' => e = .returned (.func (.func 30) #[] #[.pointer (some ⟨w.heap.size + 1, 0, none⟩), .pointer (some ⟨w.heap.size, 0, none⟩), .pointer (some ⟨w.heap.size + 2, 0, none⟩)]) ∧ w' = ((w.alloc (.cells #[.pointer (some ⟨p, 0, none⟩)] 24)).alloc (.cells #[.int .i64 was] 3)).alloc (.cells #[.int .i64 t] 3) := by
  go_enter Try.func27, Try.ntmps27
  go_wp2
  go_ret
  exact ⟨rfl, rfl⟩
/-- The three variables that the closure took. -/
structure Box (w : World) (B : Nat) (p : Nat) (was t : Int) : Prop where
  c : w.cell? ⟨B, 0, none⟩ = some (.pointer (some ⟨p, 0, none⟩))
  was : w.cell? ⟨B + 1, 0, none⟩ = some (.int .i64 was)
  time : w.cell? ⟨B + 2, 0, none⟩ = some (.int .i64 t)
theorem Box.lt {w : World} {B p : Nat} {was t : Int} (h : Box w B p was t) : B + 2 < w.heap.size := World.block_lt_of_cell? w _ h.time
theorem Box.below {w w' : World} {B p A : Nat} {was t : Int} (h : Box w B p was t) (hB : Below A w w') (hA : B + 2 < A) : Box w' B p was t :=
  ⟨(hB.cell (p := ⟨B, 0, none⟩) (by show B < A; omega)).trans h.c, (hB.cell (p := ⟨B + 1, 0, none⟩) (by show B + 1 < A; omega)).trans h.was, (hB.cell (p := ⟨B + 2, 0, none⟩) hA).trans h.time⟩
theorem seen1_any (B p N c : Nat) (s : CS) (was t : Int) (w : World) (hN1 : 1 ≤ N) (hN : N ≤ 4) (h : ClockIs w p N s) (hb : Box w B p was t) :
    Calls Try.prog 30 #[.int .i64 c, .pointer (some ⟨B + 1, 0, none⟩), .pointer (some ⟨B, 0, none⟩), .pointer (some ⟨B + 2, 0, none⟩)] w fun e w' => e = .returned (.bool (seenC N s was t c)) ∧ Below w.heap.size w w' := by
  have x1 := hb.c
  have x2 := hb.was
  have x3 := hb.time
  have HI : Hid (ClockIs w p N s) := h
  have HB : Hid (Box w B p was t) := hb
  have HF : Hid (∀ w1 : World, More w w1 → Calls Try.prog 31 #[.pointer (some ⟨p, 0, none⟩), .int .i64 c] w1 fun e w' => e = .returned (.int .i64 (flS N s c)) ∧ More w1 w') := fun w1 m => flushed_any p N c s w1 hN1 hN (HI.out.more m)
  have HE : Hid (∀ w1 : World, More w w1 → Calls Try.prog 32 #[.pointer (some ⟨p, 0, none⟩), .int .i64 c] w1 fun e w' => e = .returned (.int .i64 (enS N s c)) ∧ More w1 w') := fun w1 m => entered_any p N c s w1 hN1 hN (HI.out.more m)
  clear h hb
  obtain ⟨y, hy⟩ : ∃ y, y = flS N s c := ⟨_, rfl⟩
  obtain ⟨z, hz⟩ : ∃ z, z = enS N s c := ⟨_, rfl⟩
  unfold seenC
  rw [← hy] at HF ⊢
  rw [← hz] at HE ⊢
  clear hy hz HI
  by_cases h0 : was = 0
  · subst h0
    simp only [if_true]
    go_enter Try.func30, Try.ntmps30
    go_wp2
    go_ret
    exact ⟨rfl, Below.refl _ _⟩
  have b0 : (was == 0) = false := by simp [h0]
  by_cases h3 : was = 3
  · subst h3
    simp only [if_true, if_false, h0]
    by_cases hy : y ≤ t
    · have hy' : ¬ t < y := by omega
      simp only [hy', decide_false, Bool.false_and]
      clear hy'
      go_enter Try.func30, Try.ntmps30
      go_wp2
      go_region_held3 (fun w' => w'.cell? ⟨B, 0, none⟩ = some (.pointer (some ⟨p, 0, none⟩)) ∧ w'.cell? ⟨B + 2, 0, none⟩ = some (.int .i64 t)) (first | exact ⟨by assumption, by assumption⟩ | go_keep)
      (first
        | (go_at_call 31; refine (HF.out _ (More.refl _).drew).mono ?_; rintro e w1 ⟨rfl, hm⟩; have HM : Hid (More w w1) := (More.refl w).drew.trans hm; clear hm x1 x2 x3; have x1 := (HB.out.below HM.out.below HB.out.lt).c; have x3 := (HB.out.below HM.out.below HB.out.lt).time)
        | fail)
      go_wp2
      go_ret
      exact ⟨rfl, HM.out.below⟩
    · have hy' : t < y := by omega
      simp only [hy', decide_true, Bool.true_and]
      clear hy'
      go_enter Try.func30, Try.ntmps30
      go_wp2
      go_region_held3 (fun w' => w'.cell? ⟨B, 0, none⟩ = some (.pointer (some ⟨p, 0, none⟩)) ∧ w'.cell? ⟨B + 2, 0, none⟩ = some (.int .i64 t)) (first | exact ⟨by assumption, by assumption⟩ | go_keep)
      (first
        | (go_at_call 31; refine (HF.out _ (More.refl _).drew).mono ?_; rintro e w1 ⟨rfl, hm⟩; have HM : Hid (More w w1) := (More.refl w).drew.trans hm; clear hm x1 x2 x3; have x1 := (HB.out.below HM.out.below HB.out.lt).c; have x3 := (HB.out.below HM.out.below HB.out.lt).time)
        | fail)
      go_wp2
      go_region_held3 (fun w' => w'.cell? ⟨B, 0, none⟩ = some (.pointer (some ⟨p, 0, none⟩)) ∧ w'.cell? ⟨B + 2, 0, none⟩ = some (.int .i64 t)) (first | exact ⟨by assumption, by assumption⟩ | go_keep)
      (first
        | (go_at_call 32; refine (HE.out _ HM.out.drew).mono ?_; rintro e w2 ⟨rfl, hm⟩; have HM2 : Hid (More w w2) := HM.out.drew.trans hm; clear hm x1 x3; have x1 := (HB.out.below HM2.out.below HB.out.lt).c; have x3 := (HB.out.below HM2.out.below HB.out.lt).time)
        | fail)
      go_wp2
      go_ret
      exact ⟨rfl, HM2.out.below⟩
  have b3 : (was == 3) = false := by simp [h3]
  by_cases h2 : was = 2
  · subst h2
    simp only [if_true, if_false, h0, h3]
    go_enter Try.func30, Try.ntmps30
    go_wp2
    go_region_held3 (fun w' => w'.cell? ⟨B, 0, none⟩ = some (.pointer (some ⟨p, 0, none⟩)) ∧ w'.cell? ⟨B + 2, 0, none⟩ = some (.int .i64 t)) (first | exact ⟨by assumption, by assumption⟩ | go_keep)
    (first
      | (go_at_call 32; refine (HE.out _ (More.refl _).drew).mono ?_; rintro e w2 ⟨rfl, hm⟩; have HM2 : Hid (More w w2) := (More.refl w).drew.trans hm; clear hm x1 x2 x3; have x1 := (HB.out.below HM2.out.below HB.out.lt).c; have x3 := (HB.out.below HM2.out.below HB.out.lt).time)
      | fail)
    go_wp2
    go_ret
    exact ⟨rfl, HM2.out.below⟩
  have b2 : (was == 2) = false := by simp [h2]
  by_cases h1 : was = 1
  · subst h1
    simp only [if_true, if_false, h0, h3, h2]
    go_enter Try.func30, Try.ntmps30
    go_wp2
    go_region_held3 (fun w' => w'.cell? ⟨B, 0, none⟩ = some (.pointer (some ⟨p, 0, none⟩)) ∧ w'.cell? ⟨B + 2, 0, none⟩ = some (.int .i64 t)) (first | exact ⟨by assumption, by assumption⟩ | go_keep)
    (first
      | (go_at_call 31; refine (HF.out _ (More.refl _).drew).mono ?_; rintro e w2 ⟨rfl, hm⟩; have HM2 : Hid (More w w2) := (More.refl w).drew.trans hm; clear hm x1 x2 x3; have x1 := (HB.out.below HM2.out.below HB.out.lt).c; have x3 := (HB.out.below HM2.out.below HB.out.lt).time)
      | fail)
    go_wp2
    go_ret
    exact ⟨rfl, HM2.out.below⟩
  have b1 : (was == 1) = false := by simp [h1]
  simp only [if_false, h0, h3, h2, h1]
  go_enter Try.func30, Try.ntmps30
  go_wp2
  go_ret
  exact ⟨rfl, Below.refl _ _⟩

/-! ### Left -/
theorem box_new (p : Nat) (was t : Int) (w : World) : Box (((w.alloc (.cells #[.pointer (some ⟨p, 0, none⟩)] 24)).alloc (.cells #[.int .i64 was] 3)).alloc (.cells #[.int .i64 t] 3)) w.heap.size p was t ∧ Below w.heap.size w (((w.alloc (.cells #[.pointer (some ⟨p, 0, none⟩)] 24)).alloc (.cells #[.int .i64 was] 3)).alloc (.cells #[.int .i64 t] 3)) := by
  obtain ⟨wa, ha⟩ : ∃ x, x = w.alloc (.cells #[.pointer (some ⟨p, 0, none⟩)] 24) := ⟨_, rfl⟩
  obtain ⟨wb, hb⟩ : ∃ x, x = wa.alloc (.cells #[.int .i64 was] 3) := ⟨_, rfl⟩
  have sa : wa.heap.size = w.heap.size + 1 := by rw [ha]; simp
  have sb : wb.heap.size = w.heap.size + 2 := by rw [hb]; simp [sa]
  have r1 : wa.heap[w.heap.size]? = some (.cells #[.pointer (some ⟨p, 0, none⟩)] 24 (0, 0)) := by rw [ha]; exact heap_alloc_new _ _
  have r2 : wb.heap[w.heap.size + 1]? = some (.cells #[.int .i64 was] 3 (0, 0)) := by rw [hb, ← sa]; exact heap_alloc_new _ _
  have r3 : (wb.alloc (.cells #[.int .i64 t] 3)).heap[w.heap.size + 2]? = some (.cells #[.int .i64 t] 3 (0, 0)) := by rw [← sb]; exact heap_alloc_new _ _
  rw [← ha, ← hb]
  refine ⟨⟨?_, ?_, ?_⟩, ?_⟩
  · rw [cell_of_row _ _ 0 _ _ _ ((Below.heap_alloc wb _ _ (by omega)).trans ((congrArg (fun x : World => x.heap[w.heap.size]?) hb).trans ((Below.heap_alloc wa _ _ (by omega)).trans r1)))]; rfl
  · rw [cell_of_row _ _ 0 _ _ _ ((Below.heap_alloc wb _ _ (by omega)).trans r2)]; rfl
  · rw [cell_of_row _ _ 0 _ _ _ r3]; rfl
  · rw [hb, ha]
    exact (((Below.refl _ w).alloc (Nat.le_refl _) _).alloc (by simp) _).alloc (by simp; omega) _
theorem infoI : (Try.prog.info? 3).map (fun i => (i.zero, i.size, i.bytes)) = some (some (.int .i64 0), 1, 8) := by kernel_rfl
theorem left_any (p N : Nat) (s : CS) (was t : Int) (w : World) (hN1 : 1 ≤ N) (hN : N ≤ 4) (h : ClockIs w p N s) :
    Calls Try.prog 15 #[.pointer (some ⟨p, 0, none⟩), .int .i64 was, .int .i64 t] w fun e w' => (∃ v, e = .returned v ∧ Got w' w.heap.size v (leftL N s was t)) ∧ Below w.heap.size w w' := by
  obtain ⟨it, hi, hz0, hz1, hz2⟩ := info_parts infoI
  have x1 := h.cell
  have HI : Hid (ClockIs w p N s) := h
  clear h
  unfold leftL
  obtain ⟨f, hf⟩ : ∃ f : Nat → Bool, f = fun (i : Nat) => seenC N s was t (i : Int) := ⟨_, rfl⟩
  rw [← hf]
  have HF : Hid (∀ i : Nat, seenC N s was t i = f i) := fun i => by rw [hf]
  clear hf
  go_enter Try.func15, Try.ntmps15
  go_wp2_with (first
    | (go_at_call 27; refine (seen_any p was t _).mono ?_; rintro e w1 ⟨rfl, hw1⟩; have HB1 : Hid (Box w1 w.heap.size p was t ∧ Below w.heap.size w w1) := (by rw [hw1]; exact box_new p was t w); clear hw1; have x1 := (HI.out.below HB1.out.2 HI.out.lt).cell)
    | (go_at_call 28; refine (cores_some p N _ x1).mono ?_; rintro e w2 ⟨rfl, hw2⟩; subst w2)
    | fail)
  clear x1
  go_loopw [7, 16] (fun l i wr => ∃ k : Nat, k ≤ N ∧ i = .int .i64 k ∧ wr.ownsRow (w.heap.size + 3) 3 1 l (leftU f k).length (vals (leftU f k)) ∧ Box wr w.heap.size p was t ∧ Below w.heap.size w wr) (fun _ i _ => N - (intOf i).toNat)
  case atStart => exact ⟨0, by omega, rfl, World.ownsRow_nil _ _ _ _, HB1.out⟩
  case round =>
    obtain ⟨k, hk, rfl, hO, hX, hB⟩ := hrel
    have HO : Hid (wr.ownsRow (w.heap.size + 3) 3 1 u7 (leftU f k).length (vals (leftU f k))) := hO
    have HX : Hid (Box wr w.heap.size p was t) := hX
    have HB : Hid (Below w.heap.size w wr) := hB
    clear hO hX hB HB1
    by_cases hlt : k < N
    · have hki : (k : Int) < (N : Int) := by omega
      have C1 := seen1_any w.heap.size p N k s was t wr hN1 hN (HI.out.below HB.out HI.out.lt) HX.out
      rw [HF.out k] at C1
      have HC1 : Hid (Calls Try.prog 30 #[.int .i64 k, .pointer (some ⟨w.heap.size + 1, 0, none⟩), .pointer (some ⟨w.heap.size, 0, none⟩), .pointer (some ⟨w.heap.size + 2, 0, none⟩)] wr fun e w' => e = .returned (.bool (f k)) ∧ Below wr.heap.size wr w') := C1
      clear C1
      have hl := len_leftU f k
      have hxs := HX.out.lt
      cases hb : f k
      · rw [hb] at HC1
        go_wp2_with (first
          | (go_at_call 30; refine HC1.out.mono ?_; rintro e w2 ⟨rfl, hw2⟩; have H2 : Hid (Below wr.heap.size wr w2) := hw2; clear hw2; have O2 : Hid (w2.ownsRow (w.heap.size + 3) 3 1 u7 (leftU f k).length (vals (leftU f k))) := row_below HO.out H2.out (Nat.le_refl _); have hs2 : w.heap.size + 3 ≤ w2.heap.size := Nat.le_trans hxs H2.out.size)
          | (at_builtin; refine wpList_append_own_at _ rfl _ _ 23 rfl (w.heap.size + 3) 3 it (.int .i64 0) 1 8 Try.underlying23 hi hz0 hz1 hz2 rfl (by decide) _ _ _ rfl (O2.out.alloc _) _ 1 1 [.int .i64 (k : Int)] rfl rfl (one_cell w2 _ _) (by simp [Value.oneCell']) (by unfold maxLen; omega) (by omega) (by simp; omega) ?_; intro v1 w3 hown hgrow _ hat; have HO3 : Hid (w3.ownsRow (w.heap.size + 3) 3 1 v1 (leftU f (k + 1)).length (vals (leftU f (k + 1)))) := (by rw [leftU_no hb, vals_snoc, List.length_append, List.length_singleton]; exact hown); have H3 : Hid (Below (w.heap.size + 3) wr w3) := ((H2.out.mono (by omega)).alloc (by omega) _).grown hgrow (by simp; omega) (own_ge' O2.out); clear hown hgrow hat)
          | fail)
        go_roundw
        case rel => exact ⟨k + 1, by omega, by go_num, HO3.out, HX.out.below H3.out (by omega), HB.out.trans (H3.out.mono (by omega))⟩
        case measure => simp [intOf]; omega
      · rw [hb] at HC1
        go_wp2_with (first
          | (go_at_call 30; refine HC1.out.mono ?_; rintro e w2 ⟨rfl, hw2⟩; have H2 : Hid (Below wr.heap.size wr w2) := hw2; clear hw2)
          | fail)
        go_roundw
        case rel =>
          refine ⟨k + 1, by omega, by go_num, ?_, HX.out.below H2.out hxs, HB.out.trans (H2.out.mono HB.out.size)⟩
          rw [leftU_yes hb]
          exact row_below HO.out H2.out (Nat.le_refl _)
        case measure => simp [intOf]; omega
    · obtain rfl : k = N := by omega
      go_wp2
      go_ret
      exact ⟨⟨_, rfl, (got_of_own HO.out).mono (Nat.le_add_right _ _)⟩, HB.out⟩

/-! ### For, Kernel, User -/
theorem for_any (p N : Nat) (s : CS) (was t : Int) (w : World) (hN1 : 1 ≤ N) (hN : N ≤ 4) (h : ClockIs w p N s) :
    Calls Try.prog 21 #[.pointer (some ⟨p, 0, none⟩), .int .i64 was, .int .i64 t] w fun e w' => e = .returned (.bool (quF N s was t)) ∧ Below w.heap.size w w' := by
  have x1 := h.cell
  have HI : Hid (ClockIs w p N s) := h
  clear h
  by_cases h0 : was = 0
  · subst h0
    rw [quF_zero]
    go_enter Try.func21, Try.ntmps21
    go_wp2
    go_ret
    exact ⟨rfl, Below.refl _ _⟩
  have b0 : (was == 0) = false := by simp [h0]
  have hNi : 0 < (N : Int) := by omega
  have hNn : 0 < N := by omega
  go_enter Try.func21, Try.ntmps21
  go_wp2_with (first
    | (go_at_call 28; refine (cores_some p N _ x1).mono ?_; rintro e w2 ⟨rfl, hw2⟩; subst w2)
    | (go_at_call 15; refine (left_any p N s was t _ hN1 hN HI.out).mono ?_; rintro e w2 ⟨⟨v, rfl, a, cap, rfl, -⟩, hw2⟩; have H2 : Hid (Below w.heap.size w w2) := hw2; clear hw2)
    | fail)
  go_ret
  exact ⟨rfl, H2.out⟩
theorem kernel_any (p N : Nat) (s : CS) (t : Int) (w : World) (hN1 : 1 ≤ N) (hN : N ≤ 4) (h : ClockIs w p N s) :
    Calls Try.prog 17 #[.pointer (some ⟨p, 0, none⟩), .int .i64 t] w fun e w' => e = .returned (.bool (quF N s 2 t)) ∧ Below w.heap.size w w' := by
  have HI : Hid (ClockIs w p N s) := h
  clear h
  go_enter Try.func17, Try.ntmps17
  go_wp2_with (first
    | (go_at_call 21; refine (for_any p N s 2 t _ hN1 hN HI.out).mono ?_; rintro e w2 ⟨rfl, hw2⟩; have H2 : Hid (Below w.heap.size w w2) := hw2; clear hw2)
    | fail)
  go_ret
  exact ⟨rfl, H2.out⟩
theorem user_any (p N : Nat) (s : CS) (t : Int) (w : World) (hN1 : 1 ≤ N) (hN : N ≤ 4) (h : ClockIs w p N s) :
    Calls Try.prog 19 #[.pointer (some ⟨p, 0, none⟩), .int .i64 t] w fun e w' => e = .returned (.bool (quF N s 1 t)) ∧ Below w.heap.size w w' := by
  have HI : Hid (ClockIs w p N s) := h
  clear h
  go_enter Try.func19, Try.ntmps19
  go_wp2_with (first
    | (go_at_call 21; refine (for_any p N s 1 t _ hN1 hN HI.out).mono ?_; rintro e w2 ⟨rfl, hw2⟩; have H2 : Hid (Below w.heap.size w w2) := hw2; clear hw2)
    | fail)
  go_ret
  exact ⟨rfl, H2.out⟩

end Go.Proofs.Ytjbchnnbphikhaa
