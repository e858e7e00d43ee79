/- What the calls of package live answer, and what they do to the ids, for every argument that their types allow: all but New. -/
import Derived.Test.YtppbldhahddopaaLivA
import Derived.Deep.RegionHeld3
import Derived.Deep.RegionWith
import Derived.OwnWalk
namespace Go.Proofs.Ytppbldhahddopaa
open Go.Shelf Go.RowKit Go.Lib
set_option linter.unusedVariables false

/-! ### slices.IndexFunc over the table's ids -/
theorem idx_any (p r N B : Nat) (S : Nat → LS) (fl : Int) (w : World) (hN : N ≤ 64) (h : TblIs w p r N S) (hc : w.cell? ⟨B, 0, none⟩ = some (.int .i64 fl)) :
    Calls Try.prog 22 #[.slice (some ⟨r, 0, none⟩) N N, .func (.func 24) #[] #[.pointer (some ⟨B, 0, none⟩)]] w fun e w' => e = .returned (.int .i64 (if tkN N S fl < N then (tkN N S fl : Int) else -1)) ∧ Below w.heap.size w w' := by
  letI : Inhabited LS := ⟨noLS⟩
  have hcon := AnyQ.slices_IndexFunc (α := LS) idxBeing 3 Try.isAgg53 Try.sizeOf53 encL (fun _ => rfl) (may fl) 24 #[.pointer (some ⟨B, 0, none⟩)] eg_may r 0 N N ((List.range N).map S) w
    (may_pred B fl w (World.block_lt_of_cell? w _ hc) hc) (by simp) (by omega) h.ltr (fun j hj i v hi => by
      have hj' : j < N := by simpa using hj
      have e : ((List.range N).map S)[j]! = S j := by simp [hj']
      rw [e] at hi
      obtain ⟨g0, g1, g2⟩ := h.at hj'
      match i, hi with
      | 0, hi => simp [encL] at hi; rw [← hi]; simpa using g0
      | 1, hi => simp [encL] at hi; rw [← hi]; simpa using g1
      | 2, hi => simp [encL] at hi; rw [← hi]; simpa using g2
      | i + 3, hi => simp [encL] at hi)
  have e : Lib.idxBy (fun _ y => may fl y) (((List.range N).map S).take N) default = if tkN N S fl < N then (tkN N S fl : Int) else -1 := by
    rcases first_cases (may fl) S N with ⟨k, hk, h1, h0⟩ | h0
    · have e1 : tkN N S fl = k := first_hit hk h1 h0
      rw [e1, if_pos hk]
      exact Lib.idxBy_hit (fun _ y => may fl y) _ N k default hk (by simp) (by simpa [hk] using h1) (fun j hj => by simpa [show j < N by omega] using h0 j hj)
    · have e1 : tkN N S fl = N := first_miss h0
      rw [e1, if_neg (Nat.lt_irrefl _)]
      exact Lib.idxBy_miss (fun _ y => may fl y) _ N default (fun j hj => by simpa [hj] using h0 j hj)
  rw [e] at hcon
  exact hcon

theorem new_cell (w : World) (fl : Int) : (w.drew.alloc (.cells #[.int .i64 fl] 3)).cell? ⟨w.heap.size, 0, none⟩ = some (.int .i64 fl) := by
  exact World.cell?_alloc_new (w := w.drew) #[.int .i64 fl] 3 0
/-! ### Take -/
theorem take_nil (fl : Int) (w : World) :
    Calls Try.prog 12 #[.pointer none, .int .i64 fl] w fun e w' => e = .returned (.tuple #[.int .i64 0, .int .i64 0, .int .i64 13]) ∧ w' = w := by
  go_enter Try.func12, Try.ntmps12
  go_wp2_with (go_at_call 19; refine (unmade_nil _).mono ?_; rintro e w' ⟨rfl, rfl⟩)
  go_ret3
  exact ⟨rfl, rfl⟩
theorem take_zero (p : Nat) (fl : Int) (w : World) (hp : w.cell? ⟨p, 0, none⟩ = some (.slice none 0 0)) :
    Calls Try.prog 12 #[.pointer (some ⟨p, 0, none⟩), .int .i64 fl] w fun e w' => e = .returned (.tuple #[.int .i64 0, .int .i64 0, .int .i64 13]) ∧ w' = w := by
  go_enter Try.func12, Try.ntmps12
  go_wp2_with (go_at_call 19; refine (unmade_zero p _ hp).mono ?_; rintro e w' ⟨rfl, rfl⟩)
  go_ret3
  exact ⟨rfl, rfl⟩
set_option maxHeartbeats 1000000 in
theorem take_any (p r N : Nat) (S : Nat → LS) (fl : Int) (w : World) (hN1 : 1 ≤ N) (hN : N ≤ 64) (h : TblIs w p r N S) :
    Calls Try.prog 12 #[.pointer (some ⟨p, 0, none⟩), .int .i64 fl] w fun e w' => e = .returned (.tuple #[.int .i64 (tkI N S fl), .int .i64 (tkE N S fl), .int .i64 (tkR N S fl)]) ∧ Did w w' r N (tkS N S fl) := by
  have HI : Hid (TblIs w p r N S) := h
  have d0 := h.cell
  clear h
  rcases first_cases (may fl) S N with ⟨k, hk, h1, h0⟩ | h0
  · have e1 : tkN N S fl = k := first_hit hk h1 h0
    obtain ⟨q1, q2, q3, q4⟩ := tk_hit hk h1 h0
    rw [q1, q2, q3, q4]
    have HX : Hid ((if tkN N S fl < N then (tkN N S fl : Int) else -1) = k) := by
      have : (if tkN N S fl < N then (tkN N S fl : Int) else -1) = k := by rw [e1, if_pos hk]
      exact this
    clear h0 h1 e1 q1 q2 q3 q4
    have hki : (k : Int) < (N : Int) := by omega
    go_enter Try.func12, Try.ntmps12
    go_wp2_with (go_at_call 19; refine (unmade_ok p r N _ hN1 d0).mono ?_; rintro e w' ⟨rfl, hw'⟩; subst w')
    go_region_held3 (fun w' => w'.cell? ⟨p, 0, none⟩ = some (.slice (some ⟨r, 0, none⟩) N N)) (first | assumption | go_keep)
    (first
      | (go_at_call 23; refine (may_any fl _).mono ?_; rintro e w1 ⟨rfl, hw1⟩; have HB1 : Hid (Below w.heap.size w w1) := (by rw [hw1]; exact ((Below.refl _ w).drew).alloc (Nat.le_refl _) _); have hm1 : w1.cell? ⟨w.heap.size, 0, none⟩ = some (.int .i64 fl) := (by rw [hw1]; exact new_cell _ _); have HM1 : Hid (w1.cell? ⟨w.heap.size, 0, none⟩ = some (.int .i64 fl)) := hm1; clear hm1; have H1 : Hid (TblIs w1 p r N S) := HI.out.more HB1.out; clear hw1 d0; have d0 := H1.out.cell)
      | (go_at_call 22; refine (idx_any p r N w.heap.size S fl _ hN H1.out HM1.out).mono ?_; rintro e w2 ⟨rfl, hw2⟩; rw [HX.out]; have HB2 : Hid (Below w.heap.size w w2) := HB1.out.trans (hw2.mono HB1.out.size); have H2 : Hid (TblIs w2 p r N S) := H1.out.more hw2; clear hw2 d0; have d0 := H2.out.cell)
      | fail)
    obtain ⟨c0, c1, c2⟩ := H2.out.at hk
    have z0 := H2.out.free (k * 3)
    go_wp2
    obtain ⟨w3, hw3⟩ : ∃ w3, w3 = w2.setCell ⟨r, k * 3, none⟩ (.bool true) := ⟨_, rfl⟩
    have HD : Hid (Did w w3 r N (upd S k { S k with on := true })) := ⟨w2, HB2.out, by rw [hw3, H2.out.put0 hk]⟩
    have c1' : w3.cell? ⟨r, k * 3 + 1, none⟩ = some (.int .i64 (S k).ep) := by rw [hw3]; simpa [World.cell?_setCell_other] using c1
    rw [← hw3]
    clear hw3 c0 c1 c2 z0 d0
    go_quiet (fail)
    go_wp2
    go_ret3
    exact ⟨rfl, HD.out.drewN _⟩
  · have e1 : tkN N S fl = N := first_miss h0
    obtain ⟨q1, q2, q3, q4⟩ := tk_miss h0
    rw [q1, q2, q3, q4]
    have HX : Hid ((if tkN N S fl < N then (tkN N S fl : Int) else -1) = -1) := by
      have : (if tkN N S fl < N then (tkN N S fl : Int) else -1) = -1 := by rw [e1, if_neg (Nat.lt_irrefl _)]
      exact this
    clear h0 e1 q1 q2 q3 q4
    go_enter Try.func12, Try.ntmps12
    go_wp2_with (go_at_call 19; refine (unmade_ok p r N _ hN1 d0).mono ?_; rintro e w' ⟨rfl, hw'⟩; subst w')
    go_region_held3 (fun w' => w'.cell? ⟨p, 0, none⟩ = some (.slice (some ⟨r, 0, none⟩) N N)) (first | assumption | go_keep)
    (first
      | (go_at_call 23; refine (may_any fl _).mono ?_; rintro e w1 ⟨rfl, hw1⟩; have HB1 : Hid (Below w.heap.size w w1) := (by rw [hw1]; exact ((Below.refl _ w).drew).alloc (Nat.le_refl _) _); have hm1 : w1.cell? ⟨w.heap.size, 0, none⟩ = some (.int .i64 fl) := (by rw [hw1]; exact new_cell _ _); have HM1 : Hid (w1.cell? ⟨w.heap.size, 0, none⟩ = some (.int .i64 fl)) := hm1; clear hm1; have H1 : Hid (TblIs w1 p r N S) := HI.out.more HB1.out; clear hw1 d0; have d0 := H1.out.cell)
      | (go_at_call 22; refine (idx_any p r N w.heap.size S fl _ hN H1.out HM1.out).mono ?_; rintro e w2 ⟨rfl, hw2⟩; rw [HX.out]; have HB2 : Hid (Below w.heap.size w w2) := HB1.out.trans (hw2.mono HB1.out.size); have H2 : Hid (TblIs w2 p r N S) := H1.out.more hw2; clear hw2 d0; have d0 := H2.out.cell)
      | fail)
    go_wp2
    go_ret3
    exact ⟨rfl, Did.none HI.out HB2.out⟩

/-! ### Kill -/
theorem kill_nil (id e now : Int) (w : World) :
    Calls Try.prog 10 #[.pointer none, .int .i64 id, .int .i64 e, .int .i64 now] w fun e w' => e = .returned (.int .i64 13) ∧ w' = w := by
  go_enter Try.func10, Try.ntmps10
  go_wp2_with (go_at_call 19; refine (unmade_nil _).mono ?_; rintro e w' ⟨rfl, rfl⟩)
  go_ret
  exact ⟨rfl, rfl⟩
theorem kill_zero (p : Nat) (id e now : Int) (w : World) (hp : w.cell? ⟨p, 0, none⟩ = some (.slice none 0 0)) :
    Calls Try.prog 10 #[.pointer (some ⟨p, 0, none⟩), .int .i64 id, .int .i64 e, .int .i64 now] w fun e w' => e = .returned (.int .i64 13) ∧ w' = w := by
  go_enter Try.func10, Try.ntmps10
  go_wp2_with (go_at_call 19; refine (unmade_zero p _ hp).mono ?_; rintro e w' ⟨rfl, rfl⟩)
  go_ret
  exact ⟨rfl, rfl⟩
theorem kill_any (p r N : Nat) (S : Nat → LS) (id ep now : Int) (w : World) (hN1 : 1 ≤ N) (hN : N ≤ 64) (h : TblIs w p r N S) :
    Calls Try.prog 10 #[.pointer (some ⟨p, 0, none⟩), .int .i64 id, .int .i64 ep, .int .i64 now] w fun e w' => e = .returned (.int .i64 (klR N S id ep)) ∧ Did w w' r N (klS N S id ep now) := by
  have HI : Hid (TblIs w p r N S) := h
  have d0 := h.cell
  clear h
  rcases hk : okF N id with _ | _
  · rw [(kl_bad (now := now) hk).1, (kl_bad (e := ep) (now := now) hk).2]
    go_enter Try.func10, Try.ntmps10
    go_wp2_with (first
      | (go_at_call 19; refine (unmade_ok p r N _ hN1 d0).mono ?_; rintro e w' ⟨rfl, hw'⟩; subst w')
      | (go_at_call 20; refine (has_any p r N id _ hN d0).mono ?_; rintro e w' ⟨rfl, hw'⟩; subst w'; rw [hk])
      | fail)
    go_ret
    exact ⟨rfl, Did.none HI.out (Below.refl _ _)⟩
  · obtain ⟨n, rfl, hn⟩ := okF_split hk
    have hni : (n : Int) < (N : Int) := by omega
    obtain ⟨c0, c1, c2⟩ := HI.out.at hn
    rcases hl : inE ep (S n) with _ | _
    · rw [(kl_no (now := now) hk hl).1, (kl_no (now := now) hk hl).2]
      go_enter Try.func10, Try.ntmps10
      go_wp2_with (first
        | (go_at_call 19; refine (unmade_ok p r N _ hN1 d0).mono ?_; rintro e w' ⟨rfl, hw'⟩; subst w')
        | (go_at_call 20; refine (has_any p r N n _ hN d0).mono ?_; rintro e w' ⟨rfl, hw'⟩; subst w'; rw [hk])
        | (go_at_call 21; refine (livesIn_any (S n) ep _).mono ?_; rintro e w1 ⟨rfl, hw1⟩; rw [hl]; have HB1 : Hid (Below w.heap.size w w1) := hw1; clear hw1)
        | fail)
      go_ret
      exact ⟨rfl, Did.none HI.out HB1.out⟩
    · rw [(kl_yes (now := now) hk hl).1, (kl_yes (now := now) hk hl).2]
      obtain ⟨l1, l2⟩ := inE_yes hl
      obtain ⟨o1, o2, o3⟩ := HI.out.ok n
      have o3 := o3 l1
      have L2 : Hid ((S n).ep = ep) := l2
      clear l1 l2 o2
      go_enter Try.func10, Try.ntmps10
      go_wp2_with (first
        | (go_at_call 19; refine (unmade_ok p r N _ hN1 d0).mono ?_; rintro e w' ⟨rfl, hw'⟩; subst w')
        | (go_at_call 20; refine (has_any p r N n _ hN d0).mono ?_; rintro e w' ⟨rfl, hw'⟩; subst w'; rw [hk])
        | (go_at_call 21; refine (livesIn_any (S n) ep _).mono ?_; rintro e w1 ⟨rfl, hw1⟩; rw [hl]; have HB1 : Hid (Below w.heap.size w w1) := hw1; have H1 : Hid (TblIs w1 p r N S) := HI.out.more hw1; clear hw1 d0 c0 c1 c2; have d0 := H1.out.cell; obtain ⟨c0, c1, c2⟩ := H1.out.at hn; have z0 := H1.out.free (n * 3); have z1 := H1.out.free (n * 3 + 1); have z2 := H1.out.free (n * 3 + 2))
        | fail)
      go_ret
      refine ⟨rfl, w1, HB1.out, ?_⟩
      rw [H1.out.put0 hn, row_put H1.out.row hn (by omega) (sets2 _ now), row_put H1.out.row hn (by omega) (sets1 _ _)]
      simp only [upd_same, upd_upd]
      rw [← L2.out]

/-! ### Valid -/
theorem valid_nil (id e : Int) (w : World) :
    Calls Try.prog 14 #[.pointer none, .int .i64 id, .int .i64 e] w fun e w' => e = .returned (.bool false) ∧ w' = w := by
  go_enter Try.func14, Try.ntmps14
  go_wp2_with (go_at_call 19; refine (unmade_nil _).mono ?_; rintro e w' ⟨rfl, rfl⟩)
  go_ret
  exact ⟨rfl, rfl⟩
theorem valid_zero (p : Nat) (id e : Int) (w : World) (hp : w.cell? ⟨p, 0, none⟩ = some (.slice none 0 0)) :
    Calls Try.prog 14 #[.pointer (some ⟨p, 0, none⟩), .int .i64 id, .int .i64 e] w fun e w' => e = .returned (.bool false) ∧ w' = w := by
  go_enter Try.func14, Try.ntmps14
  go_wp2_with (go_at_call 19; refine (unmade_zero p _ hp).mono ?_; rintro e w' ⟨rfl, rfl⟩)
  go_ret
  exact ⟨rfl, rfl⟩
theorem valid_any (p r N : Nat) (S : Nat → LS) (id ep : Int) (w : World) (hN1 : 1 ≤ N) (hN : N ≤ 64) (h : TblIs w p r N S) :
    Calls Try.prog 14 #[.pointer (some ⟨p, 0, none⟩), .int .i64 id, .int .i64 ep] w fun e w' => e = .returned (.bool (vaA N S id ep)) ∧ Below w.heap.size w w' := by
  have HI : Hid (TblIs w p r N S) := h
  have d0 := h.cell
  clear h
  simp only [vaA]
  cases hk : okF N id
  · simp only [Bool.false_and]
    go_enter Try.func14, Try.ntmps14
    go_wp2_with (first
      | (go_at_call 19; refine (unmade_ok p r N _ hN1 d0).mono ?_; rintro e w' ⟨rfl, hw'⟩; subst w')
      | (go_at_call 20; refine (has_any p r N id _ hN d0).mono ?_; rintro e w' ⟨rfl, hw'⟩; subst w'; rw [hk])
      | fail)
    go_ret
    exact ⟨rfl, Below.refl _ _⟩
  · obtain ⟨n, rfl, hn⟩ := okF_split hk
    have hni : (n : Int) < (N : Int) := by omega
    obtain ⟨c0, c1, c2⟩ := HI.out.at hn
    simp only [Int.toNat_natCast, Bool.true_and]
    go_enter Try.func14, Try.ntmps14
    go_wp2_with (first
      | (go_at_call 19; refine (unmade_ok p r N _ hN1 d0).mono ?_; rintro e w' ⟨rfl, hw'⟩; subst w')
      | (go_at_call 20; refine (has_any p r N n _ hN d0).mono ?_; rintro e w' ⟨rfl, hw'⟩; subst w'; rw [hk])
      | (go_at_call 21; refine (livesIn_any (S n) ep _).mono ?_; rintro e w1 ⟨rfl, hw1⟩; have HB1 : Hid (Below w.heap.size w w1) := hw1; clear hw1)
      | fail)
    go_ret
    exact ⟨rfl, HB1.out⟩

/-! ### Count -/
theorem count_nil (w : World) :
    Calls Try.prog 16 #[.pointer none] w fun e w' => e = .returned (.int .i64 0) ∧ w' = w := by
  go_enter Try.func16, Try.ntmps16
  go_wp2_with (go_at_call 19; refine (unmade_nil _).mono ?_; rintro e w' ⟨rfl, rfl⟩)
  go_ret
  exact ⟨rfl, rfl⟩
theorem count_zero (p : Nat) (w : World) (hp : w.cell? ⟨p, 0, none⟩ = some (.slice none 0 0)) :
    Calls Try.prog 16 #[.pointer (some ⟨p, 0, none⟩)] w fun e w' => e = .returned (.int .i64 0) ∧ w' = w := by
  go_enter Try.func16, Try.ntmps16
  go_wp2_with (go_at_call 19; refine (unmade_zero p _ hp).mono ?_; rintro e w' ⟨rfl, rfl⟩)
  go_ret
  exact ⟨rfl, rfl⟩
theorem count_any (p r N : Nat) (S : Nat → LS) (w : World) (hN1 : 1 ≤ N) (hN : N ≤ 64) (h : TblIs w p r N S) :
    Calls Try.prog 16 #[.pointer (some ⟨p, 0, none⟩)] w fun e w' => e = .returned (.int .i64 (cnt S N)) ∧ Below w.heap.size w w' := by
  have HI : Hid (TblIs w p r N S) := h
  have d0 := h.cell
  clear h
  go_enter Try.func16, Try.ntmps16
  go_wp2_with (go_at_call 19; refine (unmade_ok p r N _ hN1 d0).mono ?_; rintro e w' ⟨rfl, hw'⟩; subst w')
  go_loopw [3, 13] (fun c i wr => ∃ k : Nat, k ≤ N ∧ c = .int .i64 (cnt S k) ∧ i = .int .i64 k ∧ Below w.heap.size w wr) (fun c i _ => N - (intOf i).toNat)
  case atStart => exact ⟨0, by omega, rfl, rfl, Below.refl _ _⟩
  case round =>
    obtain ⟨k, hk, rfl, rfl, hB⟩ := hrel
    have HB : Hid (Below w.heap.size w wr) := hB
    clear hB
    have hc0 := cnt_le S k
    by_cases hlt : k < N
    · have hki : (k : Int) < (N : Int) := by omega
      obtain ⟨c0, c1, c2⟩ := (HI.out.more HB.out).at hlt
      have HB1 : Hid (Below w.heap.size w (wr.alloc (.cells #[.bool (S k).on, .int .i64 (S k).ep, .int .i64 (S k).tm] 53))) := HB.out.alloc HB.out.size _
      cases ho : (S k).on
      · have hs : cnt S (k + 1) = cnt S k := by simp [cnt, ho]
        rw [ho] at c0
        go_wp2
        go_roundw
        case rel => exact ⟨k + 1, by omega, by rw [hs], by go_num, by repeat (first | exact HB.out | (refine Below.setCell ?_ HB.out.size _) | (refine Below.alloc ?_ HB.out.size _))⟩
        case measure => simp [intOf]; omega
      · have hs : cnt S (k + 1) = cnt S k + 1 := by simp [cnt, ho]
        rw [ho] at c0
        go_wp2
        go_roundw
        case rel => exact ⟨k + 1, by omega, by rw [hs]; go_num, by go_num, by repeat (first | exact HB.out | (refine Below.setCell ?_ HB.out.size _) | (refine Below.alloc ?_ HB.out.size _))⟩
        case measure => simp [intOf]; omega
    · obtain rfl : k = N := by omega
      go_wp2
      go_ret
      exact ⟨rfl, HB.out⟩
end Go.Proofs.Ytppbldhahddopaa
