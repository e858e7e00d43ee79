/- The document's Of, Attach, Detach and Has of layer 23. -/
import Derived.Test.YtefoofcfbcmjcaaHwR
namespace Go.Proofs.Ytefoofcfbcmjcaa.Phw
open Go.Proofs.Ytefoofcfbcmjcaa.Pbase
open Go.RowKit
set_option linter.unusedVariables false

set_option maxRecDepth 100000 in
theorem rof_any (base q : Nat) (l : Int) (S : Nat → Int) (w : World) (h : RefL w base q S) (hS : Gd S) : Calls Try.prog 14 #[.pointer (some ⟨q, 0, none⟩), .int .i64 l] w fun e w' => e = .returned (.tuple #[.int .i64 (ofX S l), .int .i64 (ofE S l)]) ∧ w' = w := by
  obtain ⟨r, cap, h⟩ := h
  have c0 := h.c0
  by_cases hl : okL l = true
  · obtain ⟨h1, h2⟩ := (okL_iff l).1 hl
    obtain ⟨k, rfl⟩ := Int.eq_ofNat_of_zero_le h1
    have hk : k < 8 := by omega
    have hk' : (k : Int) < 8 := by omega
    have n1 : ¬ (k : Int) < 0 := by omega
    have n2 : ¬ (8 : Int) ≤ (k : Int) := by omega
    have c1 := h.list.cell hk
    have hg := hS k
    by_cases h0 : S k = 0
    · obtain ⟨e1, e2, _⟩ := of_none hl (by simpa using h0)
      rw [e1, e2]
      rw [h0] at c1
      clear e1 e2 hS hg hl h
      go_enter Try.func14, Try.ntmps14
      go_wp2
      go_ret2
      exact ⟨rfl, rfl⟩
    · obtain ⟨e1, e2, _⟩ := of_ok hl (S := S) (by simpa using h0)
      rw [e1, e2, Int.toNat_natCast]
      have hb : (S k == 0) = false := by simp [h0]
      have d1 : wrap64 (S k - 1) = S k - 1 := by unfold wrap64; omega
      have d1' : IntKind.i64.wrap (S k - 1) = S k - 1 := wrapi_small (by omega) (by omega)
      generalize S k = z at c1 hb d1 d1' ⊢
      clear e1 e2 hS hg hl h h0
      go_enter Try.func14, Try.ntmps14
      go_wp2
      go_ret2
      exact ⟨rfl, rfl⟩
  · obtain ⟨e1, e2, _⟩ := of_arg (S := S) hl
    rw [e1, e2]
    have hl' : ¬ (0 ≤ l ∧ l < 8) := fun x => hl ((okL_iff l).2 x)
    clear e1 e2 hl
    by_cases n1 : l < 0
    · clear hl'
      go_enter Try.func14, Try.ntmps14
      go_wp2
      go_ret2
      exact ⟨rfl, rfl⟩
    · have n2 : (8 : Int) ≤ l := by omega
      clear hl'
      go_enter Try.func14, Try.ntmps14
      go_wp2
      go_ret2
      exact ⟨rfl, rfl⟩
set_option maxRecDepth 100000 in
theorem rattach_any (base q : Nat) (l f : Int) (S : Nat → Int) (w : World) (h : RefL w base q S) (hS : Gd S) : Calls Try.prog 12 #[.pointer (some ⟨q, 0, none⟩), .int .i64 l, .int .i64 f] w fun e w' => e = .returned (.int .i64 (atE S l f)) ∧ RefL w' base q (atS S l f) ∧ Below base w w' := by
  obtain ⟨r, cap, h⟩ := h
  have c0 := h.c0
  by_cases ha : (okL l && okG f) = true
  · have hlf : okL l = true ∧ okG f = true := by simpa using ha
    obtain ⟨h1, h2⟩ := (okL_iff l).1 hlf.1
    obtain ⟨h3, h4⟩ := (okG_iff f).1 hlf.2
    obtain ⟨k, rfl⟩ := Int.eq_ofNat_of_zero_le h1
    have hk : k < 8 := by omega
    have hk' : (k : Int) < 8 := by omega
    have n1 : ¬ (k : Int) < 0 := by omega
    have n2 : ¬ (8 : Int) ≤ (k : Int) := by omega
    have n3 : ¬ f < 0 := by omega
    have n4 : ¬ (64 : Int) ≤ f := by omega
    have c1 := h.list.cell hk
    have hfr := h.list.free k
    by_cases h0 : S k = 0
    · obtain ⟨e1, e2⟩ := at_ok ha (S := S) (by simpa using h0)
      rw [e1, e2, Int.toNat_natCast]
      have d1 : wrap64 (f + 1) = f + 1 := by unfold wrap64; omega
      have d1' : IntKind.i64.wrap (f + 1) = f + 1 := wrapi_small (by omega) (by omega)
      have HQ : Hid (RefL (w.setCell ⟨r, k, none⟩ (.int .i64 (f + 1))) base q (upL S k (f + 1)) ∧ Below base w (w.setCell ⟨r, k, none⟩ (.int .i64 (f + 1)))) := ⟨⟨r, cap, h.put hk _⟩, (Below.refl _ _).setCell h.gr _⟩
      rw [h0] at c1
      clear e1 e2 hS hlf ha h h0
      go_enter Try.func12, Try.ntmps12
      go_wp2
      go_ret
      exact ⟨rfl, HQ.out⟩
    · obtain ⟨e1, e2⟩ := at_used ha (S := S) (by simpa using h0)
      rw [e1, e2]
      have hb : (S k != 0) = true := by simp [h0]
      have HQ : Hid (RefL w base q S) := ⟨r, cap, h⟩
      generalize S k = z at c1 hb
      clear e1 e2 hS hlf ha h h0
      go_enter Try.func12, Try.ntmps12
      go_wp2
      go_ret
      exact ⟨rfl, HQ.out, Below.refl _ _⟩
  · obtain ⟨e1, e2⟩ := at_arg (S := S) ha
    rw [e1, e2]
    have HQ : Hid (RefL w base q S) := ⟨r, cap, h⟩
    have hlf : l < 0 ∨ (¬ l < 0 ∧ (8 : Int) ≤ l) ∨ (¬ l < 0 ∧ ¬ (8 : Int) ≤ l ∧ f < 0) ∨ (¬ l < 0 ∧ ¬ (8 : Int) ≤ l ∧ ¬ f < 0 ∧ (64 : Int) ≤ f) := by
      have h1 := okL_iff l
      have h2 := okG_iff f
      simp only [Bool.and_eq_true] at ha
      rw [h1, h2] at ha
      omega
    clear e1 e2 ha hS h c0
    rcases hlf with n1 | ⟨n1, n2⟩ | ⟨n1, n2, n3⟩ | ⟨n1, n2, n3, n4⟩
    all_goals
      go_enter Try.func12, Try.ntmps12
      go_wp2
      go_ret
      exact ⟨rfl, HQ.out, Below.refl _ _⟩
set_option maxRecDepth 100000 in
theorem rdetach_any (base q : Nat) (l : Int) (S : Nat → Int) (w : World) (h : RefL w base q S) (hS : Gd S) : Calls Try.prog 10 #[.pointer (some ⟨q, 0, none⟩), .int .i64 l] w fun e w' => e = .returned (.tuple #[.int .i64 (ofX S l), .int .i64 (ofE S l)]) ∧ RefL w' base q (deS S l) ∧ Below base w w' := by
  have HO := rhide (rof_any base q l S w h hS)
  obtain ⟨r, cap, h⟩ := h
  have c0 := h.c0
  by_cases he : ofE S l = 0
  · have hl : okL l = true := by
      by_cases hl : okL l = true
      · exact hl
      · rw [(of_arg hl).1] at he
        exact absurd he (by decide)
    have h0 : S l.toNat ≠ 0 := fun h0 => by
      rw [(of_none hl h0).1] at he
      exact absurd he (by decide)
    obtain ⟨e1, e2, e3⟩ := of_ok hl h0
    rw [e1, e3]
    rw [e1] at HO
    obtain ⟨h1, h2⟩ := (okL_iff l).1 hl
    obtain ⟨k, rfl⟩ := Int.eq_ofNat_of_zero_le h1
    rw [Int.toNat_natCast]
    have hk : k < 8 := by omega
    have hk' : (k : Int) < 8 := by omega
    have c1 := h.list.cell hk
    have hfr := h.list.free k
    have HQ : Hid (RefL (w.setCell ⟨r, k, none⟩ (.int .i64 0)) base q (upL S k 0) ∧ Below base w (w.setCell ⟨r, k, none⟩ (.int .i64 0))) := ⟨⟨r, cap, h.put hk _⟩, (Below.refl _ _).setCell h.gr _⟩
    generalize ofX S (k : Int) = x at HO ⊢
    clear e1 e2 e3 he hl h0 hS h
    go_enter Try.func10, Try.ntmps10
    go_wp2_with (first
      | (go_at_call 14; refine HO.out.mono ?_; rintro e1 w1 ⟨rfl, hw⟩; subst hw; clear HO)
      | fail)
    go_ret2
    exact ⟨rfl, HQ.out⟩
  · have e2 : ofX S l = 0 := by unfold ofX; rw [if_neg he]
    have e3 : deS S l = S := by unfold deS; rw [if_neg he]
    rw [e2, e3]
    rw [e2] at HO
    have hb : (ofE S l != 0) = true := by simp [he]
    have HQ : Hid (RefL w base q S) := ⟨r, cap, h⟩
    generalize ofE S l = E at HO hb ⊢
    clear e2 e3 he hS h c0
    go_enter Try.func10, Try.ntmps10
    go_wp2_with (first
      | (go_at_call 14; refine HO.out.mono ?_; rintro e1 w1 ⟨rfl, hw⟩; subst hw; clear HO)
      | fail)
    go_ret2
    exact ⟨rfl, HQ.out, Below.refl _ _⟩
theorem hsK_bad (S : Nat → Int) {f : Int} (h : ¬ okG f = true) (k : Nat) : hsK S f k = 0 := by
  induction k with
  | zero => rfl
  | succ k ih => unfold hsK; rw [ih, if_neg (fun x => h x.1)]
set_option maxRecDepth 100000 in
set_option maxHeartbeats 2000000 in
theorem rhas_any (base q : Nat) (f : Int) (S : Nat → Int) (w : World) (h : RefL w base q S) (hS : Gd S) : Calls Try.prog 16 #[.pointer (some ⟨q, 0, none⟩), .int .i64 f] w fun e w' => e = .returned (.int .i64 (hsN S f)) ∧ w' = w := by
  obtain ⟨r, cap, h⟩ := h
  have c0 := h.c0
  have HL := rhide h.list
  clear h
  go_enter Try.func16, Try.ntmps16
  go_wp2
  go_loopw [5, 6] (fun n i wr => ∃ k : Nat, k ≤ 8 ∧ i = .int .i64 k ∧ n = .int .i64 (hsK S f k : Nat) ∧ wr = w) (fun _ i _ => 8 - (intOf i).toNat)
  case atStart => exact ⟨0, by omega, rfl, rfl, rfl⟩
  case round =>
    obtain ⟨k, hk, rfl, rfl, rfl⟩ := hrel
    have hle := hsK_le S f k
    by_cases hlt : k < 8
    · have hki : (k : Int) < 8 := by omega
      have c1 := HL.out.cell hlt
      have hg := hS k
      by_cases hf : okG f = true
      · obtain ⟨f1, f2⟩ := (okG_iff f).1 hf
        have d1 : wrap64 (f + 1) = f + 1 := by unfold wrap64; omega
        have d1' : IntKind.i64.wrap (f + 1) = f + 1 := wrapi_small (by omega) (by omega)
        have d2 : wrap64 (((hsK S f k : Nat) : Int) + 1) = ((hsK S f k : Nat) : Int) + 1 := by unfold wrap64; omega
        by_cases he : S k = f + 1
        · have hs : hsK S f (k + 1) = hsK S f k + 1 := by
            show hsK S f k + _ = _
            rw [if_pos ⟨hf, he⟩]
          rw [he] at c1
          clear hf he hg
          go_wp2
          go_roundw
          case rel => exact ⟨k + 1, by omega, by go_num, by rw [hs]; go_num, trivial⟩
          case measure => simp [intOf]; omega
        · have hs : hsK S f (k + 1) = hsK S f k := by
            show hsK S f k + _ = _
            rw [if_neg (fun x => he x.2)]
            rfl
          have hb : (S k == f + 1) = false := by simp [he]
          generalize S k = z at c1 hb
          clear hf he hg
          go_wp2
          go_roundw
          case rel => exact ⟨k + 1, by omega, by go_num, by rw [hs], trivial⟩
          case measure => simp [intOf]; omega
      · have hs : hsK S f (k + 1) = hsK S f k := by rw [hsK_bad S hf, hsK_bad S hf]
        have hf' : f < 0 ∨ (0 ≤ f ∧ ¬ f < 64) := by
          rw [okG_iff] at hf
          omega
        clear hf hg
        rcases hf' with n1 | ⟨n1, n2⟩
        · have n1' : ¬ (0 : Int) ≤ f := by omega
          go_wp2
          go_roundw
          case rel => exact ⟨k + 1, by omega, by go_num, by rw [hs], trivial⟩
          case measure => simp [intOf]; omega
        · go_wp2
          go_roundw
          case rel => exact ⟨k + 1, by omega, by go_num, by rw [hs], trivial⟩
          case measure => simp [intOf]; omega
    · obtain rfl : k = 8 := by omega
      go_wp2
      go_ret
      exact ⟨rfl, rfl⟩
end Go.Proofs.Ytefoofcfbcmjcaa.Phw
