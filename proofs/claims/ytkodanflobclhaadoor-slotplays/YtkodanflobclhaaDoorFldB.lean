/- What each function of the document's answer for layer 1 that reads no list returns, for every argument that its types allow. -/
import Derived.Test.YtkodanflobclhaaDoorFldA
import Derived.WalkKit
import Derived.ProofKit
import Derived.OpenShut
import Derived.Outline
namespace Go.Proofs.YtkodanflobclhaaDoor.Pfield
open Go.RowKit M
set_option linter.unusedVariables false

theorem bit_any (x i : Int) (w : World) (h0 : 0 ≤ i) (h1 : i ≤ 63) (hx0 : 0 ≤ x) (hx1 : x ≤ 18446744073709551615) :
    Calls Tryd.prog 61 #[.int .u64 x, .int .i64 i] w fun e w' => e = .returned (.bool (bitB x i)) ∧ w' = w := by
  go_enter Tryd.func61, Tryd.ntmps61
  go_wp2
  go_ret
  exact ⟨by rw [← bit_eq x i hx0 hx1]; rfl, rfl⟩
theorem can_yes (a n : Int) (w : World) (h0 : 0 ≤ a) (h1 : 1 ≤ n) (h2 : n ≤ 64 - a) :
    Calls Tryd.prog 60 #[.int .i64 a, .int .i64 n] w fun e w' => e = .returned (.bool true) ∧ w' = w := by
  have h3 : a ≤ 64 - n := by omega
  go_enter Tryd.func60, Tryd.ntmps60
  go_wp2
  go_ret
  exact ⟨rfl, rfl⟩
theorem can_no (a n : Int) (w : World) (h : ¬ (0 ≤ a ∧ 1 ≤ n ∧ n ≤ 64 - a)) (ha : a ≤ 9223372036854775807) :
    Calls Tryd.prog 60 #[.int .i64 a, .int .i64 n] w fun e w' => e = .returned (.bool false) ∧ w' = w := by
  by_cases h0 : 0 ≤ a
  · by_cases h1 : 1 ≤ n
    · by_cases h2 : n ≤ 64
      · have h3 : ¬ a ≤ 64 - n := by omega
        clear h
        go_enter Tryd.func60, Tryd.ntmps60
        go_wp2
        go_ret
        exact ⟨rfl, rfl⟩
      · clear h
        go_enter Tryd.func60, Tryd.ntmps60
        go_wp2
        go_ret
        exact ⟨rfl, rfl⟩
    · clear h
      go_enter Tryd.func60, Tryd.ntmps60
      go_wp2
      go_ret
      exact ⟨rfl, rfl⟩
  · clear h
    go_enter Tryd.func60, Tryd.ntmps60
    go_wp2
    go_ret
    exact ⟨rfl, rfl⟩
theorem rget_yes (x a n : Int) (w : World) (h0 : 0 ≤ a) (h1 : 1 ≤ n) (h2 : n ≤ 64 - a) (hx0 : 0 ≤ x) (hx1 : x ≤ 18446744073709551615) :
    Calls Tryd.prog 55 #[.int .u64 x, .int .i64 a, .int .i64 n] w fun e w' => e = .returned (.tuple #[.int .u64 (getF x a n), .int .i64 0]) ∧ w' = w := by
  go_enter Tryd.func55, Tryd.ntmps55
  go_wp2_with (go_at_call 60; refine (can_yes _ _ _ (by omega) (by omega) (by omega)).mono ?_; rintro e w' ⟨rfl, rfl⟩)
  go_loop [8, 9] (fun s i => ∃ k : Nat, (k : Int) ≤ n ∧ i = .int .i64 k ∧ s = .int .u64 (accT (getN x.toNat a.toNat n.toNat) k)) (fun _ i => n.toNat - (intOf i).toNat)
  case atStart => exact ⟨0, by omega, rfl, by rw [accT_zero]⟩
  case round =>
    obtain ⟨k, hk, rfl, rfl⟩ := hrel
    by_cases hlt : (k : Int) < n
    · have hb := bit_get x a n k h0 hlt
      cases hc : bitB x (a + k)
      · rw [hc] at hb
        have HB : Hid ((getN x.toNat a.toNat n.toNat).testBit k = false) := hb
        clear hb
        go_wp2_with (go_at_call 61; refine (bit_any _ _ _ (by omega) (by omega) (by omega) (by omega)).mono ?_; rintro e w' ⟨rfl, rfl⟩)
        go_round
        case rel => exact ⟨k + 1, by omega, by go_num, by rw [accT_no _ k HB.out]⟩
        case measure => simp [intOf]; omega
      · rw [hc] at hb
        have HB : Hid ((getN x.toNat a.toNat n.toNat).testBit k = true) := hb
        clear hb
        go_wp2_with (go_at_call 61; refine (bit_any _ _ _ (by omega) (by omega) (by omega) (by omega)).mono ?_; rintro e w' ⟨rfl, rfl⟩)
        go_round
        case rel => exact ⟨k + 1, by omega, by go_num, by rw [accT_yes _ k (by omega) HB.out]⟩
        case measure => simp [intOf]; omega
    · go_wp2
      go_ret2
      refine ⟨ret_two ?_, rfl⟩
      rw [accT_end _ k (by rw [show k = n.toNat by omega]; exact getN_lt _ _ _)]
      rfl
theorem rget_no (x a n : Int) (w : World) (h : ¬ (0 ≤ a ∧ 1 ≤ n ∧ n ≤ 64 - a)) (ha : a ≤ 9223372036854775807) :
    Calls Tryd.prog 55 #[.int .u64 x, .int .i64 a, .int .i64 n] w fun e w' => e = .returned (.tuple #[.int .u64 0, .int .i64 1]) ∧ w' = w := by
  have H : Hid (¬ (0 ≤ a ∧ 1 ≤ n ∧ n ≤ 64 - a)) := h
  clear h
  go_enter Tryd.func55, Tryd.ntmps55
  go_wp2_with (go_at_call 60; refine (can_no _ _ _ H.out ha).mono ?_; rintro e w' ⟨rfl, rfl⟩)
  go_ret2
  exact ⟨rfl, rfl⟩
theorem rfits_any (x n : Int) (w : World) (hx0 : 0 ≤ x) (hx1 : x ≤ 18446744073709551615) :
    Calls Tryd.prog 56 #[.int .u64 x, .int .i64 n] w fun e w' => e = .returned (.bool (fitsB x n)) ∧ w' = w := by
  go_enter Tryd.func56, Tryd.ntmps56
  go_wp2
  go_loop [5] (fun i => ∃ k : Nat, (k : Int) ≤ 64 ∧ i = .int .i64 k ∧ clearTo x n k) (fun i => 64 - (intOf i).toNat)
  case atStart => exact ⟨0, by omega, rfl, fun j hj => by omega⟩
  case round =>
    obtain ⟨k, hk, rfl, hcl0⟩ := hrel
    have hcl : Hid (clearTo x n k) := hcl0
    clear hcl0
    by_cases hlt : (k : Int) < 64
    · cases hc : bitB x k
      · go_wp2_with (go_at_call 61; refine (bit_any _ _ _ (by omega) (by omega) (by omega) (by omega)).mono ?_; rintro e w' ⟨rfl, rfl⟩)
        go_round
        case rel => exact ⟨k + 1, by omega, by go_num, clearTo_succ hcl.out (fun _ => hc)⟩
        case measure => simp [intOf]; omega
      · by_cases hn : n ≤ k
        · go_wp2_with (go_at_call 61; refine (bit_any _ _ _ (by omega) (by omega) (by omega) (by omega)).mono ?_; rintro e w' ⟨rfl, rfl⟩)
          go_ret
          exact ⟨by rw [unfit_of_bit (by omega) hn hc]; rfl, rfl⟩
        · go_wp2_with (go_at_call 61; refine (bit_any _ _ _ (by omega) (by omega) (by omega) (by omega)).mono ?_; rintro e w' ⟨rfl, rfl⟩)
          go_round
          case rel => exact ⟨k + 1, by omega, by go_num, clearTo_succ hcl.out (fun h => absurd h (by omega))⟩
          case measure => simp [intOf]; omega
    · go_wp2
      go_ret
      exact ⟨by rw [fits_of_clear hx0 hx1 (by have := hcl.out; rwa [show k = 64 by omega] at this)]; rfl, rfl⟩
theorem rput_out (x a n v : Int) (w : World) (h : ¬ (0 ≤ a ∧ 1 ≤ n ∧ n ≤ 64 - a)) (ha : a ≤ 9223372036854775807) :
    Calls Tryd.prog 52 #[.int .u64 x, .int .i64 a, .int .i64 n, .int .u64 v] w fun e w' => e = .returned (.tuple #[.int .u64 0, .int .i64 1]) ∧ w' = w := by
  have H : Hid (¬ (0 ≤ a ∧ 1 ≤ n ∧ n ≤ 64 - a)) := h
  clear h
  go_enter Tryd.func52, Tryd.ntmps52
  go_wp2_with (go_at_call 60; refine (can_no _ _ _ H.out ha).mono ?_; rintro e w' ⟨rfl, rfl⟩)
  go_ret2
  exact ⟨rfl, rfl⟩
theorem rput_unfit (x a n v : Int) (w : World) (h0 : 0 ≤ a) (h1 : 1 ≤ n) (h2 : n ≤ 64 - a) (hv0 : 0 ≤ v) (hv1 : v ≤ 18446744073709551615) (hf : fitsB v n = false) :
    Calls Tryd.prog 52 #[.int .u64 x, .int .i64 a, .int .i64 n, .int .u64 v] w fun e w' => e = .returned (.tuple #[.int .u64 0, .int .i64 1]) ∧ w' = w := by
  go_enter Tryd.func52, Tryd.ntmps52
  go_wp2_with (first
    | (go_at_call 60; refine (can_yes _ _ _ (by omega) (by omega) (by omega)).mono ?_; rintro e w' ⟨rfl, rfl⟩)
    | (go_at_call 56; refine (rfits_any _ _ _ (by omega) (by omega)).mono ?_; rintro e w' ⟨rfl, rfl⟩))
  go_ret2
  exact ⟨rfl, rfl⟩
set_option maxHeartbeats 400000 in
theorem rput_yes (x a n v : Int) (w : World) (h0 : 0 ≤ a) (h1 : 1 ≤ n) (h2 : n ≤ 64 - a) (hx0 : 0 ≤ x) (hx1 : x ≤ 18446744073709551615) (hv0 : 0 ≤ v) (hv1 : v ≤ 18446744073709551615) (hf : fitsB v n = true) :
    Calls Tryd.prog 52 #[.int .u64 x, .int .i64 a, .int .i64 n, .int .u64 v] w fun e w' => e = .returned (.tuple #[.int .u64 (putF x a n v), .int .i64 0]) ∧ w' = w := by
  go_enter Tryd.func52, Tryd.ntmps52
  go_wp2_with (first
    | (go_at_call 60; refine (can_yes _ _ _ (by omega) (by omega) (by omega)).mono ?_; rintro e w' ⟨rfl, rfl⟩)
    | (go_at_call 56; refine (rfits_any _ _ _ (by omega) (by omega)).mono ?_; rintro e w' ⟨rfl, rfl⟩))
  go_loop [10, 11] (fun s i => ∃ k : Nat, (k : Int) ≤ 64 ∧ i = .int .i64 k ∧ s = .int .u64 (accT (putN x.toNat a.toNat n.toNat v.toNat) k)) (fun _ i => 64 - (intOf i).toNat)
  case atStart => exact ⟨0, by omega, rfl, by rw [accT_zero]⟩
  case round =>
    obtain ⟨k, hk, rfl, rfl⟩ := hrel
    by_cases hlt : (k : Int) < 64
    · by_cases i1 : a ≤ k
      · by_cases i2 : (k : Int) < a + n
        · have hb := bit_put_in x a n v k h0 h1 h2 hx1 hf i1 i2
          cases hc : bitB v (k - a)
          · rw [hc] at hb
            have HB : Hid ((putN x.toNat a.toNat n.toNat v.toNat).testBit k = false) := hb
            clear hb
            go_wp2_with (go_at_call 61; refine (bit_any _ _ _ (by omega) (by omega) (by omega) (by omega)).mono ?_; rintro e w' ⟨rfl, rfl⟩)
            go_round
            case rel => exact ⟨k + 1, by omega, by go_num, by rw [accT_no _ k HB.out]⟩
            case measure => simp [intOf]; omega
          · rw [hc] at hb
            have HB : Hid ((putN x.toNat a.toNat n.toNat v.toNat).testBit k = true) := hb
            clear hb
            go_wp2_with (go_at_call 61; refine (bit_any _ _ _ (by omega) (by omega) (by omega) (by omega)).mono ?_; rintro e w' ⟨rfl, rfl⟩)
            go_round
            case rel => exact ⟨k + 1, by omega, by go_num, by rw [accT_yes _ k (by omega) HB.out]⟩
            case measure => simp [intOf]; omega
        · have hb := bit_put_out x a n v k h0 h1 h2 hx1 hf (by omega)
          cases hc : bitB x k
          · rw [hc] at hb
            have HB : Hid ((putN x.toNat a.toNat n.toNat v.toNat).testBit k = false) := hb
            clear hb
            go_wp2_with (go_at_call 61; refine (bit_any _ _ _ (by omega) (by omega) (by omega) (by omega)).mono ?_; rintro e w' ⟨rfl, rfl⟩)
            go_round
            case rel => exact ⟨k + 1, by omega, by go_num, by rw [accT_no _ k HB.out]⟩
            case measure => simp [intOf]; omega
          · rw [hc] at hb
            have HB : Hid ((putN x.toNat a.toNat n.toNat v.toNat).testBit k = true) := hb
            clear hb
            go_wp2_with (go_at_call 61; refine (bit_any _ _ _ (by omega) (by omega) (by omega) (by omega)).mono ?_; rintro e w' ⟨rfl, rfl⟩)
            go_round
            case rel => exact ⟨k + 1, by omega, by go_num, by rw [accT_yes _ k (by omega) HB.out]⟩
            case measure => simp [intOf]; omega
      · have hb := bit_put_out x a n v k h0 h1 h2 hx1 hf (by omega)
        cases hc : bitB x k
        · rw [hc] at hb
          have HB : Hid ((putN x.toNat a.toNat n.toNat v.toNat).testBit k = false) := hb
          clear hb
          go_wp2_with (go_at_call 61; refine (bit_any _ _ _ (by omega) (by omega) (by omega) (by omega)).mono ?_; rintro e w' ⟨rfl, rfl⟩)
          go_round
          case rel => exact ⟨k + 1, by omega, by go_num, by rw [accT_no _ k HB.out]⟩
          case measure => simp [intOf]; omega
        · rw [hc] at hb
          have HB : Hid ((putN x.toNat a.toNat n.toNat v.toNat).testBit k = true) := hb
          clear hb
          go_wp2_with (go_at_call 61; refine (bit_any _ _ _ (by omega) (by omega) (by omega) (by omega)).mono ?_; rintro e w' ⟨rfl, rfl⟩)
          go_round
          case rel => exact ⟨k + 1, by omega, by go_num, by rw [accT_yes _ k (by omega) HB.out]⟩
          case measure => simp [intOf]; omega
    · go_wp2
      go_ret2
      refine ⟨ret_two ?_, rfl⟩
      rw [accT_end _ k (by rw [show k = 64 by omega]; have := p64; have := putN_le x.toNat a.toNat n.toNat v.toNat (by omega) (by omega) (fits_lt hf (by omega)); omega)]
      rfl
end Go.Proofs.YtkodanflobclhaaDoor.Pfield
