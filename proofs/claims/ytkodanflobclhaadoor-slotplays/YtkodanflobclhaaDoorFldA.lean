/- What each function of package field that reads no list answers, for every argument that its types allow. -/
import Derived.Test.YtkodanflobclhaaDoorFldM
import Derived.Test.YtkodanflobclhaaDoorRows
import Derived.WalkKit
import Derived.ProofKit
import Derived.OpenShut
import Derived.Outline
import Derived.Deep.QuietTactic
import Derived.BigQuiet
namespace Go.Proofs.YtkodanflobclhaaDoor.Pfield
open Go.RowKit M
set_option linter.unusedVariables false

theorem ret_int {k : IntKind} {a b : Int} (h : a = b) : Ending.returned (.int k a) = .returned (.int k b) := by rw [h]
theorem ret_two {k k' : IntKind} {a b c : Int} (h : a = b) : Ending.returned (.tuple #[.int k a, .int k' c]) = .returned (.tuple #[.int k b, .int k' c]) := by rw [h]
theorem inWord_yes (a n : Int) (w : World) (h0 : 0 ≤ a) (h1 : 1 ≤ n) (h2 : n ≤ 64 - a) :
    Calls Tryd.prog 58 #[.int .i64 a, .int .i64 n] w fun e w' => e = .returned (.bool true) ∧ w' = w := by
  go_enter Tryd.func58, Tryd.ntmps58
  go_wp2
  go_ret
  exact ⟨rfl, rfl⟩
theorem inWord_no (a n : Int) (w : World) (h : ¬ (0 ≤ a ∧ 1 ≤ n ∧ n ≤ 64 - a)) (ha : a ≤ 9223372036854775807) :
    Calls Tryd.prog 58 #[.int .i64 a, .int .i64 n] w fun e w' => e = .returned (.bool false) ∧ w' = w := by
  by_cases h0 : 0 ≤ a
  · by_cases h1 : 1 ≤ n
    · have h2 : ¬ n ≤ 64 - a := by omega
      clear h
      go_enter Tryd.func58, Tryd.ntmps58
      go_wp2
      go_ret
      exact ⟨rfl, rfl⟩
    · clear h
      go_enter Tryd.func58, Tryd.ntmps58
      go_wp2
      go_ret
      exact ⟨rfl, rfl⟩
  · clear h
    go_enter Tryd.func58, Tryd.ntmps58
    go_wp2
    go_ret
    exact ⟨rfl, rfl⟩
theorem cut_any (x a n : Int) (w : World) (h0 : 0 ≤ a) (h1 : 1 ≤ n) (h2 : n ≤ 64 - a) (hx0 : 0 ≤ x) (hx1 : x ≤ 18446744073709551615) :
    Calls Tryd.prog 62 #[.int .u64 x, .int .i64 a, .int .i64 n] w fun e w' => e = .returned (.int .u64 (getF x a n)) ∧ w' = w := by
  go_enter Tryd.func62, Tryd.ntmps62
  go_wp2
  go_ret
  exact ⟨ret_int (cut_eq x a n h0 h1 h2 hx0), rfl⟩
theorem mask_any (n : Int) (w : World) :
    Calls Tryd.prog 59 #[.int .i64 n] w fun e w' => e = .returned (.int .u64 (maskF n)) ∧ w' = w := by
  by_cases h1 : n < 1
  · go_enter Tryd.func59, Tryd.ntmps59
    go_wp2
    go_ret
    exact ⟨ret_int (maskF_low n h1).symm, rfl⟩
  · by_cases h2 : n ≤ 64
    · go_enter Tryd.func59, Tryd.ntmps59
      go_wp2
      go_ret
      exact ⟨ret_int (mask_eq n (by omega) h2), rfl⟩
    · go_enter Tryd.func59, Tryd.ntmps59
      go_wp2
      go_ret
      refine ⟨ret_int ?_, rfl⟩
      rw [maskF_high n (by omega)]
      decide
theorem fits_any (x n : Int) (w : World) (hx0 : 0 ≤ x) (hx1 : x ≤ 18446744073709551615) :
    Calls Tryd.prog 54 #[.int .u64 x, .int .i64 n] w fun e w' => e = .returned (.bool (fitsB x n)) ∧ w' = w := by
  have hm := maskF_bd n
  go_enter Tryd.func54, Tryd.ntmps54
  go_wp2_with (go_at_call 59; refine (mask_any _ _).mono ?_; rintro e w' ⟨rfl, rfl⟩)
  go_ret
  exact ⟨by rw [← fits_eq x n hx0 hx1]; rfl, rfl⟩
theorem put_yes (x a n v : Int) (w : World) (h0 : 0 ≤ a) (h1 : 1 ≤ n) (h2 : n ≤ 64 - a) (hx0 : 0 ≤ x) (hx1 : x ≤ 18446744073709551615) (hv0 : 0 ≤ v) (hv1 : v ≤ 18446744073709551615) (hf : fitsB v n = true) :
    Calls Tryd.prog 50 #[.int .u64 x, .int .i64 a, .int .i64 n, .int .u64 v] w fun e w' => e = .returned (.tuple #[.int .u64 (putF x a n v), .int .i64 0]) ∧ ∃ k, w' = w.drewN k := by
  have hm := maskF_bd n
  go_enter Tryd.func50, Tryd.ntmps50
  go_wp2_with (first
    | (go_at_call 58; refine (inWord_yes _ _ _ (by omega) (by omega) (by omega)).mono ?_; rintro e w' ⟨rfl, rfl⟩)
    | (go_at_call 54; refine (fits_any _ _ _ (by omega) (by omega)).mono ?_; rintro e w' ⟨rfl, rfl⟩))
  go_quiet ((go_at_call 59; exact Calls.quiet_of_same (mask_any _ _)))
  go_wp2
  go_ret2
  exact ⟨ret_two (put_eq x a n v h0 h1 h2 hx0 hx1 hv0 hf), nq, rfl⟩
theorem put_out (x a n v : Int) (w : World) (h : ¬ (0 ≤ a ∧ 1 ≤ n ∧ n ≤ 64 - a)) (ha : a ≤ 9223372036854775807) :
    Calls Tryd.prog 50 #[.int .u64 x, .int .i64 a, .int .i64 n, .int .u64 v] w fun e w' => e = .returned (.tuple #[.int .u64 0, .int .i64 1]) ∧ w' = w := by
  have H : Hid (¬ (0 ≤ a ∧ 1 ≤ n ∧ n ≤ 64 - a)) := h
  clear h
  go_enter Tryd.func50, Tryd.ntmps50
  go_wp2_with (go_at_call 58; refine (inWord_no _ _ _ H.out ha).mono ?_; rintro e w' ⟨rfl, rfl⟩)
  go_ret2
  exact ⟨rfl, rfl⟩
theorem put_unfit (x a n v : Int) (w : World) (h0 : 0 ≤ a) (h1 : 1 ≤ n) (h2 : n ≤ 64 - a) (hv0 : 0 ≤ v) (hv1 : v ≤ 18446744073709551615) (hf : fitsB v n = false) :
    Calls Tryd.prog 50 #[.int .u64 x, .int .i64 a, .int .i64 n, .int .u64 v] w fun e w' => e = .returned (.tuple #[.int .u64 0, .int .i64 1]) ∧ w' = w := by
  go_enter Tryd.func50, Tryd.ntmps50
  go_wp2_with (first
    | (go_at_call 58; refine (inWord_yes _ _ _ (by omega) (by omega) (by omega)).mono ?_; rintro e w' ⟨rfl, rfl⟩)
    | (go_at_call 54; refine (fits_any _ _ _ (by omega) (by omega)).mono ?_; rintro e w' ⟨rfl, rfl⟩))
  go_ret2
  exact ⟨rfl, rfl⟩
theorem get_yes (x a n : Int) (w : World) (h0 : 0 ≤ a) (h1 : 1 ≤ n) (h2 : n ≤ 64 - a) (hx0 : 0 ≤ x) (hx1 : x ≤ 18446744073709551615) :
    Calls Tryd.prog 53 #[.int .u64 x, .int .i64 a, .int .i64 n] w fun e w' => e = .returned (.tuple #[.int .u64 (getF x a n), .int .i64 0]) ∧ w' = w := by
  go_enter Tryd.func53, Tryd.ntmps53
  go_wp2_with (first
    | (go_at_call 58; refine (inWord_yes _ _ _ (by omega) (by omega) (by omega)).mono ?_; rintro e w' ⟨rfl, rfl⟩)
    | (go_at_call 62; refine (cut_any _ _ _ _ (by omega) (by omega) (by omega) (by omega) (by omega)).mono ?_; rintro e w' ⟨rfl, rfl⟩))
  go_ret2
  exact ⟨rfl, rfl⟩
theorem get_no (x a n : Int) (w : World) (h : ¬ (0 ≤ a ∧ 1 ≤ n ∧ n ≤ 64 - a)) (ha : a ≤ 9223372036854775807) :
    Calls Tryd.prog 53 #[.int .u64 x, .int .i64 a, .int .i64 n] w fun e w' => e = .returned (.tuple #[.int .u64 0, .int .i64 1]) ∧ w' = w := by
  have H : Hid (¬ (0 ≤ a ∧ 1 ≤ n ∧ n ≤ 64 - a)) := h
  clear h
  go_enter Tryd.func53, Tryd.ntmps53
  go_wp2_with (go_at_call 58; refine (inWord_no _ _ _ H.out ha).mono ?_; rintro e w' ⟨rfl, rfl⟩)
  go_ret2
  exact ⟨rfl, rfl⟩
end Go.Proofs.YtkodanflobclhaaDoor.Pfield
