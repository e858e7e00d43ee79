/- What the document's right and Check of layer 10 answer, for every head. -/
import Derived.Test.YtlpnnpapeoahkaaDoorHdD
namespace Go.Proofs.YtlpnnpapeoahkaaDoor
open Go.RowKit M
set_option linter.unusedVariables false

set_option maxRecDepth 100000 in
set_option maxHeartbeats 4000000 in
theorem right_any (k l : Int) (z : Bool) (t : Int) (w : World) :
    Calls Tryd.prog 27 #[.agg #[.int .i64 k, .int .i64 l, .bool z, .int .i64 t]] w fun e w' => e = .returned (.bool (rtB k l z t)) ∧ Below w.heap.size w w' := by
  by_cases h0 : k < 0
  · rw [rtB_no fun h => by unfold Rt at h; omega]
    go_enter Tryd.func27, Tryd.ntmps27
    go_wp2
    go_ret
    exact ⟨rfl, bal (Below.refl _ _) _⟩
  by_cases h1 : 6 < k
  · rw [rtB_no fun h => by unfold Rt at h; omega]
    go_enter Tryd.func27, Tryd.ntmps27
    go_wp2
    go_ret
    exact ⟨rfl, bal (Below.refl _ _) _⟩
  by_cases h2 : l < 0
  · rw [rtB_no fun h => by unfold Rt at h; omega]
    go_enter Tryd.func27, Tryd.ntmps27
    go_wp2
    go_ret
    exact ⟨rfl, bal (Below.refl _ _) _⟩
  by_cases h3 : 1 < l
  · rw [rtB_no fun h => by unfold Rt at h; omega]
    go_enter Tryd.func27, Tryd.ntmps27
    go_wp2
    go_ret
    exact ⟨rfl, bal (Below.refl _ _) _⟩
  by_cases h4 : t < 0
  · rw [rtB_no fun h => by unfold Rt at h; omega]
    go_enter Tryd.func27, Tryd.ntmps27
    go_wp2
    go_ret
    exact ⟨rfl, bal (Below.refl _ _) _⟩
  by_cases h5 : 1073741824 < t
  · rw [rtB_no fun h => by unfold Rt at h; omega]
    go_enter Tryd.func27, Tryd.ntmps27
    go_wp2
    go_ret
    exact ⟨rfl, bal (Below.refl _ _) _⟩
  rcases (show l = 0 ∨ l = 1 by omega) with rfl | rfl
  · cases z
    case true =>
      by_cases hk : k = 1
      · subst hk
        rw [rtB_yes (k := 1) (l := 0) (z := true) (t := t) (by unfold Rt; simp <;> omega)]
        go_enter Tryd.func27, Tryd.ntmps27
        go_wp2
        go_ret
        exact ⟨rfl, bal (Below.refl _ _) _⟩
      · have bk : (k != 1) = true := by simp [hk]
        rw [rtB_no (k := k) (l := 0) (z := true) (t := t) fun h => by unfold Rt at h; simp at h <;> omega]
        go_enter Tryd.func27, Tryd.ntmps27
        go_wp2
        go_ret
        exact ⟨rfl, bal (Below.refl _ _) _⟩
    case false =>
      by_cases ht : t = 0
      · subst ht
        rw [rtB_yes (k := k) (l := 0) (z := false) (t := 0) (by unfold Rt; simp <;> omega)]
        go_enter Tryd.func27, Tryd.ntmps27
        go_wp2
        go_ret
        exact ⟨rfl, bal (Below.refl _ _) _⟩
      · have bt : (t == 0) = false := by simp [ht]
        rw [rtB_no (k := k) (l := 0) (z := false) (t := t) fun h => by unfold Rt at h; simp at h <;> omega]
        go_enter Tryd.func27, Tryd.ntmps27
        go_wp2
        go_ret
        exact ⟨rfl, bal (Below.refl _ _) _⟩
  · by_cases hk : k = 1
    · subst hk
      cases z
      case true =>
        rw [rtB_yes (k := 1) (l := 1) (z := true) (t := t) (by unfold Rt; simp <;> omega)]
        go_enter Tryd.func27, Tryd.ntmps27
        go_wp2
        go_ret
        exact ⟨rfl, bal (Below.refl _ _) _⟩
      case false =>
        by_cases ht : t = 0
        · subst ht
          rw [rtB_yes (k := 1) (l := 1) (z := false) (t := 0) (by unfold Rt; simp <;> omega)]
          go_enter Tryd.func27, Tryd.ntmps27
          go_wp2
          go_ret
          exact ⟨rfl, bal (Below.refl _ _) _⟩
        · have bt : (t == 0) = false := by simp [ht]
          rw [rtB_no (k := 1) (l := 1) (z := false) (t := t) fun h => by unfold Rt at h; simp at h <;> omega]
          go_enter Tryd.func27, Tryd.ntmps27
          go_wp2
          go_ret
          exact ⟨rfl, bal (Below.refl _ _) _⟩
    by_cases hk2 : k = 2
    · subst hk2
      cases z
      case true =>
        rw [rtB_no (k := 2) (l := 1) (z := true) (t := t) fun h => by unfold Rt at h; simp at h <;> omega]
        go_enter Tryd.func27, Tryd.ntmps27
        go_wp2
        go_ret
        exact ⟨rfl, bal (Below.refl _ _) _⟩
      case false =>
        by_cases ht : t = 0
        · subst ht
          rw [rtB_yes (k := 2) (l := 1) (z := false) (t := 0) (by unfold Rt; simp <;> omega)]
          go_enter Tryd.func27, Tryd.ntmps27
          go_wp2
          go_ret
          exact ⟨rfl, bal (Below.refl _ _) _⟩
        · have bt : (t == 0) = false := by simp [ht]
          rw [rtB_no (k := 2) (l := 1) (z := false) (t := t) fun h => by unfold Rt at h; simp at h <;> omega]
          go_enter Tryd.func27, Tryd.ntmps27
          go_wp2
          go_ret
          exact ⟨rfl, bal (Below.refl _ _) _⟩
    have bk : (k != 1) = true := by simp [hk]
    have bk2 : (k != 2) = true := by simp [hk2]
    rw [rtB_no (k := k) (l := 1) (z := z) (t := t) fun h => by unfold Rt at h; simp at h <;> omega]
    go_enter Tryd.func27, Tryd.ntmps27
    go_wp2
    go_ret
    exact ⟨rfl, bal (Below.refl _ _) _⟩
set_option maxRecDepth 100000 in
theorem rcheck_any (k l : Int) (z : Bool) (t : Int) (w : World) :
    Calls Tryd.prog 12 #[.agg #[.int .i64 k, .int .i64 l, .bool z, .int .i64 t]] w fun e w' => e = .returned (.int .i64 (chk k l z t)) ∧ Below w.heap.size w w' := by
  have HR : Hid (∀ w1, Calls Tryd.prog 27 #[.agg #[.int .i64 k, .int .i64 l, .bool z, .int .i64 t]] w1 fun e w' => e = .returned (.bool (rtB k l z t)) ∧ Below w1.heap.size w1 w') := fun w1 => right_any k l z t w1
  unfold chk
  generalize rtB k l z t = r at HR ⊢
  cases r
  all_goals
    go_enter Tryd.func12, Tryd.ntmps12
    go_wp2_with (first
      | (go_at_call 27; refine (HR.out _).mono ?_; rintro e1 w1 ⟨rfl, hb1⟩; have H1 : Hid (Below w.heap.size w w1) := (bal (Below.refl _ _) _).trans (hb1.mono (by simp)); clear hb1)
      | fail)
    go_ret
    exact ⟨rfl, H1.out⟩
end Go.Proofs.YtlpnnpapeoahkaaDoor
