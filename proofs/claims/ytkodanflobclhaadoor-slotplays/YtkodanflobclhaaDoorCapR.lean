/- What the document's answers of layer 9 are, for every argument that their types allow: the same words as the program's. -/
import Derived.Test.YtkodanflobclhaaDoorCapE
namespace Go.Proofs.YtkodanflobclhaaDoor.Pcap
open Go.Proofs.YtkodanflobclhaaDoor.Pbase Go.Proofs.YtkodanflobclhaaDoor.Pfield
open Go.RowKit M
set_option linter.unusedVariables false

/-! ### when one is right -/
theorem in_yes (n m : Int) (w : World) (h0 : 0 ≤ n) (h1 : n < m) : Calls Tryd.prog 51 #[.int .i64 n, .int .i64 m] w fun x w' => x = .returned (.bool true) ∧ w' = w := by
  go_enter Tryd.func51, Tryd.ntmps51
  go_wp2
  go_ret
  exact ⟨rfl, rfl⟩
theorem in_no (n m : Int) (w : World) (h : ¬ (0 ≤ n ∧ n < m)) : Calls Tryd.prog 51 #[.int .i64 n, .int .i64 m] w fun x w' => x = .returned (.bool false) ∧ w' = w := by
  by_cases h0 : 0 ≤ n
  · have h1 : ¬ n < m := fun h1 => h ⟨h0, h1⟩
    clear h
    go_enter Tryd.func51, Tryd.ntmps51
    go_wp2
    go_ret
    exact ⟨rfl, rfl⟩
  · clear h
    go_enter Tryd.func51, Tryd.ntmps51
    go_wp2
    go_ret
    exact ⟨rfl, rfl⟩
def inR (n m : Int) : Bool := decide (0 ≤ n) && decide (n < m)
theorem in_any (n m : Int) (w : World) : Calls Tryd.prog 51 #[.int .i64 n, .int .i64 m] w fun x w' => x = .returned (.bool (inR n m)) ∧ w' = w := by
  by_cases h : 0 ≤ n ∧ n < m
  · rw [show inR n m = true by simp [inR, h]]
    exact in_yes n m w h.1 h.2
  · rw [show inR n m = false by simp [inR]; omega]
    exact in_no n m w h
theorem ret_rt_yes {k r t l e a : Int} (h : Rt k r t l e a) : Ending.returned (Value.bool true) = .returned (.bool (rtB k r t l e a)) := by rw [rtB_yes h]
theorem ret_rt_no {k r t l e a : Int} (h : ¬ Rt k r t l e a) : Ending.returned (Value.bool false) = .returned (.bool (rtB k r t l e a)) := by rw [rtB_no h]
theorem ret_rt_eq {k r t l e a : Int} {b : Bool} (h : b = true ↔ Rt k r t l e a) : Ending.returned (Value.bool b) = .returned (.bool (rtB k r t l e a)) := by
  by_cases hr : Rt k r t l e a
  · rw [rtB_yes hr, h.2 hr]
  · rw [rtB_no hr, Bool.eq_false_iff.2 fun hb => hr (h.1 hb)]
set_option maxRecDepth 100000 in
set_option maxHeartbeats 2000000 in
theorem right_any (k r t l e a : Int) (w : World) :
    Calls Tryd.prog 41 #[.agg #[.int .i64 k, .int .i64 r, .int .i64 t, .int .i64 l, .int .i64 e, .int .i64 a]] w fun x w' => x = .returned (.bool (rtB k r t l e a)) ∧ Below w.heap.size w w' := by
  obtain ⟨k0, hk⟩ : ∃ b, b = inR k 12 := ⟨_, rfl⟩
  obtain ⟨r0, hr⟩ : ∃ b, b = inR r 32 := ⟨_, rfl⟩
  obtain ⟨t0, ht⟩ : ∃ b, b = inR t 64 := ⟨_, rfl⟩
  obtain ⟨l0, hl⟩ : ∃ b, b = inR l 64 := ⟨_, rfl⟩
  obtain ⟨e0, he⟩ : ∃ b, b = inR e 65536 := ⟨_, rfl⟩
  obtain ⟨a0, ha⟩ : ∃ b, b = inR a 1073741825 := ⟨_, rfl⟩
  have HK : Hid (∀ w1 : World, Calls Tryd.prog 51 #[.int .i64 k, .int .i64 12] w1 fun x w' => x = .returned (.bool k0) ∧ w' = w1) := fun w1 => hk ▸ in_any k 12 w1
  have HR : Hid (∀ w1 : World, Calls Tryd.prog 51 #[.int .i64 r, .int .i64 32] w1 fun x w' => x = .returned (.bool r0) ∧ w' = w1) := fun w1 => hr ▸ in_any r 32 w1
  have HT : Hid (∀ w1 : World, Calls Tryd.prog 51 #[.int .i64 t, .int .i64 64] w1 fun x w' => x = .returned (.bool t0) ∧ w' = w1) := fun w1 => ht ▸ in_any t 64 w1
  have HL : Hid (∀ w1 : World, Calls Tryd.prog 51 #[.int .i64 l, .int .i64 64] w1 fun x w' => x = .returned (.bool l0) ∧ w' = w1) := fun w1 => hl ▸ in_any l 64 w1
  have HE : Hid (∀ w1 : World, Calls Tryd.prog 51 #[.int .i64 e, .int .i64 65536] w1 fun x w' => x = .returned (.bool e0) ∧ w' = w1) := fun w1 => he ▸ in_any e 65536 w1
  have HA : Hid (∀ w1 : World, Calls Tryd.prog 51 #[.int .i64 a, .int .i64 1073741825] w1 fun x w' => x = .returned (.bool a0) ∧ w' = w1) := fun w1 => ha ▸ in_any a 1073741825 w1
  have HN : Hid (¬ (k0 = true ∧ r0 = true ∧ t0 = true ∧ l0 = true ∧ e0 = true ∧ a0 = true) → Ending.returned (Value.bool false) = .returned (.bool (rtB k r t l e a))) := fun hall => ret_rt_no (fun h => hall (by
      unfold Rt at h
      rw [hk, hr, ht, hl, he, ha]
      simp only [inR, Bool.and_eq_true, decide_eq_true_eq]
      omega))
  have HY : k0 = true → r0 = true → t0 = true → l0 = true → e0 = true → a0 = true → 0 ≤ k ∧ k < 12 ∧ 0 ≤ r ∧ r < 32 ∧ 0 ≤ t ∧ t < 64 ∧ 0 ≤ l ∧ l < 64 ∧ 0 ≤ e ∧ e < 65536 ∧ 0 ≤ a ∧ a < 1073741825 := by
    rw [hk, hr, ht, hl, he, ha]
    simp only [inR, Bool.and_eq_true, decide_eq_true_eq]
    omega
  clear hk hr ht hl he ha
  cases k0
  case false =>
    have HM : Hid (Ending.returned (Value.bool false) = .returned (.bool (rtB k r t l e a))) := HN.out (by simp)
    clear HY HN
    go_enter Tryd.func41, Tryd.ntmps41
    go_wp2_with (first
      | (go_at_call 51; refine (HK.out _).mono ?_; rintro e1 w1 ⟨rfl, rfl⟩; clear HK)
      | (go_at_call 51; refine (HR.out _).mono ?_; rintro e1 w1 ⟨rfl, rfl⟩; clear HR)
      | (go_at_call 51; refine (HT.out _).mono ?_; rintro e1 w1 ⟨rfl, rfl⟩; clear HT)
      | (go_at_call 51; refine (HL.out _).mono ?_; rintro e1 w1 ⟨rfl, rfl⟩; clear HL)
      | (go_at_call 51; refine (HE.out _).mono ?_; rintro e1 w1 ⟨rfl, rfl⟩; clear HE)
      | (go_at_call 51; refine (HA.out _).mono ?_; rintro e1 w1 ⟨rfl, rfl⟩; clear HA)
      | fail)
    go_ret
    exact ⟨HM.out, bal (Below.refl _ _) _⟩
  case true =>
  cases r0
  case false =>
    have HM : Hid (Ending.returned (Value.bool false) = .returned (.bool (rtB k r t l e a))) := HN.out (by simp)
    clear HY HN
    go_enter Tryd.func41, Tryd.ntmps41
    go_wp2_with (first
      | (go_at_call 51; refine (HK.out _).mono ?_; rintro e1 w1 ⟨rfl, rfl⟩; clear HK)
      | (go_at_call 51; refine (HR.out _).mono ?_; rintro e1 w1 ⟨rfl, rfl⟩; clear HR)
      | (go_at_call 51; refine (HT.out _).mono ?_; rintro e1 w1 ⟨rfl, rfl⟩; clear HT)
      | (go_at_call 51; refine (HL.out _).mono ?_; rintro e1 w1 ⟨rfl, rfl⟩; clear HL)
      | (go_at_call 51; refine (HE.out _).mono ?_; rintro e1 w1 ⟨rfl, rfl⟩; clear HE)
      | (go_at_call 51; refine (HA.out _).mono ?_; rintro e1 w1 ⟨rfl, rfl⟩; clear HA)
      | fail)
    go_ret
    exact ⟨HM.out, bal (Below.refl _ _) _⟩
  case true =>
  cases t0
  case false =>
    have HM : Hid (Ending.returned (Value.bool false) = .returned (.bool (rtB k r t l e a))) := HN.out (by simp)
    clear HY HN
    go_enter Tryd.func41, Tryd.ntmps41
    go_wp2_with (first
      | (go_at_call 51; refine (HK.out _).mono ?_; rintro e1 w1 ⟨rfl, rfl⟩; clear HK)
      | (go_at_call 51; refine (HR.out _).mono ?_; rintro e1 w1 ⟨rfl, rfl⟩; clear HR)
      | (go_at_call 51; refine (HT.out _).mono ?_; rintro e1 w1 ⟨rfl, rfl⟩; clear HT)
      | (go_at_call 51; refine (HL.out _).mono ?_; rintro e1 w1 ⟨rfl, rfl⟩; clear HL)
      | (go_at_call 51; refine (HE.out _).mono ?_; rintro e1 w1 ⟨rfl, rfl⟩; clear HE)
      | (go_at_call 51; refine (HA.out _).mono ?_; rintro e1 w1 ⟨rfl, rfl⟩; clear HA)
      | fail)
    go_ret
    exact ⟨HM.out, bal (Below.refl _ _) _⟩
  case true =>
  cases l0
  case false =>
    have HM : Hid (Ending.returned (Value.bool false) = .returned (.bool (rtB k r t l e a))) := HN.out (by simp)
    clear HY HN
    go_enter Tryd.func41, Tryd.ntmps41
    go_wp2_with (first
      | (go_at_call 51; refine (HK.out _).mono ?_; rintro e1 w1 ⟨rfl, rfl⟩; clear HK)
      | (go_at_call 51; refine (HR.out _).mono ?_; rintro e1 w1 ⟨rfl, rfl⟩; clear HR)
      | (go_at_call 51; refine (HT.out _).mono ?_; rintro e1 w1 ⟨rfl, rfl⟩; clear HT)
      | (go_at_call 51; refine (HL.out _).mono ?_; rintro e1 w1 ⟨rfl, rfl⟩; clear HL)
      | (go_at_call 51; refine (HE.out _).mono ?_; rintro e1 w1 ⟨rfl, rfl⟩; clear HE)
      | (go_at_call 51; refine (HA.out _).mono ?_; rintro e1 w1 ⟨rfl, rfl⟩; clear HA)
      | fail)
    go_ret
    exact ⟨HM.out, bal (Below.refl _ _) _⟩
  case true =>
  cases e0
  case false =>
    have HM : Hid (Ending.returned (Value.bool false) = .returned (.bool (rtB k r t l e a))) := HN.out (by simp)
    clear HY HN
    go_enter Tryd.func41, Tryd.ntmps41
    go_wp2_with (first
      | (go_at_call 51; refine (HK.out _).mono ?_; rintro e1 w1 ⟨rfl, rfl⟩; clear HK)
      | (go_at_call 51; refine (HR.out _).mono ?_; rintro e1 w1 ⟨rfl, rfl⟩; clear HR)
      | (go_at_call 51; refine (HT.out _).mono ?_; rintro e1 w1 ⟨rfl, rfl⟩; clear HT)
      | (go_at_call 51; refine (HL.out _).mono ?_; rintro e1 w1 ⟨rfl, rfl⟩; clear HL)
      | (go_at_call 51; refine (HE.out _).mono ?_; rintro e1 w1 ⟨rfl, rfl⟩; clear HE)
      | (go_at_call 51; refine (HA.out _).mono ?_; rintro e1 w1 ⟨rfl, rfl⟩; clear HA)
      | fail)
    go_ret
    exact ⟨HM.out, bal (Below.refl _ _) _⟩
  case true =>
  cases a0
  case false =>
    have HM : Hid (Ending.returned (Value.bool false) = .returned (.bool (rtB k r t l e a))) := HN.out (by simp)
    clear HY HN
    go_enter Tryd.func41, Tryd.ntmps41
    go_wp2_with (first
      | (go_at_call 51; refine (HK.out _).mono ?_; rintro e1 w1 ⟨rfl, rfl⟩; clear HK)
      | (go_at_call 51; refine (HR.out _).mono ?_; rintro e1 w1 ⟨rfl, rfl⟩; clear HR)
      | (go_at_call 51; refine (HT.out _).mono ?_; rintro e1 w1 ⟨rfl, rfl⟩; clear HT)
      | (go_at_call 51; refine (HL.out _).mono ?_; rintro e1 w1 ⟨rfl, rfl⟩; clear HL)
      | (go_at_call 51; refine (HE.out _).mono ?_; rintro e1 w1 ⟨rfl, rfl⟩; clear HE)
      | (go_at_call 51; refine (HA.out _).mono ?_; rintro e1 w1 ⟨rfl, rfl⟩; clear HA)
      | fail)
    go_ret
    exact ⟨HM.out, bal (Below.refl _ _) _⟩
  case true =>
  obtain ⟨k1, k2, r1, r2, t1, t2, l1, l2, e1', e2', a1, a2⟩ := HY rfl rfl rfl rfl rfl rfl
  clear HY HN
  have hs : wrap64 (t + a) = t + a := by unfold wrap64; omega
  by_cases hk0 : k = 0
  case pos =>
    subst hk0
    go_enter Tryd.func41, Tryd.ntmps41
    go_wp2_with (first
      | (go_at_call 51; refine (HK.out _).mono ?_; rintro e1 w1 ⟨rfl, rfl⟩; clear HK)
      | (go_at_call 51; refine (HR.out _).mono ?_; rintro e1 w1 ⟨rfl, rfl⟩; clear HR)
      | (go_at_call 51; refine (HT.out _).mono ?_; rintro e1 w1 ⟨rfl, rfl⟩; clear HT)
      | (go_at_call 51; refine (HL.out _).mono ?_; rintro e1 w1 ⟨rfl, rfl⟩; clear HL)
      | (go_at_call 51; refine (HE.out _).mono ?_; rintro e1 w1 ⟨rfl, rfl⟩; clear HE)
      | (go_at_call 51; refine (HA.out _).mono ?_; rintro e1 w1 ⟨rfl, rfl⟩; clear HA)
      | fail)
    all_goals
      go_ret
      exact ⟨by first | exact ret_rt_yes (by unfold Rt; omega) | exact ret_rt_no (by unfold Rt; omega) | exact ret_rt_eq (by rw [beq_iff_eq]; unfold Rt; omega) | exact ret_rt_eq (by rw [decide_eq_true_eq]; unfold Rt; omega), bal (Below.refl _ _) _⟩
  case neg =>
  have bk0 : (k == 0) = false := by simp [hk0]
  by_cases hk1 : k = 1
  case pos =>
    subst hk1
    go_enter Tryd.func41, Tryd.ntmps41
    go_wp2_with (first
      | (go_at_call 51; refine (HK.out _).mono ?_; rintro e1 w1 ⟨rfl, rfl⟩; clear HK)
      | (go_at_call 51; refine (HR.out _).mono ?_; rintro e1 w1 ⟨rfl, rfl⟩; clear HR)
      | (go_at_call 51; refine (HT.out _).mono ?_; rintro e1 w1 ⟨rfl, rfl⟩; clear HT)
      | (go_at_call 51; refine (HL.out _).mono ?_; rintro e1 w1 ⟨rfl, rfl⟩; clear HL)
      | (go_at_call 51; refine (HE.out _).mono ?_; rintro e1 w1 ⟨rfl, rfl⟩; clear HE)
      | (go_at_call 51; refine (HA.out _).mono ?_; rintro e1 w1 ⟨rfl, rfl⟩; clear HA)
      | fail)
    all_goals
      go_ret
      exact ⟨by first | exact ret_rt_yes (by unfold Rt; omega) | exact ret_rt_no (by unfold Rt; omega) | exact ret_rt_eq (by rw [beq_iff_eq]; unfold Rt; omega) | exact ret_rt_eq (by rw [decide_eq_true_eq]; unfold Rt; omega), bal (Below.refl _ _) _⟩
  case neg =>
  have bk1 : (k == 1) = false := by simp [hk1]
  by_cases hk2 : k = 2
  case pos =>
    subst hk2
    go_enter Tryd.func41, Tryd.ntmps41
    go_wp2_with (first
      | (go_at_call 51; refine (HK.out _).mono ?_; rintro e1 w1 ⟨rfl, rfl⟩; clear HK)
      | (go_at_call 51; refine (HR.out _).mono ?_; rintro e1 w1 ⟨rfl, rfl⟩; clear HR)
      | (go_at_call 51; refine (HT.out _).mono ?_; rintro e1 w1 ⟨rfl, rfl⟩; clear HT)
      | (go_at_call 51; refine (HL.out _).mono ?_; rintro e1 w1 ⟨rfl, rfl⟩; clear HL)
      | (go_at_call 51; refine (HE.out _).mono ?_; rintro e1 w1 ⟨rfl, rfl⟩; clear HE)
      | (go_at_call 51; refine (HA.out _).mono ?_; rintro e1 w1 ⟨rfl, rfl⟩; clear HA)
      | fail)
    all_goals
      go_ret
      exact ⟨by first | exact ret_rt_yes (by unfold Rt; omega) | exact ret_rt_no (by unfold Rt; omega) | exact ret_rt_eq (by rw [beq_iff_eq]; unfold Rt; omega) | exact ret_rt_eq (by rw [decide_eq_true_eq]; unfold Rt; omega), bal (Below.refl _ _) _⟩
  case neg =>
  have bk2 : (k == 2) = false := by simp [hk2]
  by_cases hk5 : k = 5
  case pos =>
    subst hk5
    go_enter Tryd.func41, Tryd.ntmps41
    go_wp2_with (first
      | (go_at_call 51; refine (HK.out _).mono ?_; rintro e1 w1 ⟨rfl, rfl⟩; clear HK)
      | (go_at_call 51; refine (HR.out _).mono ?_; rintro e1 w1 ⟨rfl, rfl⟩; clear HR)
      | (go_at_call 51; refine (HT.out _).mono ?_; rintro e1 w1 ⟨rfl, rfl⟩; clear HT)
      | (go_at_call 51; refine (HL.out _).mono ?_; rintro e1 w1 ⟨rfl, rfl⟩; clear HL)
      | (go_at_call 51; refine (HE.out _).mono ?_; rintro e1 w1 ⟨rfl, rfl⟩; clear HE)
      | (go_at_call 51; refine (HA.out _).mono ?_; rintro e1 w1 ⟨rfl, rfl⟩; clear HA)
      | fail)
    all_goals
      go_ret
      exact ⟨by first | exact ret_rt_yes (by unfold Rt; omega) | exact ret_rt_no (by unfold Rt; omega) | exact ret_rt_eq (by rw [beq_iff_eq]; unfold Rt; omega) | exact ret_rt_eq (by rw [decide_eq_true_eq]; unfold Rt; omega), bal (Below.refl _ _) _⟩
  case neg =>
  have bk5 : (k == 5) = false := by simp [hk5]
  by_cases hk7 : k = 7
  case pos =>
    subst hk7
    go_enter Tryd.func41, Tryd.ntmps41
    go_wp2_with (first
      | (go_at_call 51; refine (HK.out _).mono ?_; rintro e1 w1 ⟨rfl, rfl⟩; clear HK)
      | (go_at_call 51; refine (HR.out _).mono ?_; rintro e1 w1 ⟨rfl, rfl⟩; clear HR)
      | (go_at_call 51; refine (HT.out _).mono ?_; rintro e1 w1 ⟨rfl, rfl⟩; clear HT)
      | (go_at_call 51; refine (HL.out _).mono ?_; rintro e1 w1 ⟨rfl, rfl⟩; clear HL)
      | (go_at_call 51; refine (HE.out _).mono ?_; rintro e1 w1 ⟨rfl, rfl⟩; clear HE)
      | (go_at_call 51; refine (HA.out _).mono ?_; rintro e1 w1 ⟨rfl, rfl⟩; clear HA)
      | fail)
    all_goals
      go_ret
      exact ⟨by first | exact ret_rt_yes (by unfold Rt; omega) | exact ret_rt_no (by unfold Rt; omega) | exact ret_rt_eq (by rw [beq_iff_eq]; unfold Rt; omega) | exact ret_rt_eq (by rw [decide_eq_true_eq]; unfold Rt; omega), bal (Below.refl _ _) _⟩
  case neg =>
  have bk7 : (k == 7) = false := by simp [hk7]
  by_cases hk11 : k = 11
  case pos =>
    subst hk11
    go_enter Tryd.func41, Tryd.ntmps41
    go_wp2_with (first
      | (go_at_call 51; refine (HK.out _).mono ?_; rintro e1 w1 ⟨rfl, rfl⟩; clear HK)
      | (go_at_call 51; refine (HR.out _).mono ?_; rintro e1 w1 ⟨rfl, rfl⟩; clear HR)
      | (go_at_call 51; refine (HT.out _).mono ?_; rintro e1 w1 ⟨rfl, rfl⟩; clear HT)
      | (go_at_call 51; refine (HL.out _).mono ?_; rintro e1 w1 ⟨rfl, rfl⟩; clear HL)
      | (go_at_call 51; refine (HE.out _).mono ?_; rintro e1 w1 ⟨rfl, rfl⟩; clear HE)
      | (go_at_call 51; refine (HA.out _).mono ?_; rintro e1 w1 ⟨rfl, rfl⟩; clear HA)
      | fail)
    all_goals
      go_ret
      exact ⟨by first | exact ret_rt_yes (by unfold Rt; omega) | exact ret_rt_no (by unfold Rt; omega) | exact ret_rt_eq (by rw [beq_iff_eq]; unfold Rt; omega) | exact ret_rt_eq (by rw [decide_eq_true_eq]; unfold Rt; omega), bal (Below.refl _ _) _⟩
  case neg =>
  have bk11 : (k == 11) = false := by simp [hk11]
  go_enter Tryd.func41, Tryd.ntmps41
  go_wp2_with (first
    | (go_at_call 51; refine (HK.out _).mono ?_; rintro e1 w1 ⟨rfl, rfl⟩; clear HK)
    | (go_at_call 51; refine (HR.out _).mono ?_; rintro e1 w1 ⟨rfl, rfl⟩; clear HR)
    | (go_at_call 51; refine (HT.out _).mono ?_; rintro e1 w1 ⟨rfl, rfl⟩; clear HT)
    | (go_at_call 51; refine (HL.out _).mono ?_; rintro e1 w1 ⟨rfl, rfl⟩; clear HL)
    | (go_at_call 51; refine (HE.out _).mono ?_; rintro e1 w1 ⟨rfl, rfl⟩; clear HE)
    | (go_at_call 51; refine (HA.out _).mono ?_; rintro e1 w1 ⟨rfl, rfl⟩; clear HA)
    | fail)
  all_goals
    go_ret
    exact ⟨by first | exact ret_rt_yes (by unfold Rt; omega) | exact ret_rt_no (by unfold Rt; omega) | exact ret_rt_eq (by rw [beq_iff_eq]; unfold Rt; omega) | exact ret_rt_eq (by rw [decide_eq_true_eq]; unfold Rt; omega), bal (Below.refl _ _) _⟩
--END right_any
end Go.Proofs.YtkodanflobclhaaDoor.Pcap
