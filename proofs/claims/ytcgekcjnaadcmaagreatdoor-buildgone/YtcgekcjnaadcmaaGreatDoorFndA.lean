/- What find's unless answers, and its ask, over a row of two, three or four questions, whatever these are (written by mk_fa.py). -/
import Derived.Test.YtcgekcjnaadcmaaGreatDoorBunBase
import Derived.WalkKit
import Derived.WalkMore
import Derived.Deep.CutBlock
import Derived.Deep.DeepCutAuto
namespace Go.Proofs.YtcgekcjnaadcmaaGreatDoor.Pfind
open Go.Proofs.YtcgekcjnaadcmaaGreatDoor.Pbase
open Go.RowKit
set_option linter.unusedVariables false
set_option linter.unusedSimpArgs false

theorem fhide {p : Prop} (h : p) : Hid p := h
def unI (b : Bool) (e : Int) : Int := if b = true then 0 else e
set_option maxRecDepth 100000 in
theorem unless_any (b : Bool) (e : Int) (w : World) : Calls Tryz.prog 85 #[.bool b, .int .i64 e] w fun x w' => x = .returned (.int .i64 (unI b e)) ∧ w' = w := by
  cases b
  · go_enter Tryz.func85, Tryz.ntmps85
    go_wp2
    go_ret
    exact ⟨rfl, rfl⟩
  · go_enter Tryz.func85, Tryz.ntmps85
    go_wp2
    go_ret
    exact ⟨rfl, rfl⟩
/-- The first of the answers that is a refusal. -/
def fstN (R : Nat → Int) : Nat → Int
  | 0 => 0
  | k + 1 => if fstN R k = 0 then R k else fstN R k
theorem fstN_end {R : Nat → Int} {j : Nat} (h : fstN R j ≠ 0) : ∀ n, j ≤ n → fstN R n = fstN R j := by
  intro n hn
  induction n with
  | zero => rw [show j = 0 by omega]
  | succ n ih =>
    by_cases e : j = n + 1
    · rw [e]
    · have := ih (by omega)
      show (if fstN R n = 0 then R n else fstN R n) = _
      rw [if_neg (by rw [this]; exact h), this]
set_option maxRecDepth 100000 in
set_option maxHeartbeats 4000000 in
theorem askFresh_any {w : World} {mv : Value} {N R0 : Nat} (R : Nat → Int) (J : Nat → World → Prop) (x0a x0b x1a x1b x2a x2b : Nat) (hN : 1 ≤ N) (hJ0 : J 0 w)
    (hC : ∀ wx, J 0 wx → Calls Tryz.prog 136 #[mv] wx fun e w' => e = .returned (.int .i64 N) ∧ w' = wx)
    (hR : ∀ j wx, J j wx → wx.cell? ⟨R0, 0, none⟩ = some (.func (.func 84) #[] #[.pointer (some ⟨x0a, 0, none⟩), .pointer (some ⟨x0b, 0, none⟩)]) ∧ wx.cell? ⟨R0, 1, none⟩ = some (.func (.func 86) #[] #[.pointer (some ⟨x1a, 0, none⟩), .pointer (some ⟨x1b, 0, none⟩)]) ∧ wx.cell? ⟨R0, 2, none⟩ = some (.func (.func 88) #[] #[.pointer (some ⟨x2a, 0, none⟩), .pointer (some ⟨x2b, 0, none⟩)]))
    (h0 : ∀ wx, J 0 wx → Calls Tryz.prog 84 #[.pointer (some ⟨x0a, 0, none⟩), .pointer (some ⟨x0b, 0, none⟩)] wx fun e w' => e = .returned (.int .i64 (R 0)) ∧ J 1 w')
    (h1 : ∀ wx, J 1 wx → Calls Tryz.prog 86 #[.pointer (some ⟨x1a, 0, none⟩), .pointer (some ⟨x1b, 0, none⟩)] wx fun e w' => e = .returned (.int .i64 (R 1)) ∧ J 2 w')
    (h2 : ∀ wx, J 2 wx → Calls Tryz.prog 88 #[.pointer (some ⟨x2a, 0, none⟩), .pointer (some ⟨x2b, 0, none⟩)] wx fun e w' => e = .returned (.int .i64 (R 2)) ∧ J 3 w')
    : Calls Tryz.prog 83 #[mv, .slice (some ⟨R0, 0, none⟩) 3 3] w fun e w' => e = .returned (.int .i64 (fstN R 3)) ∧ ∃ j, j ≤ 3 ∧ fstN R j = fstN R 3 ∧ (j = 3 ∨ fstN R j ≠ 0) ∧ J j w' := by
  have HJ := fhide hJ0
  have HC := fhide hC
  have HR := fhide hR
  have n1 : (0 : Int) < N := by omega
  have n2 : 0 < N := by omega
  have H0 := fhide h0
  have H1 := fhide h1
  have H2 := fhide h2
  clear hJ0 hC hR hN h0 h1 h2
  go_enter Tryz.func83, Tryz.ntmps83
  go_wp2
  go_step3
  go_wp2_with (first
    | (go_at_call 136; refine (HC.out _ HJ.out).mono ?_; rintro e w1 ⟨rfl, hw⟩; subst w1; clear HC)
    | (go_at_call 85; refine (unless_any true 13 _).mono ?_; rintro e w1 ⟨rfl, hw⟩; subst w1)
    | fail)
  go_step3
  go_wp2
  go_loopw [5, 14] (fun e i wr => ∃ j : Nat, j ≤ 3 ∧ i = .int .i64 j ∧ e = .int .i64 (fstN R j) ∧ J j wr) (fun _ i _ => 3 - (intOf i).toNat)
  case atStart => exact ⟨0, by omega, rfl, rfl, HJ.out⟩
  case round =>
    obtain ⟨j, hj, rfl, rfl, hI⟩ := hrel
    have HI := fhide hI
    clear hI HJ
    by_cases hlt : j < 3
    · have hji : (j : Int) < 3 := by omega
      by_cases he : fstN R j = 0
      · have hs : fstN R (j + 1) = R j := by rw [fstN, if_pos he]
        have HS := fhide hs
        clear hs
        rw [he]
        clear he
        rcases (show j = 0 ∨ j = 1 ∨ j = 2 by omega) with rfl | rfl | rfl
        · obtain ⟨c0, c1, c2⟩ := HR.out _ _ HI.out
          go_wp2_with (first
            | (go_at_call 84; refine (H0.out _ HI.out).mono ?_; rintro e1 w2 ⟨rfl, hq⟩; have H9 := fhide hq; clear hq)
            | fail)
          go_roundw
          case rel => exact ⟨0 + 1, by omega, by go_num, by rw [HS.out], H9.out⟩
          case measure => simp [intOf]
        · obtain ⟨c0, c1, c2⟩ := HR.out _ _ HI.out
          go_wp2_with (first
            | (go_at_call 86; refine (H1.out _ HI.out).mono ?_; rintro e1 w2 ⟨rfl, hq⟩; have H9 := fhide hq; clear hq)
            | fail)
          go_roundw
          case rel => exact ⟨1 + 1, by omega, by go_num, by rw [HS.out], H9.out⟩
          case measure => simp [intOf]
        · obtain ⟨c0, c1, c2⟩ := HR.out _ _ HI.out
          go_wp2_with (first
            | (go_at_call 88; refine (H2.out _ HI.out).mono ?_; rintro e1 w2 ⟨rfl, hq⟩; have H9 := fhide hq; clear hq)
            | fail)
          go_roundw
          case rel => exact ⟨2 + 1, by omega, by go_num, by rw [HS.out], H9.out⟩
          case measure => simp [intOf]
      · have hb : (fstN R j == 0) = false := by simp [he]
        have hE := fhide (fstN_end he 3 hj)
        have HZ := fhide he
        have hcells := HR.out _ _ HI.out
        have HC2 := fhide hcells
        clear hcells
        obtain ⟨v, hv⟩ : ∃ v, wr.cell? ⟨R0, j, none⟩ = some v := by
          obtain ⟨c0, c1, c2⟩ := HC2.out
          rcases (show j = 0 ∨ j = 1 ∨ j = 2 by omega) with rfl | rfl | rfl
          all_goals exact ⟨_, by assumption⟩
        obtain ⟨ej, hej⟩ : ∃ ej, fstN R j = ej := ⟨_, rfl⟩
        have HEj := fhide hej
        rw [hej] at hb he ⊢
        clear hej
        go_wp2_with fail
        rw [Exit.noGoto_ret]
        go_ret
        exact ⟨by rw [hE.out, HEj.out]; rfl, j, hj, hE.out.symm, .inr HZ.out, HI.out⟩
    · obtain rfl : j = 3 := by omega
      go_wp2
      rw [Exit.noGoto_ret]
      go_ret
      exact ⟨rfl, _, by omega, rfl, .inl rfl, HI.out⟩
set_option maxRecDepth 100000 in
set_option maxHeartbeats 4000000 in
theorem askComp_any {w : World} {mv : Value} {N R0 : Nat} (R : Nat → Int) (J : Nat → World → Prop) (x0a x0b x0c x1a x1b : Nat) (hN : 1 ≤ N) (hJ0 : J 0 w)
    (hC : ∀ wx, J 0 wx → Calls Tryz.prog 136 #[mv] wx fun e w' => e = .returned (.int .i64 N) ∧ w' = wx)
    (hR : ∀ j wx, J j wx → wx.cell? ⟨R0, 0, none⟩ = some (.func (.func 101) #[] #[.pointer (some ⟨x0a, 0, none⟩), .pointer (some ⟨x0b, 0, none⟩), .pointer (some ⟨x0c, 0, none⟩)]) ∧ wx.cell? ⟨R0, 1, none⟩ = some (.func (.func 103) #[] #[.pointer (some ⟨x1a, 0, none⟩), .pointer (some ⟨x1b, 0, none⟩)]))
    (h0 : ∀ wx, J 0 wx → Calls Tryz.prog 101 #[.pointer (some ⟨x0a, 0, none⟩), .pointer (some ⟨x0b, 0, none⟩), .pointer (some ⟨x0c, 0, none⟩)] wx fun e w' => e = .returned (.int .i64 (R 0)) ∧ J 1 w')
    (h1 : ∀ wx, J 1 wx → Calls Tryz.prog 103 #[.pointer (some ⟨x1a, 0, none⟩), .pointer (some ⟨x1b, 0, none⟩)] wx fun e w' => e = .returned (.int .i64 (R 1)) ∧ J 2 w')
    : Calls Tryz.prog 83 #[mv, .slice (some ⟨R0, 0, none⟩) 2 2] w fun e w' => e = .returned (.int .i64 (fstN R 2)) ∧ ∃ j, j ≤ 2 ∧ fstN R j = fstN R 2 ∧ (j = 2 ∨ fstN R j ≠ 0) ∧ J j w' := by
  have HJ := fhide hJ0
  have HC := fhide hC
  have HR := fhide hR
  have n1 : (0 : Int) < N := by omega
  have n2 : 0 < N := by omega
  have H0 := fhide h0
  have H1 := fhide h1
  clear hJ0 hC hR hN h0 h1
  go_enter Tryz.func83, Tryz.ntmps83
  go_wp2
  go_step3
  go_wp2_with (first
    | (go_at_call 136; refine (HC.out _ HJ.out).mono ?_; rintro e w1 ⟨rfl, hw⟩; subst w1; clear HC)
    | (go_at_call 85; refine (unless_any true 13 _).mono ?_; rintro e w1 ⟨rfl, hw⟩; subst w1)
    | fail)
  go_step3
  go_wp2
  go_loopw [5, 14] (fun e i wr => ∃ j : Nat, j ≤ 2 ∧ i = .int .i64 j ∧ e = .int .i64 (fstN R j) ∧ J j wr) (fun _ i _ => 2 - (intOf i).toNat)
  case atStart => exact ⟨0, by omega, rfl, rfl, HJ.out⟩
  case round =>
    obtain ⟨j, hj, rfl, rfl, hI⟩ := hrel
    have HI := fhide hI
    clear hI HJ
    by_cases hlt : j < 2
    · have hji : (j : Int) < 2 := by omega
      by_cases he : fstN R j = 0
      · have hs : fstN R (j + 1) = R j := by rw [fstN, if_pos he]
        have HS := fhide hs
        clear hs
        rw [he]
        clear he
        rcases (show j = 0 ∨ j = 1 by omega) with rfl | rfl
        · obtain ⟨c0, c1⟩ := HR.out _ _ HI.out
          go_wp2_with (first
            | (go_at_call 101; refine (H0.out _ HI.out).mono ?_; rintro e1 w2 ⟨rfl, hq⟩; have H9 := fhide hq; clear hq)
            | fail)
          go_roundw
          case rel => exact ⟨0 + 1, by omega, by go_num, by rw [HS.out], H9.out⟩
          case measure => simp [intOf]
        · obtain ⟨c0, c1⟩ := HR.out _ _ HI.out
          go_wp2_with (first
            | (go_at_call 103; refine (H1.out _ HI.out).mono ?_; rintro e1 w2 ⟨rfl, hq⟩; have H9 := fhide hq; clear hq)
            | fail)
          go_roundw
          case rel => exact ⟨1 + 1, by omega, by go_num, by rw [HS.out], H9.out⟩
          case measure => simp [intOf]
      · have hb : (fstN R j == 0) = false := by simp [he]
        have hE := fhide (fstN_end he 2 hj)
        have HZ := fhide he
        have hcells := HR.out _ _ HI.out
        have HC2 := fhide hcells
        clear hcells
        obtain ⟨v, hv⟩ : ∃ v, wr.cell? ⟨R0, j, none⟩ = some v := by
          obtain ⟨c0, c1⟩ := HC2.out
          rcases (show j = 0 ∨ j = 1 by omega) with rfl | rfl
          all_goals exact ⟨_, by assumption⟩
        obtain ⟨ej, hej⟩ : ∃ ej, fstN R j = ej := ⟨_, rfl⟩
        have HEj := fhide hej
        rw [hej] at hb he ⊢
        clear hej
        go_wp2_with fail
        rw [Exit.noGoto_ret]
        go_ret
        exact ⟨by rw [hE.out, HEj.out]; rfl, j, hj, hE.out.symm, .inr HZ.out, HI.out⟩
    · obtain rfl : j = 2 := by omega
      go_wp2
      rw [Exit.noGoto_ret]
      go_ret
      exact ⟨rfl, _, by omega, rfl, .inl rfl, HI.out⟩
end Go.Proofs.YtcgekcjnaadcmaaGreatDoor.Pfind
