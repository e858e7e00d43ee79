/- What the inner calls of package live answer and do (unmade, has, livesIn, wasKilled, mayBeTaken and its closure), for every argument that their types allow. -/
import Derived.Test.YtppbldhahddopaaLivG
import Derived.Test.YtppbldhahddopaaLivL
import Derived.Test.YtppbldhahddopaaRows
import Derived.WalkKit
import Derived.ProofKit
import Derived.OpenShut
import Derived.Outline
import Derived.Deep.QuietTactic
import Derived.BigQuiet
namespace Go.Proofs.Ytppbldhahddopaa
open Go.Shelf Go.RowKit Go.Lib
set_option linter.unusedVariables false

/-! ### unmade, has -/
theorem unmade_ok (p r N : Nat) (w : World) (hN1 : 1 ≤ N) (hp : w.cell? ⟨p, 0, none⟩ = some (.slice (some ⟨r, 0, none⟩) N N)) :
    Calls Try.prog 19 #[.pointer (some ⟨p, 0, none⟩)] w fun e w' => e = .returned (.bool false) ∧ w' = w := by
  have h0 : ((N : Int) == 0) = false := by simp; omega
  go_enter Try.func19, Try.ntmps19
  go_wp2
  go_ret
  exact ⟨rfl, rfl⟩
theorem unmade_nil (w : World) :
    Calls Try.prog 19 #[.pointer none] w fun e w' => e = .returned (.bool true) ∧ w' = w := by
  go_enter Try.func19, Try.ntmps19
  go_wp2
  go_ret
  exact ⟨rfl, rfl⟩
theorem unmade_zero (p : Nat) (w : World) (hp : w.cell? ⟨p, 0, none⟩ = some (.slice none 0 0)) :
    Calls Try.prog 19 #[.pointer (some ⟨p, 0, none⟩)] w fun e w' => e = .returned (.bool true) ∧ w' = w := by
  go_enter Try.func19, Try.ntmps19
  go_wp2
  go_ret
  exact ⟨rfl, rfl⟩
theorem has_any (p r N : Nat) (f : Int) (w : World) (hN : N ≤ 64) (hp : w.cell? ⟨p, 0, none⟩ = some (.slice (some ⟨r, 0, none⟩) N N)) :
    Calls Try.prog 20 #[.pointer (some ⟨p, 0, none⟩), .int .i64 f] w fun e w' => e = .returned (.bool (okF N f)) ∧ w' = w := by
  by_cases h0 : 0 ≤ f
  · by_cases h1 : f < (N : Int)
    · have e : okF N f = true := by simp [okF, h0, h1]
      rw [e]
      clear e
      go_enter Try.func20, Try.ntmps20
      go_wp2
      go_ret
      exact ⟨rfl, rfl⟩
    · have e : okF N f = false := by simp [okF, h0, h1]
      rw [e]
      clear e
      go_enter Try.func20, Try.ntmps20
      go_wp2
      go_ret
      exact ⟨rfl, rfl⟩
  · have e : okF N f = false := by simp [okF, h0]
    rw [e]
    clear e
    go_enter Try.func20, Try.ntmps20
    go_wp2
    go_ret
    exact ⟨rfl, rfl⟩

/-! ### livesIn, wasKilled -/
theorem livesIn_any (s : LS) (ep : Int) (w : World) :
    Calls Try.prog 21 #[.agg #[.bool s.on, .int .i64 s.ep, .int .i64 s.tm], .int .i64 ep] w fun e w' => e = .returned (.bool (inE ep s)) ∧ Below w.heap.size w w' := by
  obtain ⟨o, a, t⟩ := s
  simp only [inE]
  cases o
  · simp only [Bool.false_and]
    go_enter Try.func21, Try.ntmps21
    go_wp2
    go_ret
    exact ⟨rfl, (Below.refl _ w).alloc (Nat.le_refl _) _⟩
  · simp only [Bool.true_and]
    go_enter Try.func21, Try.ntmps21
    go_wp2
    go_ret
    exact ⟨rfl, (Below.refl _ w).alloc (Nat.le_refl _) _⟩
theorem wasKilled_any (o : Bool) (a t : Int) (w : World) :
    Calls Try.prog 25 #[.agg #[.bool o, .int .i64 a, .int .i64 t]] w fun e w' => e = .returned (.bool (decide (0 < a))) ∧ w' = w.alloc (.cells #[.bool o, .int .i64 a, .int .i64 t] 53) := by
  go_enter Try.func25, Try.ntmps25
  go_wp2
  all_goals
    go_ret
    exact ⟨rfl, rfl⟩

/-! ### mayBeTaken -/
def encL (s : LS) : List Value := [.bool s.on, .int .i64 s.ep, .int .i64 s.tm]
theorem may_any (fl : Int) (w : World) :
    Calls Try.prog 23 #[.int .i64 fl] w fun e w' => e = .returned (.func (.func 24) #[] #[.pointer (some ⟨w.heap.size, 0, none⟩)]) ∧ w' = w.alloc (.cells #[.int .i64 fl] 3) := by
  go_enter Try.func23, Try.ntmps23
  go_wp2
  go_ret
  exact ⟨rfl, rfl⟩
theorem may1_any (B : Nat) (fl : Int) (s : LS) (W : World) (hc : W.cell? ⟨B, 0, none⟩ = some (.int .i64 fl)) :
    Calls Try.prog 24 #[.agg #[.bool s.on, .int .i64 s.ep, .int .i64 s.tm], .pointer (some ⟨B, 0, none⟩)] W fun e w' => e = .returned (.bool (may fl s)) ∧ Below W.heap.size W w' := by
  have hB := World.block_lt_of_cell? W _ hc
  obtain ⟨o, a, t⟩ := s
  simp only [may]
  have k1 : ∀ x y, ((W.alloc x).alloc y).cell? ⟨B, 0, none⟩ = some (.int .i64 fl) := fun x y => (((((Below.refl _ W).alloc (Nat.le_refl _) x).alloc (by simp) y).cell (p := ⟨B, 0, none⟩) hB)).trans hc
  cases o
  · by_cases h1 : a < 65535
    · have h1' : ¬ (65535 : Int) ≤ a := by omega
      by_cases h2 : 0 < a
      · simp only [h1, h2, decide_true, Bool.not_false, Bool.not_true, Bool.true_and, Bool.false_or]
        go_enter Try.func24, Try.ntmps24
        go_wp2_with (go_at_call 25; refine (wasKilled_any _ _ _ _).mono ?_; rintro e w1 ⟨rfl, hw1⟩; subst w1; simp only [h2, decide_true])
        go_ret
        exact ⟨rfl, ((Below.refl _ W).alloc (Nat.le_refl _) _).alloc (by simp) _⟩
      · simp only [h1, h2, decide_true, decide_false, Bool.not_false, Bool.true_and, Bool.true_or]
        go_enter Try.func24, Try.ntmps24
        go_wp2_with (go_at_call 25; refine (wasKilled_any _ _ _ _).mono ?_; rintro e w1 ⟨rfl, hw1⟩; subst w1; simp only [h2, decide_false])
        go_ret
        exact ⟨rfl, ((Below.refl _ W).alloc (Nat.le_refl _) _).alloc (by simp) _⟩
    · have h1' : (65535 : Int) ≤ a := by omega
      simp only [h1, decide_false, Bool.not_false, Bool.true_and, Bool.false_and]
      clear h1 k1
      go_enter Try.func24, Try.ntmps24
      go_wp2
      go_ret
      exact ⟨rfl, (Below.refl _ W).alloc (Nat.le_refl _) _⟩
  · simp only [Bool.not_true, Bool.false_and]
    clear k1
    go_enter Try.func24, Try.ntmps24
    go_wp2
    go_ret
    exact ⟨rfl, (Below.refl _ W).alloc (Nat.le_refl _) _⟩
theorem may_pred (B : Nat) (fl : Int) (w : World) (hB : B < w.heap.size) (hc : w.cell? ⟨B, 0, none⟩ = some (.int .i64 fl)) :
    PredBelow Try.prog 24 #[.pointer (some ⟨B, 0, none⟩)] (fun s => .agg (encL s).toArray) (may fl) w := fun W s hb => by
  refine (may1_any B fl s W ((hb.cell (p := ⟨B, 0, none⟩) hB).trans hc)).mono ?_
  rintro e w' ⟨rfl, h'⟩
  exact ⟨rfl, hb.trans (h'.mono hb.size)⟩
theorem eg_may : ∀ args w, (callFunc 24 args).run Try.prog w = .ok (.enter 24 args) w := enters_of Try.func24 (by kernel_rfl) rfl
end Go.Proofs.Ytppbldhahddopaa
