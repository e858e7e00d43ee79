/- Of nil lines, and of such as no call made; the walk of HwZero (written by mk_zero.py). -/
import Derived.Test.YtefoofcfbcmjcaaHwG
import Derived.Test.YtefoofcfbcmjcaaRows
import Derived.Below
import Derived.RowKit3
import Derived.WalkKit
import Derived.ProofKit
import Derived.BigRegion
import Derived.Deep.DeepCutAuto
namespace Go.Proofs.Ytefoofcfbcmjcaa.Phw
open Go.Proofs.Ytefoofcfbcmjcaa.Pbase
open Go.RowKit
set_option linter.unusedVariables false

set_option maxRecDepth 100000 in
theorem made_nil (w : World) : Calls Try.prog 19 #[.pointer none] w fun e w' => e = .returned (.bool true) ∧ w' = w := by
  have h1 : ∀ w, (binOp .eql 39 (.map none) (.map none)).run Try.prog w = .ok (.bool true) w := fun _ => by kernel_rfl
  go_enter Try.func19, Try.ntmps19
  go_wp2
  go_ret
  exact ⟨rfl, rfl⟩
set_option maxRecDepth 100000 in
theorem check_nil (l : Int) (w : World) : Calls Try.prog 18 #[.pointer none, .int .i64 l] w fun e w' => e = .returned (.int .i64 13) ∧ w' = w := by
  go_enter Try.func18, Try.ntmps18
  go_wp2_with (first
    | (go_at_call 19; refine (made_nil _).mono ?_; rintro e1 w1 ⟨rfl, hw⟩; subst w1)
    | fail)
  go_ret
  exact ⟨rfl, rfl⟩
set_option maxRecDepth 100000 in
theorem of_nil (l : Int) (w : World) : Calls Try.prog 13 #[.pointer none, .int .i64 l] w fun e w' => e = .returned (.tuple #[.int .i64 0, .int .i64 13]) ∧ w' = w := by
  go_enter Try.func13, Try.ntmps13
  go_wp2_with (first
    | (go_at_call 18; refine (check_nil l _).mono ?_; rintro e1 w1 ⟨rfl, hw⟩; subst w1)
    | fail)
  go_ret2
  exact ⟨rfl, rfl⟩
set_option maxRecDepth 100000 in
theorem attach_nil (l f : Int) (w : World) : Calls Try.prog 11 #[.pointer none, .int .i64 l, .int .i64 f] w fun e w' => e = .returned (.int .i64 13) ∧ w' = w := by
  go_enter Try.func11, Try.ntmps11
  go_wp2_with (first
    | (go_at_call 18; refine (check_nil l _).mono ?_; rintro e1 w1 ⟨rfl, hw⟩; subst w1)
    | fail)
  go_ret
  exact ⟨rfl, rfl⟩
set_option maxRecDepth 100000 in
theorem has_nil (f : Int) (w : World) : Calls Try.prog 15 #[.pointer none, .int .i64 f] w fun e w' => e = .returned (.int .i64 0) ∧ w' = w := by
  go_enter Try.func15, Try.ntmps15
  go_wp2_with (first
    | (go_at_call 19; refine (made_nil _).mono ?_; rintro e1 w1 ⟨rfl, hw⟩; subst w1)
    | fail)
  go_ret
  exact ⟨rfl, rfl⟩
set_option maxRecDepth 100000 in
theorem detach_nil (l : Int) (w : World) : Calls Try.prog 9 #[.pointer none, .int .i64 l] w fun e w' => e = .returned (.tuple #[.int .i64 0, .int .i64 13]) ∧ w' = w := by
  go_enter Try.func9, Try.ntmps9
  go_wp2_with (first
    | (go_at_call 13; refine (of_nil l _).mono ?_; rintro e1 w1 ⟨rfl, hw⟩; subst w1)
    | fail)
  go_ret2
  exact ⟨rfl, rfl⟩
set_option maxRecDepth 100000 in
theorem made_zero (p : Nat) (w : World) (hp : w.cell? ⟨p, 0, none⟩ = some (.map none)) : Calls Try.prog 19 #[.pointer (some ⟨p, 0, none⟩)] w fun e w' => e = .returned (.bool true) ∧ w' = w := by
  have h1 : ∀ w, (binOp .eql 39 (.map none) (.map none)).run Try.prog w = .ok (.bool true) w := fun _ => by kernel_rfl
  go_enter Try.func19, Try.ntmps19
  go_wp2
  go_ret
  exact ⟨rfl, rfl⟩
set_option maxRecDepth 100000 in
theorem check_zero (p : Nat) (l : Int) (w : World) (hp : w.cell? ⟨p, 0, none⟩ = some (.map none)) : Calls Try.prog 18 #[.pointer (some ⟨p, 0, none⟩), .int .i64 l] w fun e w' => e = .returned (.int .i64 13) ∧ w' = w := by
  go_enter Try.func18, Try.ntmps18
  go_wp2_with (first
    | (go_at_call 19; refine (made_zero p _ hp).mono ?_; rintro e1 w1 ⟨rfl, hw⟩; subst w1)
    | fail)
  go_ret
  exact ⟨rfl, rfl⟩
set_option maxRecDepth 100000 in
theorem of_zero (p : Nat) (l : Int) (w : World) (hp : w.cell? ⟨p, 0, none⟩ = some (.map none)) : Calls Try.prog 13 #[.pointer (some ⟨p, 0, none⟩), .int .i64 l] w fun e w' => e = .returned (.tuple #[.int .i64 0, .int .i64 13]) ∧ w' = w := by
  go_enter Try.func13, Try.ntmps13
  go_wp2_with (first
    | (go_at_call 18; refine (check_zero p l _ hp).mono ?_; rintro e1 w1 ⟨rfl, hw⟩; subst w1)
    | fail)
  go_ret2
  exact ⟨rfl, rfl⟩
set_option maxRecDepth 100000 in
theorem attach_zero (p : Nat) (l f : Int) (w : World) (hp : w.cell? ⟨p, 0, none⟩ = some (.map none)) : Calls Try.prog 11 #[.pointer (some ⟨p, 0, none⟩), .int .i64 l, .int .i64 f] w fun e w' => e = .returned (.int .i64 13) ∧ w' = w := by
  go_enter Try.func11, Try.ntmps11
  go_wp2_with (first
    | (go_at_call 18; refine (check_zero p l _ hp).mono ?_; rintro e1 w1 ⟨rfl, hw⟩; subst w1)
    | fail)
  go_ret
  exact ⟨rfl, rfl⟩
set_option maxRecDepth 100000 in
theorem has_zero (p : Nat) (f : Int) (w : World) (hp : w.cell? ⟨p, 0, none⟩ = some (.map none)) : Calls Try.prog 15 #[.pointer (some ⟨p, 0, none⟩), .int .i64 f] w fun e w' => e = .returned (.int .i64 0) ∧ w' = w := by
  go_enter Try.func15, Try.ntmps15
  go_wp2_with (first
    | (go_at_call 19; refine (made_zero p _ hp).mono ?_; rintro e1 w1 ⟨rfl, hw⟩; subst w1)
    | fail)
  go_ret
  exact ⟨rfl, rfl⟩
set_option maxRecDepth 100000 in
theorem detach_zero (p : Nat) (l : Int) (w : World) (hp : w.cell? ⟨p, 0, none⟩ = some (.map none)) : Calls Try.prog 9 #[.pointer (some ⟨p, 0, none⟩), .int .i64 l] w fun e w' => e = .returned (.tuple #[.int .i64 0, .int .i64 13]) ∧ w' = w := by
  go_enter Try.func9, Try.ntmps9
  go_wp2_with (first
    | (go_at_call 13; refine (of_zero p l _ hp).mono ?_; rintro e1 w1 ⟨rfl, hw⟩; subst w1)
    | fail)
  go_ret2
  exact ⟨rfl, rfl⟩
set_option maxRecDepth 100000 in
set_option maxHeartbeats 400000 in
theorem zero_walk (l f : Int) (w : World) : Calls Try.prog 5 #[.int .i64 l, .int .i64 f] w fun e w' => e = .returned (.bool true) ∧ Below w.heap.size w w' := by
  have HB : Hid (Below w.heap.size w (w.alloc (.cells #[.map none] 41))) := bal (Below.refl _ _) _
  have c0 : (w.alloc (.cells #[.map none] 41)).cell? ⟨w.heap.size, 0, none⟩ = some (.map none) := by simp
  go_enter Try.func5, Try.ntmps5
  go_upto_region 3 with fail
  generalize w.alloc _ = v at HB c0 ⊢
  generalize hD : w.heap.size = D at c0 ⊢
  have HD := rhide hD
  clear hD
  have t1 : True := trivial
  have t2 : 0 = 0 := rfl
  go_wp2_with (first
    | (go_at_call 13; refine (of_nil l _).mono ?_; rintro e1 w1 ⟨rfl, hw⟩; subst w1)
    | (go_at_call 9; refine (detach_zero _ l _ c0).mono ?_; rintro e1 w1 ⟨rfl, hw⟩; subst w1)
    | (go_at_call 11; clear t1; refine (attach_nil l f _).mono ?_; rintro e1 w1 ⟨rfl, hw⟩; subst w1)
    | (go_at_call 11; refine (attach_zero _ l f _ c0).mono ?_; rintro e1 w1 ⟨rfl, hw⟩; subst w1)
    | (go_at_call 15; clear t2; refine (has_nil f _).mono ?_; rintro e1 w1 ⟨rfl, hw⟩; subst w1)
    | (go_at_call 15; refine (has_zero _ f _ c0).mono ?_; rintro e1 w1 ⟨rfl, hw⟩; subst w1)
    | fail)
  go_ret
  exact ⟨rfl, HB.out⟩
end Go.Proofs.Ytefoofcfbcmjcaa.Phw
