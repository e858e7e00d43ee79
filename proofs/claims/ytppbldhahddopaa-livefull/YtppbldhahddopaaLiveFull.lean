/- LiveFull returns true for every two numbers. No condition. -/
import Derived.Test.YtppbldhahddopaaRows
import Derived.Test.YtppbldhahddopaaLivD
import Derived.Test.YtppbldhahddopaaLivI
import Derived.WalkKit
import Derived.ProofKit
import Derived.OpenShut
import Derived.ShutString
import Derived.ChangeOld
import Derived.Below
namespace Go.Proofs.Ytppbldhahddopaa.liveFull
open Go.ChangeShapes Go.WideShapes Go.ChangeAt Go.RowKit
set_option linter.unusedVariables false

theorem own : ownKnob Try.prog.godebug = none := by kernel_rfl
theorem laidOut : laidOutB Try.prog = true := by kernel_rfl

set_option maxRecDepth 100000 in
set_option maxHeartbeats 2000000 in
theorem walk_all (z now : Int) (n : Nat) (w : World) (hz0 : 0 ≤ z) (hz1 : z ≤ 255) (hz : z.tmod 64 = n) (hn : n < 64) (hw0 : 0 ≤ now) (hw1 : now ≤ 255) :
    Calls Try.prog 5 #[.int .u8 z, .int .u8 now] w fun e w' => e = .returned (.bool true) ∧ Below w.heap.size w w' := by
  go_enter Try.func5, Try.ntmps5
  go_wp2_with (first
    | (go_at_call 8; refine (new_any _).mono ?_; rintro e w1 ⟨rfl, h1⟩; rw [run_0] at h1; have H1 : Hid (Own w w1 (runS 0)) := h1; clear h1)
    | fail)
  go_loopw [6] (fun i wr => ∃ k : Nat, k ≤ 64 ∧ i = .int .i64 k ∧ Own w wr (runS k)) (fun i _ => 64 - (intOf i).toNat)
  case atStart => exact ⟨0, by omega, rfl, H1.out⟩
  case round =>
    obtain ⟨k, hk, rfl, hI⟩ := hrel
    have HI : Hid (Own w wr (runS k)) := hI
    clear hI H1
    by_cases hlt : k < 64
    · have hki : (k : Int) < 64 := by omega
      have Q : Hid (tkI 64 (runS k) 0 = k ∧ tkE 64 (runS k) 0 = 0 ∧ tkR 64 (runS k) 0 = 0 ∧ tkS 64 (runS k) 0 = runS (k + 1)) := run_take hlt 0
      go_wp2_with (first
        | (go_at_call 12; refine (take_own 0 HI.out).mono ?_; rintro e w2 ⟨rfl, h2⟩; rw [Q.out.1, Q.out.2.1, Q.out.2.2.1]; rw [Q.out.2.2.2] at h2; have H2 : Hid (Own w w2 (runS (k + 1))) := h2; clear h2)
        | fail)
      go_roundw
      case rel => exact ⟨k + 1, by omega, by go_num, H2.out⟩
      case measure => simp [intOf]; omega
    · obtain rfl : k = 64 := by omega
      have Q1 : Hid (tkI 64 (runS 64) 0 = 0 ∧ tkE 64 (runS 64) 0 = 0 ∧ tkR 64 (runS 64) 0 = 2 ∧ tkS 64 (runS 64) 0 = runS 64) := run_full 0
      have Q2 : Hid (klR 64 (runS 64) n 0 = 0 ∧ klS 64 (runS 64) n 0 now = kiS 64 n now) := run_kill (by omega) hn now
      have Q3 : Hid (tkI 64 (kiS 64 n now) now = 0 ∧ tkE 64 (kiS 64 n now) now = 0 ∧ tkR 64 (kiS 64 n now) now = 2 ∧ tkS 64 (kiS 64 n now) now = kiS 64 n now) := ki_early hn now
      have Q4 : Hid (tkI 64 (kiS 64 n now) (now + 1) = n ∧ tkE 64 (kiS 64 n now) (now + 1) = 1 ∧ tkR 64 (kiS 64 n now) (now + 1) = 0 ∧ tkS 64 (kiS 64 n now) (now + 1) = upd (runS 64) n ⟨true, 1, now⟩) := ki_late hn now
      have Q5 : Hid (cnt (upd (runS 64) n ⟨true, 1, now⟩) 64 = 64) := ki_late_count now
      go_wp2_with (first
        | (go_at_call 12; refine (take_own 0 HI.out).mono ?_; rintro e w2 ⟨rfl, h2⟩; rw [Q1.out.1, Q1.out.2.1, Q1.out.2.2.1]; rw [Q1.out.2.2.2] at h2; have H2 : Hid (Own w w2 (runS 64)) := h2; clear h2 HI Q1)
        | (go_at_call 10; refine (kill_own n 0 now H2.out).mono ?_; rintro e w3 ⟨rfl, h3⟩; rw [Q2.out.1]; rw [Q2.out.2] at h3; have H3 : Hid (Own w w3 (kiS 64 n now)) := h3; clear h3 H2 Q2)
        | (go_at_call 12; refine (take_own now H3.out).mono ?_; rintro e w4 ⟨rfl, h4⟩; rw [Q3.out.1, Q3.out.2.1, Q3.out.2.2.1]; rw [Q3.out.2.2.2] at h4; have H4 : Hid (Own w w4 (kiS 64 n now)) := h4; clear h4 H3 Q3)
        | (go_at_call 12; refine (take_own (now + 1) H4.out).mono ?_; rintro e w5 ⟨rfl, h5⟩; rw [Q4.out.1, Q4.out.2.1, Q4.out.2.2.1]; rw [Q4.out.2.2.2] at h5; have H5 : Hid (Own w w5 (upd (runS 64) n ⟨true, 1, now⟩)) := h5; clear h5 H4 Q4)
        | (go_at_call 16; refine (count_own H5.out).mono ?_; rintro e w6 ⟨rfl, h6⟩; rw [Q5.out]; have H6 : Hid (Below w.heap.size w w6) := h6.below; clear h6 H5)
        | (go_at_call 18; refine (awake_any _).mono ?_; rintro e w9 ⟨rfl, h9⟩; have H9 : Hid (Below w.heap.size w w9) := H6.out.trans (h9.mono H6.out.size); clear h9)
        | fail)
      go_ret
      exact ⟨rfl, H9.out⟩

theorem walk (a0 : Int) (a1 : Int) (w : World) (w0 : (Lit.int .u8 a0).wf = true) (w1 : (Lit.int .u8 a1).wf = true) :
    Calls Try.prog 5 #[.int .u8 a0, .int .u8 a1] w fun e w' => e = .returned (.bool true) ∧ Below w.heap.size w w' := by
  have hb0 := bounds_u8 w0
  have hb1 := bounds_u8 w1
  obtain ⟨n, e1, e2⟩ := rem_u8 w0 64 (by omega)
  exact walk_all a0 a1 n w hb0.1 hb0.2 e1 e2 hb1.1 hb1.2

/-! ### The statement's frame -/
set_option maxRecDepth 100000 in
theorem lifted (os : Os) (started : os.Started) (H : Type) (enc : TypeId × Value → H) :
    ReturnsInHanded {} Try.checked os 5 .any (Rows.liveFullSpec.pre6 enc Try.prog Try.f5 Rows.liveFullRow.domain false) (Rows.liveFullSpec.post enc Try.prog Try.f5 false true false false) := by
  refine returnsInHanded_of_change (C := Try.checked) own started (by kernel_rfl) Try.func5
    (ChangeSpec.witness6 (enc := enc) (C := Try.checked) false ⟨#[], #[.int .u8 0, .int .u8 0], []⟩ 8 (by kernel_rfl) (by kernel_rfl) (by kernel_rfl) (by kernel_rfl)) ?_
  intro W base args ds gs before hval0 hW hcnd _
  have hval : ∀ (j : Nat) t v, Try.f5.params[j]? = some t → args[j]? = some v → Value.okWide Try.prog W .any base t v := hval0
  have hW' := hW
  obtain ⟨p, q, hA0, hV, rfl, hfz, hnd⟩ := hW
  have hA : DataW.TrodAll enc Try.prog W 0 (fun _ => true) true Try.f5.params.toList args.toList ds p := hA0
  rw [Try.params5] at hA hval
  obtain ⟨v0, vs0, d0, ds0, p0, q0, hargs, rfl, rfl, h0, r0⟩ := trodAll_cons hA
  obtain ⟨v1, vs1, d1, ds1, p1, q1, rfl, rfl, rfl, h1, r1⟩ := trodAll_cons r0
  obtain ⟨rfl, rfl, rfl⟩ := trodAll_nil r1
  obtain rfl : args = #[v0, v1] := by cases args; simp_all
  obtain ⟨rfl, rfl⟩ := trodVars_none hV
  obtain ⟨a0, rfl, rfl, rfl, w0⟩ := open_int Try.underlying5 (hval 0 5 v0 rfl rfl) h0
  obtain ⟨a1, rfl, rfl, rfl, w1⟩ := open_int Try.underlying5 (hval 1 5 v1 rfl rfl) h1
  clear hA0 hval0
  refine (walk a0 a1 W w0 w1).mono fun e W' ⟨he, bel⟩ => ?_
  subst he
  exact ⟨_, rfl, _, _, _, [], _, [], hW', trodAll_mk1 (shut_bool Try.underlying4 _), (trodAll_cons_mk (shut_int Try.underlying5 w0) (trodAll_cons_mk (shut_int Try.underlying5 w1) trodAll_mk0)), rfl, bel.frame _, fun h => by cases h⟩

theorem over : Rows.liveFullRow.holds Try.pinned (OpenSpec.ofChange Rows.liveFullSpec) :=
  OpenClaim.holds_of_wide 5 Try.f5 rfl rfl rfl rfl rfl rfl rfl ⟨rfl, rfl, rfl, rfl, rfl⟩ rfl rfl rfl rfl rfl (by kernel_rfl) Try.func5 (by kernel_rfl)
    (of_decide_eq_true (by kernel_rfl)) (by unfold Func.isWrapper; first | (rw [if_pos (by decide +kernel)]; kernel_rfl) | (rw [if_neg (by decide +kernel)]; exact ⟨rfl, rfl⟩))
    (fun os started H enc _ => lifted os started H enc)

theorem proved : Rows.LiveFullSaid := over
end Go.Proofs.Ytppbldhahddopaa.liveFull
namespace Go.Proofs.Ytppbldhahddopaa
theorem liveFull_holds : Rows.LiveFullSaid := liveFull.proved
#print axioms liveFull_holds
end Go.Proofs.Ytppbldhahddopaa
