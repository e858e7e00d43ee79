/- LiveBeside returns true for every number of ids, every one of them, and every time. No condition. -/
import Derived.Test.YtppbldhahddopaaRows
import Derived.Test.YtppbldhahddopaaLivD
import Derived.Test.YtppbldhahddopaaLivI
import Derived.WalkKit
import Derived.ProofKit
import Derived.OpenShut
import Derived.ShutString
import Derived.ChangeOld
import Derived.Below
namespace Go.Proofs.Ytppbldhahddopaa.liveBeside
open Go.ChangeShapes Go.WideShapes Go.ChangeAt Go.RowKit
set_option linter.unusedVariables false

theorem own : ownKnob Try.prog.godebug = none := by kernel_rfl
theorem laidOut : laidOutB Try.prog = true := by kernel_rfl

set_option maxRecDepth 100000 in
set_option maxHeartbeats 2000000 in
theorem walk_all (z y now : Int) (m q n : Nat) (w : World) (hz0 : 0 ≤ z) (hz1 : z ≤ 255) (hz : z.tmod 64 = q) (hm : 1 + (q : Int) = m) (hm64 : m ≤ 64) (hy0 : 0 ≤ y) (hy1 : y ≤ 255) (hy : y.tmod m = n) (hn : n < m) :
    Calls Try.prog 7 #[.int .u8 z, .int .u8 y, .int .i64 now] w fun e w' => e = .returned (.bool true) ∧ Below w.heap.size w w' := by
  have hmi : (m : Int) ≤ 64 := by omega
  have hm0 : ((m : Int) == 0) = false := by simp; omega
  have hm0' : ¬ (m : Int) = 0 := by omega
  go_enter Try.func7, Try.ntmps7
  go_wp2_with (first
    | (go_at_call 8; refine (new_any _).mono ?_; rintro e w1 ⟨rfl, h1⟩; rw [run_0] at h1; have H1 : Hid (Own w w1 (runS 0)) := h1; clear h1)
    | fail)
  go_loopw [9] (fun i wr => ∃ k : Nat, k ≤ m ∧ i = .int .i64 k ∧ Own w wr (runS k)) (fun i _ => m - (intOf i).toNat)
  case atStart => exact ⟨0, by omega, rfl, H1.out⟩
  case round =>
    obtain ⟨k, hk, rfl, hI⟩ := hrel
    have HI : Hid (Own w wr (runS k)) := hI
    clear hI H1
    by_cases hlt : k < m
    · have hki : (k : Int) < (m : Int) := by omega
      have hk64 : (k : Int) < 64 := by omega
      have Q : Hid (tkI 64 (runS k) 0 = k ∧ tkE 64 (runS k) 0 = 0 ∧ tkR 64 (runS k) 0 = 0 ∧ tkS 64 (runS k) 0 = runS (k + 1)) := run_take (by omega) 0
      go_wp2_with (first
        | (go_at_call 12; refine (take_own 0 HI.out).mono ?_; rintro e w2 ⟨rfl, h2⟩; rw [Q.out.1, Q.out.2.1, Q.out.2.2.1]; rw [Q.out.2.2.2] at h2; have H2 : Hid (Own w w2 (runS (k + 1))) := h2; clear h2)
        | fail)
      go_roundw
      case rel => exact ⟨k + 1, by omega, by go_num, H2.out⟩
      case measure => simp [intOf]; omega
    · obtain rfl : k = m := by omega
      have Q2 : Hid (klR 64 (runS k) n 0 = 0 ∧ klS 64 (runS k) n 0 now = kiS k n now) := run_kill hm64 hn now
      have Q3 : Hid (klR 64 (kiS k n now) n 0 = 7 ∧ klS 64 (kiS k n now) n 0 now = kiS k n now) := ki_kill hm64 hn now 0 now
      have Q4 : Hid (klR 64 (kiS k n now) n 1 = 7 ∧ klS 64 (kiS k n now) n 1 now = kiS k n now) := ki_kill hm64 hn now 1 now
      have Q5 : Hid ((cnt (kiS k n now) 64 : Int) = (k : Int) - 1) := ki_count hm64 hn now
      go_wp2_with (first
        | (go_at_call 10; refine (kill_own n 0 now HI.out).mono ?_; rintro e w3 ⟨rfl, h3⟩; rw [Q2.out.1]; rw [Q2.out.2] at h3; have H3 : Hid (Own w w3 (kiS k n now)) := h3; clear h3 HI Q2)
        | (go_at_call 10; refine (kill_own n 0 now H3.out).mono ?_; rintro e w4 ⟨rfl, h4⟩; rw [Q3.out.1]; rw [Q3.out.2] at h4; have H4 : Hid (Own w w4 (kiS k n now)) := h4; clear h4 H3 Q3)
        | (go_at_call 10; refine (kill_own n 1 now H4.out).mono ?_; rintro e w5 ⟨rfl, h5⟩; rw [Q4.out.1]; rw [Q4.out.2] at h5; have H5 : Hid (Own w w5 (kiS k n now)) := h5; clear h5 H4 Q4)
        | fail)
      go_loopw [11] (fun i wr => ∃ j : Nat, j ≤ k ∧ i = .int .i64 j ∧ Own w wr (kiS k n now)) (fun i _ => k - (intOf i).toNat)
      case atStart => exact ⟨0, by omega, rfl, H5.out⟩
      case round =>
        obtain ⟨j, hj, rfl, hI⟩ := hrel
        have HI : Hid (Own w wr (kiS k n now)) := hI
        clear hI H5
        by_cases hlt2 : j < k
        · have hji : (j : Int) < (k : Int) := by omega
          have hj64 : (j : Int) < 64 := by omega
          have hv := ki_valid (n := n) hm64 hlt2 now
          by_cases hjn : j = n
          · subst hjn
            have e0 : ((j : Int) != j) = false := by simp
            have Q : Hid (vaA 64 (kiS k j now) j 0 = false ∧ vaA 64 (kiS k j now) j 1 = false) := ⟨by rw [hv.1, e0], hv.2⟩
            clear hv
            go_wp2_with (first
              | (go_at_call 14; refine (valid_own j 0 HI.out).mono ?_; rintro e w6 ⟨rfl, h6⟩; rw [Q.out.1]; have H6 : Hid (Own w w6 (kiS k j now)) := h6; clear h6 HI)
              | (go_at_call 14; refine (valid_own j 1 H6.out).mono ?_; rintro e w7 ⟨rfl, h7⟩; rw [Q.out.2]; have H7 : Hid (Own w w7 (kiS k j now)) := h7; clear h7 H6)
              | fail)
            go_roundw
            case rel => exact ⟨j + 1, by omega, by go_num, H7.out⟩
            case measure => simp [intOf]; omega
          · have e0 : ((j : Int) != n) = true := by simp; omega
            have Q : Hid (vaA 64 (kiS k n now) j 0 = true ∧ vaA 64 (kiS k n now) j 1 = false) := ⟨by rw [hv.1, e0], hv.2⟩
            clear hv
            go_wp2_with (first
              | (go_at_call 14; refine (valid_own j 0 HI.out).mono ?_; rintro e w6 ⟨rfl, h6⟩; rw [Q.out.1]; have H6 : Hid (Own w w6 (kiS k n now)) := h6; clear h6 HI)
              | (go_at_call 14; refine (valid_own j 1 H6.out).mono ?_; rintro e w7 ⟨rfl, h7⟩; rw [Q.out.2]; have H7 : Hid (Own w w7 (kiS k n now)) := h7; clear h7 H6)
              | fail)
            go_roundw
            case rel => exact ⟨j + 1, by omega, by go_num, H7.out⟩
            case measure => simp [intOf]; omega
        · have hji : ¬ (j : Int) < (k : Int) := by omega
          go_wp2_with (first
            | (go_at_call 16; refine (count_own HI.out).mono ?_; rintro e w6 ⟨rfl, h6⟩; rw [Q5.out]; have H6 : Hid (Below w.heap.size w w6) := h6.below; clear h6 HI)
            | (go_at_call 18; refine (awake_any _).mono ?_; rintro e w9 ⟨rfl, h9⟩; have H9 : Hid (Below w.heap.size w w9) := H6.out.trans (h9.mono H6.out.size); clear h9)
            | fail)
          go_ret
          exact ⟨rfl, H9.out⟩

theorem walk (a0 : Int) (a1 : Int) (a2 : Int) (w : World) (w0 : (Lit.int .u8 a0).wf = true) (w1 : (Lit.int .u8 a1).wf = true) (w2 : (Lit.int .i64 a2).wf = true) :
    Calls Try.prog 7 #[.int .u8 a0, .int .u8 a1, .int .i64 a2] w fun e w' => e = .returned (.bool true) ∧ Below w.heap.size w w' := by
  have hb0 := bounds_u8 w0
  have hb1 := bounds_u8 w1
  obtain ⟨q, e1, e2⟩ := rem_u8 w0 64 (by omega)
  obtain ⟨n, e3, e4⟩ := rem_u8 w1 (1 + q) (by omega)
  exact walk_all a0 a1 a2 (1 + q) q n w hb0.1 hb0.2 e1 (by omega) (by omega) hb1.1 hb1.2 e3 e4

/-! ### The statement's frame -/
set_option maxRecDepth 100000 in
theorem lifted (os : Os) (started : os.Started) (H : Type) (enc : TypeId × Value → H) :
    ReturnsInHanded {} Try.checked os 7 .any (Rows.liveBesideSpec.pre6 enc Try.prog Try.f7 Rows.liveBesideRow.domain false) (Rows.liveBesideSpec.post enc Try.prog Try.f7 false true false false) := by
  refine returnsInHanded_of_change (C := Try.checked) own started (by kernel_rfl) Try.func7
    (ChangeSpec.witness6 (enc := enc) (C := Try.checked) false ⟨#[], #[.int .u8 0, .int .u8 0, .int .i64 0], []⟩ 8 (by kernel_rfl) (by kernel_rfl) (by kernel_rfl) (by kernel_rfl)) ?_
  intro W base args ds gs before hval0 hW hcnd _
  have hval : ∀ (j : Nat) t v, Try.f7.params[j]? = some t → args[j]? = some v → Value.okWide Try.prog W .any base t v := hval0
  have hW' := hW
  obtain ⟨p, q, hA0, hV, rfl, hfz, hnd⟩ := hW
  have hA : DataW.TrodAll enc Try.prog W 0 (fun _ => true) true Try.f7.params.toList args.toList ds p := hA0
  rw [Try.params7] at hA hval
  obtain ⟨v0, vs0, d0, ds0, p0, q0, hargs, rfl, rfl, h0, r0⟩ := trodAll_cons hA
  obtain ⟨v1, vs1, d1, ds1, p1, q1, rfl, rfl, rfl, h1, r1⟩ := trodAll_cons r0
  obtain ⟨v2, vs2, d2, ds2, p2, q2, rfl, rfl, rfl, h2, r2⟩ := trodAll_cons r1
  obtain ⟨rfl, rfl, rfl⟩ := trodAll_nil r2
  obtain rfl : args = #[v0, v1, v2] := by cases args; simp_all
  obtain ⟨rfl, rfl⟩ := trodVars_none hV
  obtain ⟨a0, rfl, rfl, rfl, w0⟩ := open_int Try.underlying5 (hval 0 5 v0 rfl rfl) h0
  obtain ⟨a1, rfl, rfl, rfl, w1⟩ := open_int Try.underlying5 (hval 1 5 v1 rfl rfl) h1
  obtain ⟨a2, rfl, rfl, rfl, w2⟩ := open_int Try.underlying3 (hval 2 3 v2 rfl rfl) h2
  clear hA0 hval0
  refine (walk a0 a1 a2 W w0 w1 w2).mono fun e W' ⟨he, bel⟩ => ?_
  subst he
  exact ⟨_, rfl, _, _, _, [], _, [], hW', trodAll_mk1 (shut_bool Try.underlying4 _), (trodAll_cons_mk (shut_int Try.underlying5 w0) (trodAll_cons_mk (shut_int Try.underlying5 w1) (trodAll_cons_mk (shut_int Try.underlying3 w2) trodAll_mk0))), rfl, bel.frame _, fun h => by cases h⟩

theorem over : Rows.liveBesideRow.holds Try.pinned (OpenSpec.ofChange Rows.liveBesideSpec) :=
  OpenClaim.holds_of_wide 7 Try.f7 rfl rfl rfl rfl rfl rfl rfl ⟨rfl, rfl, rfl, rfl, rfl⟩ rfl rfl rfl rfl rfl (by kernel_rfl) Try.func7 (by kernel_rfl)
    (of_decide_eq_true (by kernel_rfl)) (by unfold Func.isWrapper; first | (rw [if_pos (by decide +kernel)]; kernel_rfl) | (rw [if_neg (by decide +kernel)]; exact ⟨rfl, rfl⟩))
    (fun os started H enc _ => lifted os started H enc)

theorem proved : Rows.LiveBesideSaid := over
end Go.Proofs.Ytppbldhahddopaa.liveBeside
namespace Go.Proofs.Ytppbldhahddopaa
theorem liveBeside_holds : Rows.LiveBesideSaid := liveBeside.proved
#print axioms liveBeside_holds
end Go.Proofs.Ytppbldhahddopaa
