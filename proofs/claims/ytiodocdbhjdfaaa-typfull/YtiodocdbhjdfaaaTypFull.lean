/- TypFull returns true for every number. No condition. -/
import Derived.Test.YtiodocdbhjdfaaaRows
import Derived.Test.YtiodocdbhjdfaaaTypD
import Derived.WalkKit
import Derived.ProofKit
import Derived.OpenShut
import Derived.ShutString
import Derived.ChangeOld
import Derived.Below
namespace Go.Proofs.Ytiodocdbhjdfaaa.typFull
open Go.ChangeShapes Go.WideShapes Go.ChangeAt Go.RowKit
set_option linter.unusedVariables false

theorem own : ownKnob Try.prog.godebug = none := by kernel_rfl
theorem laidOut : laidOutB Try.prog = true := by kernel_rfl

/-- The frame behind k calls of Ref; behind i of Unref. -/
def s1 (k : Nat) : FS := ⟨2, 0, if k < 1000 then k else 1000, -1⟩
def s2 (K i : Nat) : FS := ⟨2, 0, (K : Int) - i, if i < K ∨ K = 0 then -1 else 7⟩
theorem s1_0 : gRt 2 true noFS = s1 0 := rfl
theorem s1_yes {k : Nat} (h : k < 1000) : hRf (s1 k) = 0 ∧ gRf (s1 k) = s1 (k + 1) := by
  have h1 : (k : Int) < 1000 := by omega
  refine ⟨by simp [hRf, s1, h, h1], ?_⟩
  simp only [gRf, s1, h, if_true, h1]
  by_cases h2 : k + 1 < 1000
  · simp [h2]
  · obtain rfl : k = 999 := by omega
    simp
theorem s1_no {k : Nat} (h : ¬ k < 1000) : hRf (s1 k) = 2 ∧ gRf (s1 k) = s1 (k + 1) := by
  have h1 : ¬ k + 1 < 1000 := by omega
  exact ⟨by simp [hRf, s1, h], by simp [gRf, s1, h, h1]⟩
theorem s1_s2 (n : Nat) : s1 n = s2 (if n < 1000 then n else 1000) 0 := by
  by_cases h : n < 1000
  · have h1 : (0 < n ∨ n = 0) = True := by simp; omega
    simp only [s1, s2, h, if_true, h1]
    simp
  · simp [s1, s2, h]
theorem s2_step {K i : Nat} (h : i < K) (hK : K ≤ 1000) : hUt (s2 K i) = 10 ∧ gUt 1 true (s2 K i) = s2 K i ∧ hUr (s2 K i) = 0 ∧ gUr 7 (s2 K i) = s2 K (i + 1) := by
  have h1 : ¬ (K : Int) - i = 0 := by omega
  have e1 : (i < K ∨ K = 0) = True := by simp [h]
  refine ⟨by simp [hUt, s2, h1], by simp [gUt, s2, h1], by simp [hUr, s2, h1], ?_⟩
  simp only [gUr, s2, h1, if_false, e1, if_true]
  by_cases h2 : (K : Int) - i = 1
  · have h3 : ¬ (i + 1 < K ∨ K = 0) := by omega
    simp only [h2, h3, if_true, if_false, mx]
    have : (K : Int) - (i + 1 : Nat) = 0 := by omega
    rw [this]
    rfl
  · have h3 : (i + 1 < K ∨ K = 0) = True := by simp; omega
    simp only [h2, h3, if_false, if_true]
    have : (K : Int) - i - 1 = (K : Int) - (i + 1 : Nat) := by omega
    rw [this]
theorem s2_end (K : Nat) : hUt (s2 K K) = 0 ∧ gUt 1 true (s2 K K) = ⟨0, 3, 0, if K = 0 then 1 else 7⟩ := by
  have h1 : (K : Int) - K = 0 := by omega
  refine ⟨by simp [hUt, s2], ?_⟩
  by_cases h : K = 0
  · subst h
    rfl
  · have h2 : ¬ (K < K ∨ K = 0) := by omega
    simp [gUt, s2, h, mx]
set_option maxRecDepth 100000 in
set_option maxHeartbeats 2000000 in
theorem walk_all (z : Int) (n : Nat) (w : World) (hz0 : 0 ≤ z) (hz1 : z ≤ 65535) (hz : z.tmod 1100 = n) (hn : n < 1100) :
    Calls Try.prog 5 #[.int .u16 z] w fun e w' => e = .returned (.bool true) ∧ Below w.heap.size w w' := by
  have HR : Hid (hRt 2 true noFS = 0) := rfl
  go_enter Try.func5, Try.ntmps5
  go_wp2_with (first
    | (go_at_call 7; refine (new1 _).mono ?_; rintro e w1 ⟨rfl, h1⟩; have H1 : Hid (One w w1 noFS) := h1; clear h1)
    | (go_at_call 10; refine (retype1 2 true H1.out).mono ?_; rintro e w2 ⟨rfl, h2⟩; rw [HR.out]; have H2 : Hid (One w w2 (s1 0)) := h2; clear h2))
  clear H1 hz hz0 hz1
  go_loopw [6] (fun i wr => ∃ k : Nat, k ≤ n ∧ i = .int .i64 k ∧ One w wr (s1 k)) (fun i _ => n - (intOf i).toNat)
  case atStart => exact ⟨0, by omega, rfl, H2.out⟩
  case round =>
    obtain ⟨k, hk, rfl, hI⟩ := hrel
    have HI : Hid (One w wr (s1 k)) := hI
    clear hI H2
    by_cases hlt : k < n
    · have hki : (k : Int) < (n : Int) := by omega
      have hk64 : (k : Int) < 1100 := by omega
      by_cases h1 : k < 1000
      · have HE : Hid (hRf (s1 k) = 0 ∧ gRf (s1 k) = s1 (k + 1)) := s1_yes h1
        have h1i : (k : Int) < 1000 := by omega
        go_wp2_with (go_at_call 14; refine (ref1 HI.out).mono ?_; rintro e w3 ⟨rfl, h3⟩; rw [HE.out.1]; have H3 : Hid (One w w3 (s1 (k + 1))) := (by rw [← HE.out.2]; exact h3); clear h3)
        go_roundw
        case rel => exact ⟨k + 1, by omega, by go_num, H3.out⟩
        case measure => simp [intOf]; omega
      · have HE : Hid (hRf (s1 k) = 2 ∧ gRf (s1 k) = s1 (k + 1)) := s1_no h1
        have h1i : ¬ (k : Int) < 1000 := by omega
        go_wp2_with (go_at_call 14; refine (ref1 HI.out).mono ?_; rintro e w3 ⟨rfl, h3⟩; rw [HE.out.1]; have H3 : Hid (One w w3 (s1 (k + 1))) := (by rw [← HE.out.2]; exact h3); clear h3)
        go_roundw
        case rel => exact ⟨k + 1, by omega, by go_num, H3.out⟩
        case measure => simp [intOf]; omega
    · obtain rfl : k = n := by omega
      obtain ⟨K, hK⟩ : ∃ K, K = if k < 1000 then k else 1000 := ⟨_, rfl⟩
      have hK0 : K ≤ 1000 := by rw [hK]; split <;> omega
      have hmin : ∀ (ty : TypeId) (w : World), (Builtin.min_ #[3, 3] ty #[.int .i64 (k : Int), .int .i64 1000]).run Try.prog w = .ok (.int .i64 (K : Int)) w := fun ty w => by
        rw [run_min_int2, hK]
        by_cases h1 : k < 1000
        · have : ¬ (1000 : Int) < k := by omega
          simp only [h1, this, if_true, if_false]
        · by_cases h2 : (1000 : Int) < k
          · simp only [h1, h2, if_true, if_false]; rfl
          · have : (k : Int) = 1000 := by omega
            simp only [h1, if_false, this]; rfl
      have HJ : Hid (One w wr (s2 K 0)) := by rw [hK, ← s1_s2]; exact HI.out
      clear hK HI
      go_wp2
      go_loopw [9] (fun i wr => ∃ j : Nat, j ≤ K ∧ i = .int .i64 j ∧ One w wr (s2 K j)) (fun i _ => K - (intOf i).toNat)
      case atStart => exact ⟨0, by omega, rfl, HJ.out⟩
      case round =>
        obtain ⟨j, hj, rfl, hI⟩ := hrel
        have HI : Hid (One w wr (s2 K j)) := hI
        clear hI HJ hmin
        by_cases hlt2 : j < K
        · have hji : (j : Int) < (K : Int) := by omega
          have hj64 : (j : Int) < 1000 := by omega
          have HE : Hid (hUt (s2 K j) = 10 ∧ gUt 1 true (s2 K j) = s2 K j ∧ hUr (s2 K j) = 0 ∧ gUr 7 (s2 K j) = s2 K (j + 1)) := s2_step hlt2 hK0
          go_wp2_with (first
            | (go_at_call 12; refine (untype1 1 true HI.out).mono ?_; rintro e w3 ⟨rfl, h3⟩; rw [HE.out.1]; have H3 : Hid (One w w3 (s2 K j)) := (by rw [HE.out.2.1] at h3; exact h3); clear h3)
            | (go_at_call 16; refine (unref1 7 H3.out).mono ?_; rintro e w4 ⟨rfl, h4⟩; rw [HE.out.2.2.1]; have H4 : Hid (One w w4 (s2 K (j + 1))) := (by rw [← HE.out.2.2.2]; exact h4); clear h4))
          go_roundw
          case rel => exact ⟨j + 1, by omega, by go_num, H4.out⟩
          case measure => simp [intOf]; omega
        · obtain rfl : j = K := by omega
          have HE : Hid (hUt (s2 j j) = 0 ∧ gUt 1 true (s2 j j) = ⟨0, 3, 0, if j = 0 then 1 else 7⟩) := s2_end j
          have HZ : Hid ((s2 j j).cnt = 0) := by show (j : Int) - j = 0; omega
          by_cases h0 : j = 0
          · subst h0
            go_wp2_with (first
              | (go_at_call 20; refine (count1 HI.out).mono ?_; rintro e w3 ⟨rfl, h3⟩; rw [HZ.out]; have H3 : Hid (One w w3 (s2 0 0)) := h3; clear h3)
              | (go_at_call 12; refine (untype1 1 true H3.out).mono ?_; rintro e w4 ⟨rfl, h4⟩; rw [HE.out.1]; have H4 : Hid (One w w4 ⟨0, 3, 0, 1⟩) := (by rw [HE.out.2] at h4; exact h4); clear h4)
              | (go_at_call 22; refine (was1 H4.out).mono ?_; rintro e w5 ⟨rfl, h5⟩; have H5 : Hid (One w w5 ⟨0, 3, 0, 1⟩) := h5; clear h5)
              | (go_at_call 21; refine (freed1 H5.out).mono ?_; rintro e w6 ⟨rfl, h6⟩; have H6 : Hid (One w w6 ⟨0, 3, 0, 1⟩) := h6; clear h6)
              | (go_at_call 9; refine (awake_any _).mono ?_; rintro e w9 ⟨rfl, h9⟩; have H9 : Hid (Below w.heap.size w w9) := H6.out.below.trans (h9.mono H6.out.below.size); clear h9))
            go_ret
            exact ⟨rfl, H9.out⟩
          · have h0i : ((j : Int) == 0) = false := by simp; omega
            have h1i : (0 : Int) < j := by omega
            go_wp2_with (first
              | (go_at_call 20; refine (count1 HI.out).mono ?_; rintro e w3 ⟨rfl, h3⟩; rw [HZ.out]; have H3 : Hid (One w w3 (s2 j j)) := h3; clear h3)
              | (go_at_call 12; refine (untype1 1 true H3.out).mono ?_; rintro e w4 ⟨rfl, h4⟩; rw [HE.out.1]; have H4 : Hid (One w w4 ⟨0, 3, 0, 7⟩) := (by rw [HE.out.2, if_neg h0] at h4; exact h4); clear h4)
              | (go_at_call 22; refine (was1 H4.out).mono ?_; rintro e w5 ⟨rfl, h5⟩; have H5 : Hid (One w w5 ⟨0, 3, 0, 7⟩) := h5; clear h5)
              | (go_at_call 21; refine (freed1 H5.out).mono ?_; rintro e w6 ⟨rfl, h6⟩; have H6 : Hid (One w w6 ⟨0, 3, 0, 7⟩) := h6; clear h6)
              | (go_at_call 9; refine (awake_any _).mono ?_; rintro e w9 ⟨rfl, h9⟩; have H9 : Hid (Below w.heap.size w w9) := H6.out.below.trans (h9.mono H6.out.below.size); clear h9))
            go_ret
            exact ⟨rfl, H9.out⟩
theorem bounds_u16 {z : Int} (h : (Lit.int .u16 z).wf = true) : 0 ≤ z ∧ z ≤ 65535 := by
  have h' : (decide (IntKind.u16.min ≤ z) && decide (z ≤ IntKind.u16.max)) = true := h
  have e1 : IntKind.u16.min = 0 := by decide
  have e2 : IntKind.u16.max = 65535 := by decide
  rw [e1, e2] at h'
  simpa using h'

theorem walk (a0 : Int) (w : World) (w0 : (Lit.int .u16 a0).wf = true) :
    Calls Try.prog 5 #[.int .u16 a0] w fun e w' => e = .returned (.bool true) ∧ Below w.heap.size w w' := by
  have hb := bounds_u16 w0
  have h1 := Int.emod_nonneg a0 (show (1100 : Int) ≠ 0 by omega)
  have h2 := Int.emod_lt_of_pos a0 (show (0 : Int) < 1100 by omega)
  refine walk_all a0 (a0 % 1100).toNat w hb.1 hb.2 ?_ (by omega)
  rw [Int.tmod_eq_emod_of_nonneg hb.1]
  omega

/-! ### The statement's frame -/
set_option maxRecDepth 100000 in
theorem lifted (os : Os) (started : os.Started) (H : Type) (enc : TypeId × Value → H) :
    ReturnsInHanded {} Try.checked os 5 .any (Rows.typFullSpec.pre6 enc Try.prog Try.f5 Rows.typFullRow.domain false) (Rows.typFullSpec.post enc Try.prog Try.f5 false true false false) := by
  refine returnsInHanded_of_change (C := Try.checked) own started (by kernel_rfl) Try.func5
    (ChangeSpec.witness6 (enc := enc) (C := Try.checked) false ⟨#[], #[.int .u16 0], []⟩ 8 (by kernel_rfl) (by kernel_rfl) (by kernel_rfl) (by kernel_rfl)) ?_
  intro W base args ds gs before hval0 hW hcnd _
  have hval : ∀ (j : Nat) t v, Try.f5.params[j]? = some t → args[j]? = some v → Value.okWide Try.prog W .any base t v := hval0
  have hW' := hW
  obtain ⟨p, q, hA0, hV, rfl, hfz, hnd⟩ := hW
  have hA : DataW.TrodAll enc Try.prog W 0 (fun _ => true) true Try.f5.params.toList args.toList ds p := hA0
  rw [Try.params5] at hA hval
  obtain ⟨v0, vs0, d0, ds0, p0, q0, hargs, rfl, rfl, h0, r0⟩ := trodAll_cons hA
  obtain ⟨rfl, rfl, rfl⟩ := trodAll_nil r0
  obtain rfl : args = #[v0] := by cases args; simp_all
  obtain ⟨rfl, rfl⟩ := trodVars_none hV
  obtain ⟨a0, rfl, rfl, rfl, w0⟩ := open_int Try.underlying44 (hval 0 44 v0 rfl rfl) h0
  clear hA0 hval0
  refine (walk a0 W w0).mono fun e W' ⟨he, bel⟩ => ?_
  subst he
  exact ⟨_, rfl, _, _, _, [], _, [], hW', trodAll_mk1 (shut_bool Try.underlying4 _), (trodAll_cons_mk (shut_int Try.underlying44 w0) trodAll_mk0), rfl, bel.frame _, fun h => by cases h⟩

theorem over : Rows.typFullRow.holds Try.pinned (OpenSpec.ofChange Rows.typFullSpec) :=
  OpenClaim.holds_of_wide 5 Try.f5 rfl rfl rfl rfl rfl rfl rfl ⟨rfl, rfl, rfl, rfl, rfl⟩ rfl rfl rfl rfl rfl (by kernel_rfl) Try.func5 (by kernel_rfl)
    (of_decide_eq_true (by kernel_rfl)) (by unfold Func.isWrapper; first | (rw [if_pos (by decide +kernel)]; kernel_rfl) | (rw [if_neg (by decide +kernel)]; exact ⟨rfl, rfl⟩))
    (fun os started H enc _ => lifted os started H enc)

theorem proved : Rows.TypFullSaid := over
end Go.Proofs.Ytiodocdbhjdfaaa.typFull
namespace Go.Proofs.Ytiodocdbhjdfaaa
theorem typFull_holds : Rows.TypFullSaid := typFull.proved
#print axioms typFull_holds
end Go.Proofs.Ytiodocdbhjdfaaa
