/- QuietEarlier returns true for every two lists of bytes (which act, of which core) and every two times, and leaves its arguments as they were. No condition. -/
import Derived.Test.YtjbchnnbphikhaaRows
import Derived.Test.YtjbchnnbphikhaaQuiB
import Derived.Test.YtjbchnnbphikhaaQuiI
import Derived.Deep.CutBlock
import Derived.WalkKit
import Derived.ProofKit
import Derived.OpenShut
import Derived.ShutString
import Derived.ChangeOld
import Derived.Below
namespace Go.Proofs.Ytjbchnnbphikhaa.quietEarlier
open Go.ChangeShapes Go.WideShapes Go.ChangeAt Go.RowKit
set_option linter.unusedVariables false

theorem own : ownKnob Try.prog.godebug = none := by kernel_rfl
theorem laidOut : laidOutB Try.prog = true := by kernel_rfl

theorem step_now' {N : Nat} {s : CS} {f : Int} : (stepS N s f).now ≤ s.now + 1 := by
  unfold stepS
  split
  · split
    · exact Int.le_refl _
    · omega
  · omega
theorem enter_now' {N : Nat} {s : CS} {f : Int} : (enterS N s f).now = s.now := by
  unfold enterS
  split <;> rfl
theorem flush_now' {N : Nat} {s : CS} {f : Int} : (flushS N s f).now = s.now := by
  unfold flushS
  split <;> rfl
set_option maxRecDepth 100000 in
set_option maxHeartbeats 8000000 in
theorem walk_all (a0 a1 : Option Addr) (len0 cap0 len1 cap1 : Nat) (a b : Int) (w : World)
    (HC0 : Hid (Came .u8 w.heap.size w a0 len0)) (HC1 : Hid (Came .u8 w.heap.size w a1 len1)) (hl0 : len0 ≤ 9223372036854775807) (hl1 : len1 ≤ 9223372036854775807) :
    Calls Try.prog 5 #[.slice a0 len0 cap0, .slice a1 len1 cap1, .int .i64 a, .int .i64 b] w fun e w' => e = .returned (.bool true) ∧ Below w.heap.size w w' := by
  go_enter Try.func5, Try.ntmps5
  go_upto_block 0 with (first
    | (go_at_call 6; refine (new_ok 2 _ (by omega) (by omega)).mono ?_; rintro e w1 ⟨rfl, hc1, hb1⟩; have H1 : Hid (Half w w1 2 (newS 2)) := ⟨hc1, hb1⟩; clear hc1 hb1)
    | fail)
  go_cut [11, 12] from 27 to 63 (fun _ _ wc => ∃ s, Half w wc 2 s ∧ s.now ≤ 100)
  case first =>
   go_wp2_with fail
   go_loopw [11] (fun i wr => ∃ n : Nat, n ≤ len0 ∧ n ≤ 100 ∧ i = .int .i64 n ∧ ∃ s, Half w wr 2 s ∧ s.now ≤ n) (fun i _ => len0 - (intOf i).toNat)
   case atStart => exact ⟨0, by omega, by omega, rfl, newS 2, H1.out, Int.le_refl _⟩
   case round =>
     obtain ⟨n, hn, hn100, rfl, s, hI, hnow⟩ := hrel
     have HI : Hid (Half w wr 2 s) := hI
     clear hI H1
     by_cases hin : n < len0 ∧ n < len1 ∧ n < 100
     · obtain ⟨h0, h1, h2⟩ := hin
       obtain ⟨b0, o0, z0, rfl, HZ0, C0⟩ := HC0.out.at h0
       obtain ⟨b1, o1, z1, rfl, HZ1, C1⟩ := HC1.out.at h1
       have c0 := C0.out _ HI.out.below
       have c1 := C1.out _ HI.out.below
       have i0 : (n : Int) < (len0 : Int) := by omega
       have i1 : (n : Int) < (len1 : Int) := by omega
       have i2 : (n : Int) < 100 := by omega
       obtain ⟨kk, hr, hkk⟩ := rem_u8 HZ1.out 2 (by omega)
       have hr' : z1.tmod 2 = (kk : Int) := hr
       have hk3 : (kk : Int) < 2 := by omega
       obtain ⟨q, hq0, hq3⟩ := rem_u8 HZ0.out 2 (by omega)
       have hq' : z0.tmod 2 = 0 ∨ z0.tmod 2 = 1 := by
         have : z0.tmod 2 = (q : Int) := hq0
         omega
       clear hr hq0 HZ0 HZ1
       rcases hq' with hp | hp
       all_goals
         go_wp2_with (first
           | (go_at_call 9; refine (step_any _ 2 _ s _ (by omega) (by omega) HI.out.clock).mono ?_; rintro e w2 ⟨rfl, hw2⟩; have HI2 : Hid (Half w w2 2 (stepS 2 s kk)) := HI.out.turn (ok_step HI.out.clock.ok 2 kk) hw2; clear hw2 c0 c1; have c0 := C0.out _ HI2.out.below; have c1 := C1.out _ HI2.out.below)
           | (go_at_call 11; refine (enter_any _ 2 _ (stepS 2 s kk) _ (by omega) (by omega) HI2.out.clock).mono ?_; rintro e w3 ⟨rfl, hw3⟩; have HI3 : Hid (∃ t, Half w w3 2 t ∧ t.now ≤ (n : Int) + 1) := ⟨_, HI2.out.turn (ok_enter HI2.out.clock.ok 2 kk) hw3, (by rw [enter_now']; have := @step_now' 2 s kk; omega)⟩; clear hw3)
           | (go_at_call 13; refine (flush_any _ 2 _ (stepS 2 s kk) _ (by omega) (by omega) HI2.out.clock).mono ?_; rintro e w3 ⟨rfl, hw3⟩; have HI3 : Hid (∃ t, Half w w3 2 t ∧ t.now ≤ (n : Int) + 1) := ⟨_, HI2.out.turn (ok_flush HI2.out.clock.ok 2 kk) hw3, (by rw [flush_now']; have := @step_now' 2 s kk; omega)⟩; clear hw3)
           | fail)
         go_roundw
         case rel => exact ⟨n + 1, by omega, by omega, by go_num, let ⟨t, h1, h2⟩ := HI3.out; ⟨t, h1, by omega⟩⟩
         case measure => simp [intOf]; omega
     · have hout : ¬ n < len0 ∨ (n < len0 ∧ ¬ n < len1) ∨ (n < len0 ∧ n < len1 ∧ ¬ n < 100) := by omega
       clear hin
       rcases hout with h1 | ⟨h1, h2⟩ | ⟨h1, h2, h3⟩
       all_goals
         go_wp2_with fail
         go_meet
         exact ⟨s, HI.out, by omega⟩
  case rest =>
    obtain ⟨s, hI, hnow⟩ := hcut
    have HI : Hid (Half w wc 2 s) := hI
    have HOK : Hid (s.ok) := hI.clock.ok
    have h0 : 0 ≤ s.now := hI.clock.ok.1
    clear hI
    obtain ⟨x, hx⟩ : ∃ x, x = if b < a then b else a := ⟨_, rfl⟩
    obtain ⟨y, hy⟩ : ∃ y, y = if b > a then b else a := ⟨_, rfl⟩
    have hxy : x ≤ y := by rw [hx, hy]; split <;> split <;> omega
    have hmin : ∀ (ty : TypeId) (w : World), (Builtin.min_ #[3, 3] ty #[.int .i64 a, .int .i64 b]).run Try.prog w = .ok (.int .i64 x) w := fun ty w => by rw [run_min_int2, hx]
    have hmax : ∀ (ty : TypeId) (w : World), (Builtin.max_ #[3, 3] ty #[.int .i64 a, .int .i64 b]).run Try.prog w = .ok (.int .i64 y) w := fun ty w => by rw [run_max_int2, hy]
    have m1 : quF 2 s 2 y = true → quF 2 s 2 x = true := quF_mono hxy
    have m2 : quF 2 s 1 y = true → quF 2 s 1 x = true := quF_mono hxy
    have HK : Hid (∀ (z : Int) w2, Half w w2 2 s → Calls Try.prog 17 #[.pointer (some ⟨w.heap.size, 0, none⟩), .int .i64 z] w2 fun e w' => e = .returned (.bool (quF 2 s 2 z)) ∧ Half w w' 2 s) := fun z w2 h2 => (kernel_any _ 2 s z w2 (by omega) (by omega) h2.clock).mono fun e w' ⟨he, hb⟩ => ⟨he, h2.more hb⟩
    have HU : Hid (∀ (z : Int) w2, Half w w2 2 s → Calls Try.prog 19 #[.pointer (some ⟨w.heap.size, 0, none⟩), .int .i64 z] w2 fun e w' => e = .returned (.bool (quF 2 s 1 z)) ∧ Half w w' 2 s) := fun z w2 h2 => (user_any _ 2 s z w2 (by omega) (by omega) h2.clock).mono fun e w' ⟨he, hb⟩ => ⟨he, h2.more hb⟩
    have HF : Hid (∀ w2, Half w w2 2 s → Calls Try.prog 21 #[.pointer (some ⟨w.heap.size, 0, none⟩), .int .i64 3, .int .i64 x] w2 fun e w' => e = .returned (.bool (quF 2 s 1 x && quF 2 s 2 x)) ∧ Half w w' 2 s) := fun w2 h2 => (for_any _ 2 s 3 x w2 (by omega) (by omega) h2.clock).mono fun e w' ⟨he, hb⟩ => ⟨by rw [he, quF_both], h2.more hb⟩
    have HKx := HK.out x
    have HKy := HK.out y
    have HUx := HU.out x
    have HUy := HU.out y
    obtain ⟨kx, e1⟩ : ∃ z, z = quF 2 s 2 x := ⟨_, rfl⟩
    obtain ⟨ky, e2⟩ : ∃ z, z = quF 2 s 2 y := ⟨_, rfl⟩
    obtain ⟨ux, e3⟩ : ∃ z, z = quF 2 s 1 x := ⟨_, rfl⟩
    obtain ⟨uy, e4⟩ : ∃ z, z = quF 2 s 1 y := ⟨_, rfl⟩
    rw [← e1] at m1 HKx HF
    rw [← e2] at m1 HKy
    rw [← e3] at m2 HUx HF
    rw [← e4] at m2 HUy
    have HKX : Hid (∀ w2, Half w w2 2 s → Calls Try.prog 17 #[.pointer (some ⟨w.heap.size, 0, none⟩), .int .i64 x] w2 fun e w' => e = .returned (.bool kx) ∧ Half w w' 2 s) := HKx
    have HKY : Hid (∀ w2, Half w w2 2 s → Calls Try.prog 17 #[.pointer (some ⟨w.heap.size, 0, none⟩), .int .i64 y] w2 fun e w' => e = .returned (.bool ky) ∧ Half w w' 2 s) := HKy
    have HUX : Hid (∀ w2, Half w w2 2 s → Calls Try.prog 19 #[.pointer (some ⟨w.heap.size, 0, none⟩), .int .i64 x] w2 fun e w' => e = .returned (.bool ux) ∧ Half w w' 2 s) := HUx
    have HUY : Hid (∀ w2, Half w w2 2 s → Calls Try.prog 19 #[.pointer (some ⟨w.heap.size, 0, none⟩), .int .i64 y] w2 fun e w' => e = .returned (.bool uy) ∧ Half w w' 2 s) := HUy
    clear hx hy hxy HK HU HKx HKy HUx HUy e1 e2 e3 e4 HOK h0 hnow
    cases ky <;> cases kx <;> cases uy <;> cases ux <;> simp only [Bool.false_eq_true, false_implies, forall_const, imp_self, Bool.and_true, Bool.and_false] at m1 m2 HF
    all_goals
      clear m1 m2
      go_wp2_with (first
        | (go_at_call 17; refine (HKY.out _ HI.out).mono ?_; rintro e w2 ⟨rfl, h2⟩; clear HI; have HI : Hid (Half w w2 2 s) := h2; clear h2)
        | (go_at_call 17; refine (HKX.out _ HI.out).mono ?_; rintro e w2 ⟨rfl, h2⟩; clear HI; have HI : Hid (Half w w2 2 s) := h2; clear h2)
        | (go_at_call 19; refine (HUY.out _ HI.out).mono ?_; rintro e w2 ⟨rfl, h2⟩; clear HI; have HI : Hid (Half w w2 2 s) := h2; clear h2)
        | (go_at_call 19; refine (HUX.out _ HI.out).mono ?_; rintro e w2 ⟨rfl, h2⟩; clear HI; have HI : Hid (Half w w2 2 s) := h2; clear h2)
        | (go_at_call 21; refine (HF.out _ HI.out).mono ?_; rintro e w2 ⟨rfl, h2⟩; clear HI; have HI : Hid (Half w w2 2 s) := h2; clear h2)
        | (go_at_call 8; refine (awake_any _).mono ?_; rintro e w7 ⟨rfl, h7⟩; have H7 : Hid (Below w.heap.size w w7) := HI.out.below.trans (h7.mono HI.out.below.size); clear h7)
        | fail)
      go_ret
      exact ⟨rfl, H7.out⟩

theorem walk (a0 : Option Addr) (len0 cap0 : Nat) (a1 : Option Addr) (len1 cap1 : Nat) (a2 : Int) (a3 : Int) (w : World) (w0 : Hid (Came .u8 w.heap.size w a0 len0)) (l0 : len0 ≤ 9223372036854775807) (w1 : Hid (Came .u8 w.heap.size w a1 len1)) (l1 : len1 ≤ 9223372036854775807) (w2 : (Lit.int .i64 a2).wf = true) (w3 : (Lit.int .i64 a3).wf = true) :
    Calls Try.prog 5 #[.slice a0 len0 cap0, .slice a1 len1 cap1, .int .i64 a2, .int .i64 a3] w fun e w' => e = .returned (.bool true) ∧ Below w.heap.size w w' := by
  exact walk_all a0 a1 len0 cap0 len1 cap1 a2 a3 w w0 w1 l0 l1

/-! ### The statement's frame -/
set_option maxRecDepth 100000 in
theorem lifted (os : Os) (started : os.Started) (H : Type) (enc : TypeId × Value → H) :
    ReturnsInHanded {} Try.checked os 5 .any (Rows.quietEarlierSpec.pre6 enc Try.prog Try.f5 Rows.quietEarlierRow.domain false) (Rows.quietEarlierSpec.post enc Try.prog Try.f5 false true false false) := by
  refine returnsInHanded_of_change (C := Try.checked) own started (by kernel_rfl) Try.func5
    (ChangeSpec.witness6 (enc := enc) (C := Try.checked) false ⟨#[], #[.slice none 0 0, .slice none 0 0, .int .i64 0, .int .i64 0], []⟩ 8 (by kernel_rfl) (by kernel_rfl) (by kernel_rfl) (by kernel_rfl)) ?_
  intro W base args ds gs before hval0 hW hcnd _
  have hval : ∀ (j : Nat) t v, Try.f5.params[j]? = some t → args[j]? = some v → Value.okWide Try.prog W .any base t v := hval0
  have hW' := hW
  obtain ⟨p, q, hA0, hV, rfl, hfz, hnd⟩ := hW
  have hA : DataW.TrodAll enc Try.prog W 0 (fun _ => true) true Try.f5.params.toList args.toList ds p := hA0
  rw [Try.params5] at hA hval
  obtain ⟨v0, vs0, d0, ds0, p0, q0, hargs, rfl, rfl, h0, r0⟩ := trodAll_cons hA
  obtain ⟨v1, vs1, d1, ds1, p1, q1, rfl, rfl, rfl, h1, r1⟩ := trodAll_cons r0
  obtain ⟨v2, vs2, d2, ds2, p2, q2, rfl, rfl, rfl, h2, r2⟩ := trodAll_cons r1
  obtain ⟨v3, vs3, d3, ds3, p3, q3, rfl, rfl, rfl, h3, r3⟩ := trodAll_cons r2
  obtain ⟨rfl, rfl, rfl⟩ := trodAll_nil r3
  obtain rfl : args = #[v0, v1, v2, v3] := by cases args; simp_all
  obtain ⟨rfl, rfl⟩ := trodVars_none hV
  obtain ⟨a0, len0, cap0, rfl⟩ := okWide_slice Try.underlying22 (hval 0 22 v0 rfl rfl)
  have k0 := h0
  have lt0 : ∀ x ∈ p0, x.block < W.heap.size := by obtain ⟨m, hm⟩ := k0; exact DataW.trod_lt m _ _ _ hm
  have w0 : Came .u8 W.heap.size W a0 len0 ∧ len0 ≤ 9223372036854775807 := by
    obtain ⟨fuel, hf⟩ := h0
    rcases open_ints Try.underlying22 Try.underlying5 (by kernel_rfl) hf with ⟨hcs, _⟩ | ⟨x, l, c, zs, hcs, _, hl, hm, hz, _, hcell, hwz⟩
    · simp [Value.cells] at hcs
      obtain ⟨rfl, rfl, rfl⟩ := hcs
      exact came_of_row (zs := []) (.inl ⟨rfl, rfl, rfl, rfl⟩)
    · simp [Value.cells] at hcs
      obtain ⟨rfl, rfl, rfl⟩ := hcs
      exact came_of_row (.inr ⟨_, rfl, hl, hm, by simpa using hz, hcell, hwz⟩)
  obtain ⟨a1, len1, cap1, rfl⟩ := okWide_slice Try.underlying22 (hval 1 22 v1 rfl rfl)
  have k1 := h1
  have lt1 : ∀ x ∈ p1, x.block < W.heap.size := by obtain ⟨m, hm⟩ := k1; exact DataW.trod_lt m _ _ _ hm
  have w1 : Came .u8 W.heap.size W a1 len1 ∧ len1 ≤ 9223372036854775807 := by
    obtain ⟨fuel, hf⟩ := h1
    rcases open_ints Try.underlying22 Try.underlying5 (by kernel_rfl) hf with ⟨hcs, _⟩ | ⟨x, l, c, zs, hcs, _, hl, hm, hz, _, hcell, hwz⟩
    · simp [Value.cells] at hcs
      obtain ⟨rfl, rfl, rfl⟩ := hcs
      exact came_of_row (zs := []) (.inl ⟨rfl, rfl, rfl, rfl⟩)
    · simp [Value.cells] at hcs
      obtain ⟨rfl, rfl, rfl⟩ := hcs
      exact came_of_row (.inr ⟨_, rfl, hl, hm, by simpa using hz, hcell, hwz⟩)
  obtain ⟨a2, rfl, rfl, rfl, w2⟩ := open_int Try.underlying3 (hval 2 3 v2 rfl rfl) h2
  obtain ⟨a3, rfl, rfl, rfl, w3⟩ := open_int Try.underlying3 (hval 3 3 v3 rfl rfl) h3
  clear hA0 hval0
  refine (walk a0 len0 cap0 a1 len1 cap1 a2 a3 W w0.1 w0.2 w1.1 w1.2 w2 w3).mono fun e W' ⟨he, bel⟩ => ?_
  subst he
  exact ⟨_, rfl, _, _, _, [], _, [], hW', trodAll_mk1 (shut_bool Try.underlying4 _), (trodAll_cons_mk (Below.trod laidOut (by kernel_rfl) (of_decide_eq_true (by kernel_rfl)) k0 bel lt0) (trodAll_cons_mk (Below.trod laidOut (by kernel_rfl) (of_decide_eq_true (by kernel_rfl)) k1 bel lt1) (trodAll_cons_mk (shut_int Try.underlying3 w2) (trodAll_cons_mk (shut_int Try.underlying3 w3) trodAll_mk0)))), rfl, bel.frame _, fun h => by cases h⟩

theorem over : Rows.quietEarlierRow.holds Try.pinned (OpenSpec.ofChange Rows.quietEarlierSpec) :=
  OpenClaim.holds_of_wide 5 Try.f5 rfl rfl rfl rfl rfl rfl rfl ⟨rfl, rfl, rfl, rfl, rfl⟩ rfl rfl rfl rfl rfl (by kernel_rfl) Try.func5 (by kernel_rfl)
    (of_decide_eq_true (by kernel_rfl)) (by unfold Func.isWrapper; first | (rw [if_pos (by decide +kernel)]; kernel_rfl) | (rw [if_neg (by decide +kernel)]; exact ⟨rfl, rfl⟩))
    (fun os started H enc _ => lifted os started H enc)

theorem proved : Rows.QuietEarlierSaid := over
end Go.Proofs.Ytjbchnnbphikhaa.quietEarlier
namespace Go.Proofs.Ytjbchnnbphikhaa
theorem quietEarlier_holds : Rows.QuietEarlierSaid := quietEarlier.proved
#print axioms quietEarlier_holds
end Go.Proofs.Ytjbchnnbphikhaa
