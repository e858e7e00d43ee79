/- TypNeeded returns true for every two lists of acts, and leaves them as they were. No condition. -/
import Derived.Test.YtiodocdbhjdfaaaRows
import Derived.Test.YtiodocdbhjdfaaaTypD
import Derived.Test.YtiodocdbhjdfaaaTypI
import Derived.Test.YtiodocdbhjdfaaaTypK
import Derived.Deep.CutBlock
import Derived.WalkKit
import Derived.ProofKit
import Derived.OpenShut
import Derived.ShutString
import Derived.ChangeOld
import Derived.Below
namespace Go.Proofs.Ytiodocdbhjdfaaa.typNeeded
open Go.ChangeShapes Go.WideShapes Go.ChangeAt Go.RowKit
set_option linter.unusedVariables false

theorem own : ownKnob Try.prog.godebug = none := by kernel_rfl
theorem laidOut : laidOutB Try.prog = true := by kernel_rfl

/-- An untyped frame is needed by none, and no frame is needed more than k times. -/
def Inv (k : Nat) (s : FS) : Prop := 0 ≤ s.cnt ∧ s.cnt ≤ k ∧ (s.is = 0 → s.cnt = 0)
theorem mx_le (a b : Int) : a ≤ mx a b := by unfold mx; split <;> omega
theorem turn_rt {k : Nat} {s : FS} (kd : Int) (q : Bool) (h : Inv k s) : Inv (k + 1) (gRt kd q s) ∧ s.fr ≤ (gRt kd q s).fr ∧ (0 < s.cnt → (gRt kd q s).is = s.is) := by
  obtain ⟨h1, h2, h3⟩ := h
  unfold gRt
  by_cases a : kd = 1 ∨ kd = 2
  · rw [if_pos a]
    by_cases b : s.is = 0
    · rw [if_pos b]
      cases q
      · rw [if_neg (by simp)]
        exact ⟨⟨h1, by omega, h3⟩, Int.le_refl _, fun _ => rfl⟩
      · have := h3 b
        simp only [if_true]
        exact ⟨⟨h1, by simp only; omega, fun _ => this⟩, Int.le_refl _, fun hc => by omega⟩
    · rw [if_neg b]
      exact ⟨⟨h1, by omega, h3⟩, Int.le_refl _, fun _ => rfl⟩
  · rw [if_neg a]
    exact ⟨⟨h1, by omega, h3⟩, Int.le_refl _, fun _ => rfl⟩
theorem turn_ut {k : Nat} {s : FS} (now : Int) (h : Inv k s) : Inv (k + 1) (gUt now false s) ∧ s.fr ≤ (gUt now false s).fr ∧ (0 < s.cnt → (gUt now false s).is = s.is) := by
  obtain ⟨h1, h2, h3⟩ := h
  unfold gUt
  by_cases a : s.is = 0
  · rw [if_pos a]
    exact ⟨⟨h1, by omega, h3⟩, Int.le_refl _, fun _ => rfl⟩
  · rw [if_neg a]
    by_cases b : s.cnt = 0
    · rw [if_pos b]
      exact ⟨⟨by simp, by simp only; omega, fun _ => rfl⟩, mx_le _ _, fun hc => by omega⟩
    · rw [if_neg b]
      exact ⟨⟨h1, by omega, h3⟩, Int.le_refl _, fun _ => rfl⟩
theorem turn_rf {k : Nat} {s : FS} (h : Inv k s) : Inv (k + 1) (gRf s) ∧ s.fr ≤ (gRf s).fr ∧ (0 < s.cnt → (gRf s).is = s.is) := by
  obtain ⟨h1, h2, h3⟩ := h
  unfold gRf
  by_cases a : s.is = 0
  · rw [if_pos a]
    exact ⟨⟨h1, by omega, h3⟩, Int.le_refl _, fun _ => rfl⟩
  · rw [if_neg a]
    by_cases b : s.cnt < 1000
    · rw [if_pos b]
      exact ⟨⟨by simp only; omega, by simp only; omega, fun hc => absurd hc a⟩, Int.le_refl _, fun _ => rfl⟩
    · rw [if_neg b]
      exact ⟨⟨h1, by omega, h3⟩, Int.le_refl _, fun _ => rfl⟩
theorem turn_ur {k : Nat} {s : FS} (now : Int) (h : Inv k s) : Inv (k + 1) (gUr now s) ∧ s.fr ≤ (gUr now s).fr ∧ (0 < s.cnt → (gUr now s).is = s.is) := by
  obtain ⟨h1, h2, h3⟩ := h
  unfold gUr
  by_cases a : s.cnt = 0
  · rw [if_pos a]
    exact ⟨⟨h1, by omega, h3⟩, Int.le_refl _, fun _ => rfl⟩
  · rw [if_neg a]
    by_cases b : s.cnt = 1
    · rw [if_pos b]
      exact ⟨⟨by simp, by simp only; omega, fun _ => rfl⟩, mx_le _ _, fun _ => rfl⟩
    · rw [if_neg b]
      exact ⟨⟨by simp only; omega, by simp only; omega, fun hc => absurd (h3 hc) a⟩, Int.le_refl _, fun _ => rfl⟩
set_option maxRecDepth 100000 in
set_option maxHeartbeats 16000000 in
theorem walk_all (a0 a1 : Option Addr) (len0 cap0 len1 cap1 : Nat) (w : World)
    (HC0 : Hid (Came .u8 w.heap.size w a0 len0)) (HC1 : Hid (Came .u8 w.heap.size w a1 len1)) (hl0 : len0 ≤ 9223372036854775807) (hl1 : len1 ≤ 9223372036854775807) :
    Calls Try.prog 4 #[.slice a0 len0 cap0, .slice a1 len1 cap1] w fun e w' => e = .returned (.bool true) ∧ Below w.heap.size w w' := by
  go_enter Try.func4, Try.ntmps4
  go_wp2_with (first
    | (go_at_call 7; refine (new1 _).mono ?_; rintro e w1 ⟨rfl, h1⟩; have H1 : Hid (One w w1 noFS) := h1; clear h1))
  go_loopw [7] (fun i wr => ∃ k : Nat, k ≤ len0 ∧ i = .int .i64 k ∧ ∃ s, One w wr s ∧ Inv k s) (fun i _ => len0 - (intOf i).toNat)
  case atStart => exact ⟨0, by omega, rfl, _, H1.out, by simp [Inv, noFS]⟩
  case round =>
    obtain ⟨k, hk, rfl, s, hI, hV⟩ := hrel
    have HI : Hid (One w wr s) := hI
    have HV : Hid (Inv k s) := hV
    clear hI hV H1
    by_cases hin : k < len0 ∧ k < len1 ∧ k < 200
    · obtain ⟨h0, h1, h2⟩ := hin
      obtain ⟨b0, o0, z0, rfl, HZ0, G0⟩ := HC0.out.at h0
      obtain ⟨b1, o1, z1, rfl, HZ1, G1⟩ := HC1.out.at h1
      have i0 : (k : Int) < (len0 : Int) := by omega
      have i1 : (k : Int) < (len1 : Int) := by omega
      have i2 : (k : Int) < 200 := by omega
      have c0 := G0.out wr HI.out.below
      have c1 := G1.out wr HI.out.below
      obtain ⟨q, hq0, hq3⟩ := rem_u8 HZ0.out 4 (by omega)
      have hq' : z0.tmod 4 = 0 ∨ z0.tmod 4 = 1 ∨ z0.tmod 4 = 2 ∨ z0.tmod 4 = 3 := by
        have : z0.tmod 4 = (q : Int) := hq0
        omega
      clear hq0 HZ0
      go_upto_block 2 with (first
        | (go_at_call 19; refine (type1 HI.out).mono ?_; rintro e w3 ⟨rfl, h3⟩; have H3 : Hid (One w w3 s) := h3; clear h3)
        | (go_at_call 20; refine (count1 H3.out).mono ?_; rintro e w4 ⟨rfl, h4⟩; have H4 : Hid (One w w4 s) := h4; clear h4)
        | (go_at_call 21; refine (freed1 H4.out).mono ?_; rintro e w5 ⟨rfl, h5⟩; have H5 : Hid (One w w5 s) := h5; clear h5 c0 c1; have c0 := G0.out w5 H5.out.below; have c1 := G1.out w5 H5.out.below))
      go_cut [] from 46 to 114 (fun wc => ∃ t, One w wc t ∧ Inv (k + 1) t ∧ s.fr ≤ t.fr ∧ (0 < s.cnt → t.is = s.is))
      case first =>
        have hz1 := bounds_u8 HZ1.out
        obtain ⟨V1, V2, V3⟩ := HV.out
        clear HI HV
        rcases hq' with hq | hq | hq | hq
        · obtain ⟨r2, hr2, hr2l⟩ := rem_u8 HZ1.out 2 (by omega)
          obtain ⟨r3, hr3, hr3l⟩ := rem_u8 HZ1.out 3 (by omega)
          have hr2' : z1.tmod 2 = (r2 : Int) := hr2
          have hr3' : z1.tmod 3 = (r3 : Int) := hr3
          have hwr : IntKind.i64.wrap (1 + (r2 : Int)) = 1 + (r2 : Int) := by
            have : r2 = 0 ∨ r2 = 1 := by omega
            rcases this with rfl | rfl <;> rfl
          have hwr0 : IntKind.i64.wrap (r2 : Int) = (r2 : Int) := by
            have : r2 = 0 ∨ r2 = 1 := by omega
            rcases this with rfl | rfl <;> rfl
          have hkd : 1 + (r2 : Int) = 1 ∨ 1 + (r2 : Int) = 2 := by omega
          clear hr2 hr3
          by_cases h3 : r3 = 0
          · subst h3
            have HT : Hid (Inv (k + 1) (gRt (1 + (r2 : Int)) false s) ∧ s.fr ≤ (gRt (1 + (r2 : Int)) false s).fr ∧ (0 < s.cnt → (gRt (1 + (r2 : Int)) false s).is = s.is)) := turn_rt (k := k) _ false ⟨V1, V2, V3⟩
            obtain ⟨x, hx⟩ : ∃ x, x = hRt (1 + (r2 : Int)) false s := ⟨_, rfl⟩
            have HX : Hid (hRt (1 + (r2 : Int)) false s = x) := hx.symm
            have hx0 : (x == 0) = false := by
              rw [hx]
              unfold hRt
              rw [if_pos hkd]
              by_cases a : s.is = 0
              · simp [a]
              · simp [a]
            clear hx V1 V2 V3 hkd
            · go_wp2
              refine wp_region_held_drew (S := (fun w' => w'.cell? ⟨b1, o1 + k, none⟩ = some (.int .u8 z1))) (by kernel_rfl) ?_ (fun hHeld => ?_)
              · (first | assumption | go_keep)
              refine takeV (i := 0) (v := ?_) rfl (by kernel_rfl) (by kernel_rfl) (by kernel_rfl) (fun _ _ _ h => h) (by rfl) (by assumption) ?_ ?_
              rotate_left
              · (intro w0 hSw; (try dsimp only at hSw); go_simp; try (with_reducible rfl))
              try simp only [Act.put, List.setIfInBounds_toArray, List.set_cons_zero, List.set_cons_succ]
              refine takeV (i := 1) (v := ?_) rfl (by kernel_rfl) (by kernel_rfl) (by kernel_rfl) (fun _ _ _ h => h) (by rfl) (by assumption) ?_ ?_
              rotate_left
              · (intro w0 hSw; (try dsimp only at hSw); go_simp; try (with_reducible rfl))
              try simp only [Act.put, List.setIfInBounds_toArray, List.set_cons_zero, List.set_cons_succ]
              refine takeV (i := 2) (v := ?_) rfl (by kernel_rfl) (by kernel_rfl) (by kernel_rfl) (fun _ _ _ h => h) (by rfl) (by assumption) ?_ ?_
              rotate_left
              · (intro w0 hSw; (try dsimp only at hSw); go_simp; try (with_reducible rfl))
              try simp only [Act.put, List.setIfInBounds_toArray, List.set_cons_zero, List.set_cons_succ]
              refine takeV (i := 3) (v := ?_) rfl (by kernel_rfl) (by kernel_rfl) (by kernel_rfl) (fun _ _ _ h => h) (by rfl) (by assumption) ?_ ?_
              rotate_left
              · (intro w0 hSw; (try dsimp only at hSw); go_simp; try (with_reducible rfl))
              try simp only [Act.put, List.setIfInBounds_toArray, List.set_cons_zero, List.set_cons_succ]
              refine takeV (i := 4) (v := ?_) rfl (by kernel_rfl) (by kernel_rfl) (by kernel_rfl) (fun _ _ _ h => h) (by rfl) (by assumption) ?_ ?_
              rotate_left
              · (intro w0 hSw; (try dsimp only at hSw); go_simp; try (with_reducible rfl))
              try simp only [Act.put, List.setIfInBounds_toArray, List.set_cons_zero, List.set_cons_succ]
              refine takeV (i := 5) (v := ?_) rfl (by kernel_rfl) (by kernel_rfl) (by kernel_rfl) (fun _ _ _ h => h) (by rfl) (by assumption) ?_ ?_
              rotate_left
              · (intro w0 hSw; (try dsimp only at hSw); go_simp; try (with_reducible rfl))
              try simp only [Act.put, List.setIfInBounds_toArray, List.set_cons_zero, List.set_cons_succ]
              refine takeV (i := 6) (v := ?_) rfl (by kernel_rfl) (by kernel_rfl) (by kernel_rfl) (fun _ _ _ h => h) (by rfl) (by assumption) ?_ ?_
              rotate_left
              · (intro w0 hSw; (try dsimp only at hSw); go_simp; try (with_reducible rfl))
              try simp only [Act.put, List.setIfInBounds_toArray, List.set_cons_zero, List.set_cons_succ]
              refine takeV (i := 7) (v := ?_) rfl (by kernel_rfl) (by kernel_rfl) (by kernel_rfl) (fun _ _ _ h => h) (by rfl) (by assumption) ?_ ?_
              rotate_left
              · (intro w0 hSw; (try dsimp only at hSw); go_simp; try (with_reducible rfl))
              try simp only [Act.put, List.setIfInBounds_toArray, List.set_cons_zero, List.set_cons_succ]
              refine takeV (i := 8) (v := ?_) rfl (by kernel_rfl) (by kernel_rfl) (by kernel_rfl) (fun _ _ _ h => h) (by rfl) (by assumption) ?_ ?_
              rotate_left
              · (intro w0 hSw; (try dsimp only at hSw); go_simp; try (with_reducible rfl))
              try simp only [Act.put, List.setIfInBounds_toArray, List.set_cons_zero, List.set_cons_succ]
              refine takeV (i := 9) (v := ?_) rfl (by kernel_rfl) (by kernel_rfl) (by kernel_rfl) (fun _ _ _ h => h) (by rfl) (by assumption) ?_ ?_
              rotate_left
              · (intro w0 hSw; (try dsimp only at hSw); go_simp; try (with_reducible rfl))
              try simp only [Act.put, List.setIfInBounds_toArray, List.set_cons_zero, List.set_cons_succ]
              refine takeV (i := 10) (v := ?_) rfl (by kernel_rfl) (by kernel_rfl) (by kernel_rfl) (fun _ _ _ h => h) (by rfl) (by assumption) ?_ ?_
              rotate_left
              · (intro w0 hSw; (try dsimp only at hSw); go_simp; try (with_reducible rfl))
              try simp only [Act.put, List.setIfInBounds_toArray, List.set_cons_zero, List.set_cons_succ]
              refine takeV (i := 11) (v := ?_) rfl (by kernel_rfl) (by kernel_rfl) (by kernel_rfl) (fun _ _ _ h => h) (by rfl) (by assumption) ?_ ?_
              rotate_left
              · (intro w0 hSw; (try dsimp only at hSw); go_simp; try (with_reducible rfl))
              try simp only [Act.put, List.setIfInBounds_toArray, List.set_cons_zero, List.set_cons_succ]
              refine takeV (i := 12) (v := ?_) rfl (by kernel_rfl) (by kernel_rfl) (by kernel_rfl) (fun _ _ _ h => h) (by rfl) (by assumption) ?_ ?_
              rotate_left
              · (intro w0 hSw; (try dsimp only at hSw); go_simp; try (with_reducible rfl))
              try simp only [Act.put, List.setIfInBounds_toArray, List.set_cons_zero, List.set_cons_succ]
              refine takeV (i := 13) (v := ?_) rfl (by kernel_rfl) (by kernel_rfl) (by kernel_rfl) (fun _ _ _ h => h) (by rfl) (by assumption) ?_ ?_
              rotate_left
              · (intro w0 hSw; (try dsimp only at hSw); go_simp; try (with_reducible rfl))
              try simp only [Act.put, List.setIfInBounds_toArray, List.set_cons_zero, List.set_cons_succ]
              refine stepOne (i := 14) rfl (by kernel_rfl) (fun K hK => ?_)
              go_simp
              (go_at_call 10; refine (retype1 (1 + (r2 : Int)) false H5.out.drew).mono ?_; rintro e w6 ⟨rfl, h6⟩; rw [HX.out]; have H6 : Hid (One w w6 (gRt (1 + (r2 : Int)) false s)) := h6; clear h6 c1; have c1 := G1.out w6 H6.out.below)
              go_wp2_with fail
              refine hK.out _ _ ?_ (fun hHeld => ?_)
              · (first | assumption | go_keep)
              clear hK K
              try simp only [Act.put, List.setIfInBounds_toArray, List.set_cons_zero, List.set_cons_succ]
              refine takeV (i := 15) (v := ?_) rfl (by kernel_rfl) (by kernel_rfl) (by kernel_rfl) (fun _ _ _ h => h) (by rfl) (by assumption) ?_ ?_
              rotate_left
              · (intro w0 hSw; (try dsimp only at hSw); go_simp; try (with_reducible rfl))
              try simp only [Act.put, List.setIfInBounds_toArray, List.set_cons_zero, List.set_cons_succ]
              refine takeV (i := 16) (v := ?_) rfl (by kernel_rfl) (by kernel_rfl) (by kernel_rfl) (fun _ _ _ h => h) (by rfl) (by assumption) ?_ ?_
              rotate_left
              · (intro w0 hSw; (try dsimp only at hSw); go_simp; try (with_reducible rfl))
              try simp only [Act.put, List.setIfInBounds_toArray, List.set_cons_zero, List.set_cons_succ]
              refine takeU (i := 17) rfl (by kernel_rfl) (by kernel_rfl) (by kernel_rfl) (fun _ _ _ h => h) (by rfl) (by assumption) ?_
              try simp only [Act.put, List.setIfInBounds_toArray, List.set_cons_zero, List.set_cons_succ]
              refine takeU (i := 18) rfl (by kernel_rfl) (by kernel_rfl) (by kernel_rfl) (fun _ _ _ h => h) (by rfl) (by assumption) ?_
              try simp only [Act.put, List.setIfInBounds_toArray, List.set_cons_zero, List.set_cons_succ]
              refine takeU (i := 19) rfl (by kernel_rfl) (by kernel_rfl) (by kernel_rfl) (fun _ _ _ h => h) (by rfl) (by assumption) ?_
              try simp only [Act.put, List.setIfInBounds_toArray, List.set_cons_zero, List.set_cons_succ]
              refine takeU (i := 20) rfl (by kernel_rfl) (by kernel_rfl) (by kernel_rfl) (fun _ _ _ h => h) (by rfl) (by assumption) ?_
              try simp only [Act.put, List.setIfInBounds_toArray, List.set_cons_zero, List.set_cons_succ]
              refine takeU (i := 21) rfl (by kernel_rfl) (by kernel_rfl) (by kernel_rfl) (fun _ _ _ h => h) (by rfl) (by assumption) ?_
              try simp only [Act.put, List.setIfInBounds_toArray, List.set_cons_zero, List.set_cons_succ]
              refine takeU (i := 22) rfl (by kernel_rfl) (by kernel_rfl) (by kernel_rfl) (fun _ _ _ h => h) (by rfl) (by assumption) ?_
              try simp only [Act.put, List.setIfInBounds_toArray, List.set_cons_zero, List.set_cons_succ]
              refine takeU (i := 23) rfl (by kernel_rfl) (by kernel_rfl) (by kernel_rfl) (fun _ _ _ h => h) (by rfl) (by assumption) ?_
              try simp only [Act.put, List.setIfInBounds_toArray, List.set_cons_zero, List.set_cons_succ]
              refine takeU (i := 24) rfl (by kernel_rfl) (by kernel_rfl) (by kernel_rfl) (fun _ _ _ h => h) (by rfl) (by assumption) ?_
              try simp only [Act.put, List.setIfInBounds_toArray, List.set_cons_zero, List.set_cons_succ]
              refine takeU (i := 25) rfl (by kernel_rfl) (by kernel_rfl) (by kernel_rfl) (fun _ _ _ h => h) (by rfl) (by assumption) ?_
              try simp only [Act.put, List.setIfInBounds_toArray, List.set_cons_zero, List.set_cons_succ]
              refine takeU (i := 26) rfl (by kernel_rfl) (by kernel_rfl) (by kernel_rfl) (fun _ _ _ h => h) (by rfl) (by assumption) ?_
              try simp only [Act.put, List.setIfInBounds_toArray, List.set_cons_zero, List.set_cons_succ]
              refine takeV (i := 27) (v := ?_) rfl (by kernel_rfl) (by kernel_rfl) (by kernel_rfl) (fun _ _ _ h => h) (by rfl) (by assumption) ?_ ?_
              rotate_left
              · (intro w0 hSw; (try dsimp only at hSw); go_simp; try (with_reducible rfl))
              try simp only [Act.put, List.setIfInBounds_toArray, List.set_cons_zero, List.set_cons_succ]
              refine wpAnyH_done (by kernel_rfl) ?_ _
              go_wp2_with fail
              go_meet
              exact ⟨_, H6.out, HT.out⟩
          · have h3i : (0 : Int) < r3 := by omega
            have h3n : 0 < r3 := by omega
            have h3e : ((r3 : Int) == 0) = false := by simp; omega
            have HT : Hid (Inv (k + 1) (gRt (1 + (r2 : Int)) true s) ∧ s.fr ≤ (gRt (1 + (r2 : Int)) true s).fr ∧ (0 < s.cnt → (gRt (1 + (r2 : Int)) true s).is = s.is)) := turn_rt (k := k) _ true ⟨V1, V2, V3⟩
            obtain ⟨x, hx⟩ : ∃ x, x = hRt (1 + (r2 : Int)) true s := ⟨_, rfl⟩
            have HX : Hid (hRt (1 + (r2 : Int)) true s = x) := hx.symm
            have hx' : (x == 0) = true ∧ (s.is != 0) = false ∨ (x == 0) = false := by
              rw [hx]
              unfold hRt
              rw [if_pos hkd]
              by_cases a : s.is = 0
              · left; simp [a]
              · right; simp [a]
            clear hx V1 V2 V3 hkd
            rcases hx' with ⟨hx0, e1⟩ | hx0
            · go_wp2
              refine wp_region_held_drew (S := (fun w' => w'.cell? ⟨b1, o1 + k, none⟩ = some (.int .u8 z1))) (by kernel_rfl) ?_ (fun hHeld => ?_)
              · (first | assumption | go_keep)
              refine takeV (i := 0) (v := ?_) rfl (by kernel_rfl) (by kernel_rfl) (by kernel_rfl) (fun _ _ _ h => h) (by rfl) (by assumption) ?_ ?_
              rotate_left
              · (intro w0 hSw; (try dsimp only at hSw); go_simp; try (with_reducible rfl))
              try simp only [Act.put, List.setIfInBounds_toArray, List.set_cons_zero, List.set_cons_succ]
              refine takeV (i := 1) (v := ?_) rfl (by kernel_rfl) (by kernel_rfl) (by kernel_rfl) (fun _ _ _ h => h) (by rfl) (by assumption) ?_ ?_
              rotate_left
              · (intro w0 hSw; (try dsimp only at hSw); go_simp; try (with_reducible rfl))
              try simp only [Act.put, List.setIfInBounds_toArray, List.set_cons_zero, List.set_cons_succ]
              refine takeV (i := 2) (v := ?_) rfl (by kernel_rfl) (by kernel_rfl) (by kernel_rfl) (fun _ _ _ h => h) (by rfl) (by assumption) ?_ ?_
              rotate_left
              · (intro w0 hSw; (try dsimp only at hSw); go_simp; try (with_reducible rfl))
              try simp only [Act.put, List.setIfInBounds_toArray, List.set_cons_zero, List.set_cons_succ]
              refine takeV (i := 3) (v := ?_) rfl (by kernel_rfl) (by kernel_rfl) (by kernel_rfl) (fun _ _ _ h => h) (by rfl) (by assumption) ?_ ?_
              rotate_left
              · (intro w0 hSw; (try dsimp only at hSw); go_simp; try (with_reducible rfl))
              try simp only [Act.put, List.setIfInBounds_toArray, List.set_cons_zero, List.set_cons_succ]
              refine takeV (i := 4) (v := ?_) rfl (by kernel_rfl) (by kernel_rfl) (by kernel_rfl) (fun _ _ _ h => h) (by rfl) (by assumption) ?_ ?_
              rotate_left
              · (intro w0 hSw; (try dsimp only at hSw); go_simp; try (with_reducible rfl))
              try simp only [Act.put, List.setIfInBounds_toArray, List.set_cons_zero, List.set_cons_succ]
              refine takeV (i := 5) (v := ?_) rfl (by kernel_rfl) (by kernel_rfl) (by kernel_rfl) (fun _ _ _ h => h) (by rfl) (by assumption) ?_ ?_
              rotate_left
              · (intro w0 hSw; (try dsimp only at hSw); go_simp; try (with_reducible rfl))
              try simp only [Act.put, List.setIfInBounds_toArray, List.set_cons_zero, List.set_cons_succ]
              refine takeV (i := 6) (v := ?_) rfl (by kernel_rfl) (by kernel_rfl) (by kernel_rfl) (fun _ _ _ h => h) (by rfl) (by assumption) ?_ ?_
              rotate_left
              · (intro w0 hSw; (try dsimp only at hSw); go_simp; try (with_reducible rfl))
              try simp only [Act.put, List.setIfInBounds_toArray, List.set_cons_zero, List.set_cons_succ]
              refine takeV (i := 7) (v := ?_) rfl (by kernel_rfl) (by kernel_rfl) (by kernel_rfl) (fun _ _ _ h => h) (by rfl) (by assumption) ?_ ?_
              rotate_left
              · (intro w0 hSw; (try dsimp only at hSw); go_simp; try (with_reducible rfl))
              try simp only [Act.put, List.setIfInBounds_toArray, List.set_cons_zero, List.set_cons_succ]
              refine takeV (i := 8) (v := ?_) rfl (by kernel_rfl) (by kernel_rfl) (by kernel_rfl) (fun _ _ _ h => h) (by rfl) (by assumption) ?_ ?_
              rotate_left
              · (intro w0 hSw; (try dsimp only at hSw); go_simp; try (with_reducible rfl))
              try simp only [Act.put, List.setIfInBounds_toArray, List.set_cons_zero, List.set_cons_succ]
              refine takeV (i := 9) (v := ?_) rfl (by kernel_rfl) (by kernel_rfl) (by kernel_rfl) (fun _ _ _ h => h) (by rfl) (by assumption) ?_ ?_
              rotate_left
              · (intro w0 hSw; (try dsimp only at hSw); go_simp; try (with_reducible rfl))
              try simp only [Act.put, List.setIfInBounds_toArray, List.set_cons_zero, List.set_cons_succ]
              refine takeV (i := 10) (v := ?_) rfl (by kernel_rfl) (by kernel_rfl) (by kernel_rfl) (fun _ _ _ h => h) (by rfl) (by assumption) ?_ ?_
              rotate_left
              · (intro w0 hSw; (try dsimp only at hSw); go_simp; try (with_reducible rfl))
              try simp only [Act.put, List.setIfInBounds_toArray, List.set_cons_zero, List.set_cons_succ]
              refine takeV (i := 11) (v := ?_) rfl (by kernel_rfl) (by kernel_rfl) (by kernel_rfl) (fun _ _ _ h => h) (by rfl) (by assumption) ?_ ?_
              rotate_left
              · (intro w0 hSw; (try dsimp only at hSw); go_simp; try (with_reducible rfl))
              try simp only [Act.put, List.setIfInBounds_toArray, List.set_cons_zero, List.set_cons_succ]
              refine takeV (i := 12) (v := ?_) rfl (by kernel_rfl) (by kernel_rfl) (by kernel_rfl) (fun _ _ _ h => h) (by rfl) (by assumption) ?_ ?_
              rotate_left
              · (intro w0 hSw; (try dsimp only at hSw); go_simp; try (with_reducible rfl))
              try simp only [Act.put, List.setIfInBounds_toArray, List.set_cons_zero, List.set_cons_succ]
              refine takeV (i := 13) (v := ?_) rfl (by kernel_rfl) (by kernel_rfl) (by kernel_rfl) (fun _ _ _ h => h) (by rfl) (by assumption) ?_ ?_
              rotate_left
              · (intro w0 hSw; (try dsimp only at hSw); go_simp; try (with_reducible rfl))
              try simp only [Act.put, List.setIfInBounds_toArray, List.set_cons_zero, List.set_cons_succ]
              refine stepOne (i := 14) rfl (by kernel_rfl) (fun K hK => ?_)
              go_simp
              (go_at_call 10; refine (retype1 (1 + (r2 : Int)) true H5.out.drew).mono ?_; rintro e w6 ⟨rfl, h6⟩; rw [HX.out]; have H6 : Hid (One w w6 (gRt (1 + (r2 : Int)) true s)) := h6; clear h6 c1; have c1 := G1.out w6 H6.out.below)
              go_wp2_with fail
              refine hK.out _ _ ?_ (fun hHeld => ?_)
              · (first | assumption | go_keep)
              clear hK K
              try simp only [Act.put, List.setIfInBounds_toArray, List.set_cons_zero, List.set_cons_succ]
              refine takeV (i := 15) (v := ?_) rfl (by kernel_rfl) (by kernel_rfl) (by kernel_rfl) (fun _ _ _ h => h) (by rfl) (by assumption) ?_ ?_
              rotate_left
              · (intro w0 hSw; (try dsimp only at hSw); go_simp; try (with_reducible rfl))
              try simp only [Act.put, List.setIfInBounds_toArray, List.set_cons_zero, List.set_cons_succ]
              refine takeV (i := 16) (v := ?_) rfl (by kernel_rfl) (by kernel_rfl) (by kernel_rfl) (fun _ _ _ h => h) (by rfl) (by assumption) ?_ ?_
              rotate_left
              · (intro w0 hSw; (try dsimp only at hSw); go_simp; try (with_reducible rfl))
              try simp only [Act.put, List.setIfInBounds_toArray, List.set_cons_zero, List.set_cons_succ]
              refine takeV (i := 17) (v := ?_) rfl (by kernel_rfl) (by kernel_rfl) (by kernel_rfl) (fun _ _ _ h => h) (by rfl) (by assumption) ?_ ?_
              rotate_left
              · (intro w0 hSw; (try dsimp only at hSw); go_simp; try (with_reducible rfl))
              try simp only [Act.put, List.setIfInBounds_toArray, List.set_cons_zero, List.set_cons_succ]
              refine takeV (i := 18) (v := ?_) rfl (by kernel_rfl) (by kernel_rfl) (by kernel_rfl) (fun _ _ _ h => h) (by rfl) (by assumption) ?_ ?_
              rotate_left
              · (intro w0 hSw; (try dsimp only at hSw); go_simp; try (with_reducible rfl))
              try simp only [Act.put, List.setIfInBounds_toArray, List.set_cons_zero, List.set_cons_succ]
              refine takeV (i := 19) (v := ?_) rfl (by kernel_rfl) (by kernel_rfl) (by kernel_rfl) (fun _ _ _ h => h) (by rfl) (by assumption) ?_ ?_
              rotate_left
              · (intro w0 hSw; (try dsimp only at hSw); go_simp; try (with_reducible rfl))
              try simp only [Act.put, List.setIfInBounds_toArray, List.set_cons_zero, List.set_cons_succ]
              refine takeV (i := 20) (v := ?_) rfl (by kernel_rfl) (by kernel_rfl) (by kernel_rfl) (fun _ _ _ h => h) (by rfl) (by assumption) ?_ ?_
              rotate_left
              · (intro w0 hSw; (try dsimp only at hSw); go_simp; try (with_reducible rfl))
              try simp only [Act.put, List.setIfInBounds_toArray, List.set_cons_zero, List.set_cons_succ]
              refine takeV (i := 21) (v := ?_) rfl (by kernel_rfl) (by kernel_rfl) (by kernel_rfl) (fun _ _ _ h => h) (by rfl) (by assumption) ?_ ?_
              rotate_left
              · (intro w0 hSw; (try dsimp only at hSw); go_simp; try (with_reducible rfl))
              try simp only [Act.put, List.setIfInBounds_toArray, List.set_cons_zero, List.set_cons_succ]
              refine takeV (i := 22) (v := ?_) rfl (by kernel_rfl) (by kernel_rfl) (by kernel_rfl) (fun _ _ _ h => h) (by rfl) (by assumption) ?_ ?_
              rotate_left
              · (intro w0 hSw; (try dsimp only at hSw); go_simp; try (with_reducible rfl))
              try simp only [Act.put, List.setIfInBounds_toArray, List.set_cons_zero, List.set_cons_succ]
              refine takeV (i := 23) (v := ?_) rfl (by kernel_rfl) (by kernel_rfl) (by kernel_rfl) (fun _ _ _ h => h) (by rfl) (by assumption) ?_ ?_
              rotate_left
              · (intro w0 hSw; (try dsimp only at hSw); go_simp; try (with_reducible rfl))
              try simp only [Act.put, List.setIfInBounds_toArray, List.set_cons_zero, List.set_cons_succ]
              refine takeV (i := 24) (v := ?_) rfl (by kernel_rfl) (by kernel_rfl) (by kernel_rfl) (fun _ _ _ h => h) (by rfl) (by assumption) ?_ ?_
              rotate_left
              · (intro w0 hSw; (try dsimp only at hSw); go_simp; try (with_reducible rfl))
              try simp only [Act.put, List.setIfInBounds_toArray, List.set_cons_zero, List.set_cons_succ]
              refine takeV (i := 25) (v := ?_) rfl (by kernel_rfl) (by kernel_rfl) (by kernel_rfl) (fun _ _ _ h => h) (by rfl) (by assumption) ?_ ?_
              rotate_left
              · (intro w0 hSw; (try dsimp only at hSw); go_simp; try (with_reducible rfl))
              try simp only [Act.put, List.setIfInBounds_toArray, List.set_cons_zero, List.set_cons_succ]
              refine takeV (i := 26) (v := ?_) rfl (by kernel_rfl) (by kernel_rfl) (by kernel_rfl) (fun _ _ _ h => h) (by rfl) (by assumption) ?_ ?_
              rotate_left
              · (intro w0 hSw; (try dsimp only at hSw); go_simp; try (with_reducible rfl))
              try simp only [Act.put, List.setIfInBounds_toArray, List.set_cons_zero, List.set_cons_succ]
              refine takeV (i := 27) (v := ?_) rfl (by kernel_rfl) (by kernel_rfl) (by kernel_rfl) (fun _ _ _ h => h) (by rfl) (by assumption) ?_ ?_
              rotate_left
              · (intro w0 hSw; (try dsimp only at hSw); go_simp; try (with_reducible rfl))
              try simp only [Act.put, List.setIfInBounds_toArray, List.set_cons_zero, List.set_cons_succ]
              refine wpAnyH_done (by kernel_rfl) ?_ _
              go_wp2_with fail
              go_meet
              exact ⟨_, H6.out, HT.out⟩
            · go_wp2
              refine wp_region_held_drew (S := (fun w' => w'.cell? ⟨b1, o1 + k, none⟩ = some (.int .u8 z1))) (by kernel_rfl) ?_ (fun hHeld => ?_)
              · (first | assumption | go_keep)
              refine takeV (i := 0) (v := ?_) rfl (by kernel_rfl) (by kernel_rfl) (by kernel_rfl) (fun _ _ _ h => h) (by rfl) (by assumption) ?_ ?_
              rotate_left
              · (intro w0 hSw; (try dsimp only at hSw); go_simp; try (with_reducible rfl))
              try simp only [Act.put, List.setIfInBounds_toArray, List.set_cons_zero, List.set_cons_succ]
              refine takeV (i := 1) (v := ?_) rfl (by kernel_rfl) (by kernel_rfl) (by kernel_rfl) (fun _ _ _ h => h) (by rfl) (by assumption) ?_ ?_
              rotate_left
              · (intro w0 hSw; (try dsimp only at hSw); go_simp; try (with_reducible rfl))
              try simp only [Act.put, List.setIfInBounds_toArray, List.set_cons_zero, List.set_cons_succ]
              refine takeV (i := 2) (v := ?_) rfl (by kernel_rfl) (by kernel_rfl) (by kernel_rfl) (fun _ _ _ h => h) (by rfl) (by assumption) ?_ ?_
              rotate_left
              · (intro w0 hSw; (try dsimp only at hSw); go_simp; try (with_reducible rfl))
              try simp only [Act.put, List.setIfInBounds_toArray, List.set_cons_zero, List.set_cons_succ]
              refine takeV (i := 3) (v := ?_) rfl (by kernel_rfl) (by kernel_rfl) (by kernel_rfl) (fun _ _ _ h => h) (by rfl) (by assumption) ?_ ?_
              rotate_left
              · (intro w0 hSw; (try dsimp only at hSw); go_simp; try (with_reducible rfl))
              try simp only [Act.put, List.setIfInBounds_toArray, List.set_cons_zero, List.set_cons_succ]
              refine takeV (i := 4) (v := ?_) rfl (by kernel_rfl) (by kernel_rfl) (by kernel_rfl) (fun _ _ _ h => h) (by rfl) (by assumption) ?_ ?_
              rotate_left
              · (intro w0 hSw; (try dsimp only at hSw); go_simp; try (with_reducible rfl))
              try simp only [Act.put, List.setIfInBounds_toArray, List.set_cons_zero, List.set_cons_succ]
              refine takeV (i := 5) (v := ?_) rfl (by kernel_rfl) (by kernel_rfl) (by kernel_rfl) (fun _ _ _ h => h) (by rfl) (by assumption) ?_ ?_
              rotate_left
              · (intro w0 hSw; (try dsimp only at hSw); go_simp; try (with_reducible rfl))
              try simp only [Act.put, List.setIfInBounds_toArray, List.set_cons_zero, List.set_cons_succ]
              refine takeV (i := 6) (v := ?_) rfl (by kernel_rfl) (by kernel_rfl) (by kernel_rfl) (fun _ _ _ h => h) (by rfl) (by assumption) ?_ ?_
              rotate_left
              · (intro w0 hSw; (try dsimp only at hSw); go_simp; try (with_reducible rfl))
              try simp only [Act.put, List.setIfInBounds_toArray, List.set_cons_zero, List.set_cons_succ]
              refine takeV (i := 7) (v := ?_) rfl (by kernel_rfl) (by kernel_rfl) (by kernel_rfl) (fun _ _ _ h => h) (by rfl) (by assumption) ?_ ?_
              rotate_left
              · (intro w0 hSw; (try dsimp only at hSw); go_simp; try (with_reducible rfl))
              try simp only [Act.put, List.setIfInBounds_toArray, List.set_cons_zero, List.set_cons_succ]
              refine takeV (i := 8) (v := ?_) rfl (by kernel_rfl) (by kernel_rfl) (by kernel_rfl) (fun _ _ _ h => h) (by rfl) (by assumption) ?_ ?_
              rotate_left
              · (intro w0 hSw; (try dsimp only at hSw); go_simp; try (with_reducible rfl))
              try simp only [Act.put, List.setIfInBounds_toArray, List.set_cons_zero, List.set_cons_succ]
              refine takeV (i := 9) (v := ?_) rfl (by kernel_rfl) (by kernel_rfl) (by kernel_rfl) (fun _ _ _ h => h) (by rfl) (by assumption) ?_ ?_
              rotate_left
              · (intro w0 hSw; (try dsimp only at hSw); go_simp; try (with_reducible rfl))
              try simp only [Act.put, List.setIfInBounds_toArray, List.set_cons_zero, List.set_cons_succ]
              refine takeV (i := 10) (v := ?_) rfl (by kernel_rfl) (by kernel_rfl) (by kernel_rfl) (fun _ _ _ h => h) (by rfl) (by assumption) ?_ ?_
              rotate_left
              · (intro w0 hSw; (try dsimp only at hSw); go_simp; try (with_reducible rfl))
              try simp only [Act.put, List.setIfInBounds_toArray, List.set_cons_zero, List.set_cons_succ]
              refine takeV (i := 11) (v := ?_) rfl (by kernel_rfl) (by kernel_rfl) (by kernel_rfl) (fun _ _ _ h => h) (by rfl) (by assumption) ?_ ?_
              rotate_left
              · (intro w0 hSw; (try dsimp only at hSw); go_simp; try (with_reducible rfl))
              try simp only [Act.put, List.setIfInBounds_toArray, List.set_cons_zero, List.set_cons_succ]
              refine takeV (i := 12) (v := ?_) rfl (by kernel_rfl) (by kernel_rfl) (by kernel_rfl) (fun _ _ _ h => h) (by rfl) (by assumption) ?_ ?_
              rotate_left
              · (intro w0 hSw; (try dsimp only at hSw); go_simp; try (with_reducible rfl))
              try simp only [Act.put, List.setIfInBounds_toArray, List.set_cons_zero, List.set_cons_succ]
              refine takeV (i := 13) (v := ?_) rfl (by kernel_rfl) (by kernel_rfl) (by kernel_rfl) (fun _ _ _ h => h) (by rfl) (by assumption) ?_ ?_
              rotate_left
              · (intro w0 hSw; (try dsimp only at hSw); go_simp; try (with_reducible rfl))
              try simp only [Act.put, List.setIfInBounds_toArray, List.set_cons_zero, List.set_cons_succ]
              refine stepOne (i := 14) rfl (by kernel_rfl) (fun K hK => ?_)
              go_simp
              (go_at_call 10; refine (retype1 (1 + (r2 : Int)) true H5.out.drew).mono ?_; rintro e w6 ⟨rfl, h6⟩; rw [HX.out]; have H6 : Hid (One w w6 (gRt (1 + (r2 : Int)) true s)) := h6; clear h6 c1; have c1 := G1.out w6 H6.out.below)
              go_wp2_with fail
              refine hK.out _ _ ?_ (fun hHeld => ?_)
              · (first | assumption | go_keep)
              clear hK K
              try simp only [Act.put, List.setIfInBounds_toArray, List.set_cons_zero, List.set_cons_succ]
              refine takeV (i := 15) (v := ?_) rfl (by kernel_rfl) (by kernel_rfl) (by kernel_rfl) (fun _ _ _ h => h) (by rfl) (by assumption) ?_ ?_
              rotate_left
              · (intro w0 hSw; (try dsimp only at hSw); go_simp; try (with_reducible rfl))
              try simp only [Act.put, List.setIfInBounds_toArray, List.set_cons_zero, List.set_cons_succ]
              refine takeV (i := 16) (v := ?_) rfl (by kernel_rfl) (by kernel_rfl) (by kernel_rfl) (fun _ _ _ h => h) (by rfl) (by assumption) ?_ ?_
              rotate_left
              · (intro w0 hSw; (try dsimp only at hSw); go_simp; try (with_reducible rfl))
              try simp only [Act.put, List.setIfInBounds_toArray, List.set_cons_zero, List.set_cons_succ]
              refine takeU (i := 17) rfl (by kernel_rfl) (by kernel_rfl) (by kernel_rfl) (fun _ _ _ h => h) (by rfl) (by assumption) ?_
              try simp only [Act.put, List.setIfInBounds_toArray, List.set_cons_zero, List.set_cons_succ]
              refine takeU (i := 18) rfl (by kernel_rfl) (by kernel_rfl) (by kernel_rfl) (fun _ _ _ h => h) (by rfl) (by assumption) ?_
              try simp only [Act.put, List.setIfInBounds_toArray, List.set_cons_zero, List.set_cons_succ]
              refine takeU (i := 19) rfl (by kernel_rfl) (by kernel_rfl) (by kernel_rfl) (fun _ _ _ h => h) (by rfl) (by assumption) ?_
              try simp only [Act.put, List.setIfInBounds_toArray, List.set_cons_zero, List.set_cons_succ]
              refine takeU (i := 20) rfl (by kernel_rfl) (by kernel_rfl) (by kernel_rfl) (fun _ _ _ h => h) (by rfl) (by assumption) ?_
              try simp only [Act.put, List.setIfInBounds_toArray, List.set_cons_zero, List.set_cons_succ]
              refine takeU (i := 21) rfl (by kernel_rfl) (by kernel_rfl) (by kernel_rfl) (fun _ _ _ h => h) (by rfl) (by assumption) ?_
              try simp only [Act.put, List.setIfInBounds_toArray, List.set_cons_zero, List.set_cons_succ]
              refine takeU (i := 22) rfl (by kernel_rfl) (by kernel_rfl) (by kernel_rfl) (fun _ _ _ h => h) (by rfl) (by assumption) ?_
              try simp only [Act.put, List.setIfInBounds_toArray, List.set_cons_zero, List.set_cons_succ]
              refine takeU (i := 23) rfl (by kernel_rfl) (by kernel_rfl) (by kernel_rfl) (fun _ _ _ h => h) (by rfl) (by assumption) ?_
              try simp only [Act.put, List.setIfInBounds_toArray, List.set_cons_zero, List.set_cons_succ]
              refine takeU (i := 24) rfl (by kernel_rfl) (by kernel_rfl) (by kernel_rfl) (fun _ _ _ h => h) (by rfl) (by assumption) ?_
              try simp only [Act.put, List.setIfInBounds_toArray, List.set_cons_zero, List.set_cons_succ]
              refine takeU (i := 25) rfl (by kernel_rfl) (by kernel_rfl) (by kernel_rfl) (fun _ _ _ h => h) (by rfl) (by assumption) ?_
              try simp only [Act.put, List.setIfInBounds_toArray, List.set_cons_zero, List.set_cons_succ]
              refine takeU (i := 26) rfl (by kernel_rfl) (by kernel_rfl) (by kernel_rfl) (fun _ _ _ h => h) (by rfl) (by assumption) ?_
              try simp only [Act.put, List.setIfInBounds_toArray, List.set_cons_zero, List.set_cons_succ]
              refine takeV (i := 27) (v := ?_) rfl (by kernel_rfl) (by kernel_rfl) (by kernel_rfl) (fun _ _ _ h => h) (by rfl) (by assumption) ?_ ?_
              rotate_left
              · (intro w0 hSw; (try dsimp only at hSw); go_simp; try (with_reducible rfl))
              try simp only [Act.put, List.setIfInBounds_toArray, List.set_cons_zero, List.set_cons_succ]
              refine wpAnyH_done (by kernel_rfl) ?_ _
              go_wp2_with fail
              go_meet
              exact ⟨_, H6.out, HT.out⟩
        · have HT : Hid (Inv (k + 1) (gUt z1 false s) ∧ s.fr ≤ (gUt z1 false s).fr ∧ (0 < s.cnt → (gUt z1 false s).is = s.is)) := turn_ut (k := k) z1 ⟨V1, V2, V3⟩
          obtain ⟨x, hx⟩ : ∃ x, x = hUt s := ⟨_, rfl⟩
          have HX : Hid (hUt s = x) := hx.symm
          have hx' : (x == 0) = true ∧ (s.cnt != 0) = false ∧ (s.is == 0) = false ∨ (x == 0) = false := by
            rw [hx]
            unfold hUt
            by_cases a : s.is = 0
            · right; simp [a]
            · by_cases b : s.cnt = 0
              · left; simp [a, b]
              · right; simp [a, b]
          rcases hx' with ⟨hx0, e1, e2⟩ | hx0
          all_goals
            clear hx V1 V2 V3
            go_wp2_with (go_at_call 12; refine (untype1 z1 false H5.out).mono ?_; rintro e w6 ⟨rfl, h6⟩; rw [HX.out]; have H6 : Hid (One w w6 (gUt z1 false s)) := h6; clear h6)
            go_meet
            exact ⟨_, H6.out, HT.out⟩
        · have HT : Hid (Inv (k + 1) (gRf s) ∧ s.fr ≤ (gRf s).fr ∧ (0 < s.cnt → (gRf s).is = s.is)) := turn_rf (k := k) ⟨V1, V2, V3⟩
          obtain ⟨x, hx⟩ : ∃ x, x = hRf s := ⟨_, rfl⟩
          have HX : Hid (hRf s = x) := hx.symm
          have hx' : (x == 0) = true ∧ (s.is != 0) = true ∨ (x == 0) = false ∧ (s.is != 0) = false := by
            rw [hx]
            unfold hRf
            by_cases a : s.is = 0
            · right; simp [a]
            · left
              have b : s.cnt < 1000 := by omega
              simp [a, b]
          rcases hx' with ⟨hx0, e1⟩ | ⟨hx0, e1⟩
          all_goals
            clear hx V1 V2 V3
            go_wp2_with (go_at_call 14; refine (ref1 H5.out).mono ?_; rintro e w6 ⟨rfl, h6⟩; rw [HX.out]; have H6 : Hid (One w w6 (gRf s)) := h6; clear h6)
            go_meet
            exact ⟨_, H6.out, HT.out⟩
        · have HT : Hid (Inv (k + 1) (gUr z1 s) ∧ s.fr ≤ (gUr z1 s).fr ∧ (0 < s.cnt → (gUr z1 s).is = s.is)) := turn_ur (k := k) z1 ⟨V1, V2, V3⟩
          obtain ⟨x, hx⟩ : ∃ x, x = hUr s := ⟨_, rfl⟩
          have HX : Hid (hUr s = x) := hx.symm
          have hx' : (x == 0) = true ∧ 0 < s.cnt ∨ (x == 0) = false ∧ ¬ 0 < s.cnt := by
            rw [hx]
            unfold hUr
            by_cases a : s.cnt = 0
            · right; simp [a]
            · left
              have b : 0 < s.cnt := by omega
              simp [a, b]
          rcases hx' with ⟨hx0, e1⟩ | ⟨hx0, e1⟩
          all_goals
            clear hx V1 V2 V3
            go_wp2_with (go_at_call 16; refine (unref1 z1 H5.out).mono ?_; rintro e w6 ⟨rfl, h6⟩; rw [HX.out]; have H6 : Hid (One w w6 (gUr z1 s)) := h6; clear h6)
            go_meet
            exact ⟨_, H6.out, HT.out⟩
      case rest =>
        obtain ⟨t, h6, h7, h8, h9⟩ := hcut
        have H6 : Hid (One w wc t) := h6
        have HV7 : Hid (Inv (k + 1) t) := h7
        have h8' : ¬ t.fr < s.fr := by omega
        have ht : (t.is == 0) = true ∧ (t.cnt != 0) = false ∨ (t.is == 0) = false := by
          by_cases a : t.is = 0
          · left; simp [a, h7.2.2 a]
          · right; simpa using a
        have hs : 0 < s.cnt ∧ (t.is != s.is) = false ∨ ¬ 0 < s.cnt := by
          by_cases a : 0 < s.cnt
          · left; exact ⟨a, by simpa using h9 a⟩
          · right; exact a
        clear h6 h7 h8 h9 c0 c1 HI HV H5 hq'
        rcases ht with ⟨t0, t1⟩ | t0
        · rcases hs with ⟨s0, s1⟩ | s0
          all_goals
            have k1 : True := trivial
            go_wp2_with (first
              | (go_at_call 19; clear k1; refine (type1 H6.out).mono ?_; rintro e w7 ⟨rfl, h7⟩; have H7 : Hid (One w w7 t) := h7; clear h7)
              | (go_at_call 20; refine (count1 H7.out).mono ?_; rintro e w8 ⟨rfl, h8⟩; have H8 : Hid (One w w8 t) := h8; clear h8)
              | (go_at_call 21; refine (freed1 H8.out).mono ?_; rintro e w9 ⟨rfl, h9⟩; have H9 : Hid (One w w9 t) := h9; clear h9)
              | (go_at_call 19; refine (type1 H9.out).mono ?_; rintro e w10 ⟨rfl, h10⟩; have H10 : Hid (One w w10 t) := h10; clear h10))
            go_roundw
            case rel => exact ⟨k + 1, by omega, by go_num, _, by first | exact H10.out | exact H9.out, HV7.out⟩
            case measure => simp [intOf]; omega
        · rcases hs with ⟨s0, s1⟩ | s0
          all_goals
            have k1 : True := trivial
            go_wp2_with (first
              | (go_at_call 19; clear k1; refine (type1 H6.out).mono ?_; rintro e w7 ⟨rfl, h7⟩; have H7 : Hid (One w w7 t) := h7; clear h7)
              | (go_at_call 21; refine (freed1 H7.out).mono ?_; rintro e w9 ⟨rfl, h9⟩; have H9 : Hid (One w w9 t) := h9; clear h9)
              | (go_at_call 19; refine (type1 H9.out).mono ?_; rintro e w10 ⟨rfl, h10⟩; have H10 : Hid (One w w10 t) := h10; clear h10))
            go_roundw
            case rel => exact ⟨k + 1, by omega, by go_num, _, by first | exact H10.out | exact H9.out, HV7.out⟩
            case measure => simp [intOf]; omega
    · have hout : ¬ k < len0 ∨ (k < len0 ∧ ¬ k < len1) ∨ (k < len0 ∧ k < len1 ∧ ¬ k < 200) := by omega
      clear hin
      rcases hout with h1 | ⟨h1, h2⟩ | ⟨h1, h2, h3⟩
      all_goals
        go_wp2_with (go_at_call 9; refine (awake_any _).mono ?_; rintro e w9 ⟨rfl, h9⟩; have H9 : Hid (Below w.heap.size w w9) := HI.out.below.trans (h9.mono HI.out.below.size); clear h9)
        go_ret
        exact ⟨rfl, H9.out⟩

theorem walk (a0 : Option Addr) (len0 cap0 : Nat) (a1 : Option Addr) (len1 cap1 : Nat) (w : World) (w0 : Hid (Came .u8 w.heap.size w a0 len0)) (l0 : len0 ≤ 9223372036854775807) (w1 : Hid (Came .u8 w.heap.size w a1 len1)) (l1 : len1 ≤ 9223372036854775807) :
    Calls Try.prog 4 #[.slice a0 len0 cap0, .slice a1 len1 cap1] w fun e w' => e = .returned (.bool true) ∧ Below w.heap.size w w' := by
  exact walk_all a0 a1 len0 cap0 len1 cap1 w w0 w1 l0 l1

/-! ### The statement's frame -/
set_option maxRecDepth 100000 in
theorem lifted (os : Os) (started : os.Started) (H : Type) (enc : TypeId × Value → H) :
    ReturnsInHanded {} Try.checked os 4 .any (Rows.typNeededSpec.pre6 enc Try.prog Try.f4 Rows.typNeededRow.domain false) (Rows.typNeededSpec.post enc Try.prog Try.f4 false true false false) := by
  refine returnsInHanded_of_change (C := Try.checked) own started (by kernel_rfl) Try.func4
    (ChangeSpec.witness6 (enc := enc) (C := Try.checked) false ⟨#[], #[.slice none 0 0, .slice none 0 0], []⟩ 8 (by kernel_rfl) (by kernel_rfl) (by kernel_rfl) (by kernel_rfl)) ?_
  intro W base args ds gs before hval0 hW hcnd _
  have hval : ∀ (j : Nat) t v, Try.f4.params[j]? = some t → args[j]? = some v → Value.okWide Try.prog W .any base t v := hval0
  have hW' := hW
  obtain ⟨p, q, hA0, hV, rfl, hfz, hnd⟩ := hW
  have hA : DataW.TrodAll enc Try.prog W 0 (fun _ => true) true Try.f4.params.toList args.toList ds p := hA0
  rw [Try.params4] at hA hval
  obtain ⟨v0, vs0, d0, ds0, p0, q0, hargs, rfl, rfl, h0, r0⟩ := trodAll_cons hA
  obtain ⟨v1, vs1, d1, ds1, p1, q1, rfl, rfl, rfl, h1, r1⟩ := trodAll_cons r0
  obtain ⟨rfl, rfl, rfl⟩ := trodAll_nil r1
  obtain rfl : args = #[v0, v1] := by cases args; simp_all
  obtain ⟨rfl, rfl⟩ := trodVars_none hV
  obtain ⟨a0, len0, cap0, rfl⟩ := okWide_slice Try.underlying22 (hval 0 22 v0 rfl rfl)
  have k0 := h0
  have lt0 : ∀ x ∈ p0, x.block < W.heap.size := by obtain ⟨m, hm⟩ := k0; exact DataW.trod_lt m _ _ _ hm
  have w0 : Came .u8 W.heap.size W a0 len0 ∧ len0 ≤ 9223372036854775807 := by
    obtain ⟨fuel, hf⟩ := h0
    rcases open_ints Try.underlying22 Try.underlying5 (by kernel_rfl) hf with ⟨hcs, _⟩ | ⟨x, l, c, zs, hcs, _, hl, hm, hz, _, hcell, hwz⟩
    · simp [Value.cells] at hcs
      obtain ⟨rfl, rfl, rfl⟩ := hcs
      exact came_of_row (zs := []) (.inl ⟨rfl, rfl, rfl, rfl⟩)
    · simp [Value.cells] at hcs
      obtain ⟨rfl, rfl, rfl⟩ := hcs
      exact came_of_row (.inr ⟨_, rfl, hl, hm, by simpa using hz, hcell, hwz⟩)
  obtain ⟨a1, len1, cap1, rfl⟩ := okWide_slice Try.underlying22 (hval 1 22 v1 rfl rfl)
  have k1 := h1
  have lt1 : ∀ x ∈ p1, x.block < W.heap.size := by obtain ⟨m, hm⟩ := k1; exact DataW.trod_lt m _ _ _ hm
  have w1 : Came .u8 W.heap.size W a1 len1 ∧ len1 ≤ 9223372036854775807 := by
    obtain ⟨fuel, hf⟩ := h1
    rcases open_ints Try.underlying22 Try.underlying5 (by kernel_rfl) hf with ⟨hcs, _⟩ | ⟨x, l, c, zs, hcs, _, hl, hm, hz, _, hcell, hwz⟩
    · simp [Value.cells] at hcs
      obtain ⟨rfl, rfl, rfl⟩ := hcs
      exact came_of_row (zs := []) (.inl ⟨rfl, rfl, rfl, rfl⟩)
    · simp [Value.cells] at hcs
      obtain ⟨rfl, rfl, rfl⟩ := hcs
      exact came_of_row (.inr ⟨_, rfl, hl, hm, by simpa using hz, hcell, hwz⟩)
  clear hA0 hval0
  refine (walk a0 len0 cap0 a1 len1 cap1 W w0.1 w0.2 w1.1 w1.2).mono fun e W' ⟨he, bel⟩ => ?_
  subst he
  exact ⟨_, rfl, _, _, _, [], _, [], hW', trodAll_mk1 (shut_bool Try.underlying4 _), (trodAll_cons_mk (Below.trod laidOut (by kernel_rfl) (of_decide_eq_true (by kernel_rfl)) k0 bel lt0) (trodAll_cons_mk (Below.trod laidOut (by kernel_rfl) (of_decide_eq_true (by kernel_rfl)) k1 bel lt1) trodAll_mk0)), rfl, bel.frame _, fun h => by cases h⟩

theorem over : Rows.typNeededRow.holds Try.pinned (OpenSpec.ofChange Rows.typNeededSpec) :=
  OpenClaim.holds_of_wide 4 Try.f4 rfl rfl rfl rfl rfl rfl rfl ⟨rfl, rfl, rfl, rfl, rfl⟩ rfl rfl rfl rfl rfl (by kernel_rfl) Try.func4 (by kernel_rfl)
    (of_decide_eq_true (by kernel_rfl)) (by unfold Func.isWrapper; first | (rw [if_pos (by decide +kernel)]; kernel_rfl) | (rw [if_neg (by decide +kernel)]; exact ⟨rfl, rfl⟩))
    (fun os started H enc _ => lifted os started H enc)

theorem proved : Rows.TypNeededSaid := over
end Go.Proofs.Ytiodocdbhjdfaaa.typNeeded
namespace Go.Proofs.Ytiodocdbhjdfaaa
theorem typNeeded_holds : Rows.TypNeededSaid := typNeeded.proved
#print axioms typNeeded_holds
end Go.Proofs.Ytiodocdbhjdfaaa
