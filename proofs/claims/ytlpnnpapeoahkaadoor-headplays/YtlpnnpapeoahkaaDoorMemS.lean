/- The document's memory: what Load, Store, Clear and Same answer and do, for every argument. -/
import Derived.Test.YtlpnnpapeoahkaaDoorMemR
namespace Go.Proofs.YtlpnnpapeoahkaaDoor
open Go.RowKit
set_option linter.unusedVariables false

/-! ### Store -/
theorem rstore_ok (base p N f a : Nat) (v : Int) (M : Nat → Nat → Int) (w : World) (hf : f < N) (ha : a < 36) (hN : N ≤ 64) (hR : RefIs w base p N M) :
    Calls Tryd.prog 23 #[.pointer (some ⟨p, 0, none⟩), .int .i64 f, .int .i64 a, .int .u64 v] w fun e w' => e = .returned (.int .i64 0) ∧ RefIs w' base p N (fun h b => if h = f ∧ b = a then v else M h b) ∧ Below base w w' := by
  obtain ⟨g, cap, r, c, hp, hg0, hw0, _, _⟩ := hR.parts (by omega)
  have hg := hg0 f hf
  obtain ⟨hw, hz⟩ := hw0 f a hf ha
  have hok := okF_nat hf
  have hfi : (f : Int) < (N : Int) := by omega
  have hai : (a : Int) < 36 := by omega
  have S := hR.store hf ha hp hg v
  have HS : Hid (RefIs (w.setCell ⟨r f, a, none⟩ (.int .u64 v)) base p N (fun h b => if h = f ∧ b = a then v else M h b) ∧ Below base w (w.setCell ⟨r f, a, none⟩ (.int .u64 v))) := ⟨S.1, (Below.refl _ _).setCell S.2 _⟩
  obtain ⟨x, hx⟩ : ∃ x, x = r f := ⟨_, rfl⟩
  obtain ⟨y, hy⟩ : ∃ y, y = c f := ⟨_, rfl⟩
  rw [← hx] at hg hw hz HS
  rw [← hy] at hg
  obtain ⟨m, hm⟩ : ∃ m, m = M f a := ⟨_, rfl⟩
  rw [← hm] at hw
  clear hg0 hw0 hR hm S hx hy
  go_enter Tryd.func23, Tryd.ntmps23
  go_wp2_with (go_at_call 28; refine (is_any p g cap N f _ hN hp).mono ?_; rintro e w' ⟨rfl, rfl⟩)
  go_ret
  exact ⟨rfl, HS.out⟩
theorem rstore_badA (base p N f : Nat) (a v : Int) (M : Nat → Nat → Int) (w : World) (hf : f < N) (ha : ¬ (0 ≤ a ∧ a < 36)) (hN : N ≤ 64) (hR : RefIs w base p N M) :
    Calls Tryd.prog 23 #[.pointer (some ⟨p, 0, none⟩), .int .i64 f, .int .i64 a, .int .u64 v] w fun e w' => e = .returned (.int .i64 1) ∧ w' = w := by
  obtain ⟨g, cap, r, c, hp, _, _, _, _⟩ := hR.parts (by omega)
  have hok := okF_nat hf
  clear hR
  by_cases hn : a < 0
  · clear ha
    go_enter Tryd.func23, Tryd.ntmps23
    go_wp2_with (go_at_call 28; refine (is_any p g cap N f _ hN hp).mono ?_; rintro e w' ⟨rfl, rfl⟩)
    go_ret
    exact ⟨rfl, rfl⟩
  · have hge : 36 ≤ a := by omega
    clear ha
    go_enter Tryd.func23, Tryd.ntmps23
    go_wp2_with (go_at_call 28; refine (is_any p g cap N f _ hN hp).mono ?_; rintro e w' ⟨rfl, rfl⟩)
    go_ret
    exact ⟨rfl, rfl⟩
theorem rstore_badF (base p N : Nat) (f a v : Int) (M : Nat → Nat → Int) (w : World) (hok : okF N f = false) (hN1 : 1 ≤ N) (hN : N ≤ 64) (hR : RefIs w base p N M) :
    Calls Tryd.prog 23 #[.pointer (some ⟨p, 0, none⟩), .int .i64 f, .int .i64 a, .int .u64 v] w fun e w' => e = .returned (.int .i64 1) ∧ w' = w := by
  obtain ⟨g, cap, r, c, hp, _, _, _, _⟩ := hR.parts hN1
  clear hR
  go_enter Tryd.func23, Tryd.ntmps23
  go_wp2_with (go_at_call 28; refine (is_any p g cap N f _ hN hp).mono ?_; rintro e w' ⟨rfl, rfl⟩)
  go_ret
  exact ⟨rfl, rfl⟩
theorem rstore_any (base p N : Nat) (f a v : Int) (M : Nat → Nat → Int) (w : World) (hN1 : 1 ≤ N) (hN : N ≤ 64) (hR : RefIs w base p N M) :
    Calls Tryd.prog 23 #[.pointer (some ⟨p, 0, none⟩), .int .i64 f, .int .i64 a, .int .u64 v] w fun e w' => e = .returned (.int .i64 (errW N f a)) ∧ RefIs w' base p N (stM N M f a v) ∧ Below base w w' := by
  cases h : okF N f
  · simp only [stM, errW, okW, h, Bool.false_and, Bool.false_eq_true, if_false]
    exact (rstore_badF base p N f a v M w h hN1 hN hR).mono fun _ _ ⟨h1, h2⟩ => ⟨h1, by rw [h2]; exact hR, by rw [h2]; exact Below.refl _ _⟩
  · obtain ⟨c, rfl, hc⟩ := okF_split h
    by_cases ha : 0 ≤ a ∧ a < 36
    · obtain ⟨d, rfl⟩ := Int.eq_ofNat_of_zero_le ha.1
      have : okW N (c : Int) (d : Int) = true := by simp [okW, h]; omega
      simp only [stM, errW, this, if_true, Int.toNat_natCast]
      exact rstore_ok base p N c d v M w hc (by omega) hN hR
    · have : okW N (c : Int) a = false := by simp [okW, h]; omega
      simp only [stM, errW, this, Bool.false_eq_true, if_false]
      exact (rstore_badA base p N c a v M w hc ha hN hR).mono fun _ _ ⟨h1, h2⟩ => ⟨h1, by rw [h2]; exact hR, by rw [h2]; exact Below.refl _ _⟩

/-! ### Clear -/
theorem rclear_ok (base p N f : Nat) (M : Nat → Nat → Int) (w : World) (hf : f < N) (hN : N ≤ 64) (hR : RefIs w base p N M) :
    Calls Tryd.prog 31 #[.pointer (some ⟨p, 0, none⟩), .int .i64 f] w fun e w' => e = .returned (.int .i64 0) ∧ RefIs w' base p N (fun h b => if h = f then 0 else M h b) ∧ Below base w w' := by
  obtain ⟨g, cap, r, c, hp, _, _, _, _⟩ := hR.parts (by omega)
  have hok := okF_nat hf
  have hfi : (f : Int) < (N : Int) := by omega
  have HR : Hid (RefIs w base p N M) := hR
  clear hR
  go_enter Tryd.func31, Tryd.ntmps31
  go_wp2_with (go_at_call 28; refine (is_any p g cap N f _ hN hp).mono ?_; rintro e w' ⟨rfl, hw'⟩; subst hw')
  go_loopw [5] (fun i wr => ∃ k : Nat, k ≤ 36 ∧ i = .int .i64 k ∧ RefIs wr base p N (fun h b => if h = f ∧ b < k then 0 else M h b) ∧ Below base w' wr) (fun i _ => 36 - (intOf i).toNat)
  case atStart => exact ⟨0, by omega, rfl, HR.out.congr (by intros; simp), Below.refl _ _⟩
  case round =>
    obtain ⟨k, hk, rfl, hR, hB⟩ := hrel
    clear hp HR
    have HB : Hid (Below base w' wr) := hB
    by_cases hlt : k < 36
    · obtain ⟨g1, cap1, r1, c1, hp, hg0, hw0, _, _⟩ := hR.parts (by omega)
      have hg := hg0 f hf
      obtain ⟨hw, hz⟩ := hw0 f k hf hlt
      have S := hR.store hf hlt hp hg 0
      have HS : Hid (RefIs (wr.setCell ⟨r1 f, k, none⟩ (.int .u64 0)) base p N (fun h b => if h = f ∧ b < k + 1 then 0 else M h b) ∧ Below base w' (wr.setCell ⟨r1 f, k, none⟩ (.int .u64 0))) :=
        ⟨S.1.congr (fun h b _ _ => by by_cases e1 : h = f <;> by_cases e2 : b = k <;> by_cases e3 : b < k <;> simp [e1, e2, e3] <;> omega), hB.setCell S.2 _⟩
      obtain ⟨x, hx⟩ : ∃ x, x = r1 f := ⟨_, rfl⟩
      obtain ⟨y, hy⟩ : ∃ y, y = c1 f := ⟨_, rfl⟩
      rw [← hx] at hg hw hz HS
      rw [← hy] at hg
      obtain ⟨m, hm⟩ : ∃ m, m = (if f = f ∧ k < k then 0 else M f k) := ⟨_, rfl⟩
      rw [← hm] at hw
      have hki : (k : Int) < 36 := by omega
      clear hg0 hw0 hR hm S hx hy hB
      go_wp2
      go_roundw
      case rel => exact ⟨k + 1, by omega, by go_num, HS.out.1, HS.out.2⟩
      case measure => simp [intOf]; omega
    · obtain rfl : k = 36 := by omega
      have HE : Hid (RefIs wr base p N (fun h b => if h = f then 0 else M h b)) := hR.congr (fun h b _ hb => by by_cases e1 : h = f <;> simp [e1] <;> omega)
      clear hR hB
      go_wp2
      go_ret
      exact ⟨rfl, HE.out, HB.out⟩

end Go.Proofs.YtlpnnpapeoahkaaDoor
