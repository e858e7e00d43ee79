/- The document's memory: what Clear, Copy, Same and Words answer and do, for every argument. -/
import Derived.Test.YtpeidlkoefmbfaaMemS
namespace Go.Proofs.Ytpeidlkoefmbfaa
open Go.RowKit
set_option linter.unusedVariables false

theorem rclear_bad (base p N : Nat) (f : Int) (M : Nat → Nat → Int) (w : World) (hok : okF N f = false) (hN1 : 1 ≤ N) (hN : N ≤ 64) (hR : RefIs w base p N M) :
    Calls Try.prog 14 #[.pointer (some ⟨p, 0, none⟩), .int .i64 f] w fun e w' => e = .returned (.int .i64 1) ∧ w' = w := by
  obtain ⟨g, cap, r, c, hp, _, _, _, _⟩ := hR.parts hN1
  clear hR
  go_enter Try.func14, Try.ntmps14
  go_wp2_with (go_at_call 26; refine (is_any p g cap N f _ hN hp).mono ?_; rintro e w' ⟨rfl, rfl⟩)
  go_ret
  exact ⟨rfl, rfl⟩
theorem rclear_any (base p N : Nat) (f : Int) (M : Nat → Nat → Int) (w : World) (hN1 : 1 ≤ N) (hN : N ≤ 64) (hR : RefIs w base p N M) :
    Calls Try.prog 14 #[.pointer (some ⟨p, 0, none⟩), .int .i64 f] w fun e w' => e = .returned (.int .i64 (errF N f)) ∧ RefIs w' base p N (clM N M f) ∧ Below base w w' := by
  cases h : okF N f
  · simp only [clM, errF, h, Bool.false_eq_true, if_false]
    exact (rclear_bad base p N f M w h hN1 hN hR).mono fun _ _ ⟨h1, h2⟩ => ⟨h1, by rw [h2]; exact hR, by rw [h2]; exact Below.refl _ _⟩
  · obtain ⟨c, rfl, hc⟩ := okF_split h
    simp only [clM, errF, h, if_true, Int.toNat_natCast]
    exact rclear_ok base p N c M w hc hN hR

/-! ### Same -/
theorem rsame_ok (base p N f g : Nat) (M : Nat → Nat → Int) (w : World) (hf : f < N) (hg : g < N) (hN : N ≤ 64) (hR : RefIs w base p N M) :
    Calls Try.prog 18 #[.pointer (some ⟨p, 0, none⟩), .int .i64 f, .int .i64 g] w fun e w' => e = .returned (.bool (wdM M f == wdM M g)) ∧ ∃ n, w' = w.drewN n := by
  obtain ⟨l, cap, r, c, hp, hg0, hw0, _, _⟩ := hR.parts (by omega)
  have hcf := hg0 f hf
  have hcg := hg0 g hg
  have HF : Hid (∀ a, a < 36 → w.cell? ⟨r f, a, none⟩ = some (.int .u64 (M f a))) := fun a ha => (hw0 f a hf ha).1
  have HG : Hid (∀ a, a < 36 → w.cell? ⟨r g, a, none⟩ = some (.int .u64 (M g a))) := fun a ha => (hw0 g a hg ha).1
  obtain ⟨x, hx⟩ : ∃ x, x = r f := ⟨_, rfl⟩
  obtain ⟨y, hy⟩ : ∃ y, y = r g := ⟨_, rfl⟩
  obtain ⟨cx, hcx⟩ : ∃ x, x = c f := ⟨_, rfl⟩
  obtain ⟨cy, hcy⟩ : ∃ y, y = c g := ⟨_, rfl⟩
  rw [← hx] at hcf HF
  rw [← hy] at hcg HG
  rw [← hcx] at hcf
  rw [← hcy] at hcg
  have hokf := okF_nat hf
  have hokg := okF_nat hg
  have hfi : (f : Int) < (N : Int) := by omega
  have hgi : (g : Int) < (N : Int) := by omega
  obtain ⟨q, hq⟩ : ∃ q, q = (wdM M f == wdM M g) := ⟨_, rfl⟩
  have HQ : Hid (q = (wdM M f == wdM M g)) := hq
  rw [← hq]
  clear hg0 hw0 hR hx hy hcx hcy hq
  have t1 : True := trivial
  go_enter Try.func18, Try.ntmps18
  go_wp2_with (first
    | (go_at_call 26; clear t1; refine (is_any p l cap N f _ hN hp).mono ?_; rintro e w' ⟨rfl, hw'⟩; subst hw')
    | (go_at_call 26; refine (is_any p l cap N g _ hN hp).mono ?_; rintro e w' ⟨rfl, hw'⟩; subst hw'))
  go_loopw [7] (fun i wr => ∃ k m : Nat, k ≤ 36 ∧ i = .int .i64 k ∧ wr = w'.drewN m ∧ ∀ j, j < k → M f j = M g j) (fun i _ => 36 - (intOf i).toNat)
  case atStart => exact ⟨0, 0, by omega, rfl, rfl, fun j hj => absurd hj (by omega)⟩
  case round =>
    obtain ⟨k, m, hk, rfl, hwr0, hall⟩ := hrel
    have hwr : Hid (wr = w'.drewN m) := hwr0
    have HA : Hid (∀ j, j < k → M f j = M g j) := hall
    clear hall
    by_cases hlt : k < 36
    · have h1 : wr.cell? ⟨x, k, none⟩ = some (.int .u64 (M f k)) := by rw [hwr0]; exact HF.out k hlt
      have h2 : wr.cell? ⟨y, k, none⟩ = some (.int .u64 (M g k)) := by rw [hwr0]; exact HG.out k hlt
      have h3 : wr.cell? ⟨p, 0, none⟩ = some (.slice (some ⟨l, 0, none⟩) N cap) := by rw [hwr0]; exact hp
      have h4 : wr.cell? ⟨l, f, none⟩ = some (.slice (some ⟨x, 0, none⟩) 36 cx) := by rw [hwr0]; exact hcf
      have h5 : wr.cell? ⟨l, g, none⟩ = some (.slice (some ⟨y, 0, none⟩) 36 cy) := by rw [hwr0]; exact hcg
      have hki : (k : Int) < 36 := by omega
      obtain ⟨u, hu⟩ : ∃ u, u = M f k := ⟨_, rfl⟩
      obtain ⟨v, hv⟩ : ∃ v, v = M g k := ⟨_, rfl⟩
      have HU : Hid (u = M f k) := hu
      have HV : Hid (v = M g k) := hv
      rw [← hu] at h1
      rw [← hv] at h2
      clear hwr0 hp hcf hcg hu hv
      by_cases huv : u = v
      · subst huv
        go_wp2
        go_quiet (fail)
        go_wp2
        go_roundw
        case rel => exact ⟨k + 1, _, by omega, by go_num, by rw [hwr.out]; exact World.drewN_drewN _ _ _, fun j hj => by
          rcases Nat.lt_or_ge j k with h | h
          · exact HA.out j h
          · obtain rfl : j = k := by omega
            exact HU.out.symm.trans HV.out⟩
        case measure => simp [intOf]; omega
      · have hne : (u != v) = true := by simp [huv]
        have HN : Hid (q = false) := by
          rw [HQ.out]
          show _ = _
          rw [beq_eq_false_iff_ne]
          intro e
          have := congrArg (fun l => l[k]?) e
          simp only [wdM_get hlt, Option.some.injEq] at this
          exact huv (HU.out.trans (this.trans HV.out.symm))
        clear huv
        go_wp2
        go_quiet (fail)
        go_wp2
        go_ret
        exact ⟨by rw [HN.out]; rfl, _, by rw [hwr.out]; exact World.drewN_drewN _ _ _⟩
    · obtain rfl : k = 36 := by omega
      have HN : Hid (q = true) := by
        rw [HQ.out]
        show _ = _
        rw [beq_iff_eq, wdM, wdM]
        exact List.map_congr_left (fun a ha => HA.out a (by simpa using ha))
      clear hwr0
      go_wp2
      go_ret
      exact ⟨by rw [HN.out]; rfl, m, hwr.out⟩
theorem rsame_badF (base p N : Nat) (f g : Int) (M : Nat → Nat → Int) (w : World) (hok : okF N f = false) (hN1 : 1 ≤ N) (hN : N ≤ 64) (hR : RefIs w base p N M) :
    Calls Try.prog 18 #[.pointer (some ⟨p, 0, none⟩), .int .i64 f, .int .i64 g] w fun e w' => e = .returned (.bool false) ∧ w' = w := by
  obtain ⟨l, cap, r, c, hp, _, _, _, _⟩ := hR.parts hN1
  clear hR
  go_enter Try.func18, Try.ntmps18
  go_wp2_with (go_at_call 26; refine (is_any p l cap N f _ hN hp).mono ?_; rintro e w' ⟨rfl, rfl⟩)
  go_ret
  exact ⟨rfl, rfl⟩
theorem rsame_badG (base p N : Nat) (f g : Int) (M : Nat → Nat → Int) (w : World) (hok : okF N f = true) (hokg : okF N g = false) (hN1 : 1 ≤ N) (hN : N ≤ 64) (hR : RefIs w base p N M) :
    Calls Try.prog 18 #[.pointer (some ⟨p, 0, none⟩), .int .i64 f, .int .i64 g] w fun e w' => e = .returned (.bool false) ∧ w' = w := by
  obtain ⟨l, cap, r, c, hp, _, _, _, _⟩ := hR.parts hN1
  clear hR
  have t1 : True := trivial
  go_enter Try.func18, Try.ntmps18
  go_wp2_with (first
    | (go_at_call 26; clear t1; refine (is_any p l cap N f _ hN hp).mono ?_; rintro e w' ⟨rfl, rfl⟩)
    | (go_at_call 26; refine (is_any p l cap N g _ hN hp).mono ?_; rintro e w' ⟨rfl, rfl⟩))
  go_ret
  exact ⟨rfl, rfl⟩
theorem rsame_any (base p N : Nat) (f g : Int) (M : Nat → Nat → Int) (w : World) (hN1 : 1 ≤ N) (hN : N ≤ 64) (hR : RefIs w base p N M) :
    Calls Try.prog 18 #[.pointer (some ⟨p, 0, none⟩), .int .i64 f, .int .i64 g] w fun e w' => e = .returned (.bool (sameM N M f g)) ∧ ∃ n, w' = w.drewN n := by
  cases h : okF N f
  · simp only [sameM, h, Bool.false_and]
    exact (rsame_badF base p N f g M w h hN1 hN hR).mono fun _ _ ⟨h1, h2⟩ => ⟨h1, 0, h2⟩
  · cases k : okF N g
    · simp only [sameM, h, k, Bool.and_false, Bool.false_and]
      exact (rsame_badG base p N f g M w h k hN1 hN hR).mono fun _ _ ⟨h1, h2⟩ => ⟨h1, 0, h2⟩
    · obtain ⟨c, rfl, hc⟩ := okF_split h
      obtain ⟨d, rfl, hd⟩ := okF_split k
      simp only [sameM, h, k, Bool.true_and, Int.toNat_natCast]
      exact rsame_ok base p N c d M w hc hd hN hR

end Go.Proofs.Ytpeidlkoefmbfaa
