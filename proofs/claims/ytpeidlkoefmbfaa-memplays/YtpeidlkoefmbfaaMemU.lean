/- The document's memory: what Copy and Words answer and do, for every argument. -/
import Derived.Test.YtpeidlkoefmbfaaMemT
import Derived.BigRegion
namespace Go.Proofs.Ytpeidlkoefmbfaa
open Go.RowKit
set_option linter.unusedVariables false

theorem copy_step {f t k h b : Nat} {M : Nat → Nat → Int} : (if h = t ∧ b = k then M f k else if h = t ∧ b < k then M f b else M h b) = if h = t ∧ b < k + 1 then M f b else M h b := by
  by_cases e1 : h = t
  · by_cases e2 : b = k
    · subst e2; simp [e1]
    · by_cases e3 : b < k
      · simp [e1, e2, e3, Nat.lt_succ_of_lt e3]
      · have : ¬ b < k + 1 := by omega
        simp [e1, e2, e3, this]
  · simp [e1]
set_option maxHeartbeats 2000000 in
theorem rcopy_ok (base p N f t : Nat) (M : Nat → Nat → Int) (w : World) (hf : f < N) (ht : t < N) (hN : N ≤ 64) (hR : RefIs w base p N M) :
    Calls Try.prog 16 #[.pointer (some ⟨p, 0, none⟩), .int .i64 f, .int .i64 t] w fun e w' => e = .returned (.int .i64 0) ∧ RefIs w' base p N (fun h b => if h = t then M f b else M h b) ∧ Below base w w' := by
  obtain ⟨l, cap, r, c, hp, _, _, _, _⟩ := hR.parts (by omega)
  have hokf := okF_nat hf
  have hokt := okF_nat ht
  have hfi : (f : Int) < (N : Int) := by omega
  have hti : (t : Int) < (N : Int) := by omega
  have HR : Hid (RefIs w base p N M) := hR
  clear hR
  have t1 : True := trivial
  go_enter Try.func16, Try.ntmps16
  go_wp2_with (first
    | (go_at_call 26; clear t1; refine (is_any p l cap N f _ hN hp).mono ?_; rintro e w' ⟨rfl, hw'⟩; subst hw')
    | (go_at_call 26; refine (is_any p l cap N t _ hN hp).mono ?_; rintro e w' ⟨rfl, hw'⟩; subst hw'))
  go_loopw [7] (fun i wr => ∃ k : Nat, k ≤ 36 ∧ i = .int .i64 k ∧ RefIs wr base p N (fun h b => if h = t ∧ b < k then M f b else M h b) ∧ Below base w' wr) (fun i _ => 36 - (intOf i).toNat)
  case atStart => exact ⟨0, by omega, rfl, HR.out.congr (by intros; simp), Below.refl _ _⟩
  case round =>
    obtain ⟨k, hk, rfl, hR, hB⟩ := hrel
    clear hp HR
    have HB : Hid (Below base w' wr) := hB
    by_cases hlt : k < 36
    · obtain ⟨g1, cap1, r1, c1, hp, hg0, hw0, _, _⟩ := hR.parts (by omega)
      have hgf := hg0 f hf
      have hgt := hg0 t ht
      obtain ⟨hwf, _⟩ := hw0 f k hf hlt
      obtain ⟨hw, hz⟩ := hw0 t k ht hlt
      have hval : (if f = t ∧ k < k then M f k else M f k) = M f k := by simp
      rw [hval] at hwf
      have S := hR.store ht hlt hp hgt (M f k)
      have HS : Hid (RefIs (wr.setCell ⟨r1 t, k, none⟩ (.int .u64 (M f k))) base p N (fun h b => if h = t ∧ b < k + 1 then M f b else M h b) ∧ Below base w' (wr.setCell ⟨r1 t, k, none⟩ (.int .u64 (M f k)))) :=
        ⟨S.1.congr (fun h b _ _ => copy_step), hB.setCell S.2 _⟩
      obtain ⟨x, hx⟩ : ∃ x, x = r1 f := ⟨_, rfl⟩
      obtain ⟨y, hy⟩ : ∃ y, y = r1 t := ⟨_, rfl⟩
      obtain ⟨cx, hcx⟩ : ∃ y, y = c1 f := ⟨_, rfl⟩
      obtain ⟨cy, hcy⟩ : ∃ y, y = c1 t := ⟨_, rfl⟩
      rw [← hx] at hgf hwf
      rw [← hy] at hgt hw hz HS
      rw [← hcx] at hgf
      rw [← hcy] at hgt
      obtain ⟨m, hm⟩ : ∃ m, m = (if t = t ∧ k < k then M f k else M t k) := ⟨_, rfl⟩
      rw [← hm] at hw
      obtain ⟨u, hu⟩ : ∃ u, u = M f k := ⟨_, rfl⟩
      rw [← hu] at hwf HS
      have hki : (k : Int) < 36 := by omega
      clear hg0 hw0 hR hm S hx hy hcx hcy hB hval hu
      go_wp2
      go_region
      go_wp2
      go_roundw
      case rel => exact ⟨k + 1, by omega, by go_num, HS.out.1.on (fun _ _ _ => rfl), HS.out.2.drew⟩
      case measure => simp [intOf]; omega
    · obtain rfl : k = 36 := by omega
      have HE : Hid (RefIs wr base p N (fun h b => if h = t then M f b else M h b)) := hR.congr (fun h b _ hb => by by_cases e1 : h = t <;> simp [e1] <;> omega)
      clear hR hB
      go_wp2
      go_ret
      exact ⟨rfl, HE.out, HB.out⟩
theorem rcopy_badF (base p N : Nat) (f g : Int) (M : Nat → Nat → Int) (w : World) (hok : okF N f = false) (hN1 : 1 ≤ N) (hN : N ≤ 64) (hR : RefIs w base p N M) :
    Calls Try.prog 16 #[.pointer (some ⟨p, 0, none⟩), .int .i64 f, .int .i64 g] w fun e w' => e = .returned (.int .i64 1) ∧ w' = w := by
  obtain ⟨l, cap, r, c, hp, _, _, _, _⟩ := hR.parts hN1
  clear hR
  go_enter Try.func16, Try.ntmps16
  go_wp2_with (go_at_call 26; refine (is_any p l cap N f _ hN hp).mono ?_; rintro e w' ⟨rfl, rfl⟩)
  go_ret
  exact ⟨rfl, rfl⟩
theorem rcopy_badG (base p N : Nat) (f g : Int) (M : Nat → Nat → Int) (w : World) (hok : okF N f = true) (hokg : okF N g = false) (hN1 : 1 ≤ N) (hN : N ≤ 64) (hR : RefIs w base p N M) :
    Calls Try.prog 16 #[.pointer (some ⟨p, 0, none⟩), .int .i64 f, .int .i64 g] w fun e w' => e = .returned (.int .i64 1) ∧ w' = w := by
  obtain ⟨l, cap, r, c, hp, _, _, _, _⟩ := hR.parts hN1
  clear hR
  have t1 : True := trivial
  go_enter Try.func16, Try.ntmps16
  go_wp2_with (first
    | (go_at_call 26; clear t1; refine (is_any p l cap N f _ hN hp).mono ?_; rintro e w' ⟨rfl, rfl⟩)
    | (go_at_call 26; refine (is_any p l cap N g _ hN hp).mono ?_; rintro e w' ⟨rfl, rfl⟩))
  go_ret
  exact ⟨rfl, rfl⟩
theorem rcopy_any (base p N : Nat) (f g : Int) (M : Nat → Nat → Int) (w : World) (hN1 : 1 ≤ N) (hN : N ≤ 64) (hR : RefIs w base p N M) :
    Calls Try.prog 16 #[.pointer (some ⟨p, 0, none⟩), .int .i64 f, .int .i64 g] w fun e w' => e = .returned (.int .i64 (errC N f g)) ∧ RefIs w' base p N (cpM N M f g) ∧ Below base w w' := by
  cases h : okF N f
  · simp only [cpM, errC, h, Bool.false_and, Bool.false_eq_true, if_false]
    exact (rcopy_badF base p N f g M w h hN1 hN hR).mono fun _ _ ⟨h1, h2⟩ => ⟨h1, by rw [h2]; exact hR, by rw [h2]; exact Below.refl _ _⟩
  · cases k : okF N g
    · simp only [cpM, errC, h, k, Bool.and_false, Bool.false_eq_true, if_false]
      exact (rcopy_badG base p N f g M w h k hN1 hN hR).mono fun _ _ ⟨h1, h2⟩ => ⟨h1, by rw [h2]; exact hR, by rw [h2]; exact Below.refl _ _⟩
    · obtain ⟨c, rfl, hc⟩ := okF_split h
      obtain ⟨d, rfl, hd⟩ := okF_split k
      simp only [cpM, errC, h, k, Bool.and_self, if_true, Int.toNat_natCast]
      exact rcopy_ok base p N c d M w hc hd hN hR

/-! ### Words -/
theorem rwords_ok (base p N f : Nat) (M : Nat → Nat → Int) (w : World) (hf : f < N) (hN : N ≤ 64) (hR : RefIs w base p N M) :
    Calls Try.prog 22 #[.pointer (some ⟨p, 0, none⟩), .int .i64 f] w fun e w' => ∃ x c, e = .returned (.tuple #[.slice (some ⟨x, 0, none⟩) 36 c, .int .i64 0]) ∧ (∀ j, j < 36 → w'.cell? ⟨x, 0 + j, none⟩ = some (.int .u64 (M f j))) ∧ Below w.heap.size w w' := by
  obtain ⟨l, cap, r, c, hp, hg0, hw0, _, _⟩ := hR.parts (by omega)
  have hcf := hg0 f hf
  have hok := okF_nat hf
  have hfi : (f : Int) < (N : Int) := by omega
  obtain ⟨it, hi, hz0, hz1, hz2⟩ := info_parts infoWord
  have hbl := World.block_lt_of_cell? w _ (hw0 f 0 hf (by omega)).1
  have HR : Hid (∀ j v, (frameM M f)[j]? = some v → (w.alloc (.cells #[] 34)).cell? ((⟨r f, 0, none⟩ : Addr).add j) = some v) := by
    intro j v hv
    have hj : j < 36 := by have := (List.getElem?_eq_some_iff.1 hv).1; rwa [frameM_len] at this
    rw [Addr.add_mid, World.cell?_alloc_lt _ _ _ (show (⟨r f, 0 + j, none⟩ : Addr).block < w.heap.size from hbl), Nat.zero_add, (hw0 f j hf hj).1, ← hv, frameM_get hj]
  have HO : Hid ((w.alloc (.cells #[] 34)).ownsRow w.heap.size 34 1 (.slice (some ⟨w.heap.size, 0, none⟩) 0 0) 0 []) :=
    ⟨rfl, .inr ⟨_, 0, #[], rfl, Nat.le_refl _, heap_alloc_new _ _, Nat.le_refl _, Nat.zero_le _, rfl, rfl⟩⟩
  have hpl := World.block_lt_of_cell? w _ hp
  have hll := World.block_lt_of_cell? w _ hcf
  have hp' : (w.alloc (.cells #[] 34)).cell? ⟨p, 0, none⟩ = some (.slice (some ⟨l, 0, none⟩) N cap) := by rw [World.cell?_alloc_lt _ _ _ hpl]; exact hp
  have hc' : (w.alloc (.cells #[] 34)).cell? ⟨l, f, none⟩ = some (.slice (some ⟨r f, 0, none⟩) 36 (c f)) := by rw [World.cell?_alloc_lt _ _ _ hll]; exact hcf
  have HL : Hid ((frameM M f).length = 36) := frameM_len M f
  have H1 : Hid (∀ v ∈ frameM M f, v.oneCell' = true) := frameM_one M f
  have HG : Hid (∀ j, j < 36 → (frameM M f)[j]? = some (.int .u64 (M f j))) := fun j hj => frameM_get hj
  obtain ⟨x, hx⟩ : ∃ x, x = r f := ⟨_, rfl⟩
  obtain ⟨cx, hcx⟩ : ∃ x, x = c f := ⟨_, rfl⟩
  obtain ⟨C, hC⟩ : ∃ C, C = frameM M f := ⟨_, rfl⟩
  rw [← hx] at hc' HR
  rw [← hcx] at hc'
  rw [← hC] at HR HL H1 HG
  clear hg0 hw0 hR hx hcx hC hcf hbl hpl hll
  go_enter Try.func22, Try.ntmps22
  go_wp2_with (first
    | (go_at_call 26; refine (is_any p l cap N f _ hN hp).mono ?_; rintro e w' ⟨rfl, hw'⟩; subst hw')
    | (at_builtin; refine wpList_append_own _ rfl _ _ 24 rfl w'.heap.size 34 it (.int .u64 0) 1 8 Try.underlying24 hi hz0 hz1 hz2 rfl (by decide) _ _ _ rfl HO.out ⟨x, 0, none⟩ 36 cx C rfl HL.out HR.out H1.out (by unfold maxLen; omega) (by omega) (by simp) ?_; intro v' w1 hown' hgrow _; have HW : Hid (w1.ownsRow w'.heap.size 34 1 v' 36 C) := hown'; have HGR : Hid ((w'.alloc (.cells #[] 34)).grownBy w1 (some w'.heap.size)) := hgrow; clear hown' hgrow))
  rcases HW.out.2 with ⟨_, e⟩ | ⟨x', cap', cur, rfl, _⟩
  · cases e
  · go_ret2
    refine ⟨x', cap', rfl, fun j hj => ?_, ((Below.refl _ _).alloc (Nat.le_refl _) _).grown HGR.out (by simp) (fun k e => by cases e; exact Nat.le_refl _)⟩
    rw [Nat.zero_add, HW.out.cellAt (g := x') j (by omega)]
    exact HG.out j hj
theorem rwords_bad (base p N : Nat) (f : Int) (M : Nat → Nat → Int) (w : World) (hok : okF N f = false) (hN1 : 1 ≤ N) (hN : N ≤ 64) (hR : RefIs w base p N M) :
    Calls Try.prog 22 #[.pointer (some ⟨p, 0, none⟩), .int .i64 f] w fun e w' => e = .returned (.tuple #[.slice none 0 0, .int .i64 1]) ∧ w' = w := by
  obtain ⟨l, cap, r, c, hp, _, _, _, _⟩ := hR.parts hN1
  clear hR
  go_enter Try.func22, Try.ntmps22
  go_wp2_with (go_at_call 26; refine (is_any p l cap N f _ hN hp).mono ?_; rintro e w' ⟨rfl, rfl⟩)
  go_ret2
  exact ⟨rfl, rfl⟩

end Go.Proofs.Ytpeidlkoefmbfaa
