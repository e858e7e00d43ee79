/- What the document's Get of layer 22 answers, over its own memory. -/
import Derived.Test.YtcoggdnpjpiacaaGreatDoorRcvR
import Derived.BigQuiet
namespace Go.Proofs.YtcoggdnpjpiacaaGreatDoor.Prcv
open Go.Proofs.YtcoggdnpjpiacaaGreatDoor.Pbase Go.Proofs.YtcoggdnpjpiacaaGreatDoor.Pfield Go.Proofs.YtcoggdnpjpiacaaGreatDoor.Play Go.Proofs.YtcoggdnpjpiacaaGreatDoor.Pmem Go.Proofs.YtcoggdnpjpiacaaGreatDoor.Pring
open Go.RowKit M
set_option linter.unusedVariables false

/-- The document's memory, the result of Get, and what was laid since. -/
structure Dg (w W : World) (base q N : Nat) (M : Nat → Nat → Int) : Prop where
  res : RowW W w.heap.size rv0
  rx : Rx W base q N M
  below : Below w.heap.size w W
theorem dg_new {w : World} {base q N : Nat} {M : Nat → Nat → Int} (h : Rx w base q N M) : Dg w (w.alloc (.cells #[.int .i64 0, .int .i64 0, .int .i64 0, .bool false, .int .i64 0] 33)) base q N M :=
  ⟨rowW_new w rv0, h.grown (bal (Below.refl _ _) _), bal (Below.refl _ _) _⟩
theorem Dg.on {w W W' : World} {base q N : Nat} {M : Nat → Nat → Int} (h : Dg w W base q N M) (hB : Below W.heap.size W W') : Dg w W' base q N M :=
  ⟨h.res.on hB, h.rx.grown hB, h.below.trans (hB.mono h.below.size)⟩
theorem five_below {w W : World} (h : Below w.heap.size w W) (a b c d e : Value) : Below w.heap.size w (((((W.setCell ⟨w.heap.size, 0, none⟩ a).setCell ⟨w.heap.size, 1, none⟩ b).setCell ⟨w.heap.size, 2, none⟩ c).setCell ⟨w.heap.size, 3, none⟩ d).setCell ⟨w.heap.size, 4, none⟩ e) := bst (bst (bst (bst (bst h (Nat.le_refl _) _ _) (Nat.le_refl _) _ _) (Nat.le_refl _) _ _) (Nat.le_refl _) _ _) (Nat.le_refl _) _ _
theorem vld_in {N : Nat} {M : Nat → Nat → Int} {f : Int} (hf : okF N f = true) {k : Nat} (hk : k < 8) : ldM N M f (4 + (k : Nat)) = M f.toNat (4 + k) := by
  have h : okW N f (4 + (k : Nat)) = true := by unfold okW; rw [hf]; simp; omega
  unfold ldM
  rw [if_pos h]
  congr 1
theorem vrd_at {N : Nat} {M : Nat → Nat → Int} {f : Int} (hf : okF N f = true) {j : Nat} (hj : j < 8) : (Play.rdL N M f 8)[j]?.getD 0 = M f.toNat (4 + j) := by
  rw [rdL_at N M f hj]
  exact vld_in hf hj
theorem vrd_no {N : Nat} {M : Nat → Nat → Int} {f : Int} (hf : okF N f = true) (h : Play.rdB N M f 8 = false) : rvB M f = false := by
  refine Bool.eq_false_iff.2 fun hc => ?_
  obtain ⟨⟨h7, h9, hA, hB⟩, hb⟩ := (rvB_iff M f).1 hc
  unfold Play.rdB at h
  rw [decide_eq_false_iff_not] at h
  apply h
  intro i hi
  rw [vld_in (M := M) hf hi]
  unfold Vo rvOf at hb
  dsimp only at hb
  rcases (show i = 0 ∨ i = 1 ∨ i = 2 ∨ i = 3 ∨ i = 4 ∨ i = 5 ∨ i = 6 ∨ i = 7 by omega) with rfl | rfl | rfl | rfl | rfl | rfl | rfl | rfl
  · show M f.toNat 4 ≤ _; omega
  · show M f.toNat 5 ≤ _; omega
  · show M f.toNat 6 ≤ _; omega
  · show M f.toNat 7 ≤ _; omega
  · show M f.toNat 8 ≤ _; omega
  · show M f.toNat 9 ≤ _; omega
  · show M f.toNat 10 ≤ _; omega
  · show M f.toNat 11 ≤ _; omega
/-- The eight numbers read, in a block. -/
structure Eig (w : World) (g : Nat) (a0 a1 a2 a3 a4 a5 a6 a7 : Int) : Prop where
  lt : g < w.heap.size
  c0 : w.cell? ⟨g, 0, none⟩ = some (.int .i64 a0)
  c1 : w.cell? ⟨g, 1, none⟩ = some (.int .i64 a1)
  c2 : w.cell? ⟨g, 2, none⟩ = some (.int .i64 a2)
  c3 : w.cell? ⟨g, 3, none⟩ = some (.int .i64 a3)
  c4 : w.cell? ⟨g, 4, none⟩ = some (.int .i64 a4)
  c5 : w.cell? ⟨g, 5, none⟩ = some (.int .i64 a5)
  c6 : w.cell? ⟨g, 6, none⟩ = some (.int .i64 a6)
  c7 : w.cell? ⟨g, 7, none⟩ = some (.int .i64 a7)
set_option maxRecDepth 100000 in
set_option maxHeartbeats 1000000 in
theorem vget_type (base q N : Nat) (f : Int) (M : Nat → Nat → Int) (w : World) (h : Rx w base q N M) (hk : Phead.isE N M f 6 ≠ 0) :
    Calls Tryz.prog 7 #[.pointer (some ⟨q, 0, none⟩), .int .i64 f] w fun e w' => e = .returned (.tuple #[.agg #[.int .i64 0, .int .i64 0, .int .i64 0, .bool false, .int .i64 0], .int .i64 4]) ∧ Below w.heap.size w w' := by
  have HIs : Hid (∀ wc, Dg w wc base q N M → Calls Tryz.prog 31 #[.pointer (some ⟨q, 0, none⟩), .int .i64 f, .int .i64 6] wc fun e w' => e = .returned (.int .i64 (Phead.isE N M f 6)) ∧ Below wc.heap.size wc w') := fun wc h => Phead.hris_any base q N f 6 M wc h.rx.n1 h.rx.n64 h.rx.ref h.rx.fit
  have H0 := rhide (dg_new h)
  clear h
  generalize Phead.isE N M f 6 = E at HIs hk
  have hE : (E != 0) = true := by simp [hk]
  clear hk
  go_enter Tryz.func7, Tryz.ntmps7
  go_wp2_with (first
    | (go_at_call 31; refine (HIs.out _ H0.out).mono ?_; rintro e1 w1 ⟨rfl, hb⟩; have H1 := rhide (H0.out.on hb); clear hb HIs H0; have x0 := H1.out.res.c0; have x1 := H1.out.res.c1; have x2 := H1.out.res.c2; have x3 := H1.out.res.c3; have x4 := H1.out.res.c4; have z := H1.out.res.fz)
    | fail)
  refine bodyPost_ret (v := .tuple #[.agg #[.int .i64 0, .int .i64 0, .int .i64 0, .bool false, .int .i64 0], .int .i64 4]) (by simp [results, Tryz.results7, go_sem, x0, x1, x2, x3, x4]) rfl ⟨rfl, ?_⟩
  exact five_below H1.out.below _ _ _ _ _
set_option maxRecDepth 100000 in
set_option maxHeartbeats 1000000 in
theorem vget_unread (base q N : Nat) (f : Int) (M : Nat → Nat → Int) (w : World) (h : Rx w base q N M)
    (HIs : Hid (∀ wc, Dg w wc base q N M → Calls Tryz.prog 31 #[.pointer (some ⟨q, 0, none⟩), .int .i64 f, .int .i64 6] wc fun e w' => e = .returned (.int .i64 0) ∧ Below wc.heap.size wc w'))
    (HRd : Hid (∀ wc, Dg w wc base q N M → Calls Tryz.prog 32 #[.pointer (some ⟨q, 0, none⟩), .int .i64 f, .int .i64 8] wc fun x w' => x = .returned (.tuple #[.slice none 0 0, .bool false]) ∧ Below wc.heap.size wc w')) :
    Calls Tryz.prog 7 #[.pointer (some ⟨q, 0, none⟩), .int .i64 f] w fun e w' => e = .returned (.tuple #[.agg #[.int .i64 0, .int .i64 0, .int .i64 0, .bool false, .int .i64 0], .int .i64 12]) ∧ Below w.heap.size w w' := by
  have H0 := rhide (dg_new h)
  clear h
  go_enter Tryz.func7, Tryz.ntmps7
  go_wp2_with (first
    | (go_at_call 31; refine (HIs.out _ H0.out).mono ?_; rintro e1 w1 ⟨rfl, hb⟩; have H1 := rhide (H0.out.on hb); clear hb HIs H0)
    | (go_at_call 32; refine (HRd.out _ H1.out).mono ?_; rintro e2 w2 ⟨rfl, hb⟩; have H2 := rhide (H1.out.on hb); clear hb HRd H1; have x0 := H2.out.res.c0; have x1 := H2.out.res.c1; have x2 := H2.out.res.c2; have x3 := H2.out.res.c3; have x4 := H2.out.res.c4; have z := H2.out.res.fz)
    | fail)
  refine bodyPost_ret (v := .tuple #[.agg #[.int .i64 0, .int .i64 0, .int .i64 0, .bool false, .int .i64 0], .int .i64 12]) (by simp [results, Tryz.results7, go_sem, x0, x1, x2, x3, x4]) rfl ⟨rfl, ?_⟩
  exact five_below H2.out.below _ _ _ _ _
set_option maxRecDepth 100000 in
set_option maxHeartbeats 2000000 in
theorem vget_bad (base q N : Nat) (f a0 a1 a2 a3 a4 a5 a6 a7 : Int) (M : Nat → Nat → Int) (w : World) (h : Rx w base q N M)
    (HIs : Hid (∀ wc, Dg w wc base q N M → Calls Tryz.prog 31 #[.pointer (some ⟨q, 0, none⟩), .int .i64 f, .int .i64 6] wc fun e w' => e = .returned (.int .i64 0) ∧ Below wc.heap.size wc w'))
    (HRd : Hid (∀ wc, Dg w wc base q N M → Calls Tryz.prog 32 #[.pointer (some ⟨q, 0, none⟩), .int .i64 f, .int .i64 8] wc fun x w' => ∃ g cap, x = .returned (.tuple #[.slice (some ⟨g, 0, none⟩) 8 cap, .bool true]) ∧ Below wc.heap.size wc w' ∧ Eig w' g a0 a1 a2 a3 a4 a5 a6 a7))
    (hbad : 1 < a3 ∨ (¬ 1 < a3 ∧ (a5 != 0) = true) ∨ (¬ 1 < a3 ∧ (a5 != 0) = false ∧ (a6 != 0) = true) ∨ (¬ 1 < a3 ∧ (a5 != 0) = false ∧ (a6 != 0) = false ∧ (a7 != 0) = true)) :
    Calls Tryz.prog 7 #[.pointer (some ⟨q, 0, none⟩), .int .i64 f] w fun e w' => e = .returned (.tuple #[.agg #[.int .i64 0, .int .i64 0, .int .i64 0, .bool false, .int .i64 0], .int .i64 12]) ∧ Below w.heap.size w w' := by
  have H0 := rhide (dg_new h)
  clear h
  rcases hbad with g3 | ⟨g3, g5⟩ | ⟨g3, g5, g6⟩ | ⟨g3, g5, g6, g7⟩
  all_goals
    go_enter Tryz.func7, Tryz.ntmps7
    go_wp2_with (first
      | (go_at_call 31; refine (HIs.out _ H0.out).mono ?_; rintro e1 w1 ⟨rfl, hb⟩; have H1 := rhide (H0.out.on hb); clear hb HIs H0)
      | (go_at_call 32; refine (HRd.out _ H1.out).mono ?_; rintro e2 w2 ⟨g, cap, rfl, hb, hE⟩; have H2 := rhide (H1.out.on hb); have l3 := hE.c3; have l5 := hE.c5; have l6 := hE.c6; have l7 := hE.c7; clear hb hE HRd H1; have x0 := H2.out.res.c0; have x1 := H2.out.res.c1; have x2 := H2.out.res.c2; have x3 := H2.out.res.c3; have x4 := H2.out.res.c4; have z := H2.out.res.fz)
      | fail)
    refine bodyPost_ret (v := .tuple #[.agg #[.int .i64 0, .int .i64 0, .int .i64 0, .bool false, .int .i64 0], .int .i64 12]) (by simp [results, Tryz.results7, go_sem, x0, x1, x2, x3, x4]) rfl ⟨rfl, ?_⟩
    exact five_below H2.out.below _ _ _ _ _
set_option maxRecDepth 100000 in
set_option maxHeartbeats 4000000 in
theorem vget_good (base q N : Nat) (f a3 : Int) (y : Rv) (R : Bool) (M : Nat → Nat → Int) (w : World) (h : Rx w base q N M)
    (HIs : Hid (∀ wc, Dg w wc base q N M → Calls Tryz.prog 31 #[.pointer (some ⟨q, 0, none⟩), .int .i64 f, .int .i64 6] wc fun e w' => e = .returned (.int .i64 0) ∧ Below wc.heap.size wc w'))
    (HRd : Hid (∀ wc, Dg w wc base q N M → Calls Tryz.prog 32 #[.pointer (some ⟨q, 0, none⟩), .int .i64 f, .int .i64 8] wc fun x w' => ∃ g cap, x = .returned (.tuple #[.slice (some ⟨g, 0, none⟩) 8 cap, .bool true]) ∧ Below wc.heap.size wc w' ∧ Eig w' g y.th y.pa y.co a3 y.lo 0 0 0))
    (hle : ¬ 1 < a3) (hbe : (a3 == 1) = y.wa)
    (HR : Hid (∀ w1, Calls Tryz.prog 33 #[.agg #[.int .i64 y.th, .int .i64 y.pa, .int .i64 y.co, .bool y.wa, .int .i64 y.lo]] w1 fun e w' => e = .returned (.bool R) ∧ Below w1.heap.size w1 w')) :
    Calls Tryz.prog 7 #[.pointer (some ⟨q, 0, none⟩), .int .i64 f] w fun e w' => e = .returned (.tuple #[.agg #[.int .i64 (if R = true then y else rv0).th, .int .i64 (if R = true then y else rv0).pa, .int .i64 (if R = true then y else rv0).co, .bool (if R = true then y else rv0).wa, .int .i64 (if R = true then y else rv0).lo], .int .i64 (if R = true then 0 else 12)]) ∧ Below w.heap.size w w' := by
  have H0 := rhide (dg_new h)
  clear h
  obtain ⟨A, hA⟩ : ∃ A : Int, A = if R = true then 0 else 12 := ⟨_, rfl⟩
  obtain ⟨C, hC⟩ : ∃ C : Rv, C = if R = true then y else rv0 := ⟨_, rfl⟩
  rw [← hA, ← hC]
  have HA := rhide hA
  have HC := rhide hC
  clear hA hC
  go_enter Tryz.func7, Tryz.ntmps7
  go_upto_region 6 with (first
    | (go_at_call 31; refine (HIs.out _ H0.out).mono ?_; rintro e1 w1 ⟨rfl, hb⟩; have H1 := rhide (H0.out.on hb); clear hb HIs H0)
    | (go_at_call 32; refine (HRd.out _ H1.out).mono ?_; rintro e2 w2 ⟨g, cap, rfl, hb, hE⟩; have H2 := rhide (H1.out.on hb); have l0 := hE.c0; have l1 := hE.c1; have l2 := hE.c2; have l3 := hE.c3; have l4 := hE.c4; have l5 := hE.c5; have l6 := hE.c6; have l7 := hE.c7; have lg := hE.lt; clear hb hE HRd H1)
    | fail)
  clear l5 l6 l7
  go_region_held3 (fun w' => w'.cell? ⟨g, 0, none⟩ = some (.int .i64 y.th) ∧ w'.cell? ⟨g, 1, none⟩ = some (.int .i64 y.pa) ∧ w'.cell? ⟨g, 2, none⟩ = some (.int .i64 y.co) ∧ w'.cell? ⟨g, 3, none⟩ = some (.int .i64 a3) ∧ w'.cell? ⟨g, 4, none⟩ = some (.int .i64 y.lo)) (first | (refine ⟨?_, ?_, ?_, ?_, ?_⟩ <;> with_reducible assumption) | go_keep)
  (fail)
  try rw [hbe]
  have r3 : RowW (w2.alloc (.cells #[.int .i64 y.th, .int .i64 y.pa, .int .i64 y.co, .bool y.wa, .int .i64 y.lo] 33)).drew w2.heap.size y := ⟨(rowW_new w2 y).row⟩
  have h3 : Dg w (w2.alloc (.cells #[.int .i64 y.th, .int .i64 y.pa, .int .i64 y.co, .bool y.wa, .int .i64 y.lo] 33)).drew base q N M := H2.out.on ((bal (Below.refl _ _) _).drew)
  have hE : w.heap.size ≠ w2.heap.size := Nat.ne_of_lt H2.out.res.lt
  clear l0 l1 l2 l3 l4 lg H2
  generalize (w2.alloc (.cells #[.int .i64 y.th, .int .i64 y.pa, .int .i64 y.co, .bool y.wa, .int .i64 y.lo] 33)).drew = v at r3 h3 ⊢
  generalize w2.heap.size = E at r3 hE ⊢
  have R3 := rhide r3
  have H3 := rhide h3
  clear r3 h3
  have x0 := R3.out.c0
  have x1 := R3.out.c1
  have x2 := R3.out.c2
  have x3 := R3.out.c3
  have x4 := R3.out.c4
  cases R
  · go_wp2_with (first
      | (go_at_call 33; refine (HR.out _).mono ?_; rintro e3 w3 ⟨rfl, hb⟩; have H5 := rhide (H3.out.on hb); have R5 := rhide (R3.out.on hb); clear hb HR H3 R3; have u0 := H5.out.res.c0; have u1 := H5.out.res.c1; have u2 := H5.out.res.c2; have u3 := H5.out.res.c3; have u4 := H5.out.res.c4; have z := H5.out.res.fz)
      | fail)
    refine bodyPost_ret (v := .tuple #[.agg #[.int .i64 0, .int .i64 0, .int .i64 0, .bool false, .int .i64 0], .int .i64 12]) (by simp [results, Tryz.results7, go_sem, u0, u1, u2, u3, u4]) rfl ⟨by rw [HA.out, HC.out]; rfl, ?_⟩
    exact five_below H5.out.below _ _ _ _ _
  · go_wp2_with (first
      | (go_at_call 33; refine (HR.out _).mono ?_; rintro e3 w3 ⟨rfl, hb⟩; have H5 := rhide (H3.out.on hb); have R5 := rhide (R3.out.on hb); clear hb HR H3 R3; have u0 := H5.out.res.c0; have u1 := H5.out.res.c1; have u2 := H5.out.res.c2; have u3 := H5.out.res.c3; have u4 := H5.out.res.c4; have t0 := R5.out.c0; have t1 := R5.out.c1; have t2 := R5.out.c2; have t3 := R5.out.c3; have t4 := R5.out.c4; have z := H5.out.res.fz)
      | fail)
    refine bodyPost_ret (v := .tuple #[.agg #[.int .i64 y.th, .int .i64 y.pa, .int .i64 y.co, .bool y.wa, .int .i64 y.lo], .int .i64 0]) (by simp [results, Tryz.results7, go_sem, u0, u1, u2, u3, u4]) rfl ⟨by rw [HA.out, HC.out]; rfl, ?_⟩
    exact five_below H5.out.below _ _ _ _ _
theorem vget_any (base q N : Nat) (f : Int) (M : Nat → Nat → Int) (w : World) (h : Rx w base q N M) :
    Calls Tryz.prog 7 #[.pointer (some ⟨q, 0, none⟩), .int .i64 f] w fun e w' => e = .returned (.tuple #[.agg #[.int .i64 (vgX N M f).th, .int .i64 (vgX N M f).pa, .int .i64 (vgX N M f).co, .bool (vgX N M f).wa, .int .i64 (vgX N M f).lo], .int .i64 (vgE N M f)]) ∧ Below w.heap.size w w' := by
  by_cases hk : Phead.isE N M f 6 = 0
  case neg =>
    have e1 : vgE N M f = 4 := by unfold vgE; rw [if_neg hk]
    rw [vg_no (by rw [e1]; decide), e1]
    exact vget_type base q N f M w h hk
  have hf := isE_ok hk
  have HIs : Hid (∀ wc, Dg w wc base q N M → Calls Tryz.prog 31 #[.pointer (some ⟨q, 0, none⟩), .int .i64 f, .int .i64 6] wc fun e w' => e = .returned (.int .i64 0) ∧ Below wc.heap.size wc w') := fun wc h => by
    have := Phead.hris_any base q N f 6 M wc h.rx.n1 h.rx.n64 h.rx.ref h.rx.fit
    rwa [hk] at this
  cases hr : Play.rdB N M f 8
  · have e1 : vgE N M f = 12 := by unfold vgE; rw [if_pos hk, vrd_no hf hr]; rfl
    rw [vg_no (by rw [e1]; decide), e1]
    exact vget_unread base q N f M w h HIs fun wc h => (rread_any base q N 8 f M wc h.rx (by omega) (by omega)).mono fun x w' ⟨hx, hB⟩ => by
      rcases hx with ⟨_, hx⟩ | ⟨hx, _⟩
      · exact ⟨hx, hB⟩
      · rw [hr] at hx
        cases hx
  have HRd : ∀ wc, Dg w wc base q N M → Calls Tryz.prog 32 #[.pointer (some ⟨q, 0, none⟩), .int .i64 f, .int .i64 8] wc fun x w' => ∃ g cap, x = .returned (.tuple #[.slice (some ⟨g, 0, none⟩) 8 cap, .bool true]) ∧ Below wc.heap.size wc w' ∧ Eig w' g (M f.toNat 4) (M f.toNat 5) (M f.toNat 6) (M f.toNat 7) (M f.toNat 8) (M f.toNat 9) (M f.toNat 10) (M f.toNat 11) := fun wc h => (rread_any base q N 8 f M wc h.rx (by omega) (by omega)).mono fun x w' ⟨hx, hB⟩ => by
    rcases hx with ⟨hx, _⟩ | ⟨_, g, cap, hx, _, hg, hl⟩
    · rw [hr] at hx; cases hx
    · have c : ∀ j, j < 8 → w'.cell? ⟨g, j, none⟩ = some (.int .i64 (M f.toNat (4 + j))) := fun j hj => by rw [hl.cell (by rw [rdL_len]; exact hj), vrd_at hf hj]
      exact ⟨g, cap, hx, hB, hg, c 0 (by omega), c 1 (by omega), c 2 (by omega), c 3 (by omega), c 4 (by omega), c 5 (by omega), c 6 (by omega), c 7 (by omega)⟩
  by_cases hw : M f.toNat 7 ≤ 1 ∧ M f.toNat 9 = 0 ∧ M f.toNat 10 = 0 ∧ M f.toNat 11 = 0
  · obtain ⟨h7, h9, hA, hB⟩ := hw
    have e1 : vgE N M f = if voB (rvOf M f) = true then 0 else 12 := by
      unfold vgE
      rw [if_pos hk]
      cases hv : voB (rvOf M f)
      · rw [if_neg (fun hc => by rw [rvB_iff] at hc; rw [voB_yes hc.2] at hv; cases hv)]; rfl
      · rw [if_pos ((rvB_iff M f).2 ⟨⟨h7, h9, hA, hB⟩, (voB_iff _).1 hv⟩)]; rfl
    have e2 : vgX N M f = if voB (rvOf M f) = true then rvOf M f else rv0 := by
      unfold vgX
      rw [e1]
      cases voB (rvOf M f) <;> rfl
    rw [e1, e2]
    rw [h9, hA, hB] at HRd
    refine vget_good base q N f (M f.toNat 7) (rvOf M f) (voB (rvOf M f)) M w h HIs HRd (by omega) ?_ (fun w1 => vright_any (rvOf M f) w1)
    show (M f.toNat 7 == 1) = decide (M f.toNat 7 = 1)
    by_cases hh : M f.toNat 7 = 1 <;> simp [hh]
  · have e1 : vgE N M f = 12 := by
      unfold vgE
      rw [if_pos hk, if_neg (fun hc => hw ((rvB_iff M f).1 hc).1)]
    rw [vg_no (by rw [e1]; decide), e1]
    refine vget_bad base q N f _ _ _ _ _ _ _ _ M w h HIs HRd ?_
    by_cases h7 : M f.toNat 7 ≤ 1
    · by_cases h9 : M f.toNat 9 = 0
      · by_cases hA : M f.toNat 10 = 0
        · have hB : M f.toNat 11 ≠ 0 := fun hB => hw ⟨h7, h9, hA, hB⟩
          exact .inr (.inr (.inr ⟨by omega, by simp [h9], by simp [hA], by simp [hB]⟩))
        · exact .inr (.inr (.inl ⟨by omega, by simp [h9], by simp [hA]⟩))
      · exact .inr (.inl ⟨by omega, by simp [h9]⟩)
    · exact .inl (by omega)
end Go.Proofs.YtcoggdnpjpiacaaGreatDoor.Prcv
