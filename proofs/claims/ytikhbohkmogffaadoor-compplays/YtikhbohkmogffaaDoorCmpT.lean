/- What the document's Get and Hand of layer 17 answer and do, over its own memory. -/
import Derived.Test.YtikhbohkmogffaaDoorCmpS
namespace Go.Proofs.YtikhbohkmogffaaDoor.Pcomp
open Go.Proofs.YtikhbohkmogffaaDoor.Pbase Go.Proofs.YtikhbohkmogffaaDoor.Pfield Go.Proofs.YtikhbohkmogffaaDoor.Pmem
open Go.RowKit M
set_option linter.unusedVariables false

/-- The document's memory, the result of Get, and what was laid since. -/
structure Rg (w W : World) (base q N : Nat) (M : Nat → Nat → Int) : Prop where
  res : RowC W w.heap.size cp0
  rx : Rx W base q N M
  below : Below w.heap.size w W
theorem rg_new {w : World} {base q N : Nat} {M : Nat → Nat → Int} (h : Rx w base q N M) : Rg w (w.alloc (.cells #[.int .i64 0, .int .i64 0, .int .i64 0, .int .i64 0, .int .i64 0, .int .i64 0] 33)) base q N M :=
  ⟨rowC_new w cp0, h.grown (bal (Below.refl _ _) _), bal (Below.refl _ _) _⟩
theorem Rg.on {w W W' : World} {base q N : Nat} {M : Nat → Nat → Int} (h : Rg w W base q N M) (hB : Below W.heap.size W W') : Rg w W' base q N M :=
  ⟨h.res.on hB, h.rx.grown hB, h.below.trans (hB.mono h.below.size)⟩
/-- What is read is the frame's words. -/
theorem rd_at {N : Nat} {M : Nat → Nat → Int} {f : Int} (hf : okF N f = true) {j : Nat} (hj : j < 6) : (rdL N M f 6)[j]?.getD 0 = wd (cpOf M f) j := by
  rw [rdL_at N M f hj]
  exact (ld_in (M := M) hf hj).1
theorem rd_no {N : Nat} {M : Nat → Nat → Int} {f : Int} (hf : okF N f = true) (h : rdB N M f 6 = false) : coB (cpOf M f) = false := by
  refine coB_no fun hc => ?_
  unfold rdB at h
  rw [decide_eq_false_iff_not] at h
  apply h
  intro i hi
  rw [(ld_in (M := M) hf hi).1]
  unfold Co at hc
  rcases (show i = 0 ∨ i = 1 ∨ i = 2 ∨ i = 3 ∨ i = 4 ∨ i = 5 by omega) with rfl | rfl | rfl | rfl | rfl | rfl
  · show (cpOf M f).tb ≤ _; omega
  · show (cpOf M f).pg ≤ _; omega
  · show (cpOf M f).l ≤ _; omega
  · show (cpOf M f).e ≤ _; omega
  · show (cpOf M f).fa ≤ _; omega
  · show (cpOf M f).wh ≤ _; omega
set_option maxRecDepth 100000 in
set_option maxHeartbeats 800000 in
theorem rget_any (base q N : Nat) (f : Int) (M : Nat → Nat → Int) (w : World) (h : Rx w base q N M) :
    Calls Tryd.prog 14 #[.pointer (some ⟨q, 0, none⟩), .int .i64 f] w fun e w' => e = .returned (.tuple #[.agg #[.int .i64 (gtC N M f).tb, .int .i64 (gtC N M f).pg, .int .i64 (gtC N M f).l, .int .i64 (gtC N M f).e, .int .i64 (gtC N M f).fa, .int .i64 (gtC N M f).wh], .int .i64 (gtE N M f)]) ∧ Below w.heap.size w w' := by
  have HIs : Hid (∀ wc, Rx wc base q N M → Calls Tryd.prog 31 #[.pointer (some ⟨q, 0, none⟩), .int .i64 f, .int .i64 3] wc fun e w' => e = .returned (.int .i64 (Phead.isE N M f 3)) ∧ Below wc.heap.size wc w') := fun wc h => Phead.hris_any base q N f 3 M wc h.n1 h.n64 h.ref h.fit
  have H0 := rhide (rg_new h)
  clear h
  by_cases hk : Phead.isE N M f 3 = 0
  case neg =>
    have e1 : gtE N M f = 4 := by unfold gtE; rw [if_neg hk]
    have e2 : gtC N M f = cp0 := by unfold gtC; rw [if_neg (by rw [e1]; decide)]
    rw [e1, e2]
    generalize Phead.isE N M f 3 = E at HIs hk
    have hE : (E != 0) = true := by simp [hk]
    clear hk e1 e2
    go_enter Tryd.func14, Tryd.ntmps14
    go_wp2_with (first
      | (go_at_call 31; refine (HIs.out _ H0.out.rx).mono ?_; rintro e1 w1 ⟨rfl, hb⟩; have H1 := rhide (H0.out.on hb); clear hb HIs H0; have x0 := H1.out.res.c0; have x1 := H1.out.res.c1; have x2 := H1.out.res.c2; have x3 := H1.out.res.c3; have x4 := H1.out.res.c4; have x5 := H1.out.res.c5; have z := H1.out.res.fz)
      | fail)
    refine bodyPost_ret (v := .tuple #[.agg #[.int .i64 0, .int .i64 0, .int .i64 0, .int .i64 0, .int .i64 0, .int .i64 0], .int .i64 4]) (by simp [results, Tryd.results14, go_sem, x0, x1, x2, x3, x4, x5]) rfl ⟨rfl, ?_⟩
    exact bst (bst (bst (bst (bst (bst H1.out.below (Nat.le_refl _) _ _) (Nat.le_refl _) _ _) (Nat.le_refl _) _ _) (Nat.le_refl _) _ _) (Nat.le_refl _) _ _) (Nat.le_refl _) _ _
  case pos =>
    have hf := isE_ok hk
    rw [hk] at HIs
    cases hr : rdB N M f 6
    · have hc := rd_no hf hr
      have e1 : gtE N M f = 12 := by unfold gtE; rw [if_pos hk, hc]; rfl
      have e2 : gtC N M f = cp0 := by unfold gtC; rw [if_neg (by rw [e1]; decide)]
      rw [e1, e2]
      have HRd : Hid (∀ wc, Rx wc base q N M → Calls Tryd.prog 35 #[.pointer (some ⟨q, 0, none⟩), .int .i64 f, .int .i64 6] wc fun x w' => x = .returned (.tuple #[.slice none 0 0, .bool false]) ∧ Below wc.heap.size wc w') := fun wc h => (rread_any base q N 6 f M wc h (by omega) (by omega)).mono fun x w' ⟨hx, hB⟩ => by
        rcases hx with ⟨_, hx⟩ | ⟨hx, _⟩
        · exact ⟨hx, hB⟩
        · rw [hr] at hx
          cases hx
      clear hk e1 e2 hc hr hf
      go_enter Tryd.func14, Tryd.ntmps14
      go_wp2_with (first
        | (go_at_call 31; refine (HIs.out _ H0.out.rx).mono ?_; rintro e1 w1 ⟨rfl, hb⟩; have H1 := rhide (H0.out.on hb); clear hb HIs H0)
        | (go_at_call 35; refine (HRd.out _ H1.out.rx).mono ?_; rintro e2 w2 ⟨rfl, hb⟩; have H2 := rhide (H1.out.on hb); clear hb HRd H1; have x0 := H2.out.res.c0; have x1 := H2.out.res.c1; have x2 := H2.out.res.c2; have x3 := H2.out.res.c3; have x4 := H2.out.res.c4; have x5 := H2.out.res.c5; have z := H2.out.res.fz)
        | fail)
      refine bodyPost_ret (v := .tuple #[.agg #[.int .i64 0, .int .i64 0, .int .i64 0, .int .i64 0, .int .i64 0, .int .i64 0], .int .i64 12]) (by simp [results, Tryd.results14, go_sem, x0, x1, x2, x3, x4, x5]) rfl ⟨rfl, ?_⟩
      exact bst (bst (bst (bst (bst (bst H2.out.below (Nat.le_refl _) _ _) (Nat.le_refl _) _ _) (Nat.le_refl _) _ _) (Nat.le_refl _) _ _) (Nat.le_refl _) _ _) (Nat.le_refl _) _ _
    · have HRd : Hid (∀ wc, Rx wc base q N M → Calls Tryd.prog 35 #[.pointer (some ⟨q, 0, none⟩), .int .i64 f, .int .i64 6] wc fun x w' => ∃ g cap, x = .returned (.tuple #[.slice (some ⟨g, 0, none⟩) 6 cap, .bool true]) ∧ Below wc.heap.size wc w' ∧ g < w'.heap.size ∧ ∀ j, j < 6 → w'.cell? ⟨g, j, none⟩ = some (.int .i64 (wd (cpOf M f) j))) := fun wc h => (rread_any base q N 6 f M wc h (by omega) (by omega)).mono fun x w' ⟨hx, hB⟩ => by
        rcases hx with ⟨hx, _⟩ | ⟨_, g, cap, hx, _, hg, hl⟩
        · rw [hr] at hx; cases hx
        · exact ⟨g, cap, hx, hB, hg, fun j hj => by rw [hl j (by rw [rdL_len]; exact hj), rd_at hf hj]⟩
      have HR : Hid (∀ w1, Calls Tryd.prog 26 #[.agg #[.int .i64 (cpOf M f).tb, .int .i64 (cpOf M f).pg, .int .i64 (cpOf M f).l, .int .i64 (cpOf M f).e, .int .i64 (cpOf M f).fa, .int .i64 (cpOf M f).wh]] w1 fun e w' => e = .returned (.bool (coB (cpOf M f))) ∧ Below w1.heap.size w1 w') := fun w1 => right_any (cpOf M f) w1
      have e1 : gtE N M f = if coB (cpOf M f) = true then 0 else 12 := by unfold gtE; rw [if_pos hk]
      have e2 : gtC N M f = coX (cpOf M f) := by
        unfold gtC coX
        rw [e1]
        cases coB (cpOf M f) <;> rfl
      have e3 : coX (cpOf M f) = if coB (cpOf M f) = true then cpOf M f else cp0 := rfl
      rw [e1, e2, e3]
      clear e1 e2 e3 hk hr hf
      generalize coB (cpOf M f) = R at HR ⊢
      generalize cpOf M f = y at HRd HR ⊢
      obtain ⟨A, hA⟩ : ∃ A : Int, A = if R = true then 0 else 12 := ⟨_, rfl⟩
      obtain ⟨B, hB⟩ : ∃ B : Cp, B = if R = true then y else cp0 := ⟨_, rfl⟩
      rw [← hA, ← hB]
      have HA := rhide hA
      have HB := rhide hB
      clear hA hB
      go_enter Tryd.func14, Tryd.ntmps14
      go_upto_region 6 with (first
        | (go_at_call 31; refine (HIs.out _ H0.out.rx).mono ?_; rintro e1 w1 ⟨rfl, hb⟩; have H1 := rhide (H0.out.on hb); clear hb HIs H0)
        | (go_at_call 35; refine (HRd.out _ H1.out.rx).mono ?_; rintro e2 w2 ⟨g, cap, rfl, hb, hg, hl⟩; have H2 := rhide (H1.out.on hb); have HL := rhide (And.intro hg hl); clear hb hl hg HRd H1)
        | fail)
      have l0 : w2.cell? ⟨g, 0, none⟩ = some (.int .i64 y.tb) := HL.out.2 0 (by omega)
      have l1 : w2.cell? ⟨g, 1, none⟩ = some (.int .i64 y.pg) := HL.out.2 1 (by omega)
      have l2 : w2.cell? ⟨g, 2, none⟩ = some (.int .i64 y.l) := HL.out.2 2 (by omega)
      have l3 : w2.cell? ⟨g, 3, none⟩ = some (.int .i64 y.e) := HL.out.2 3 (by omega)
      have l4 : w2.cell? ⟨g, 4, none⟩ = some (.int .i64 y.fa) := HL.out.2 4 (by omega)
      have l5 : w2.cell? ⟨g, 5, none⟩ = some (.int .i64 y.wh) := HL.out.2 5 (by omega)
      have lg := HL.out.1
      clear HL
      go_wp2
      go_region_held3 (fun w' => w'.cell? ⟨g, 0, none⟩ = some (.int .i64 y.tb) ∧ w'.cell? ⟨g, 1, none⟩ = some (.int .i64 y.pg) ∧ w'.cell? ⟨g, 2, none⟩ = some (.int .i64 y.l) ∧ w'.cell? ⟨g, 3, none⟩ = some (.int .i64 y.e) ∧ w'.cell? ⟨g, 4, none⟩ = some (.int .i64 y.fa) ∧ w'.cell? ⟨g, 5, none⟩ = some (.int .i64 y.wh)) (first | exact ⟨by assumption, by assumption, by assumption, by assumption, by assumption, by assumption⟩ | go_keep)
      (fail)
      have r3 : RowC (w2.alloc (.cells #[.int .i64 y.tb, .int .i64 y.pg, .int .i64 y.l, .int .i64 y.e, .int .i64 y.fa, .int .i64 y.wh] 33)).drew w2.heap.size y := ⟨(rowC_new w2 y).row⟩
      have h3 : Rg w (w2.alloc (.cells #[.int .i64 y.tb, .int .i64 y.pg, .int .i64 y.l, .int .i64 y.e, .int .i64 y.fa, .int .i64 y.wh] 33)).drew base q N M := H2.out.on ((bal (Below.refl _ _) _).drew)
      have hE : w.heap.size ≠ w2.heap.size := Nat.ne_of_lt H2.out.res.lt
      clear l0 l1 l2 l3 l4 l5 lg H2
      generalize (w2.alloc (.cells #[.int .i64 y.tb, .int .i64 y.pg, .int .i64 y.l, .int .i64 y.e, .int .i64 y.fa, .int .i64 y.wh] 33)).drew = v at r3 h3 ⊢
      generalize w2.heap.size = E at r3 hE ⊢
      have R3 := rhide r3
      have H3 := rhide h3
      clear r3 h3
      have x0 := R3.out.c0
      have x1 := R3.out.c1
      have x2 := R3.out.c2
      have x3 := R3.out.c3
      have x4 := R3.out.c4
      have x5 := R3.out.c5
      cases R
      · go_wp2_with (first
          | (go_at_call 26; refine (HR.out _).mono ?_; rintro e3 w3 ⟨rfl, hb⟩; have H5 := rhide (H3.out.on hb); have R5 := rhide (R3.out.on hb); clear hb HR H3 R3; have y0 := H5.out.res.c0; have y1 := H5.out.res.c1; have y2 := H5.out.res.c2; have y3 := H5.out.res.c3; have y4 := H5.out.res.c4; have y5 := H5.out.res.c5; have z := H5.out.res.fz)
          | fail)
        refine bodyPost_ret (v := .tuple #[.agg #[.int .i64 0, .int .i64 0, .int .i64 0, .int .i64 0, .int .i64 0, .int .i64 0], .int .i64 12]) (by simp [results, Tryd.results14, go_sem, y0, y1, y2, y3, y4, y5]) rfl ⟨by rw [HA.out, HB.out]; rfl, ?_⟩
        exact bst (bst (bst (bst (bst (bst H5.out.below (Nat.le_refl _) _ _) (Nat.le_refl _) _ _) (Nat.le_refl _) _ _) (Nat.le_refl _) _ _) (Nat.le_refl _) _ _) (Nat.le_refl _) _ _
      · go_wp2_with (first
          | (go_at_call 26; refine (HR.out _).mono ?_; rintro e3 w3 ⟨rfl, hb⟩; have H5 := rhide (H3.out.on hb); have R5 := rhide (R3.out.on hb); clear hb HR H3 R3; have y0 := H5.out.res.c0; have y1 := H5.out.res.c1; have y2 := H5.out.res.c2; have y3 := H5.out.res.c3; have y4 := H5.out.res.c4; have y5 := H5.out.res.c5; have t0 := R5.out.c0; have t1 := R5.out.c1; have t2 := R5.out.c2; have t3 := R5.out.c3; have t4 := R5.out.c4; have t5 := R5.out.c5; have z := H5.out.res.fz)
          | fail)
        refine bodyPost_ret (v := .tuple #[.agg #[.int .i64 y.tb, .int .i64 y.pg, .int .i64 y.l, .int .i64 y.e, .int .i64 y.fa, .int .i64 y.wh], .int .i64 0]) (by simp [results, Tryd.results14, go_sem, y0, y1, y2, y3, y4, y5]) rfl ⟨by rw [HA.out, HB.out]; rfl, ?_⟩
        exact bst (bst (bst (bst (bst (bst H5.out.below (Nat.le_refl _) _ _) (Nat.le_refl _) _ _) (Nat.le_refl _) _ _) (Nat.le_refl _) _ _) (Nat.le_refl _) _ _) (Nat.le_refl _) _ _
end Go.Proofs.YtikhbohkmogffaaDoor.Pcomp
