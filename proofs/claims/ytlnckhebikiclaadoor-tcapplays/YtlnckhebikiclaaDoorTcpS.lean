/- What the document's Get, Can and Sum of layer 20 answer, over its own memory. -/
import Derived.Test.YtlnckhebikiclaaDoorTcpR
namespace Go.Proofs.YtlnckhebikiclaaDoor.Ptcap
open Go.Proofs.YtlnckhebikiclaaDoor.Pbase Go.Proofs.YtlnckhebikiclaaDoor.Play Go.Proofs.YtlnckhebikiclaaDoor.Pmem
open Go.RowKit
set_option linter.unusedVariables false

/-- The document's memory, the result of Get, and what was laid since. -/
structure Rg (w W : World) (base q N : Nat) (M : Nat → Nat → Int) : Prop where
  res : RowB W w.heap.size bd0
  rx : Rx W base q N M
  below : Below w.heap.size w W
theorem rg_new {w : World} {base q N : Nat} {M : Nat → Nat → Int} (h : Rx w base q N M) : Rg w (w.alloc (.cells #[.bool false, .int .i64 0, .int .i64 0] 33)) base q N M :=
  ⟨rowB_new w bd0, h.grown (bal (Below.refl _ _) _), bal (Below.refl _ _) _⟩
theorem Rg.on {w W W' : World} {base q N : Nat} {M : Nat → Nat → Int} (h : Rg w W base q N M) (hB : Below W.heap.size W W') : Rg w W' base q N M :=
  ⟨h.res.on hB, h.rx.grown hB, h.below.trans (hB.mono h.below.size)⟩
theorem ld_in {N : Nat} {M : Nat → Nat → Int} {f : Int} (hf : okF N f = true) {k : Nat} (hk : k < 3) : ldM N M f (4 + (k : Nat)) = M f.toNat (4 + k) := by
  have h : okW N f (4 + (k : Nat)) = true := by unfold okW; rw [hf]; simp; omega
  unfold ldM
  rw [if_pos h]
  congr 1
theorem rd_at {N : Nat} {M : Nat → Nat → Int} {f : Int} (hf : okF N f = true) {j : Nat} (hj : j < 3) : (Play.rdL N M f 3)[j]?.getD 0 = M f.toNat (4 + j) := by
  rw [rdL_at N M f hj]
  exact ld_in hf hj
theorem rd_no {N : Nat} {M : Nat → Nat → Int} {f : Int} (hf : okF N f = true) (h : Play.rdB N M f 3 = false) : Ptcap.rdB M f = false := by
  refine Bool.eq_false_iff.2 fun hc => ?_
  unfold Ptcap.rdB at hc
  simp only [Bool.and_eq_true, decide_eq_true_eq] at hc
  have hb := (boB_iff _).1 hc.2
  unfold Play.rdB at h
  rw [decide_eq_false_iff_not] at h
  apply h
  intro i hi
  rw [ld_in (M := M) hf hi]
  unfold Bo bdOf at hb
  dsimp only at hb
  rcases (show i = 0 ∨ i = 1 ∨ i = 2 by omega) with rfl | rfl | rfl
  · show M f.toNat 4 ≤ _; omega
  · show M f.toNat 5 ≤ _; omega
  · show M f.toNat 6 ≤ _; omega
set_option maxRecDepth 100000 in
set_option maxHeartbeats 1000000 in
theorem rget_any (base q N : Nat) (f : Int) (M : Nat → Nat → Int) (w : World) (h : Rx w base q N M) :
    Calls Tryd.prog 16 #[.pointer (some ⟨q, 0, none⟩), .int .i64 f] w fun e w' => e = .returned (.tuple #[.agg #[.bool (gtT N M f).inf, .int .i64 (gtT N M f).lf, .int .i64 (gtT N M f).pr], .int .i64 (gtE N M f)]) ∧ Below w.heap.size w w' := by
  have HIs : Hid (∀ wc, Rx wc base q N M → Calls Tryd.prog 37 #[.pointer (some ⟨q, 0, none⟩), .int .i64 f, .int .i64 5] wc fun e w' => e = .returned (.int .i64 (Phead.isE N M f 5)) ∧ Below wc.heap.size wc w') := fun wc h => Phead.hris_any base q N f 5 M wc h.n1 h.n64 h.ref h.fit
  have H0 := rhide (rg_new h)
  clear h
  by_cases hk : Phead.isE N M f 5 = 0
  case neg =>
    have e1 : gtE N M f = 4 := by unfold gtE; rw [if_neg hk]
    rw [gt_no (by rw [e1]; decide), e1]
    generalize Phead.isE N M f 5 = E at HIs hk
    have hE : (E != 0) = true := by simp [hk]
    clear hk e1
    go_enter Tryd.func16, Tryd.ntmps16
    go_wp2_with (first
      | (go_at_call 37; refine (HIs.out _ H0.out.rx).mono ?_; rintro e1 w1 ⟨rfl, hb⟩; have H1 := rhide (H0.out.on hb); clear hb HIs H0; have x0 := H1.out.res.c0; have x1 := H1.out.res.c1; have x2 := H1.out.res.c2; have z := H1.out.res.fz)
      | fail)
    refine bodyPost_ret (v := .tuple #[.agg #[.bool false, .int .i64 0, .int .i64 0], .int .i64 4]) (by simp [results, Tryd.results16, go_sem, x0, x1, x2]) rfl ⟨rfl, ?_⟩
    exact bst (bst (bst H1.out.below (Nat.le_refl _) _ _) (Nat.le_refl _) _ _) (Nat.le_refl _) _ _
  case pos =>
    have hf := isE_ok hk
    rw [hk] at HIs
    cases hr : Play.rdB N M f 3
    · have e1 : gtE N M f = 12 := by unfold gtE; rw [if_pos hk, rd_no hf hr]; rfl
      rw [gt_no (by rw [e1]; decide), e1]
      have HRd : Hid (∀ wc, Rx wc base q N M → Calls Tryd.prog 46 #[.pointer (some ⟨q, 0, none⟩), .int .i64 f, .int .i64 3] wc fun x w' => x = .returned (.tuple #[.slice none 0 0, .bool false]) ∧ Below wc.heap.size wc w') := fun wc h => (rread_any base q N 3 f M wc h (by omega) (by omega)).mono fun x w' ⟨hx, hB⟩ => by
        rcases hx with ⟨_, hx⟩ | ⟨hx, _⟩
        · exact ⟨hx, hB⟩
        · rw [hr] at hx
          cases hx
      clear hk e1 hr hf
      go_enter Tryd.func16, Tryd.ntmps16
      go_wp2_with (first
        | (go_at_call 37; refine (HIs.out _ H0.out.rx).mono ?_; rintro e1 w1 ⟨rfl, hb⟩; have H1 := rhide (H0.out.on hb); clear hb HIs H0)
        | (go_at_call 46; refine (HRd.out _ H1.out.rx).mono ?_; rintro e2 w2 ⟨rfl, hb⟩; have H2 := rhide (H1.out.on hb); clear hb HRd H1; have x0 := H2.out.res.c0; have x1 := H2.out.res.c1; have x2 := H2.out.res.c2; have z := H2.out.res.fz)
        | fail)
      refine bodyPost_ret (v := .tuple #[.agg #[.bool false, .int .i64 0, .int .i64 0], .int .i64 12]) (by simp [results, Tryd.results16, go_sem, x0, x1, x2]) rfl ⟨rfl, ?_⟩
      exact bst (bst (bst H2.out.below (Nat.le_refl _) _ _) (Nat.le_refl _) _ _) (Nat.le_refl _) _ _
    · have HRd : Hid (∀ wc, Rx wc base q N M → Calls Tryd.prog 46 #[.pointer (some ⟨q, 0, none⟩), .int .i64 f, .int .i64 3] wc fun x w' => ∃ g cap, x = .returned (.tuple #[.slice (some ⟨g, 0, none⟩) 3 cap, .bool true]) ∧ Below wc.heap.size wc w' ∧ g < w'.heap.size ∧ ∀ j, j < 3 → w'.cell? ⟨g, j, none⟩ = some (.int .i64 (M f.toNat (4 + j)))) := fun wc h => (rread_any base q N 3 f M wc h (by omega) (by omega)).mono fun x w' ⟨hx, hB⟩ => by
        rcases hx with ⟨hx, _⟩ | ⟨_, g, cap, hx, _, hg, hl⟩
        · rw [hr] at hx; cases hx
        · exact ⟨g, cap, hx, hB, hg, fun j hj => by rw [hl.cell (by rw [rdL_len]; exact hj), rd_at hf hj]⟩
      by_cases h1 : M f.toNat 4 ≤ 1
      case neg =>
        have e1 : gtE N M f = 12 := by
          unfold gtE Ptcap.rdB
          rw [if_pos hk, if_neg (by simp [h1])]
        rw [gt_no (by rw [e1]; decide), e1]
        have HRd' : Hid (∀ wc, Rx wc base q N M → Calls Tryd.prog 46 #[.pointer (some ⟨q, 0, none⟩), .int .i64 f, .int .i64 3] wc fun x w' => ∃ g cap, x = .returned (.tuple #[.slice (some ⟨g, 0, none⟩) 3 cap, .bool true]) ∧ Below wc.heap.size wc w' ∧ w'.cell? ⟨g, 0, none⟩ = some (.int .i64 (M f.toNat 4))) := fun wc h => (HRd.out wc h).mono fun x w' ⟨g, cap, q1, q2, q3, q4⟩ => ⟨g, cap, q1, q2, q4 0 (by omega)⟩
        generalize M f.toNat 4 = a at HRd' h1
        have hgt : 1 < a := by omega
        clear hk e1 hr hf HRd h1
        go_enter Tryd.func16, Tryd.ntmps16
        go_wp2_with (first
          | (go_at_call 37; refine (HIs.out _ H0.out.rx).mono ?_; rintro e1 w1 ⟨rfl, hb⟩; have H1 := rhide (H0.out.on hb); clear hb HIs H0)
          | (go_at_call 46; refine (HRd'.out _ H1.out.rx).mono ?_; rintro e2 w2 ⟨g, cap, rfl, hb, l0⟩; have H2 := rhide (H1.out.on hb); clear hb HRd' H1; have x0 := H2.out.res.c0; have x1 := H2.out.res.c1; have x2 := H2.out.res.c2; have z := H2.out.res.fz)
          | fail)
        refine bodyPost_ret (v := .tuple #[.agg #[.bool false, .int .i64 0, .int .i64 0], .int .i64 12]) (by simp [results, Tryd.results16, go_sem, x0, x1, x2]) rfl ⟨rfl, ?_⟩
        exact bst (bst (bst H2.out.below (Nat.le_refl _) _ _) (Nat.le_refl _) _ _) (Nat.le_refl _) _ _
      case pos =>
      have HR : Hid (∀ w1, Calls Tryd.prog 32 #[.agg #[.bool (bdOf M f).inf, .int .i64 (bdOf M f).lf, .int .i64 (bdOf M f).pr]] w1 fun e w' => e = .returned (.bool (boB (bdOf M f))) ∧ Below w1.heap.size w1 w') := fun w1 => right_any (bdOf M f) w1
      have e1 : gtE N M f = if boB (bdOf M f) = true then 0 else 12 := by
        unfold gtE Ptcap.rdB
        rw [if_pos hk]
        simp [h1]
      have e2 : gtT N M f = if boB (bdOf M f) = true then bdOf M f else bd0 := by
        unfold gtT
        rw [e1]
        cases boB (bdOf M f) <;> rfl
      have hbe : (M f.toNat 4 == 1) = (bdOf M f).inf := by
        show (M f.toNat 4 == 1) = decide (M f.toNat 4 = 1)
        by_cases hh : M f.toNat 4 = 1 <;> simp [hh]
      have HRd' : Hid (∀ wc, Rx wc base q N M → Calls Tryd.prog 46 #[.pointer (some ⟨q, 0, none⟩), .int .i64 f, .int .i64 3] wc fun x w' => ∃ g cap, x = .returned (.tuple #[.slice (some ⟨g, 0, none⟩) 3 cap, .bool true]) ∧ Below wc.heap.size wc w' ∧ g < w'.heap.size ∧ w'.cell? ⟨g, 0, none⟩ = some (.int .i64 (M f.toNat 4)) ∧ w'.cell? ⟨g, 1, none⟩ = some (.int .i64 (bdOf M f).lf) ∧ w'.cell? ⟨g, 2, none⟩ = some (.int .i64 (bdOf M f).pr)) := fun wc h => (HRd.out wc h).mono fun x w' ⟨g, cap, q1, q2, q3, q4⟩ => ⟨g, cap, q1, q2, q3, q4 0 (by omega), q4 1 (by omega), q4 2 (by omega)⟩
      rw [e1, e2]
      generalize M f.toNat 4 = a at HRd' h1 hbe
      have hle : ¬ 1 < a := by omega
      clear e1 e2 hk hr hf HRd h1
      generalize boB (bdOf M f) = R at HR ⊢
      generalize bdOf M f = y at HRd' HR hbe ⊢
      obtain ⟨A, hA⟩ : ∃ A : Int, A = if R = true then 0 else 12 := ⟨_, rfl⟩
      obtain ⟨C, hC⟩ : ∃ C : Bd, C = if R = true then y else bd0 := ⟨_, rfl⟩
      rw [← hA, ← hC]
      have HA := rhide hA
      have HC := rhide hC
      clear hA hC
      go_enter Tryd.func16, Tryd.ntmps16
      go_upto_region 6 with (first
        | (go_at_call 37; refine (HIs.out _ H0.out.rx).mono ?_; rintro e1 w1 ⟨rfl, hb⟩; have H1 := rhide (H0.out.on hb); clear hb HIs H0)
        | (go_at_call 46; refine (HRd'.out _ H1.out.rx).mono ?_; rintro e2 w2 ⟨g, cap, rfl, hb, lg, l0, l1, l2⟩; have H2 := rhide (H1.out.on hb); clear hb HRd' H1)
        | fail)
      go_region_held3 (fun w' => w'.cell? ⟨g, 0, none⟩ = some (.int .i64 a) ∧ w'.cell? ⟨g, 1, none⟩ = some (.int .i64 y.lf) ∧ w'.cell? ⟨g, 2, none⟩ = some (.int .i64 y.pr)) (first | (refine ⟨?_, ?_, ?_⟩ <;> with_reducible assumption) | go_keep)
      (fail)
      try rw [hbe]
      have r3 : RowB (w2.alloc (.cells #[.bool y.inf, .int .i64 y.lf, .int .i64 y.pr] 33)).drew w2.heap.size y := ⟨(rowB_new w2 y).row⟩
      have h3 : Rg w (w2.alloc (.cells #[.bool y.inf, .int .i64 y.lf, .int .i64 y.pr] 33)).drew base q N M := H2.out.on ((bal (Below.refl _ _) _).drew)
      have hE : w.heap.size ≠ w2.heap.size := Nat.ne_of_lt H2.out.res.lt
      clear l0 l1 l2 lg H2
      generalize (w2.alloc (.cells #[.bool y.inf, .int .i64 y.lf, .int .i64 y.pr] 33)).drew = v at r3 h3 ⊢
      generalize w2.heap.size = E at r3 hE ⊢
      have R3 := rhide r3
      have H3 := rhide h3
      clear r3 h3
      have x0 := R3.out.c0
      have x1 := R3.out.c1
      have x2 := R3.out.c2
      cases R
      · go_wp2_with (first
          | (go_at_call 32; refine (HR.out _).mono ?_; rintro e3 w3 ⟨rfl, hb⟩; have H5 := rhide (H3.out.on hb); have R5 := rhide (R3.out.on hb); clear hb HR H3 R3; have u0 := H5.out.res.c0; have u1 := H5.out.res.c1; have u2 := H5.out.res.c2; have z := H5.out.res.fz)
          | fail)
        refine bodyPost_ret (v := .tuple #[.agg #[.bool false, .int .i64 0, .int .i64 0], .int .i64 12]) (by simp [results, Tryd.results16, go_sem, u0, u1, u2]) rfl ⟨by rw [HA.out, HC.out]; rfl, ?_⟩
        exact bst (bst (bst H5.out.below (Nat.le_refl _) _ _) (Nat.le_refl _) _ _) (Nat.le_refl _) _ _
      · go_wp2_with (first
          | (go_at_call 32; refine (HR.out _).mono ?_; rintro e3 w3 ⟨rfl, hb⟩; have H5 := rhide (H3.out.on hb); have R5 := rhide (R3.out.on hb); clear hb HR H3 R3; have u0 := H5.out.res.c0; have u1 := H5.out.res.c1; have u2 := H5.out.res.c2; have t0 := R5.out.c0; have t1 := R5.out.c1; have t2 := R5.out.c2; have z := H5.out.res.fz)
          | fail)
        refine bodyPost_ret (v := .tuple #[.agg #[.bool y.inf, .int .i64 y.lf, .int .i64 y.pr], .int .i64 0]) (by simp [results, Tryd.results16, go_sem, u0, u1, u2]) rfl ⟨by rw [HA.out, HC.out]; rfl, ?_⟩
        exact bst (bst (bst H5.out.below (Nat.le_refl _) _ _) (Nat.le_refl _) _ _) (Nat.le_refl _) _ _
/-! ### Can -/
set_option maxRecDepth 100000 in
theorem rcan_any (base q N : Nat) (f : Int) (M : Nat → Nat → Int) (w : World) (h : Rx w base q N M) :
    Calls Tryd.prog 18 #[.pointer (some ⟨q, 0, none⟩), .int .i64 f] w fun e w' => e = .returned (.bool (cnB N M f)) ∧ Below w.heap.size w w' := by
  have HG : Hid (Calls Tryd.prog 16 #[.pointer (some ⟨q, 0, none⟩), .int .i64 f] w fun e w' => e = .returned (.tuple #[.agg #[.bool (gtT N M f).inf, .int .i64 (gtT N M f).lf, .int .i64 (gtT N M f).pr], .int .i64 (gtE N M f)]) ∧ Below w.heap.size w w') := rget_any base q N f M w h
  clear h
  unfold cnB
  generalize gtE N M f = E at HG ⊢
  generalize gtT N M f = y at HG ⊢
  obtain ⟨i, l, p⟩ := y
  by_cases hE : E = 0
  · subst hE
    cases i
    · go_enter Tryd.func18, Tryd.ntmps18
      go_wp2_with (first
        | (go_at_call 16; refine HG.out.mono ?_; rintro e1 w1 ⟨rfl, hb⟩; have H1 := rhide (bal hb (.cells #[.bool false, .int .i64 l, .int .i64 p] 33)); clear hb HG)
        | fail)
      go_ret
      exact ⟨by simp, H1.out⟩
    · go_enter Tryd.func18, Tryd.ntmps18
      go_wp2_with (first
        | (go_at_call 16; refine HG.out.mono ?_; rintro e1 w1 ⟨rfl, hb⟩; have H1 := rhide (bal hb (.cells #[.bool true, .int .i64 l, .int .i64 p] 33)); clear hb HG)
        | fail)
      go_ret
      exact ⟨by simp, H1.out⟩
  · have hE' : (E == 0) = false := by simp [hE]
    rw [show decide (E = 0) = false by simp [hE]]
    clear hE
    go_enter Tryd.func18, Tryd.ntmps18
    go_wp2_with (first
      | (go_at_call 16; refine HG.out.mono ?_; rintro e1 w1 ⟨rfl, hb⟩; have H1 := rhide (bal hb (.cells #[.bool i, .int .i64 l, .int .i64 p] 33)); clear hb HG)
      | fail)
    go_ret
    exact ⟨rfl, H1.out⟩
/-! ### Sum -/
set_option maxRecDepth 100000 in
set_option maxHeartbeats 1000000 in
theorem rsum_any (base q N : Nat) (M : Nat → Nat → Int) (w : World) (h : Rx w base q N M) :
    Calls Tryd.prog 20 #[.pointer (some ⟨q, 0, none⟩)] w fun e w' => e = .returned (.int .i64 (smK N M N)) ∧ Below w.heap.size w w' := by
  have HR := rhide h
  have n1 := h.n1
  have n64 := h.n64
  clear h
  go_enter Tryd.func20, Tryd.ntmps20
  go_wp2
  go_loopw [3, 4] (fun n i wr => ∃ k : Nat, k ≤ N ∧ i = .int .i64 k ∧ n = .int .i64 (smK N M k) ∧ Below w.heap.size w wr) (fun _ i _ => N - (intOf i).toNat)
  case atStart => exact ⟨0, by omega, rfl, rfl, Below.refl _ _⟩
  case round =>
    obtain ⟨k, hk, rfl, rfl, hB⟩ := hrel
    have HB := rhide hB
    have HX : Hid (Rx wr base q N M) := HR.out.grown hB
    clear hB
    obtain ⟨g, cap, _, _, hp, _, _, _, _⟩ := HX.out.ref.parts n1
    by_cases hlt : k < N
    · have hki : (k : Int) < (N : Int) := by omega
      have HG : Hid (Calls Tryd.prog 16 #[.pointer (some ⟨q, 0, none⟩), .int .i64 (k : Int)] wr fun e w' => e = .returned (.tuple #[.agg #[.bool (gtT N M (k : Nat)).inf, .int .i64 (gtT N M (k : Nat)).lf, .int .i64 (gtT N M (k : Nat)).pr], .int .i64 (gtE N M (k : Nat))]) ∧ Below wr.heap.size wr w') := rget_any base q N (k : Nat) M wr HX.out
      have hsm := sm_bd N M k
      have hbo := (gt_bo N M (k : Nat)).1
      have HS : Hid (smK N M (k + 1) = smK N M k + (gtT N M (k : Nat)).lf) := rfl
      have hwk : wrap64 ((k : Int) + 1) = (k : Int) + 1 := by unfold wrap64; omega
      by_cases hE : gtE N M (k : Nat) = 0
      · rw [hE] at HG
        generalize gtT N M (k : Nat) = y at HG HS hbo
        generalize smK N M k = n at HS hsm ⊢
        have hw : wrap64 (n + y.lf) = n + y.lf := by unfold wrap64; omega
        clear hE hsm hbo
        go_wp2_with (first
          | (go_at_call 16; refine HG.out.mono ?_; rintro e1 w1 ⟨rfl, hb⟩; have H1 : Hid (Below w.heap.size w (w1.alloc (.cells #[.bool y.inf, .int .i64 y.lf, .int .i64 y.pr] 33))) := bal (HB.out.trans (hb.mono HB.out.size)) _; clear hb HG)
          | fail)
        go_roundw
        case rel => exact ⟨k + 1, by omega, by go_num, by rw [HS.out, hw], H1.out⟩
        case measure => simp [intOf]; omega
      · have hz : (gtT N M (k : Nat)).lf = 0 := by rw [gt_no hE]; rfl
        generalize gtT N M (k : Nat) = y at HG HS hbo hz
        generalize gtE N M (k : Nat) = E at HG hE
        generalize smK N M k = n at HS hsm ⊢
        have hE' : (E == 0) = false := by simp [hE]
        have HZ := rhide hz
        clear hE hsm hbo hz
        go_wp2_with (first
          | (go_at_call 16; refine HG.out.mono ?_; rintro e1 w1 ⟨rfl, hb⟩; have H1 : Hid (Below w.heap.size w (w1.alloc (.cells #[.bool y.inf, .int .i64 y.lf, .int .i64 y.pr] 33))) := bal (HB.out.trans (hb.mono HB.out.size)) _; clear hb HG)
          | fail)
        go_roundw
        case rel => exact ⟨k + 1, by omega, by go_num, by rw [HS.out, HZ.out, Int.add_zero], H1.out⟩
        case measure => simp [intOf]; omega
    · obtain rfl : k = N := by omega
      go_wp2
      go_ret
      exact ⟨rfl, HB.out⟩
end Go.Proofs.YtlnckhebikiclaaDoor.Ptcap
