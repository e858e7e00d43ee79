/- The walk of CompWords. -/
import Derived.Test.YtikhbohkmogffaaDoorCmpL
import Derived.Test.YtikhbohkmogffaaDoorBunMem
namespace Go.Proofs.YtikhbohkmogffaaDoor.Pcomp
open Go.Proofs.YtikhbohkmogffaaDoor.Pbase Go.Proofs.YtikhbohkmogffaaDoor.Pfield Go.Proofs.YtikhbohkmogffaaDoor.Pmem
open Go.RowKit M
set_option linter.unusedVariables false

/-- A frame's words in block E, a component's numbers in block D. -/
structure Vd (w W : World) (D E : Nat) (m : Nat → Int) (c : Cp) : Prop where
  words : ∀ j, j < 36 → W.cell? ⟨E, j, none⟩ = some (.int .u64 (m j))
  nums : ∀ j, j < 6 → W.cell? ⟨D, j, none⟩ = some (.int .i64 (wd c j))
  below : Below w.heap.size w W
  tb : Tc W
theorem vd_new {w w2 : World} {p b : Nat} {M : Nat → Nat → Int} {x : List (Nat × Cp)} (h : Qs w w2 p b 1 M x) (c : Cp) : Vd w ((wordsW w2 M 0).alloc (.cells #[.int .i64 c.tb, .int .i64 c.pg, .int .i64 c.l, .int .i64 c.e, .int .i64 c.fa, .int .i64 c.wh] 3)) (wordsW w2 M 0).heap.size w2.heap.size (M 0) c := by
  have hb := bal (bal (Below.refl w2.heap.size w2) (.cells (frameM M 0).toArray 51)) (.cells #[.int .i64 c.tb, .int .i64 c.pg, .int .i64 c.l, .int .i64 c.e, .int .i64 c.fa, .int .i64 c.wh] 3)
  refine ⟨fun j hj => ?_, fun j hj => ?_, h.own.below.trans (hb.mono h.own.below.size), h.own.mx.tb.on hb⟩
  · have e : (wordsW w2 M 0).cell? ⟨w2.heap.size, j, none⟩ = some (.int .u64 (M 0 j)) := by rw [wordsW, World.cell?_alloc_new, List.getElem?_toArray, frameM_get hj]
    have hl : w2.heap.size < (wordsW w2 M 0).heap.size := by simp [wordsW]
    exact ((bal (Below.refl _ (wordsW w2 M 0)) (.cells #[.int .i64 c.tb, .int .i64 c.pg, .int .i64 c.l, .int .i64 c.e, .int .i64 c.fa, .int .i64 c.wh] 3)).cell (p := ⟨w2.heap.size, j, none⟩) hl).trans e
  · rw [World.cell?_alloc_new]
    rcases (show j = 0 ∨ j = 1 ∨ j = 2 ∨ j = 3 ∨ j = 4 ∨ j = 5 by omega) with rfl | rfl | rfl | rfl | rfl | rfl <;> rfl
theorem wd_co {c : Cp} (h : Co c) {k : Nat} (hk : k < 6) : 0 ≤ wd c k ∧ wd c k ≤ 18446744073709551615 := by
  unfold Co at h
  rcases (show k = 0 ∨ k = 1 ∨ k = 2 ∨ k = 3 ∨ k = 4 ∨ k = 5 by omega) with rfl | rfl | rfl | rfl | rfl | rfl <;> simp [wd, Cp.ws] <;> omega
set_option maxRecDepth 100000 in
set_option maxHeartbeats 4000000 in
theorem words_walk (c : Cp) (w : World) (hc : Fi c) (hT : Tc w) :
    Calls Tryd.prog 5 #[.agg #[.int .i64 c.tb, .int .i64 c.pg, .int .i64 c.l, .int .i64 c.e, .int .i64 c.fa, .int .i64 c.wh]] w fun e w' => e = .returned (.bool true) ∧ Below w.heap.size w w' := by
  have H0 := rhide (qs_one hT c)
  by_cases hco : Co c
  case neg =>
    obtain ⟨e1, e2⟩ := made_no (N := 1) (f := 0) hco
    have HMk : Hid (∀ wc p b, Mx wc p b 1 (fun _ _ => 0) → Calls Tryd.prog 7 #[.pointer (some ⟨p, 0, none⟩), .int .i64 0, .agg #[.int .i64 c.tb, .int .i64 c.pg, .int .i64 c.l, .int .i64 c.e, .int .i64 c.fa, .int .i64 c.wh]] wc fun e w' => e = .returned (.int .i64 1) ∧ Mx w' p b 1 (mkM 1 (fun _ _ => 0) 0 c) ∧ But b wc w') := fun wc p b h => by
      have := make_any p b 1 0 c _ wc h hc
      rwa [e1] at this
    have HCk : Hid (∀ wc, Tc wc → Calls Tryd.prog 15 #[.agg #[.int .i64 c.tb, .int .i64 c.pg, .int .i64 c.l, .int .i64 c.e, .int .i64 c.fa, .int .i64 c.wh]] wc fun e w' => e = .returned (.int .i64 1) ∧ Below wc.heap.size wc w') := fun wc h => by
      have := check_any c hc wc h
      rwa [e2] at this
    clear e1 e2 hco hT hc
    generalize mkM 1 (fun _ _ => 0) 0 c = M1 at HMk
    go_enter Tryd.func5, Tryd.ntmps5
    go_wp2_with (first
      | (go_at_call 19; refine (new_ok 1 _ (by omega) (by omega)).mono ?_; rintro r1 w1 ⟨rfl, hw⟩; rw [← hw] at H0; clear hw; have H1 := H0; clear H0; have x0 := H1.out.first.c0; have x1 := H1.out.first.c1; have x2 := H1.out.first.c2; have x3 := H1.out.first.c3; have x4 := H1.out.first.c4; have x5 := H1.out.first.c5)
      | (go_at_call 7; refine (HMk.out _ _ _ H1.out.own.mx).mono ?_; rintro r2 w2 ⟨rfl, hm, hb⟩; have H2 := rhide (H1.out.but hm hb); clear hm hb H1 HMk x0 x1 x2 x3 x4 x5; have x0 := H2.out.first.c0; have x1 := H2.out.first.c1; have x2 := H2.out.first.c2; have x3 := H2.out.first.c3; have x4 := H2.out.first.c4; have x5 := H2.out.first.c5)
      | (go_at_call 15; refine (HCk.out _ H2.out.own.mx.tb).mono ?_; rintro r3 w3 ⟨rfl, hb⟩; have H3 := rhide (H2.out.on hb); clear hb HCk H2)
      | (go_at_call 18; refine (awake_any _ H3.out.own.mx.tb).mono ?_; rintro r6 w6 ⟨rfl, hb⟩; have H4 := rhide (H3.out.on hb); clear hb H3)
      | fail)
    go_ret
    exact ⟨rfl, H4.out.own.below⟩
  obtain ⟨M1, h1⟩ : ∃ M1, M1 = mkM 1 (fun _ _ => 0) 0 c := ⟨_, rfl⟩
  obtain ⟨v0, vs⟩ := words_all hco h1
  obtain ⟨e1, _⟩ := gt_made (N := 1) (f := 0) (M := fun _ _ => 0) (by omega) hco
  rw [show ((0 : Nat) : Int) = 0 from rfl] at e1
  have HMk : Hid (∀ wc p b, Mx wc p b 1 (fun _ _ => 0) → Calls Tryd.prog 7 #[.pointer (some ⟨p, 0, none⟩), .int .i64 0, .agg #[.int .i64 c.tb, .int .i64 c.pg, .int .i64 c.l, .int .i64 c.e, .int .i64 c.fa, .int .i64 c.wh]] wc fun e w' => e = .returned (.int .i64 0) ∧ Mx w' p b 1 M1 ∧ But b wc w') := fun wc p b h => by
    have := make_any p b 1 0 c _ wc h hc
    rwa [e1, ← h1] at this
  have HC := rhide hco
  have HV : Hid (∀ i, i < 32 → M1 0 (4 + i) = c.ws[i]?.getD 0) := vs
  clear e1 h1 hT hc hco vs
  go_enter Tryd.func5, Tryd.ntmps5
  go_upto_region 10 with (first
    | (go_at_call 19; refine (new_ok 1 _ (by omega) (by omega)).mono ?_; rintro r1 w1 ⟨rfl, hw⟩; rw [← hw] at H0; clear hw; have H1 := H0; clear H0; have x0 := H1.out.first.c0; have x1 := H1.out.first.c1; have x2 := H1.out.first.c2; have x3 := H1.out.first.c3; have x4 := H1.out.first.c4; have x5 := H1.out.first.c5)
    | (go_at_call 7; refine (HMk.out _ _ _ H1.out.own.mx).mono ?_; rintro r2 w2 ⟨rfl, hm, hb⟩; have H2 := rhide (H1.out.but hm hb); clear hm hb H1 HMk x0 x1 x2 x3 x4 x5)
    | (go_at_call 20; refine (words_ok _ _ 1 0 M1 _ (by omega) (by omega) H2.out.own.mx.mem).mono ?_; rintro r3 w3 ⟨rfl, hw⟩; have H3 := rhide (show Qs w w3 _ _ _ _ _ by rw [hw]; exact H2.out.on (bal (Below.refl _ _) _)); have HD := vd_new H2.out c; rw [← hw] at HD; have H4 := rhide HD; have y0 := HD.words 0 (by omega); rw [v0] at y0; clear HD H2 hw; have x0 := H3.out.first.c0; have x1 := H3.out.first.c1; have x2 := H3.out.first.c2; have x3 := H3.out.first.c3; have x4 := H3.out.first.c4; have x5 := H3.out.first.c5)
    | fail)
  generalize w3.alloc _ = V at H4 ⊢
  generalize w3.heap.size = D at H4 ⊢
  generalize w2.heap.size = E at H4 ⊢
  clear H3
  clear y0 x0 x1 x2 x3 x4 x5 v0
  go_wp2
  go_loopw [8] (fun i wr => ∃ k : Nat, k ≤ 32 ∧ i = .int .i64 k ∧ wr = V) (fun i _ => 32 - (intOf i).toNat)
  case atStart => exact ⟨0, by omega, rfl, rfl⟩
  case round =>
    obtain ⟨k, hk, rfl, rfl⟩ := hrel
    by_cases hlt : k < 32
    · have hki : (k : Int) < 32 := by omega
      have hw4 : wrap64 (4 + (k : Int)) = 4 + (k : Int) := by unfold wrap64; omega
      have y1 := H4.out.words (4 + k) (by omega)
      rw [HV.out k hlt] at y1
      have h36 : (4 + (k : Int)) < 36 := by omega
      by_cases h6 : k < 6
      · have h6i : (k : Int) < 6 := by omega
        have y2 := H4.out.nums k h6
        have hb := wd_co HC.out h6
        have hu : IntKind.u64.wrap (wd c k) = wd c k := wrapu_small hb.1 hb.2
        rw [show c.ws[k]?.getD 0 = wd c k from rfl] at y1
        clear hb
        go_wp2
        go_roundw
        case rel => exact ⟨k + 1, by omega, by go_num, by first | rfl | trivial⟩
        case measure => simp [intOf]; omega
      · have h6i : ¬ (k : Int) < 6 := by omega
        rw [List.getElem?_eq_none (by rw [ws_len]; omega)] at y1
        simp only [Option.getD_none] at y1
        go_wp2
        go_roundw
        case rel => exact ⟨k + 1, by omega, by go_num, by first | rfl | trivial⟩
        case measure => simp [intOf]; omega
    · obtain rfl : k = 32 := by omega
      go_wp2_with (first
        | (go_at_call 18; refine (awake_any _ H4.out.tb).mono ?_; rintro r6 w6 ⟨rfl, hb⟩; have H5 : Hid (Below w.heap.size w w6) := H4.out.below.trans (hb.mono H4.out.below.size); clear hb)
        | fail)
      go_ret
      exact ⟨rfl, H5.out⟩
end Go.Proofs.YtikhbohkmogffaaDoor.Pcomp
