/- The walk of PgtblQuiet. -/
import Derived.Test.YtfmkhjbahgcgiaaDoorPgtL
import Derived.Test.YtfmkhjbahgcgiaaDoorBunPte
namespace Go.Proofs.YtfmkhjbahgcgiaaDoor.Ppgtbl
open Go.Proofs.YtfmkhjbahgcgiaaDoor.Pbase Go.Proofs.YtfmkhjbahgcgiaaDoor.Pmem Go.Proofs.YtfmkhjbahgcgiaaDoor.Pradix
open Go.RowKit
set_option linter.unusedVariables false

set_option maxRecDepth 100000 in
set_option maxHeartbeats 4000000 in
theorem quiet_walk (a0 a1 a2 a3 a4 : Int) (w : World) (hT : Tb w) :
    Calls Tryd.prog 3 #[.int .i64 a0, .int .i64 a1, .int .i64 a2, .int .i64 a3, .int .i64 a4] w fun e w' => e = .returned (.bool true) ∧ Below w.heap.size w w' := by
  have H0 := hide (own_new hT (N := 2) (by omega) (by omega))
  clear hT
  obtain ⟨M3, h3⟩ : ∃ M3, M3 = coM 2 (twoM 2) 0 0 1 0 := ⟨_, rfl⟩
  obtain ⟨M4, h4⟩ : ∃ M4, M4 = maM 2 M3 0 a0 a1 a2 0 := ⟨_, rfl⟩
  have E3 := hide h3
  have E4 := hide h4
  by_cases hp : maE 2 M3 0 a0 a1 a2 0 = 0
  case neg =>
    obtain ⟨E, hE⟩ : ∃ E, maE 2 M3 0 a0 a1 a2 0 = E := ⟨_, rfl⟩
    rw [hE] at hp
    have EP := hide hE
    have hp' : (E != 0) = true := by simp [hp]
    clear h3 h4 hp hE
    go_enter Tryd.func3, Tryd.ntmps3
    go_wp2_with (first
    | (go_at_call 5; refine (new_ok 2 _ (by omega) (by omega)).mono ?_; rintro r1 w1 ⟨rfl, hw⟩; rw [← hw] at H0; clear hw; generalize w.heap.size + 1 = p at H0 ⊢; obtain ⟨b, hb⟩ : ∃ b, b = w.heap.size := ⟨_, rfl⟩; have H1 : Hid (Own w w1 p b 2 fun _ _ => 0) := (by rw [hb]; exact H0.out); clear H0 hb)
    | (go_at_call 6; refine (make_any p b 2 0 0 _ _ H1.out.mx).mono ?_; rintro r2 w2 ⟨rfl, hm, hb⟩; have H2 := hide (H1.out.but hm hb); clear hm hb H1)
    | (go_at_call 6; refine (make_any p b 2 1 1 _ _ H2.out.mx).mono ?_; rintro r3 w3 ⟨rfl, hm, hb⟩; rw [two_eq] at hm; have H3 := hide (H2.out.but hm hb); clear hm hb H2)
    | (go_at_call 7; refine (cons_any p b 2 0 0 1 0 _ _ H3.out.mx).mono ?_; rintro r4 w4 ⟨rfl, hm, hb⟩; rw [← E3.out] at hm; have H4 := hide (H3.out.but hm hb); clear hm hb H3)
    | (go_at_call 8; refine (map_any p b 2 0 a0 a1 a2 0 _ _ H4.out.mx).mono ?_; rintro r5 w5 ⟨rfl, hm, hb⟩; rw [EP.out]; have H5 := hide (H4.out.but hm hb); clear hm hb H4)
    | (go_at_call 9; refine (awake_any _ H5.out.mx.tb).mono ?_; rintro r6 w6 ⟨rfl, hb⟩; have H6 := hide (H5.out.on hb); clear hb)
    | fail)
    go_ret
    exact ⟨rfl, H6.out.below⟩
  have EP := hide hp
  obtain ⟨l1, l2, l3, l4, l5, u1, u2, g1, n1, n2⟩ := quiet_all (now := a3) (floor := a4) h3 hp h4
  have L1 := hide l1
  have L2 := hide l2
  have L3 := hide l3
  have L4 := hide l4
  have L5 := hide l5
  have U1 := hide u1
  have U2 := hide u2
  have G1 := hide g1
  have G2 : Hid (maM 2 M4 0 a0 a1 a2 1073741824 = M4) := maM_no (by rw [g1]; decide)
  obtain ⟨M5, h5⟩ : ∃ M5, M5 = unM 2 M4 0 a0 a3 := ⟨_, rfl⟩
  have E5 := hide h5
  have hneq := Ppte.neqP true a1 a2 0
  have heql := Ppte.eqlP true a1 a2 0
  clear h3 h4 hp l1 l2 l3 l4 l5 u1 u2 g1
  cases ht : tiB a3
  case false =>
    rw [ht] at n1
    simp only [Bool.false_eq_true, if_false] at n1
    have N1 := hide n1
    have Z0 : Hid (unO 2 M4 0 a0 a3 = false) := (by simp [unO, ht] : unO 2 M4 0 a0 a3 = false)
    have Z1 : Hid (unF 2 M4 0 a0 a3 = 0) := (by simp [unF, ht] : unF 2 M4 0 a0 a3 = 0)
    have Z2 : Hid (unR 2 M4 0 a0 a3 = 0) := (by simp [unR, ht] : unR 2 M4 0 a0 a3 = 0)
    have Z3 : Hid (unT 2 M4 0 a0 a3 = 0) := (by simp [unT, ht] : unT 2 M4 0 a0 a3 = 0)
    have hto : a3 < 1 ∨ (¬ a3 < 1 ∧ 1073741824 < a3) := by
      have : ¬ (1 ≤ a3 ∧ a3 ≤ 1073741824) := fun h => by rw [(tiB_iff a3).2 h] at ht; cases ht
      omega
    clear n1 n2 ht h5
    go_enter Tryd.func3, Tryd.ntmps3
    go_upto_region 10 with (first
    | (go_at_call 5; refine (new_ok 2 _ (by omega) (by omega)).mono ?_; rintro r1 w1 ⟨rfl, hw⟩; rw [← hw] at H0; clear hw; generalize w.heap.size + 1 = p at H0 ⊢; obtain ⟨b, hb⟩ : ∃ b, b = w.heap.size := ⟨_, rfl⟩; have H1 : Hid (Own w w1 p b 2 fun _ _ => 0) := (by rw [hb]; exact H0.out); clear H0 hb)
    | (go_at_call 6; refine (make_any p b 2 0 0 _ _ H1.out.mx).mono ?_; rintro r2 w2 ⟨rfl, hm, hb⟩; have H2 := hide (H1.out.but hm hb); clear hm hb H1)
    | (go_at_call 6; refine (make_any p b 2 1 1 _ _ H2.out.mx).mono ?_; rintro r3 w3 ⟨rfl, hm, hb⟩; rw [two_eq] at hm; have H3 := hide (H2.out.but hm hb); clear hm hb H2)
    | (go_at_call 7; refine (cons_any p b 2 0 0 1 0 _ _ H3.out.mx).mono ?_; rintro r4 w4 ⟨rfl, hm, hb⟩; rw [← E3.out] at hm; have H4 := hide (H3.out.but hm hb); clear hm hb H3)
    | (go_at_call 8; refine (map_any p b 2 0 a0 a1 a2 0 _ _ H4.out.mx).mono ?_; rintro r5 w5 ⟨rfl, hm, hb⟩; rw [EP.out]; rw [← E4.out] at hm; have H5 := hide (H4.out.but hm hb); clear hm hb H4)
    | (go_at_call 10; refine (pwalk_any p b 2 0 a0 M4 _ H5.out.mx).mono ?_; rintro r6 w6 ⟨rfl, hb⟩; rw [L1.out, L2.out, L3.out, L4.out, L5.out]; have H6 := (qs_new (H5.out.on hb)).more true a1 a2 0 31; clear hb H5)
    | fail)
    generalize w6.alloc _ = w7 at H6 ⊢
    generalize w6.heap.size = D at H6 ⊢
    have H7 := hide H6
    clear H6
    go_upto_region 13 with (first
    | (go_at_call 11; refine (used_any p b 2 1 M4 _ H7.out.own.mx).mono ?_; rintro r8 w8 ⟨rfl, hb⟩; rw [U1.out, U2.out]; have H8 := hide (H7.out.on hb); clear hb H7)
    | (go_at_call 8; refine (map_any p b 2 0 a0 a1 a2 1073741824 M4 _ H8.out.own.mx).mono ?_; rintro r9 w9 ⟨rfl, hm, hb⟩; rw [G1.out]; rw [G2.out] at hm; have H9 := hide (H8.out.but hm hb); clear hm hb H8)
    | (go_at_call 12; refine (unmap_any p b 2 0 a0 a3 M4 _ H9.out.own.mx).mono ?_; rintro r10 w10 ⟨rfl, hm, hb⟩; rw [Z0.out, Z1.out, Z2.out, Z3.out, N1.out]; rw [← E5.out] at hm; have H10 := (H9.out.but hm hb).more false 0 0 0 31; clear hm hb H9)
    | fail)
    generalize w10.alloc _ = w11 at H10 ⊢
    generalize w10.heap.size = D' at H10 ⊢
    have H11 := hide H10
    clear H10
    have y0 := H11.out.second.c0
    have y1 := H11.out.second.c1
    have y2 := H11.out.second.c2
    have y3 := H11.out.second.c3
    rcases hto with h1 | ⟨h1, h2⟩
    all_goals
      go_wp2_with (first
        | (go_at_call 9; refine (awake_any _ H11.out.own.mx.tb).mono ?_; rintro r12 w12 ⟨rfl, hb⟩; have H12 := hide (H11.out.on hb); clear hb)
        | fail)
      go_ret
      exact ⟨rfl, H12.out.own.below⟩
  rw [ht] at n1
  simp only [if_true] at n1
  have N1 := hide n1
  obtain ⟨z0, z1, z2, z3, v1, v2⟩ := n2 ht
  have Z0 := hide z0
  have Z1 := hide z1
  have Z2 := hide z2
  have Z3 := hide z3
  rw [← h5] at v1 v2
  have V1 := hide v1
  have W0 : Hid (wkO 2 M5 0 a0 = false) := (by simp [wkO, v1] : wkO 2 M5 0 a0 = false)
  have W1 : Hid (wkF 2 M5 0 a0 = 0) := (by simp [wkF, v1] : wkF 2 M5 0 a0 = 0)
  have W2 : Hid (wkR 2 M5 0 a0 = 0) := (by simp [wkR, v1] : wkR 2 M5 0 a0 = 0)
  have W3 : Hid (wkT 2 M5 0 a0 = 0) := (by simp [wkT, v1] : wkT 2 M5 0 a0 = 0)
  obtain ⟨P, hP⟩ : ∃ P, maE 2 M5 0 a0 a1 a2 a4 = P := ⟨_, rfl⟩
  have EO := hide hP
  rw [hP] at v2
  have hcase : (a3 < a4 ∧ P = 0) ∨ (¬ a3 < a4 ∧ P = 6) := by
    by_cases hc : a3 < a4
    · rw [if_pos hc] at v2; exact .inl ⟨hc, v2⟩
    · rw [if_neg hc] at v2; exact .inr ⟨hc, v2⟩
  clear n1 n2 ht h5 z0 z1 z2 z3 v1 v2 hP
  go_enter Tryd.func3, Tryd.ntmps3
  go_upto_region 10 with (first
  | (go_at_call 5; refine (new_ok 2 _ (by omega) (by omega)).mono ?_; rintro r1 w1 ⟨rfl, hw⟩; rw [← hw] at H0; clear hw; generalize w.heap.size + 1 = p at H0 ⊢; obtain ⟨b, hb⟩ : ∃ b, b = w.heap.size := ⟨_, rfl⟩; have H1 : Hid (Own w w1 p b 2 fun _ _ => 0) := (by rw [hb]; exact H0.out); clear H0 hb)
  | (go_at_call 6; refine (make_any p b 2 0 0 _ _ H1.out.mx).mono ?_; rintro r2 w2 ⟨rfl, hm, hb⟩; have H2 := hide (H1.out.but hm hb); clear hm hb H1)
  | (go_at_call 6; refine (make_any p b 2 1 1 _ _ H2.out.mx).mono ?_; rintro r3 w3 ⟨rfl, hm, hb⟩; rw [two_eq] at hm; have H3 := hide (H2.out.but hm hb); clear hm hb H2)
  | (go_at_call 7; refine (cons_any p b 2 0 0 1 0 _ _ H3.out.mx).mono ?_; rintro r4 w4 ⟨rfl, hm, hb⟩; rw [← E3.out] at hm; have H4 := hide (H3.out.but hm hb); clear hm hb H3)
  | (go_at_call 8; refine (map_any p b 2 0 a0 a1 a2 0 _ _ H4.out.mx).mono ?_; rintro r5 w5 ⟨rfl, hm, hb⟩; rw [EP.out]; rw [← E4.out] at hm; have H5 := hide (H4.out.but hm hb); clear hm hb H4)
  | (go_at_call 10; refine (pwalk_any p b 2 0 a0 M4 _ H5.out.mx).mono ?_; rintro r6 w6 ⟨rfl, hb⟩; rw [L1.out, L2.out, L3.out, L4.out, L5.out]; have H6 := (qs_new (H5.out.on hb)).more true a1 a2 0 31; clear hb H5)
  | fail)
  generalize w6.alloc _ = w7 at H6 ⊢
  generalize w6.heap.size = D at H6 ⊢
  have H7 := hide H6
  clear H6
  go_upto_region 13 with (first
  | (go_at_call 11; refine (used_any p b 2 1 M4 _ H7.out.own.mx).mono ?_; rintro r8 w8 ⟨rfl, hb⟩; rw [U1.out, U2.out]; have H8 := hide (H7.out.on hb); clear hb H7)
  | (go_at_call 8; refine (map_any p b 2 0 a0 a1 a2 1073741824 M4 _ H8.out.own.mx).mono ?_; rintro r9 w9 ⟨rfl, hm, hb⟩; rw [G1.out]; rw [G2.out] at hm; have H9 := hide (H8.out.but hm hb); clear hm hb H8)
  | (go_at_call 12; refine (unmap_any p b 2 0 a0 a3 M4 _ H9.out.own.mx).mono ?_; rintro r10 w10 ⟨rfl, hm, hb⟩; rw [Z0.out, Z1.out, Z2.out, Z3.out, N1.out]; rw [← E5.out] at hm; have H10 := (H9.out.but hm hb).more true a1 a2 0 31; clear hm hb H9)
  | fail)
  generalize w10.alloc _ = w11 at H10 ⊢
  generalize w10.heap.size = D' at H10 ⊢
  have H11 := hide H10
  clear H10
  have y0 := H11.out.second.c0
  have y1 := H11.out.second.c1
  have y2 := H11.out.second.c2
  have y3 := H11.out.second.c3
  go_upto_region 18 with (first
    | (go_at_call 10; refine (pwalk_any p b 2 0 a0 M5 _ H11.out.own.mx).mono ?_; rintro r12 w12 ⟨rfl, hb⟩; rw [V1.out, W0.out, W1.out, W2.out, W3.out]; have H12 := (H11.out.on hb).more false 0 0 0 31; clear hb H11 y0 y1 y2 y3)
    | fail)
  generalize w12.alloc _ = w13 at H12 ⊢
  generalize w12.heap.size = D'' at H12 ⊢
  have H13 := hide H12
  clear H12
  go_upto_region 19 with (first
    | (go_at_call 8; refine (map_any p b 2 0 a0 a1 a2 a4 M5 _ H13.out.own.mx).mono ?_; rintro r14 w14 ⟨rfl, hm, hb⟩; rw [EO.out]; have H14 := hide (H13.out.but hm hb); clear hm hb H13)
    | fail)
  have x0 := H14.out.second.c0
  have x1 := H14.out.second.c1
  have x2 := H14.out.second.c2
  have x3 := H14.out.second.c3
  have y0 := H14.out.third.c0
  have y1 := H14.out.third.c1
  have y2 := H14.out.third.c2
  have y3 := H14.out.third.c3
  rcases hcase with ⟨hc, rfl⟩ | ⟨hc, rfl⟩
  · go_wp2_with (first
      | (go_at_call 9; refine (awake_any _ H14.out.own.mx.tb).mono ?_; rintro r15 w15 ⟨rfl, hb⟩; have H15 := hide (H14.out.on hb); clear hb)
      | fail)
    go_ret
    exact ⟨by simp, H15.out.own.below⟩
  · go_wp2_with (first
      | (go_at_call 9; refine (awake_any _ H14.out.own.mx.tb).mono ?_; rintro r15 w15 ⟨rfl, hb⟩; have H15 := hide (H14.out.on hb); clear hb)
      | fail)
    go_ret
    exact ⟨by simp [hc], H15.out.own.below⟩
end Go.Proofs.YtfmkhjbahgcgiaaDoor.Ppgtbl
