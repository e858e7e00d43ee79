/- The walk of CaptblQuiet. -/
import Derived.Test.YtgcaodfcodalfaaDoorCtbQ
namespace Go.Proofs.YtgcaodfcodalfaaDoor.Pcaptbl
open Go.Proofs.YtgcaodfcodalfaaDoor.Pbase Go.Proofs.YtgcaodfcodalfaaDoor.Pmem Go.Proofs.YtgcaodfcodalfaaDoor.Pradix Go.Proofs.YtgcaodfcodalfaaDoor.Pslot
open Go.RowKit
set_option linter.unusedVariables false

theorem bx_c {w : World} {D : Nat} {x : S6} (h : Bx w D x) : Pcap.Box6 w D x.1 x.2.1 x.2.2.1 x.2.2.2.1 x.2.2.2.2.1 x.2.2.2.2.2 := h
set_option maxRecDepth 100000 in
set_option maxHeartbeats 4000000 in
theorem quiet_walk (a0 : Int) (a1k a1r a1t a1l a1e a1c : Int) (a2k a2r a2t a2l a2e a2c : Int) (a3 : Int) (a4 : Int) (w : World) (ha : -9223372036854775808 ≤ a0 ∧ a0 ≤ 9223372036854775807) (hT : Tb w) :
    Calls Tryd.prog 3 #[.int .i64 a0, .agg #[.int .i64 a1k, .int .i64 a1r, .int .i64 a1t, .int .i64 a1l, .int .i64 a1e, .int .i64 a1c], .agg #[.int .i64 a2k, .int .i64 a2r, .int .i64 a2t, .int .i64 a2l, .int .i64 a2e, .int .i64 a2c], .int .i64 a3, .int .i64 a4] w fun e w' => e = .returned (.bool true) ∧ Below w.heap.size w w' := by
  have H0 := hide (qs_two hT (N := 3) (by omega) (by omega) a1k a1r a1t a1l a1e a1c a2k a2r a2t a2l a2e a2c)
  have HA := hide ha
  clear hT ha
  obtain ⟨M3, h3⟩ : ∃ M3, M3 = coM 3 (twoM 3) 0 0 1 0 := ⟨_, rfl⟩
  obtain ⟨M4, h4⟩ : ∃ M4, M4 = ptM 3 M3 0 a0 a1k a1r a1t a1l a1e a1c 0 := ⟨_, rfl⟩
  have E3 := hide h3
  have E4 := hide h4
  have t1 : True := trivial
  have t2 : True := trivial
  have t3 : True := trivial
  have t4 : True := trivial
  have t5 : True := trivial
  have t6 : True := trivial
  have t7 : True := trivial
  have t8 : True := trivial
  have t9 : True := trivial
  have t10 : True := trivial
  by_cases hp : ptE 3 M3 0 a0 a1k a1r a1t a1l a1e a1c 0 = 0
  case neg =>
    obtain ⟨E, hE⟩ : ∃ E, ptE 3 M3 0 a0 a1k a1r a1t a1l a1e a1c 0 = E := ⟨_, rfl⟩
    rw [hE] at hp
    have EP := hide hE
    have hp' : (E != 0) = true := by simp [hp]
    clear h3 h4 hp hE
    go_enter Tryd.func3, Tryd.ntmps3
    go_wp2_with (first
    | (go_at_call 6; clear t1; refine (new_ok 3 _ (by omega) (by omega)).mono ?_; rintro r1 w1 ⟨rfl, hw⟩; rw [← hw] at H0; clear hw; simp only [World.size_alloc]; generalize w.heap.size + 1 + 1 + 1 = p at H0 ⊢; obtain ⟨b, hb⟩ : ∃ b, b = w.heap.size + 1 + 1 := ⟨_, rfl⟩; rw [← hb] at H0; have H1 := H0; clear H0 hb)
    | (go_at_call 7; clear t2; refine (make_any p b 3 0 0 _ _ H1.out.own.mx).mono ?_; rintro r2 w2 ⟨rfl, hm, hb⟩; have H2 := hide (H1.out.but hm hb); clear hm hb H1)
    | (go_at_call 7; clear t3; refine (make_any p b 3 1 1 _ _ H2.out.own.mx).mono ?_; rintro r3 w3 ⟨rfl, hm, hb⟩; rw [two_eq] at hm; have H3 := hide (H2.out.but hm hb); clear hm hb H2)
    | (go_at_call 8; clear t4; refine (cons_any p b 3 0 0 1 0 _ _ H3.out.own.mx).mono ?_; rintro r4 w4 ⟨rfl, hm, hb⟩; rw [← E3.out] at hm; have H4 := hide (H3.out.but hm hb); clear hm hb H3; have x0 := H4.out.first.c0; have x1 := H4.out.first.c1; have x2 := H4.out.first.c2; have x3 := H4.out.first.c3; have x4 := H4.out.first.c4; have x5 := H4.out.first.c5)
    | (go_at_call 9; clear t5; refine (cput_any p b 3 0 a0 a1k a1r a1t a1l a1e a1c 0 _ _ H4.out.own.mx HA.out).mono ?_; rintro r5 w5 ⟨rfl, hm, hb⟩; rw [EP.out]; rw [← E4.out] at hm; have H5 := hide (H4.out.but hm hb); clear hm hb H4 x0 x1 x2 x3 x4 x5; have x0 := H5.out.first.c0; have x1 := H5.out.first.c1; have x2 := H5.out.first.c2; have x3 := H5.out.first.c3; have x4 := H5.out.first.c4; have x5 := H5.out.first.c5)
    | (go_at_call 10; refine (awake_any _ H5.out.own.mx.tb).mono ?_; rintro r9 w9 ⟨rfl, hb⟩; have H9 := hide (H5.out.on hb); clear hb)
    | fail)
    go_ret
    exact ⟨rfl, H9.out.own.below⟩
  have EP := hide hp
  obtain ⟨M5, h5⟩ : ∃ M5, M5 = drM 3 M4 0 a0 a3 := ⟨_, rfl⟩
  obtain ⟨M6, h6⟩ : ∃ M6, M6 = ptM 3 M5 0 a0 a1k a1r a1t a1l a1e a1c a4 := ⟨_, rfl⟩
  obtain ⟨M7, h7⟩ : ∃ M7, M7 = frM 3 M6 1 a3 := ⟨_, rfl⟩
  obtain ⟨hb, l1, l2, l3, d1, d2⟩ := quiet_all (now := a3) (floor := a4) (M5 := M5) (M6 := M6) (M7 := M7) h3 hp h4
  have E5 := hide h5
  have E6 := hide h6
  have E7 := hide h7
  have EL := hide l1
  have C0 : Hid (lkC 3 M4 0 a0 0 = a1k) := l2 0 (by omega)
  have C1 : Hid (lkC 3 M4 0 a0 1 = a1r) := l2 1 (by omega)
  have C2 : Hid (lkC 3 M4 0 a0 2 = a1t) := l2 2 (by omega)
  have C3 : Hid (lkC 3 M4 0 a0 3 = a1l) := l2 3 (by omega)
  have C4 : Hid (lkC 3 M4 0 a0 4 = a1e) := l2 4 (by omega)
  have C5 : Hid (lkC 3 M4 0 a0 5 = a1c) := l2 5 (by omega)
  have EQ := hide (l3 a2k a2r a2t a2l a2e a2c 99)
  obtain ⟨Q, hQ⟩ : ∃ Q, ptE 3 M4 0 a0 a2k a2r a2t a2l a2e a2c 99 = Q := ⟨_, rfl⟩
  have EQ7 := hide hQ
  have hq : (Q == 0) = false := by have := EQ.out; rw [hQ] at this; simp [this]
  have hneq := neqC a1k a1r a1t a1l a1e a1c
  have heql := eqlC a1k a1r a1t a1l a1e a1c
  clear h3 h4 hp l1 l2 l3 hQ
  cases ht : tiB a3
  case false =>
    rw [ht] at d1
    simp only [Bool.false_eq_true, if_false] at d1
    have ED := hide d1
    have dz : ∀ j, drC 3 M4 0 a0 a3 j = 0 := fun j => by simp [drC, d1]
    have Z0 := hide (dz 0)
    have Z1 := hide (dz 1)
    have Z2 := hide (dz 2)
    have Z3 := hide (dz 3)
    have Z4 := hide (dz 4)
    have Z5 := hide (dz 5)
    have hto : a3 < 1 ∨ (¬ a3 < 1 ∧ 1073741824 < a3) := by
      have : ¬ (1 ≤ a3 ∧ a3 ≤ 1073741824) := fun h => by rw [(tiB_iff a3).2 h] at ht; cases ht
      omega
    clear d1 d2 dz ht h5 h6 h7
    go_enter Tryd.func3, Tryd.ntmps3
    go_upto_region 10 with (first
    | (go_at_call 6; clear t1; refine (new_ok 3 _ (by omega) (by omega)).mono ?_; rintro r1 w1 ⟨rfl, hw⟩; rw [← hw] at H0; clear hw; simp only [World.size_alloc]; generalize w.heap.size + 1 + 1 + 1 = p at H0 ⊢; obtain ⟨b, hb⟩ : ∃ b, b = w.heap.size + 1 + 1 := ⟨_, rfl⟩; rw [← hb] at H0; have H1 := H0; clear H0 hb)
    | (go_at_call 7; clear t2; refine (make_any p b 3 0 0 _ _ H1.out.own.mx).mono ?_; rintro r2 w2 ⟨rfl, hm, hb⟩; have H2 := hide (H1.out.but hm hb); clear hm hb H1)
    | (go_at_call 7; clear t3; refine (make_any p b 3 1 1 _ _ H2.out.own.mx).mono ?_; rintro r3 w3 ⟨rfl, hm, hb⟩; rw [two_eq] at hm; have H3 := hide (H2.out.but hm hb); clear hm hb H2)
    | (go_at_call 8; clear t4; refine (cons_any p b 3 0 0 1 0 _ _ H3.out.own.mx).mono ?_; rintro r4 w4 ⟨rfl, hm, hb⟩; rw [← E3.out] at hm; have H4 := hide (H3.out.but hm hb); clear hm hb H3; have x0 := H4.out.first.c0; have x1 := H4.out.first.c1; have x2 := H4.out.first.c2; have x3 := H4.out.first.c3; have x4 := H4.out.first.c4; have x5 := H4.out.first.c5)
    | (go_at_call 9; clear t5; refine (cput_any p b 3 0 a0 a1k a1r a1t a1l a1e a1c 0 _ _ H4.out.own.mx HA.out).mono ?_; rintro r5 w5 ⟨rfl, hm, hb⟩; rw [EP.out]; rw [← E4.out] at hm; have H5 := hide (H4.out.but hm hb); clear hm hb H4 x0 x1 x2 x3 x4 x5; have x0 := H5.out.first.c0; have x1 := H5.out.first.c1; have x2 := H5.out.first.c2; have x3 := H5.out.first.c3; have x4 := H5.out.first.c4; have x5 := H5.out.first.c5)
    | (go_at_call 11; clear t6; refine (clook_any p b 3 0 a0 M4 _ H5.out.own.mx HA.out).mono ?_; rintro r6 w6 ⟨rfl, hb⟩; rw [C0.out, C1.out, C2.out, C3.out, C4.out, C5.out, EL.out]; have H6 := hide (H5.out.on hb); clear hb H5 x0 x1 x2 x3 x4 x5)
    | fail)
    have HL := H6.out.more a1k a1r a1t a1l a1e a1c 23
    clear H6
    generalize w6.alloc _ = w7 at HL ⊢
    generalize w6.heap.size = D at HL ⊢
    have H7 := hide HL
    clear HL
    have y0 := H7.out.first.c0
    have y1 := H7.out.first.c1
    have y2 := H7.out.first.c2
    have y3 := H7.out.first.c3
    have y4 := H7.out.first.c4
    have y5 := H7.out.first.c5
    have x0 := H7.out.second.c0
    have x1 := H7.out.second.c1
    have x2 := H7.out.second.c2
    have x3 := H7.out.second.c3
    have x4 := H7.out.second.c4
    have x5 := H7.out.second.c5
    have z0 := H7.out.third.c0
    have z1 := H7.out.third.c1
    have z2 := H7.out.third.c2
    have z3 := H7.out.third.c3
    have z4 := H7.out.third.c4
    have z5 := H7.out.third.c5
    go_upto_region 13 with (first
      | (go_at_call 9; clear t7; refine (cput_any p b 3 0 a0 a2k a2r a2t a2l a2e a2c 99 M4 _ H7.out.own.mx HA.out).mono ?_; rintro r7 w8 ⟨rfl, hm, hb⟩; rw [ptM_no EQ.out] at hm; rw [EQ7.out]; have H8 := hide (H7.out.but hm hb); clear hm hb H7 x0 x1 x2 x3 x4 x5 y0 y1 y2 y3 y4 y5 z0 z1 z2 z3 z4 z5)
      | (go_at_call 12; clear t8; refine (drop_any p b 3 0 a0 a3 M4 _ H8.out.own.mx HA.out).mono ?_; rintro r8 w9 ⟨rfl, hm, hb⟩; rw [Z0.out, Z1.out, Z2.out, Z3.out, Z4.out, Z5.out, ED.out]; rw [← E5.out] at hm; have H9 := hide (H8.out.but hm hb); clear hm hb H8)
      | fail)
    have HL := H9.out.more 0 0 0 0 0 0 23
    clear H9
    generalize w9.alloc _ = w10 at HL ⊢
    generalize w9.heap.size = D2 at HL ⊢
    have H10 := hide HL
    clear HL
    rcases hto with h1 | ⟨h1, h2⟩
    · go_wp2_with (first
        | (go_at_call 10; refine (awake_any _ H10.out.own.mx.tb).mono ?_; rintro r19 w19 ⟨rfl, hb⟩; have H19 := hide (H10.out.on hb); clear hb)
        | fail)
      go_ret
      exact ⟨rfl, H19.out.own.below⟩
    · go_wp2_with (first
        | (go_at_call 10; refine (awake_any _ H10.out.own.mx.tb).mono ?_; rintro r19 w19 ⟨rfl, hb⟩; have H19 := hide (H10.out.on hb); clear hb)
        | fail)
      go_ret
      exact ⟨rfl, H19.out.own.below⟩
  rw [ht] at d1
  simp only [if_true] at d1
  have ED := hide d1
  obtain ⟨d2, d3⟩ := d2 ht
  have Z0 : Hid (drC 3 M4 0 a0 a3 0 = a1k) := d2 0 (by omega)
  have Z1 : Hid (drC 3 M4 0 a0 a3 1 = a1r) := d2 1 (by omega)
  have Z2 : Hid (drC 3 M4 0 a0 a3 2 = a1t) := d2 2 (by omega)
  have Z3 : Hid (drC 3 M4 0 a0 a3 3 = a1l) := d2 3 (by omega)
  have Z4 : Hid (drC 3 M4 0 a0 a3 4 = a1e) := d2 4 (by omega)
  have Z5 : Hid (drC 3 M4 0 a0 a3 5 = a1c) := d2 5 (by omega)
  obtain ⟨f1, f2, f3⟩ := d3 h5
  have EF := hide f1
  have cz : ∀ j, lkC 3 M5 0 a0 j = 0 := fun j => by simp [lkC, f1]
  have K0 := hide (cz 0)
  have K1 := hide (cz 1)
  have K2 := hide (cz 2)
  have K3 := hide (cz 3)
  have K4 := hide (cz 4)
  have K5 := hide (cz 5)
  obtain ⟨g1, g2⟩ := f3 h6
  have EG := hide g1
  obtain ⟨u1, u2⟩ := g2 h7
  have EUN := hide u1
  obtain ⟨U, hU⟩ : ∃ U, drE 3 M7 0 a0 a3 = U := ⟨_, rfl⟩
  have EU := hide hU
  have uz : ∀ j, drC 3 M7 0 a0 a3 j = 0 := fun j => by simp [drC, u1]
  rw [hU] at u1
  have hu : (U != 0) = true := by simp [u1]
  have V0 := hide (uz 0)
  have V1 := hide (uz 1)
  have V2 := hide (uz 2)
  have V3 := hide (uz 3)
  have V4 := hide (uz 4)
  have V5 := hide (uz 5)
  obtain ⟨R, hR⟩ : ∃ R, (a0 + 1).tmod 16 = R := ⟨_, rfl⟩
  have hR2 : 0 ≤ R ∧ R ≤ 15 := by
    rw [← hR, Int.tmod_eq_emod_of_nonneg (by omega)]
    omega
  have hw : wrap64 (a0 + 1) = a0 + 1 := by unfold wrap64; omega
  have ER := hide hR2
  have ES := hide (u2 R 1073741824 hR2)
  obtain ⟨P, hP⟩ : ∃ P, ptE 3 M5 0 a0 a1k a1r a1t a1l a1e a1c a4 = P := ⟨_, rfl⟩
  rw [hP] at f2
  have EO := hide hP
  have hcase : (a3 < a4 ∧ P = 0) ∨ (¬ a3 < a4 ∧ P = 6) := by
    by_cases hc : a3 < a4
    · rw [if_pos hc] at f2; exact .inl ⟨hc, f2⟩
    · rw [if_neg hc] at f2; exact .inr ⟨hc, f2⟩
  clear d1 d2 d3 ht h5 h6 h7 f1 f2 f3 cz g1 g2 u1 u2 uz hU hR2 hP hb
  have t11 : True := trivial
  have t12 : True := trivial
  go_enter Tryd.func3, Tryd.ntmps3
  go_upto_region 10 with (first
  | (go_at_call 6; clear t1; refine (new_ok 3 _ (by omega) (by omega)).mono ?_; rintro r1 w1 ⟨rfl, hw⟩; rw [← hw] at H0; clear hw; simp only [World.size_alloc]; generalize w.heap.size + 1 + 1 + 1 = p at H0 ⊢; obtain ⟨b, hb⟩ : ∃ b, b = w.heap.size + 1 + 1 := ⟨_, rfl⟩; rw [← hb] at H0; have H1 := H0; clear H0 hb)
    | (go_at_call 7; clear t2; refine (make_any p b 3 0 0 _ _ H1.out.own.mx).mono ?_; rintro r2 w2 ⟨rfl, hm, hb⟩; have H2 := hide (H1.out.but hm hb); clear hm hb H1)
    | (go_at_call 7; clear t3; refine (make_any p b 3 1 1 _ _ H2.out.own.mx).mono ?_; rintro r3 w3 ⟨rfl, hm, hb⟩; rw [two_eq] at hm; have H3 := hide (H2.out.but hm hb); clear hm hb H2)
    | (go_at_call 8; clear t4; refine (cons_any p b 3 0 0 1 0 _ _ H3.out.own.mx).mono ?_; rintro r4 w4 ⟨rfl, hm, hb⟩; rw [← E3.out] at hm; have H4 := hide (H3.out.but hm hb); clear hm hb H3; have x0 := H4.out.first.c0; have x1 := H4.out.first.c1; have x2 := H4.out.first.c2; have x3 := H4.out.first.c3; have x4 := H4.out.first.c4; have x5 := H4.out.first.c5)
    | (go_at_call 9; clear t5; refine (cput_any p b 3 0 a0 a1k a1r a1t a1l a1e a1c 0 _ _ H4.out.own.mx HA.out).mono ?_; rintro r5 w5 ⟨rfl, hm, hb⟩; rw [EP.out]; rw [← E4.out] at hm; have H5 := hide (H4.out.but hm hb); clear hm hb H4 x0 x1 x2 x3 x4 x5; have x0 := H5.out.first.c0; have x1 := H5.out.first.c1; have x2 := H5.out.first.c2; have x3 := H5.out.first.c3; have x4 := H5.out.first.c4; have x5 := H5.out.first.c5)
  | (go_at_call 11; clear t6; refine (clook_any p b 3 0 a0 M4 _ H5.out.own.mx HA.out).mono ?_; rintro r6 w6 ⟨rfl, hb⟩; rw [C0.out, C1.out, C2.out, C3.out, C4.out, C5.out, EL.out]; have H6 := hide (H5.out.on hb); clear hb H5 x0 x1 x2 x3 x4 x5)
  | fail)
  have HL := H6.out.more a1k a1r a1t a1l a1e a1c 23
  clear H6
  generalize w6.alloc _ = w7 at HL ⊢
  generalize w6.heap.size = D at HL ⊢
  have H7 := hide HL
  clear HL
  have y0 := H7.out.first.c0
  have y1 := H7.out.first.c1
  have y2 := H7.out.first.c2
  have y3 := H7.out.first.c3
  have y4 := H7.out.first.c4
  have y5 := H7.out.first.c5
  have x0 := H7.out.second.c0
  have x1 := H7.out.second.c1
  have x2 := H7.out.second.c2
  have x3 := H7.out.second.c3
  have x4 := H7.out.second.c4
  have x5 := H7.out.second.c5
  have z0 := H7.out.third.c0
  have z1 := H7.out.third.c1
  have z2 := H7.out.third.c2
  have z3 := H7.out.third.c3
  have z4 := H7.out.third.c4
  have z5 := H7.out.third.c5
  go_upto_region 13 with (first
    | (go_at_call 9; clear t7; refine (cput_any p b 3 0 a0 a2k a2r a2t a2l a2e a2c 99 M4 _ H7.out.own.mx HA.out).mono ?_; rintro r7 w8 ⟨rfl, hm, hb⟩; rw [ptM_no EQ.out] at hm; rw [EQ7.out]; have H8 := hide (H7.out.but hm hb); clear hm hb H7 x0 x1 x2 x3 x4 x5 y0 y1 y2 y3 y4 y5 z0 z1 z2 z3 z4 z5)
    | (go_at_call 12; clear t8; refine (drop_any p b 3 0 a0 a3 M4 _ H8.out.own.mx HA.out).mono ?_; rintro r8 w9 ⟨rfl, hm, hb⟩; rw [Z0.out, Z1.out, Z2.out, Z3.out, Z4.out, Z5.out, ED.out]; rw [← E5.out] at hm; have H9 := hide (H8.out.but hm hb); clear hm hb H8)
    | fail)
  have HL := H9.out.more a1k a1r a1t a1l a1e a1c 23
  clear H9
  generalize w9.alloc _ = w10 at HL ⊢
  generalize w9.heap.size = D2 at HL ⊢
  have H10 := hide HL
  clear HL
  go_upto_region 16 with (first
    | (go_at_call 11; clear t9; refine (clook_any p b 3 0 a0 M5 _ H10.out.own.mx HA.out).mono ?_; rintro r10 w11 ⟨rfl, hb⟩; rw [K0.out, K1.out, K2.out, K3.out, K4.out, K5.out, EF.out]; have H11 := hide (H10.out.on hb); clear hb H10)
    | fail)
  have HL := (H11.out.on (bal (Below.refl _ _) (.cells #[.int .i64 0, .int .i64 0, .int .i64 0, .int .i64 0, .int .i64 0, .int .i64 0] 23)))
  clear H11
  generalize w11.alloc _ = w12 at HL ⊢
  generalize w11.heap.size = D3
  have H12 := hide HL
  clear HL
  have x0 := H12.out.third.c0
  have x1 := H12.out.third.c1
  have x2 := H12.out.third.c2
  have x3 := H12.out.third.c3
  have x4 := H12.out.third.c4
  have x5 := H12.out.third.c5
  go_upto_region 19 with (first
    | (go_at_call 9; clear t10; refine (cput_any p b 3 0 a0 a1k a1r a1t a1l a1e a1c a4 M5 _ H12.out.own.mx HA.out).mono ?_; rintro r11 w13 ⟨rfl, hm, hb⟩; rw [EO.out]; rw [← E6.out] at hm; have H13 := hide (H12.out.but hm hb); clear hm hb H12 x0 x1 x2 x3 x4 x5)
    | (go_at_call 13; refine (freeze_any p b 3 1 a3 M6 _ H13.out.own.mx).mono ?_; rintro r12 w14 ⟨rfl, hm, hb⟩; rw [EG.out]; rw [← E7.out] at hm; have H14 := hide (H13.out.but hm hb); clear hm hb H13)
    | (go_at_call 12; clear t11; refine (drop_any p b 3 0 a0 a3 M7 _ H14.out.own.mx HA.out).mono ?_; rintro r13 w15 ⟨rfl, hm, hb⟩; rw [V0.out, V1.out, V2.out, V3.out, V4.out, V5.out, EU.out]; rw [drM_no EUN.out] at hm; have H15 := hide (H14.out.but hm hb); clear hm hb H14)
    | fail)
  have HL := (H15.out.on (bal (Below.refl _ _) (.cells #[.int .i64 0, .int .i64 0, .int .i64 0, .int .i64 0, .int .i64 0, .int .i64 0] 23)))
  clear H15
  generalize w15.alloc _ = w16 at HL ⊢
  generalize w15.heap.size = D4
  have H16 := hide HL
  clear HL
  have y0 := H16.out.first.c0
  have y1 := H16.out.first.c1
  have y2 := H16.out.first.c2
  have y3 := H16.out.first.c3
  have y4 := H16.out.first.c4
  have y5 := H16.out.first.c5
  have x0 := H16.out.third.c0
  have x1 := H16.out.third.c1
  have x2 := H16.out.third.c2
  have x3 := H16.out.third.c3
  have x4 := H16.out.third.c4
  have x5 := H16.out.third.c5
  rcases hcase with ⟨hc, rfl⟩ | ⟨hc, rfl⟩
  · go_wp2_with (first
      | (go_at_call 9; clear t12; refine (cput_any p b 3 0 R a1k a1r a1t a1l a1e a1c 1073741824 M7 _ H16.out.own.mx (by have := ER.out; omega)).mono ?_; rintro r16 w17 ⟨rfl, hm, hb⟩; rw [ES.out]; have H17 := hide (H16.out.but hm hb); clear hm hb H16 x0 x1 x2 x3 x4 x5 y0 y1 y2 y3 y4 y5; have y0 := H17.out.first.c0; have y1 := H17.out.first.c1; have y2 := H17.out.first.c2; have y3 := H17.out.first.c3; have y4 := H17.out.first.c4; have y5 := H17.out.first.c5; have x0 := H17.out.third.c0; have x1 := H17.out.third.c1; have x2 := H17.out.third.c2; have x3 := H17.out.third.c3; have x4 := H17.out.third.c4; have x5 := H17.out.third.c5)
      | (go_at_call 10; refine (awake_any _ H17.out.own.mx.tb).mono ?_; rintro r19 w19 ⟨rfl, hb⟩; have H19 := hide (H17.out.on hb); clear hb)
      | fail)
    go_ret
    exact ⟨rfl, H19.out.own.below⟩
  · go_wp2_with (first
      | (go_at_call 9; clear t12; refine (cput_any p b 3 0 R a1k a1r a1t a1l a1e a1c 1073741824 M7 _ H16.out.own.mx (by have := ER.out; omega)).mono ?_; rintro r16 w17 ⟨rfl, hm, hb⟩; rw [ES.out]; have H17 := hide (H16.out.but hm hb); clear hm hb H16 x0 x1 x2 x3 x4 x5 y0 y1 y2 y3 y4 y5; have y0 := H17.out.first.c0; have y1 := H17.out.first.c1; have y2 := H17.out.first.c2; have y3 := H17.out.first.c3; have y4 := H17.out.first.c4; have y5 := H17.out.first.c5; have x0 := H17.out.third.c0; have x1 := H17.out.third.c1; have x2 := H17.out.third.c2; have x3 := H17.out.third.c3; have x4 := H17.out.third.c4; have x5 := H17.out.third.c5)
      | (go_at_call 10; refine (awake_any _ H17.out.own.mx.tb).mono ?_; rintro r19 w19 ⟨rfl, hb⟩; have H19 := hide (H17.out.on hb); clear hb)
      | fail)
    go_ret
    exact ⟨by simp [hc], H19.out.own.below⟩
end Go.Proofs.YtgcaodfcodalfaaDoor.Pcaptbl
