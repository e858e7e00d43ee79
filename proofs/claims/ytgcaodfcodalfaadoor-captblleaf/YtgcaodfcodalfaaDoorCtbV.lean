/- The walk of CaptblLeaf. -/
import Derived.Test.YtgcaodfcodalfaaDoorCtbQ
namespace Go.Proofs.YtgcaodfcodalfaaDoor.Pcaptbl
open Go.Proofs.YtgcaodfcodalfaaDoor.Pbase Go.Proofs.YtgcaodfcodalfaaDoor.Pmem Go.Proofs.YtgcaodfcodalfaaDoor.Pradix Go.Proofs.YtgcaodfcodalfaaDoor.Pslot
open Go.RowKit
set_option linter.unusedVariables false

theorem qs_one {w : World} (h : Tb w) {N : Nat} (h1 : 1 ≤ N) (h2 : N ≤ 64) (k r t l e c : Int) : Qs w (newW (w.alloc (.cells #[.int .i64 k, .int .i64 r, .int .i64 t, .int .i64 l, .int .i64 e, .int .i64 c] 23)) N) (w.heap.size + 1 + 1) (w.heap.size + 1) N (fun _ _ => 0) [(w.heap.size, (k, r, t, l, e, c))] := by
  have hb := bal (Below.refl w.heap.size w) (.cells #[.int .i64 k, .int .i64 r, .int .i64 t, .int .i64 l, .int .i64 e, .int .i64 c] 23)
  have h0 := own_new (h.on hb) h1 h2
  have hs : (w.alloc (.cells #[.int .i64 k, .int .i64 r, .int .i64 t, .int .i64 l, .int .i64 e, .int .i64 c] 23)).heap.size = w.heap.size + 1 := by simp
  have hl := h0.lo
  rw [hs] at h0 hl
  refine ⟨⟨h0.mx, hb.trans (h0.below.mono (by rw [hs]; omega)), by omega⟩, fun q hq => ?_⟩
  rcases List.mem_cons.1 hq with rfl | hq
  · exact ⟨(Pcap.box6_new w k r t l e c 23).on h0.below, by show w.heap.size ≠ _; omega⟩
  · cases hq
set_option maxRecDepth 100000 in
set_option maxHeartbeats 4000000 in
theorem leaf_walk (a0 a1 : Int) (a2k a2r a2t a2l a2e a2c : Int) (a3 a4 : Int) (w : World) (hT : Tb w) :
    Calls Tryd.prog 4 #[.int .i64 a0, .int .i64 a1, .agg #[.int .i64 a2k, .int .i64 a2r, .int .i64 a2t, .int .i64 a2l, .int .i64 a2e, .int .i64 a2c], .int .i64 a3, .int .i64 a4] w fun e w' => e = .returned (.bool true) ∧ Below w.heap.size w w' := by
  have H0 := hide (qs_one hT (N := 3) (by omega) (by omega) a2k a2r a2t a2l a2e a2c)
  clear hT
  have t1 : True := trivial
  have t2 : True := trivial
  have t3 : True := trivial
  have t4 : True := trivial
  have t5 : True := trivial
  have t6 : True := trivial
  have t7 : True := trivial
  by_cases b1 : a0 < 0
  case pos =>
    go_enter Tryd.func4, Tryd.ntmps4
    go_wp2_with (first
    | (go_at_call 6; clear t1; refine (new_ok 3 _ (by omega) (by omega)).mono ?_; rintro r1 w1 ⟨rfl, hw⟩; rw [← hw] at H0; clear hw; simp only [World.size_alloc]; generalize w.heap.size + 1 + 1 = p at H0 ⊢; obtain ⟨b, hb⟩ : ∃ b, b = w.heap.size + 1 := ⟨_, rfl⟩; rw [← hb] at H0; have H1 := H0; clear H0 hb)
    | (go_at_call 10; refine (awake_any _ H1.out.own.mx.tb).mono ?_; rintro r19 w19 ⟨rfl, hb⟩; have H19 := hide (H1.out.on hb); clear hb)
    | fail)
    go_ret
    exact ⟨rfl, H19.out.own.below⟩
  by_cases b2 : 15 < a0
  case pos =>
    go_enter Tryd.func4, Tryd.ntmps4
    go_wp2_with (first
    | (go_at_call 6; clear t1; refine (new_ok 3 _ (by omega) (by omega)).mono ?_; rintro r1 w1 ⟨rfl, hw⟩; rw [← hw] at H0; clear hw; simp only [World.size_alloc]; generalize w.heap.size + 1 + 1 = p at H0 ⊢; obtain ⟨b, hb⟩ : ∃ b, b = w.heap.size + 1 := ⟨_, rfl⟩; rw [← hb] at H0; have H1 := H0; clear H0 hb)
    | (go_at_call 10; refine (awake_any _ H1.out.own.mx.tb).mono ?_; rintro r19 w19 ⟨rfl, hb⟩; have H19 := hide (H1.out.on hb); clear hb)
    | fail)
    go_ret
    exact ⟨rfl, H19.out.own.below⟩
  by_cases b3 : a1 < 0
  case pos =>
    go_enter Tryd.func4, Tryd.ntmps4
    go_wp2_with (first
    | (go_at_call 6; clear t1; refine (new_ok 3 _ (by omega) (by omega)).mono ?_; rintro r1 w1 ⟨rfl, hw⟩; rw [← hw] at H0; clear hw; simp only [World.size_alloc]; generalize w.heap.size + 1 + 1 = p at H0 ⊢; obtain ⟨b, hb⟩ : ∃ b, b = w.heap.size + 1 := ⟨_, rfl⟩; rw [← hb] at H0; have H1 := H0; clear H0 hb)
    | (go_at_call 10; refine (awake_any _ H1.out.own.mx.tb).mono ?_; rintro r19 w19 ⟨rfl, hb⟩; have H19 := hide (H1.out.on hb); clear hb)
    | fail)
    go_ret
    exact ⟨rfl, H19.out.own.below⟩
  by_cases b4 : 15 < a1
  case pos =>
    go_enter Tryd.func4, Tryd.ntmps4
    go_wp2_with (first
    | (go_at_call 6; clear t1; refine (new_ok 3 _ (by omega) (by omega)).mono ?_; rintro r1 w1 ⟨rfl, hw⟩; rw [← hw] at H0; clear hw; simp only [World.size_alloc]; generalize w.heap.size + 1 + 1 = p at H0 ⊢; obtain ⟨b, hb⟩ : ∃ b, b = w.heap.size + 1 := ⟨_, rfl⟩; rw [← hb] at H0; have H1 := H0; clear H0 hb)
    | (go_at_call 10; refine (awake_any _ H1.out.own.mx.tb).mono ?_; rintro r19 w19 ⟨rfl, hb⟩; have H19 := hide (H1.out.on hb); clear hb)
    | fail)
    go_ret
    exact ⟨rfl, H19.out.own.below⟩
  by_cases b5 : a3 < 1
  case pos =>
    go_enter Tryd.func4, Tryd.ntmps4
    go_wp2_with (first
    | (go_at_call 6; clear t1; refine (new_ok 3 _ (by omega) (by omega)).mono ?_; rintro r1 w1 ⟨rfl, hw⟩; rw [← hw] at H0; clear hw; simp only [World.size_alloc]; generalize w.heap.size + 1 + 1 = p at H0 ⊢; obtain ⟨b, hb⟩ : ∃ b, b = w.heap.size + 1 := ⟨_, rfl⟩; rw [← hb] at H0; have H1 := H0; clear H0 hb)
    | (go_at_call 10; refine (awake_any _ H1.out.own.mx.tb).mono ?_; rintro r19 w19 ⟨rfl, hb⟩; have H19 := hide (H1.out.on hb); clear hb)
    | fail)
    go_ret
    exact ⟨rfl, H19.out.own.below⟩
  by_cases b6 : 1073741824 < a3
  case pos =>
    go_enter Tryd.func4, Tryd.ntmps4
    go_wp2_with (first
    | (go_at_call 6; clear t1; refine (new_ok 3 _ (by omega) (by omega)).mono ?_; rintro r1 w1 ⟨rfl, hw⟩; rw [← hw] at H0; clear hw; simp only [World.size_alloc]; generalize w.heap.size + 1 + 1 = p at H0 ⊢; obtain ⟨b, hb⟩ : ∃ b, b = w.heap.size + 1 := ⟨_, rfl⟩; rw [← hb] at H0; have H1 := H0; clear H0 hb)
    | (go_at_call 10; refine (awake_any _ H1.out.own.mx.tb).mono ?_; rintro r19 w19 ⟨rfl, hb⟩; have H19 := hide (H1.out.on hb); clear hb)
    | fail)
    go_ret
    exact ⟨rfl, H19.out.own.below⟩
  have hti : tiB a3 = true := (tiB_iff a3).2 ⟨by omega, by omega⟩
  have HA : Hid (-9223372036854775808 ≤ 16 * a0 + a1 ∧ 16 * a0 + a1 ≤ 9223372036854775807) := (by omega : -9223372036854775808 ≤ 16 * a0 + a1 ∧ 16 * a0 + a1 ≤ 9223372036854775807)
  have s1 : wrap64 (16 * a0) = 16 * a0 := by unfold wrap64; omega
  have s2 : wrap64 (16 * a0 + a1) = 16 * a0 + a1 := by unfold wrap64; omega
  obtain ⟨M3, h3⟩ : ∃ M3, M3 = coM 3 (twoM 3) 0 a0 1 0 := ⟨_, rfl⟩
  obtain ⟨M4, h4⟩ : ∃ M4, M4 = ptM 3 M3 0 (16 * a0 + a1) a2k a2r a2t a2l a2e a2c 0 := ⟨_, rfl⟩
  obtain ⟨M5, h5⟩ : ∃ M5, M5 = frM 3 M4 1 a3 := ⟨_, rfl⟩
  have E3 := hide h3
  have E4 := hide h4
  have E5 := hide h5
  by_cases hp : ptE 3 M3 0 (16 * a0 + a1) a2k a2r a2t a2l a2e a2c 0 = 0
  case neg =>
    obtain ⟨E, hE⟩ : ∃ E, ptE 3 M3 0 (16 * a0 + a1) a2k a2r a2t a2l a2e a2c 0 = E := ⟨_, rfl⟩
    rw [hE] at hp
    have EP := hide hE
    have hp' : (E != 0) = true := by simp [hp]
    clear h3 h4 h5 hp hE hti
    go_enter Tryd.func4, Tryd.ntmps4
    go_wp2_with (first
    | (go_at_call 6; clear t1; refine (new_ok 3 _ (by omega) (by omega)).mono ?_; rintro r1 w1 ⟨rfl, hw⟩; rw [← hw] at H0; clear hw; simp only [World.size_alloc]; generalize w.heap.size + 1 + 1 = p at H0 ⊢; obtain ⟨b, hb⟩ : ∃ b, b = w.heap.size + 1 := ⟨_, rfl⟩; rw [← hb] at H0; have H1 := H0; clear H0 hb)
    | (go_at_call 7; clear t2; refine (make_any p b 3 0 0 _ _ H1.out.own.mx).mono ?_; rintro r2 w2 ⟨rfl, hm, hb⟩; have H2 := hide (H1.out.but hm hb); clear hm hb H1)
    | (go_at_call 7; clear t3; refine (make_any p b 3 1 1 _ _ H2.out.own.mx).mono ?_; rintro r3 w3 ⟨rfl, hm, hb⟩; rw [two_eq] at hm; have H3 := hide (H2.out.but hm hb); clear hm hb H2)
    | (go_at_call 8; clear t4; refine (cons_any p b 3 0 a0 1 0 _ _ H3.out.own.mx).mono ?_; rintro r4 w4 ⟨rfl, hm, hb⟩; rw [← E3.out] at hm; have H4 := hide (H3.out.but hm hb); clear hm hb H3; have x0 := H4.out.first.c0; have x1 := H4.out.first.c1; have x2 := H4.out.first.c2; have x3 := H4.out.first.c3; have x4 := H4.out.first.c4; have x5 := H4.out.first.c5)
    | (go_at_call 9; clear t5; refine (cput_any p b 3 0 (16 * a0 + a1) a2k a2r a2t a2l a2e a2c 0 _ _ H4.out.own.mx HA.out).mono ?_; rintro r5 w5 ⟨rfl, hm, hb⟩; rw [EP.out]; rw [← E4.out] at hm; have H5 := hide (H4.out.but hm hb); clear hm hb H4 x0 x1 x2 x3 x4 x5)
    | (go_at_call 10; refine (awake_any _ H5.out.own.mx.tb).mono ?_; rintro r19 w19 ⟨rfl, hb⟩; have H19 := hide (H5.out.on hb); clear hb)
    | fail)
    go_ret
    exact ⟨rfl, H19.out.own.below⟩
  obtain ⟨d1, d2, d3, d4⟩ := leaf_all (floor := a4) ⟨by omega, by omega⟩ ⟨by omega, by omega⟩ hti h3 hp h4 h5
  have EP := hide hp
  have DE := hide d1
  have DM := hide d2
  have EF := hide d3
  clear h3 h4 h5 hp d1 d2 d3 hti
  rcases d4 with ⟨c1, c2, c3, c4⟩ | ⟨c1, c2, c3⟩
  · have G1 := hide c2
    have G2 := hide c3
    have GL := hide c4
    clear c2 c3 c4
    go_enter Tryd.func4, Tryd.ntmps4
    go_wp2_with (first
    | (go_at_call 6; clear t1; refine (new_ok 3 _ (by omega) (by omega)).mono ?_; rintro r1 w1 ⟨rfl, hw⟩; rw [← hw] at H0; clear hw; simp only [World.size_alloc]; generalize w.heap.size + 1 + 1 = p at H0 ⊢; obtain ⟨b, hb⟩ : ∃ b, b = w.heap.size + 1 := ⟨_, rfl⟩; rw [← hb] at H0; have H1 := H0; clear H0 hb)
    | (go_at_call 7; clear t2; refine (make_any p b 3 0 0 _ _ H1.out.own.mx).mono ?_; rintro r2 w2 ⟨rfl, hm, hb⟩; have H2 := hide (H1.out.but hm hb); clear hm hb H1)
    | (go_at_call 7; clear t3; refine (make_any p b 3 1 1 _ _ H2.out.own.mx).mono ?_; rintro r3 w3 ⟨rfl, hm, hb⟩; rw [two_eq] at hm; have H3 := hide (H2.out.but hm hb); clear hm hb H2)
    | (go_at_call 8; clear t4; refine (cons_any p b 3 0 a0 1 0 _ _ H3.out.own.mx).mono ?_; rintro r4 w4 ⟨rfl, hm, hb⟩; rw [← E3.out] at hm; have H4 := hide (H3.out.but hm hb); clear hm hb H3; have x0 := H4.out.first.c0; have x1 := H4.out.first.c1; have x2 := H4.out.first.c2; have x3 := H4.out.first.c3; have x4 := H4.out.first.c4; have x5 := H4.out.first.c5)
    | (go_at_call 9; clear t5; refine (cput_any p b 3 0 (16 * a0 + a1) a2k a2r a2t a2l a2e a2c 0 _ _ H4.out.own.mx HA.out).mono ?_; rintro r5 w5 ⟨rfl, hm, hb⟩; rw [EP.out]; rw [← E4.out] at hm; have H5 := hide (H4.out.but hm hb); clear hm hb H4 x0 x1 x2 x3 x4 x5)
    | (go_at_call 14; clear t6; refine (decons_any p b 3 0 a0 a3 a4 M4 _ H5.out.own.mx).mono ?_; rintro r6 w6 ⟨rfl, hm, hb⟩; rw [DM.out] at hm; rw [DE.out]; have H6 := hide (H5.out.but hm hb); clear hm hb H5)
    | (go_at_call 13; refine (freeze_any p b 3 1 a3 M4 _ H6.out.own.mx).mono ?_; rintro r7 w7 ⟨rfl, hm, hb⟩; rw [EF.out]; rw [← E5.out] at hm; have H7 := hide (H6.out.but hm hb); clear hm hb H6)
    | (go_at_call 14; clear t7; refine (decons_any p b 3 0 a0 a3 a4 M5 _ H7.out.own.mx).mono ?_; rintro r8 w8 ⟨rfl, hm, hb⟩; rw [G1.out, G2.out]; have H8 := hide (H7.out.but hm hb); clear hm hb H7)
    | (go_at_call 11; refine (clook_any p b 3 0 (16 * a0 + a1) _ _ H8.out.own.mx HA.out).mono ?_; rintro r9 w9 ⟨rfl, hb⟩; rw [GL.out]; have H9 := hide ((H8.out.on hb).on (bal (Below.refl _ _) (.cells #[.int .i64 (lkC 3 (deM 3 M5 0 a0 a3 a4) 0 (16 * a0 + a1) 0), .int .i64 (lkC 3 (deM 3 M5 0 a0 a3 a4) 0 (16 * a0 + a1) 1), .int .i64 (lkC 3 (deM 3 M5 0 a0 a3 a4) 0 (16 * a0 + a1) 2), .int .i64 (lkC 3 (deM 3 M5 0 a0 a3 a4) 0 (16 * a0 + a1) 3), .int .i64 (lkC 3 (deM 3 M5 0 a0 a3 a4) 0 (16 * a0 + a1) 4), .int .i64 (lkC 3 (deM 3 M5 0 a0 a3 a4) 0 (16 * a0 + a1) 5)] 23))); clear hb H8)
    | (go_at_call 10; refine (awake_any _ H9.out.own.mx.tb).mono ?_; rintro r19 w19 ⟨rfl, hb⟩; have H19 := hide (H9.out.on hb); clear hb)
    | fail)
    go_ret
    exact ⟨rfl, H19.out.own.below⟩
  · have G1 := hide c2
    have GL := hide c3
    clear c2 c3
    go_enter Tryd.func4, Tryd.ntmps4
    go_wp2_with (first
    | (go_at_call 6; clear t1; refine (new_ok 3 _ (by omega) (by omega)).mono ?_; rintro r1 w1 ⟨rfl, hw⟩; rw [← hw] at H0; clear hw; simp only [World.size_alloc]; generalize w.heap.size + 1 + 1 = p at H0 ⊢; obtain ⟨b, hb⟩ : ∃ b, b = w.heap.size + 1 := ⟨_, rfl⟩; rw [← hb] at H0; have H1 := H0; clear H0 hb)
    | (go_at_call 7; clear t2; refine (make_any p b 3 0 0 _ _ H1.out.own.mx).mono ?_; rintro r2 w2 ⟨rfl, hm, hb⟩; have H2 := hide (H1.out.but hm hb); clear hm hb H1)
    | (go_at_call 7; clear t3; refine (make_any p b 3 1 1 _ _ H2.out.own.mx).mono ?_; rintro r3 w3 ⟨rfl, hm, hb⟩; rw [two_eq] at hm; have H3 := hide (H2.out.but hm hb); clear hm hb H2)
    | (go_at_call 8; clear t4; refine (cons_any p b 3 0 a0 1 0 _ _ H3.out.own.mx).mono ?_; rintro r4 w4 ⟨rfl, hm, hb⟩; rw [← E3.out] at hm; have H4 := hide (H3.out.but hm hb); clear hm hb H3; have x0 := H4.out.first.c0; have x1 := H4.out.first.c1; have x2 := H4.out.first.c2; have x3 := H4.out.first.c3; have x4 := H4.out.first.c4; have x5 := H4.out.first.c5)
    | (go_at_call 9; clear t5; refine (cput_any p b 3 0 (16 * a0 + a1) a2k a2r a2t a2l a2e a2c 0 _ _ H4.out.own.mx HA.out).mono ?_; rintro r5 w5 ⟨rfl, hm, hb⟩; rw [EP.out]; rw [← E4.out] at hm; have H5 := hide (H4.out.but hm hb); clear hm hb H4 x0 x1 x2 x3 x4 x5)
    | (go_at_call 14; clear t6; refine (decons_any p b 3 0 a0 a3 a4 M4 _ H5.out.own.mx).mono ?_; rintro r6 w6 ⟨rfl, hm, hb⟩; rw [DM.out] at hm; rw [DE.out]; have H6 := hide (H5.out.but hm hb); clear hm hb H5)
    | (go_at_call 13; refine (freeze_any p b 3 1 a3 M4 _ H6.out.own.mx).mono ?_; rintro r7 w7 ⟨rfl, hm, hb⟩; rw [EF.out]; rw [← E5.out] at hm; have H7 := hide (H6.out.but hm hb); clear hm hb H6)
    | (go_at_call 14; clear t7; refine (decons_any p b 3 0 a0 a3 a4 M5 _ H7.out.own.mx).mono ?_; rintro r8 w8 ⟨rfl, hm, hb⟩; rw [G1.out]; have H8 := hide (H7.out.but hm hb); clear hm hb H7)
    | (go_at_call 11; refine (clook_any p b 3 0 (16 * a0 + a1) _ _ H8.out.own.mx HA.out).mono ?_; rintro r9 w9 ⟨rfl, hb⟩; rw [GL.out]; have H9 := hide ((H8.out.on hb).on (bal (Below.refl _ _) (.cells #[.int .i64 (lkC 3 (deM 3 M5 0 a0 a3 a4) 0 (16 * a0 + a1) 0), .int .i64 (lkC 3 (deM 3 M5 0 a0 a3 a4) 0 (16 * a0 + a1) 1), .int .i64 (lkC 3 (deM 3 M5 0 a0 a3 a4) 0 (16 * a0 + a1) 2), .int .i64 (lkC 3 (deM 3 M5 0 a0 a3 a4) 0 (16 * a0 + a1) 3), .int .i64 (lkC 3 (deM 3 M5 0 a0 a3 a4) 0 (16 * a0 + a1) 4), .int .i64 (lkC 3 (deM 3 M5 0 a0 a3 a4) 0 (16 * a0 + a1) 5)] 23))); clear hb H8)
    | (go_at_call 10; refine (awake_any _ H9.out.own.mx.tb).mono ?_; rintro r19 w19 ⟨rfl, hb⟩; have H19 := hide (H9.out.on hb); clear hb)
    | fail)
    go_ret
    exact ⟨by simp [c1], H19.out.own.below⟩
end Go.Proofs.YtgcaodfcodalfaaDoor.Pcaptbl
