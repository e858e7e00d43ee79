/- The walk of CaptblBeside. -/
import Derived.Test.YtgcaodfcodalfaaDoorCtbQ
namespace Go.Proofs.YtgcaodfcodalfaaDoor.Pcaptbl
open Go.Proofs.YtgcaodfcodalfaaDoor.Pbase Go.Proofs.YtgcaodfcodalfaaDoor.Pmem Go.Proofs.YtgcaodfcodalfaaDoor.Pradix Go.Proofs.YtgcaodfcodalfaaDoor.Pslot
open Go.RowKit
set_option linter.unusedVariables false

theorem Qs.fourth {w0 w : World} {p b N : Nat} {M : Nat → Nat → Int} {x : List (Nat × S6)} {D : Nat} {c c' c'' : Nat × S6} {y : S6} (h : Qs w0 w p b N M (c :: c' :: c'' :: (D, y) :: x)) : Bx w D y := (h.bx _ (List.mem_cons_of_mem _ (List.mem_cons_of_mem _ (List.mem_cons_of_mem _ (List.mem_cons_self ..))))).1
theorem Qs.fifth {w0 w : World} {p b N : Nat} {M : Nat → Nat → Int} {x : List (Nat × S6)} {D : Nat} {c c' c'' d : Nat × S6} {y : S6} (h : Qs w0 w p b N M (c :: c' :: c'' :: d :: (D, y) :: x)) : Bx w D y := (h.bx _ (List.mem_cons_of_mem _ (List.mem_cons_of_mem _ (List.mem_cons_of_mem _ (List.mem_cons_of_mem _ (List.mem_cons_self ..)))))).1
set_option maxRecDepth 100000 in
set_option maxHeartbeats 4000000 in
theorem beside_walk (a0k a0r a0t a0l a0e a0c : Int) (a1k a1r a1t a1l a1e a1c : Int) (a2 a3 a4 I J : Int) (w : World) (hi : a2.tmod 16 = I) (hj : a3.tmod 16 = J) (i0 : 0 ≤ I ∧ I ≤ 15) (j0 : 0 ≤ J ∧ J ≤ 15) (hT : Tb w) :
    Calls Tryd.prog 5 #[.agg #[.int .i64 a0k, .int .i64 a0r, .int .i64 a0t, .int .i64 a0l, .int .i64 a0e, .int .i64 a0c], .agg #[.int .i64 a1k, .int .i64 a1r, .int .i64 a1t, .int .i64 a1l, .int .i64 a1e, .int .i64 a1c], .int .u8 a2, .int .u8 a3, .int .i64 a4] w fun e w' => e = .returned (.bool true) ∧ Below w.heap.size w w' := by
  have H0 := hide (qs_two hT (N := 2) (by omega) (by omega) a0k a0r a0t a0l a0e a0c a1k a1r a1t a1l a1e a1c)
  clear hT
  have t1 : True := trivial
  have t2 : True := trivial
  have t3 : True := trivial
  have t4 : True := trivial
  have t5 : True := trivial
  have t6 : True := trivial
  have t7 : True := trivial
  have t8 : True := trivial
  have HI : Hid (-9223372036854775808 ≤ 48 + I ∧ 48 + I ≤ 9223372036854775807) := (by omega : -9223372036854775808 ≤ 48 + I ∧ 48 + I ≤ 9223372036854775807)
  have HJ : Hid (-9223372036854775808 ≤ 48 + J ∧ 48 + J ≤ 9223372036854775807) := (by omega : -9223372036854775808 ≤ 48 + J ∧ 48 + J ≤ 9223372036854775807)
  have v1 : IntKind.i64.wrap I = I := wrapi_small (by omega) (by omega)
  have v2 : IntKind.i64.wrap J = J := wrapi_small (by omega) (by omega)
  have v3 : wrap64 I = I := by unfold wrap64; omega
  have v4 : wrap64 J = J := by unfold wrap64; omega
  have v5 : wrap64 (48 + I) = 48 + I := by unfold wrap64; omega
  have v6 : wrap64 (48 + J) = 48 + J := by unfold wrap64; omega
  obtain ⟨M3, h3⟩ : ∃ M3, M3 = coM 2 (twoM 2) 0 3 1 0 := ⟨_, rfl⟩
  obtain ⟨M4, h4⟩ : ∃ M4, M4 = ptM 2 M3 0 (48 + I) a0k a0r a0t a0l a0e a0c 0 := ⟨_, rfl⟩
  obtain ⟨M5, h5⟩ : ∃ M5, M5 = ptM 2 M4 0 (48 + J) a1k a1r a1t a1l a1e a1c 0 := ⟨_, rfl⟩
  have E3 := hide h3
  have E4 := hide h4
  have E5 := hide h5
  by_cases hn : I = J
  case pos =>
    subst hn
    clear h3 h4 h5 v2 v4 v6 j0
    go_enter Tryd.func5, Tryd.ntmps5
    go_wp2_with (first
    | (go_at_call 6; clear t1; refine (new_ok 2 _ (by omega) (by omega)).mono ?_; rintro r1 w1 ⟨rfl, hw⟩; rw [← hw] at H0; clear hw; simp only [World.size_alloc]; generalize w.heap.size + 1 + 1 + 1 = p at H0 ⊢; obtain ⟨b, hb⟩ : ∃ b, b = w.heap.size + 1 + 1 := ⟨_, rfl⟩; rw [← hb] at H0; have H1 := H0; clear H0 hb)
    | (go_at_call 7; clear t2; refine (make_any p b 2 0 0 _ _ H1.out.own.mx).mono ?_; rintro r2 w2 ⟨rfl, hm, hb⟩; have H2 := hide (H1.out.but hm hb); clear hm hb H1)
    | (go_at_call 7; clear t3; refine (make_any p b 2 1 1 _ _ H2.out.own.mx).mono ?_; rintro r3 w3 ⟨rfl, hm, hb⟩; rw [two_eq] at hm; have H3 := hide (H2.out.but hm hb); clear hm hb H2)
    | (go_at_call 8; clear t4; refine (cons_any p b 2 0 3 1 0 _ _ H3.out.own.mx).mono ?_; rintro r4 w4 ⟨rfl, hm, hb⟩; rw [← E3.out] at hm; have H4 := hide (H3.out.but hm hb); clear hm hb H3; have x0 := H4.out.first.c0; have x1 := H4.out.first.c1; have x2 := H4.out.first.c2; have x3 := H4.out.first.c3; have x4 := H4.out.first.c4; have x5 := H4.out.first.c5)
    | (go_at_call 10; refine (awake_any _ H4.out.own.mx.tb).mono ?_; rintro r19 w19 ⟨rfl, hb⟩; have H19 := hide (H4.out.on hb); clear hb)
    | fail)
    go_ret
    exact ⟨rfl, H19.out.own.below⟩
  have hn' : (48 + I == 48 + J) = false := by
    have : ¬ 48 + I = 48 + J := by omega
    simp [this]
  by_cases hp : ptE 2 M3 0 (48 + I) a0k a0r a0t a0l a0e a0c 0 = 0
  case neg =>
    obtain ⟨E, hE⟩ : ∃ E, ptE 2 M3 0 (48 + I) a0k a0r a0t a0l a0e a0c 0 = E := ⟨_, rfl⟩
    rw [hE] at hp
    have EP := hide hE
    have hp' : (E != 0) = true := by simp [hp]
    clear h3 h4 h5 hp hE
    go_enter Tryd.func5, Tryd.ntmps5
    go_wp2_with (first
    | (go_at_call 6; clear t1; refine (new_ok 2 _ (by omega) (by omega)).mono ?_; rintro r1 w1 ⟨rfl, hw⟩; rw [← hw] at H0; clear hw; simp only [World.size_alloc]; generalize w.heap.size + 1 + 1 + 1 = p at H0 ⊢; obtain ⟨b, hb⟩ : ∃ b, b = w.heap.size + 1 + 1 := ⟨_, rfl⟩; rw [← hb] at H0; have H1 := H0; clear H0 hb)
    | (go_at_call 7; clear t2; refine (make_any p b 2 0 0 _ _ H1.out.own.mx).mono ?_; rintro r2 w2 ⟨rfl, hm, hb⟩; have H2 := hide (H1.out.but hm hb); clear hm hb H1)
    | (go_at_call 7; clear t3; refine (make_any p b 2 1 1 _ _ H2.out.own.mx).mono ?_; rintro r3 w3 ⟨rfl, hm, hb⟩; rw [two_eq] at hm; have H3 := hide (H2.out.but hm hb); clear hm hb H2)
    | (go_at_call 8; clear t4; refine (cons_any p b 2 0 3 1 0 _ _ H3.out.own.mx).mono ?_; rintro r4 w4 ⟨rfl, hm, hb⟩; rw [← E3.out] at hm; have H4 := hide (H3.out.but hm hb); clear hm hb H3; have x0 := H4.out.first.c0; have x1 := H4.out.first.c1; have x2 := H4.out.first.c2; have x3 := H4.out.first.c3; have x4 := H4.out.first.c4; have x5 := H4.out.first.c5)
    | (go_at_call 9; clear t5; refine (cput_any p b 2 0 (48 + I) a0k a0r a0t a0l a0e a0c 0 _ _ H4.out.own.mx HI.out).mono ?_; rintro r5 w5 ⟨rfl, hm, hb⟩; rw [EP.out]; rw [← E4.out] at hm; have H5 := hide (H4.out.but hm hb); clear hm hb H4 x0 x1 x2 x3 x4 x5; have y0 := H5.out.second.c0; have y1 := H5.out.second.c1; have y2 := H5.out.second.c2; have y3 := H5.out.second.c3; have y4 := H5.out.second.c4; have y5 := H5.out.second.c5)
    | (go_at_call 10; refine (awake_any _ H5.out.own.mx.tb).mono ?_; rintro r19 w19 ⟨rfl, hb⟩; have H19 := hide (H5.out.on hb); clear hb)
    | fail)
    go_ret
    exact ⟨rfl, H19.out.own.below⟩
  obtain ⟨l1, l2, f1, f2, g1, g2⟩ := beside_all (now := a4) i0 j0 hn h3 hp h4 h5
  have EP := hide hp
  have EL := hide l1
  have FL := hide f1
  have C0 : Hid (lkC 2 M5 0 (48 + I) 0 = a0k) := l2 0 (by omega)
  have C1 : Hid (lkC 2 M5 0 (48 + I) 1 = a0r) := l2 1 (by omega)
  have C2 : Hid (lkC 2 M5 0 (48 + I) 2 = a0t) := l2 2 (by omega)
  have C3 : Hid (lkC 2 M5 0 (48 + I) 3 = a0l) := l2 3 (by omega)
  have C4 : Hid (lkC 2 M5 0 (48 + I) 4 = a0e) := l2 4 (by omega)
  have C5 : Hid (lkC 2 M5 0 (48 + I) 5 = a0c) := l2 5 (by omega)
  have F0 : Hid (lkC 2 (drM 2 M5 0 (48 + J) a4) 0 (48 + I) 0 = a0k) := f2 0 (by omega)
  have F1 : Hid (lkC 2 (drM 2 M5 0 (48 + J) a4) 0 (48 + I) 1 = a0r) := f2 1 (by omega)
  have F2 : Hid (lkC 2 (drM 2 M5 0 (48 + J) a4) 0 (48 + I) 2 = a0t) := f2 2 (by omega)
  have F3 : Hid (lkC 2 (drM 2 M5 0 (48 + J) a4) 0 (48 + I) 3 = a0l) := f2 3 (by omega)
  have F4 : Hid (lkC 2 (drM 2 M5 0 (48 + J) a4) 0 (48 + I) 4 = a0e) := f2 4 (by omega)
  have F5 : Hid (lkC 2 (drM 2 M5 0 (48 + J) a4) 0 (48 + I) 5 = a0c) := f2 5 (by omega)
  have heqx := eqlC a0k a0r a0t a0l a0e a0c
  have heqy := eqlC a1k a1r a1t a1l a1e a1c
  clear h3 h4 h5 hp l1 l2 f1 f2 i0 j0 hn
  obtain ⟨E, hE⟩ : ∃ E, ptE 2 M4 0 (48 + J) a1k a1r a1t a1l a1e a1c 0 = E := ⟨_, rfl⟩
  obtain ⟨G, hG⟩ : ∃ G, drE 2 M5 0 (48 + J) a4 = G := ⟨_, rfl⟩
  rw [hE, hG] at g1
  rw [hE, hG] at g2
  have EQ := hide hE
  have ED := hide hG
  by_cases hg : G = 0
  · have he : E = 0 := Decidable.byContradiction fun h => g1 h hg
    have g3 := g2 he hg
    subst hg
    subst he
    have Z0 : Hid (drC 2 M5 0 (48 + J) a4 0 = a1k) := g3 0 (by omega)
    have Z1 : Hid (drC 2 M5 0 (48 + J) a4 1 = a1r) := g3 1 (by omega)
    have Z2 : Hid (drC 2 M5 0 (48 + J) a4 2 = a1t) := g3 2 (by omega)
    have Z3 : Hid (drC 2 M5 0 (48 + J) a4 3 = a1l) := g3 3 (by omega)
    have Z4 : Hid (drC 2 M5 0 (48 + J) a4 4 = a1e) := g3 4 (by omega)
    have Z5 : Hid (drC 2 M5 0 (48 + J) a4 5 = a1c) := g3 5 (by omega)
    clear g1 g2 g3 hE hG
    go_enter Tryd.func5, Tryd.ntmps5
    go_upto_region 13 with (first
    | (go_at_call 6; clear t1; refine (new_ok 2 _ (by omega) (by omega)).mono ?_; rintro r1 w1 ⟨rfl, hw⟩; rw [← hw] at H0; clear hw; simp only [World.size_alloc]; generalize w.heap.size + 1 + 1 + 1 = p at H0 ⊢; obtain ⟨b, hb⟩ : ∃ b, b = w.heap.size + 1 + 1 := ⟨_, rfl⟩; rw [← hb] at H0; have H1 := H0; clear H0 hb)
    | (go_at_call 7; clear t2; refine (make_any p b 2 0 0 _ _ H1.out.own.mx).mono ?_; rintro r2 w2 ⟨rfl, hm, hb⟩; have H2 := hide (H1.out.but hm hb); clear hm hb H1)
    | (go_at_call 7; clear t3; refine (make_any p b 2 1 1 _ _ H2.out.own.mx).mono ?_; rintro r3 w3 ⟨rfl, hm, hb⟩; rw [two_eq] at hm; have H3 := hide (H2.out.but hm hb); clear hm hb H2)
    | (go_at_call 8; clear t4; refine (cons_any p b 2 0 3 1 0 _ _ H3.out.own.mx).mono ?_; rintro r4 w4 ⟨rfl, hm, hb⟩; rw [← E3.out] at hm; have H4 := hide (H3.out.but hm hb); clear hm hb H3; have x0 := H4.out.first.c0; have x1 := H4.out.first.c1; have x2 := H4.out.first.c2; have x3 := H4.out.first.c3; have x4 := H4.out.first.c4; have x5 := H4.out.first.c5)
    | (go_at_call 9; clear t5; refine (cput_any p b 2 0 (48 + I) a0k a0r a0t a0l a0e a0c 0 _ _ H4.out.own.mx HI.out).mono ?_; rintro r5 w5 ⟨rfl, hm, hb⟩; rw [EP.out]; rw [← E4.out] at hm; have H5 := hide (H4.out.but hm hb); clear hm hb H4 x0 x1 x2 x3 x4 x5; have y0 := H5.out.second.c0; have y1 := H5.out.second.c1; have y2 := H5.out.second.c2; have y3 := H5.out.second.c3; have y4 := H5.out.second.c4; have y5 := H5.out.second.c5)
    | (go_at_call 9; clear t6; refine (cput_any p b 2 0 (48 + J) a1k a1r a1t a1l a1e a1c 0 _ _ H5.out.own.mx HJ.out).mono ?_; rintro r6 w6 ⟨rfl, hm, hb⟩; rw [EQ.out]; rw [← E5.out] at hm; have H6 := hide (H5.out.but hm hb); clear hm hb H5 y0 y1 y2 y3 y4 y5)
    | (go_at_call 11; clear t7; refine (clook_any p b 2 0 (48 + I) M5 _ H6.out.own.mx HI.out).mono ?_; rintro r7 w7 ⟨rfl, hb⟩; rw [C0.out, C1.out, C2.out, C3.out, C4.out, C5.out, EL.out]; have H7 := hide (H6.out.on hb); clear hb H6)
    | fail)
    have HL := H7.out.more a0k a0r a0t a0l a0e a0c 23
    clear H7
    generalize w7.alloc _ = w8 at HL ⊢
    generalize w7.heap.size = D1 at HL ⊢
    have H8 := hide HL
    clear HL
    go_upto_region 14 with (first
    | (go_at_call 12; refine (drop_any p b 2 0 (48 + J) a4 M5 _ H8.out.own.mx HJ.out).mono ?_; rintro r9 w9 ⟨rfl, hm, hb⟩; rw [Z0.out, Z1.out, Z2.out, Z3.out, Z4.out, Z5.out, ED.out]; have H9 := hide (H8.out.but hm hb); clear hm hb H8)
    | fail)
    have HL := H9.out.more a1k a1r a1t a1l a1e a1c 23
    clear H9
    generalize w9.alloc _ = w10 at HL ⊢
    generalize w9.heap.size = D2 at HL ⊢
    have H10 := hide HL
    clear HL
    go_upto_region 15 with (first
    | (go_at_call 11; clear t8; refine (clook_any p b 2 0 (48 + I) _ _ H10.out.own.mx HI.out).mono ?_; rintro r11 w11 ⟨rfl, hb⟩; rw [F0.out, F1.out, F2.out, F3.out, F4.out, F5.out, FL.out]; have H11 := hide (H10.out.on hb); clear hb H10)
    | fail)
    have HL := H11.out.more a0k a0r a0t a0l a0e a0c 23
    clear H11
    generalize w11.alloc _ = w12 at HL ⊢
    generalize w11.heap.size = D3 at HL ⊢
    have H12 := hide HL
    clear HL
    have h0 := H12.out.first.c0
    have h1 := H12.out.first.c1
    have h2 := H12.out.first.c2
    have h3 := H12.out.first.c3
    have h4 := H12.out.first.c4
    have h5 := H12.out.first.c5
    have d0 := H12.out.second.c0
    have d1 := H12.out.second.c1
    have d2 := H12.out.second.c2
    have d3 := H12.out.second.c3
    have d4 := H12.out.second.c4
    have d5 := H12.out.second.c5
    have c0 := H12.out.third.c0
    have c1 := H12.out.third.c1
    have c2 := H12.out.third.c2
    have c3 := H12.out.third.c3
    have c4 := H12.out.third.c4
    have c5 := H12.out.third.c5
    have x0 := H12.out.fourth.c0
    have x1 := H12.out.fourth.c1
    have x2 := H12.out.fourth.c2
    have x3 := H12.out.fourth.c3
    have x4 := H12.out.fourth.c4
    have x5 := H12.out.fourth.c5
    have y0 := H12.out.fifth.c0
    have y1 := H12.out.fifth.c1
    have y2 := H12.out.fifth.c2
    have y3 := H12.out.fifth.c3
    have y4 := H12.out.fifth.c4
    have y5 := H12.out.fifth.c5
    go_wp2_with (first
    | (go_at_call 10; refine (awake_any _ H12.out.own.mx.tb).mono ?_; rintro r19 w19 ⟨rfl, hb⟩; have H19 := hide (H12.out.on hb); clear hb)
    | fail)
    go_ret
    exact ⟨rfl, H19.out.own.below⟩
  · have dz : ∀ n, drC 2 M5 0 (48 + J) a4 n = 0 := fun n => by simp [drC, hG, hg]
    have hg' : (G != 0) = true := by simp [hg]
    have Z0 := hide (dz 0)
    have Z1 := hide (dz 1)
    have Z2 := hide (dz 2)
    have Z3 := hide (dz 3)
    have Z4 := hide (dz 4)
    have Z5 := hide (dz 5)
    clear g1 g2 dz hG hg
    by_cases he : E = 0
    · subst he
      clear hE
      go_enter Tryd.func5, Tryd.ntmps5
      go_upto_region 13 with (first
      | (go_at_call 6; clear t1; refine (new_ok 2 _ (by omega) (by omega)).mono ?_; rintro r1 w1 ⟨rfl, hw⟩; rw [← hw] at H0; clear hw; simp only [World.size_alloc]; generalize w.heap.size + 1 + 1 + 1 = p at H0 ⊢; obtain ⟨b, hb⟩ : ∃ b, b = w.heap.size + 1 + 1 := ⟨_, rfl⟩; rw [← hb] at H0; have H1 := H0; clear H0 hb)
      | (go_at_call 7; clear t2; refine (make_any p b 2 0 0 _ _ H1.out.own.mx).mono ?_; rintro r2 w2 ⟨rfl, hm, hb⟩; have H2 := hide (H1.out.but hm hb); clear hm hb H1)
      | (go_at_call 7; clear t3; refine (make_any p b 2 1 1 _ _ H2.out.own.mx).mono ?_; rintro r3 w3 ⟨rfl, hm, hb⟩; rw [two_eq] at hm; have H3 := hide (H2.out.but hm hb); clear hm hb H2)
      | (go_at_call 8; clear t4; refine (cons_any p b 2 0 3 1 0 _ _ H3.out.own.mx).mono ?_; rintro r4 w4 ⟨rfl, hm, hb⟩; rw [← E3.out] at hm; have H4 := hide (H3.out.but hm hb); clear hm hb H3; have x0 := H4.out.first.c0; have x1 := H4.out.first.c1; have x2 := H4.out.first.c2; have x3 := H4.out.first.c3; have x4 := H4.out.first.c4; have x5 := H4.out.first.c5)
      | (go_at_call 9; clear t5; refine (cput_any p b 2 0 (48 + I) a0k a0r a0t a0l a0e a0c 0 _ _ H4.out.own.mx HI.out).mono ?_; rintro r5 w5 ⟨rfl, hm, hb⟩; rw [EP.out]; rw [← E4.out] at hm; have H5 := hide (H4.out.but hm hb); clear hm hb H4 x0 x1 x2 x3 x4 x5; have y0 := H5.out.second.c0; have y1 := H5.out.second.c1; have y2 := H5.out.second.c2; have y3 := H5.out.second.c3; have y4 := H5.out.second.c4; have y5 := H5.out.second.c5)
      | (go_at_call 9; clear t6; refine (cput_any p b 2 0 (48 + J) a1k a1r a1t a1l a1e a1c 0 _ _ H5.out.own.mx HJ.out).mono ?_; rintro r6 w6 ⟨rfl, hm, hb⟩; rw [EQ.out]; rw [← E5.out] at hm; have H6 := hide (H5.out.but hm hb); clear hm hb H5 y0 y1 y2 y3 y4 y5)
      | (go_at_call 11; clear t7; refine (clook_any p b 2 0 (48 + I) M5 _ H6.out.own.mx HI.out).mono ?_; rintro r7 w7 ⟨rfl, hb⟩; rw [C0.out, C1.out, C2.out, C3.out, C4.out, C5.out, EL.out]; have H7 := hide (H6.out.on hb); clear hb H6)
      | fail)
      have HL := H7.out.more a0k a0r a0t a0l a0e a0c 23
      clear H7
      generalize w7.alloc _ = w8 at HL ⊢
      generalize w7.heap.size = D1 at HL ⊢
      have H8 := hide HL
      clear HL
      go_upto_region 14 with (first
      | (go_at_call 12; refine (drop_any p b 2 0 (48 + J) a4 M5 _ H8.out.own.mx HJ.out).mono ?_; rintro r9 w9 ⟨rfl, hm, hb⟩; rw [Z0.out, Z1.out, Z2.out, Z3.out, Z4.out, Z5.out, ED.out]; have H9 := hide (H8.out.but hm hb); clear hm hb H8)
      | fail)
      have HL := H9.out.more 0 0 0 0 0 0 23
      clear H9
      generalize w9.alloc _ = w10 at HL ⊢
      generalize w9.heap.size = D2 at HL ⊢
      have H10 := hide HL
      clear HL
      go_upto_region 15 with (first
      | (go_at_call 11; clear t8; refine (clook_any p b 2 0 (48 + I) _ _ H10.out.own.mx HI.out).mono ?_; rintro r11 w11 ⟨rfl, hb⟩; rw [F0.out, F1.out, F2.out, F3.out, F4.out, F5.out, FL.out]; have H11 := hide (H10.out.on hb); clear hb H10)
      | fail)
      have HL := H11.out.more a0k a0r a0t a0l a0e a0c 23
      clear H11
      generalize w11.alloc _ = w12 at HL ⊢
      generalize w11.heap.size = D3 at HL ⊢
      have H12 := hide HL
      clear HL
      have h0 := H12.out.first.c0
      have h1 := H12.out.first.c1
      have h2 := H12.out.first.c2
      have h3 := H12.out.first.c3
      have h4 := H12.out.first.c4
      have h5 := H12.out.first.c5
      have d0 := H12.out.second.c0
      have d1 := H12.out.second.c1
      have d2 := H12.out.second.c2
      have d3 := H12.out.second.c3
      have d4 := H12.out.second.c4
      have d5 := H12.out.second.c5
      have c0 := H12.out.third.c0
      have c1 := H12.out.third.c1
      have c2 := H12.out.third.c2
      have c3 := H12.out.third.c3
      have c4 := H12.out.third.c4
      have c5 := H12.out.third.c5
      have x0 := H12.out.fourth.c0
      have x1 := H12.out.fourth.c1
      have x2 := H12.out.fourth.c2
      have x3 := H12.out.fourth.c3
      have x4 := H12.out.fourth.c4
      have x5 := H12.out.fourth.c5
      have y0 := H12.out.fifth.c0
      have y1 := H12.out.fifth.c1
      have y2 := H12.out.fifth.c2
      have y3 := H12.out.fifth.c3
      have y4 := H12.out.fifth.c4
      have y5 := H12.out.fifth.c5
      go_wp2_with (first
      | (go_at_call 10; refine (awake_any _ H12.out.own.mx.tb).mono ?_; rintro r19 w19 ⟨rfl, hb⟩; have H19 := hide (H12.out.on hb); clear hb)
      | fail)
      go_ret
      exact ⟨rfl, H19.out.own.below⟩
    · have he' : (E != 0) = true := by simp [he]
      clear hE he
      go_enter Tryd.func5, Tryd.ntmps5
      go_upto_region 13 with (first
      | (go_at_call 6; clear t1; refine (new_ok 2 _ (by omega) (by omega)).mono ?_; rintro r1 w1 ⟨rfl, hw⟩; rw [← hw] at H0; clear hw; simp only [World.size_alloc]; generalize w.heap.size + 1 + 1 + 1 = p at H0 ⊢; obtain ⟨b, hb⟩ : ∃ b, b = w.heap.size + 1 + 1 := ⟨_, rfl⟩; rw [← hb] at H0; have H1 := H0; clear H0 hb)
      | (go_at_call 7; clear t2; refine (make_any p b 2 0 0 _ _ H1.out.own.mx).mono ?_; rintro r2 w2 ⟨rfl, hm, hb⟩; have H2 := hide (H1.out.but hm hb); clear hm hb H1)
      | (go_at_call 7; clear t3; refine (make_any p b 2 1 1 _ _ H2.out.own.mx).mono ?_; rintro r3 w3 ⟨rfl, hm, hb⟩; rw [two_eq] at hm; have H3 := hide (H2.out.but hm hb); clear hm hb H2)
      | (go_at_call 8; clear t4; refine (cons_any p b 2 0 3 1 0 _ _ H3.out.own.mx).mono ?_; rintro r4 w4 ⟨rfl, hm, hb⟩; rw [← E3.out] at hm; have H4 := hide (H3.out.but hm hb); clear hm hb H3; have x0 := H4.out.first.c0; have x1 := H4.out.first.c1; have x2 := H4.out.first.c2; have x3 := H4.out.first.c3; have x4 := H4.out.first.c4; have x5 := H4.out.first.c5)
      | (go_at_call 9; clear t5; refine (cput_any p b 2 0 (48 + I) a0k a0r a0t a0l a0e a0c 0 _ _ H4.out.own.mx HI.out).mono ?_; rintro r5 w5 ⟨rfl, hm, hb⟩; rw [EP.out]; rw [← E4.out] at hm; have H5 := hide (H4.out.but hm hb); clear hm hb H4 x0 x1 x2 x3 x4 x5; have y0 := H5.out.second.c0; have y1 := H5.out.second.c1; have y2 := H5.out.second.c2; have y3 := H5.out.second.c3; have y4 := H5.out.second.c4; have y5 := H5.out.second.c5)
      | (go_at_call 9; clear t6; refine (cput_any p b 2 0 (48 + J) a1k a1r a1t a1l a1e a1c 0 _ _ H5.out.own.mx HJ.out).mono ?_; rintro r6 w6 ⟨rfl, hm, hb⟩; rw [EQ.out]; rw [← E5.out] at hm; have H6 := hide (H5.out.but hm hb); clear hm hb H5 y0 y1 y2 y3 y4 y5)
      | (go_at_call 11; clear t7; refine (clook_any p b 2 0 (48 + I) M5 _ H6.out.own.mx HI.out).mono ?_; rintro r7 w7 ⟨rfl, hb⟩; rw [C0.out, C1.out, C2.out, C3.out, C4.out, C5.out, EL.out]; have H7 := hide (H6.out.on hb); clear hb H6)
      | fail)
      have HL := H7.out.more a0k a0r a0t a0l a0e a0c 23
      clear H7
      generalize w7.alloc _ = w8 at HL ⊢
      generalize w7.heap.size = D1 at HL ⊢
      have H8 := hide HL
      clear HL
      go_upto_region 14 with (first
      | (go_at_call 12; refine (drop_any p b 2 0 (48 + J) a4 M5 _ H8.out.own.mx HJ.out).mono ?_; rintro r9 w9 ⟨rfl, hm, hb⟩; rw [Z0.out, Z1.out, Z2.out, Z3.out, Z4.out, Z5.out, ED.out]; have H9 := hide (H8.out.but hm hb); clear hm hb H8)
      | fail)
      have HL := H9.out.more 0 0 0 0 0 0 23
      clear H9
      generalize w9.alloc _ = w10 at HL ⊢
      generalize w9.heap.size = D2 at HL ⊢
      have H10 := hide HL
      clear HL
      go_upto_region 15 with (first
      | (go_at_call 11; clear t8; refine (clook_any p b 2 0 (48 + I) _ _ H10.out.own.mx HI.out).mono ?_; rintro r11 w11 ⟨rfl, hb⟩; rw [F0.out, F1.out, F2.out, F3.out, F4.out, F5.out, FL.out]; have H11 := hide (H10.out.on hb); clear hb H10)
      | fail)
      have HL := H11.out.more a0k a0r a0t a0l a0e a0c 23
      clear H11
      generalize w11.alloc _ = w12 at HL ⊢
      generalize w11.heap.size = D3 at HL ⊢
      have H12 := hide HL
      clear HL
      have h0 := H12.out.first.c0
      have h1 := H12.out.first.c1
      have h2 := H12.out.first.c2
      have h3 := H12.out.first.c3
      have h4 := H12.out.first.c4
      have h5 := H12.out.first.c5
      have d0 := H12.out.second.c0
      have d1 := H12.out.second.c1
      have d2 := H12.out.second.c2
      have d3 := H12.out.second.c3
      have d4 := H12.out.second.c4
      have d5 := H12.out.second.c5
      have c0 := H12.out.third.c0
      have c1 := H12.out.third.c1
      have c2 := H12.out.third.c2
      have c3 := H12.out.third.c3
      have c4 := H12.out.third.c4
      have c5 := H12.out.third.c5
      have x0 := H12.out.fourth.c0
      have x1 := H12.out.fourth.c1
      have x2 := H12.out.fourth.c2
      have x3 := H12.out.fourth.c3
      have x4 := H12.out.fourth.c4
      have x5 := H12.out.fourth.c5
      have y0 := H12.out.fifth.c0
      have y1 := H12.out.fifth.c1
      have y2 := H12.out.fifth.c2
      have y3 := H12.out.fifth.c3
      have y4 := H12.out.fifth.c4
      have y5 := H12.out.fifth.c5
      go_wp2_with (first
      | (go_at_call 10; refine (awake_any _ H12.out.own.mx.tb).mono ?_; rintro r19 w19 ⟨rfl, hb⟩; have H19 := hide (H12.out.on hb); clear hb)
      | fail)
      go_ret
      exact ⟨rfl, H19.out.own.below⟩
end Go.Proofs.YtgcaodfcodalfaaDoor.Pcaptbl
