/- The walk of PgtblBeside. -/
import Derived.Test.YtfmkhjbahgcgiaaDoorPgtL
import Derived.Test.YtfmkhjbahgcgiaaDoorBunPte
namespace Go.Proofs.YtfmkhjbahgcgiaaDoor.Ppgtbl
open Go.Proofs.YtfmkhjbahgcgiaaDoor.Pbase Go.Proofs.YtfmkhjbahgcgiaaDoor.Pmem Go.Proofs.YtfmkhjbahgcgiaaDoor.Pradix
open Go.RowKit
set_option linter.unusedVariables false

set_option maxRecDepth 100000 in
set_option maxHeartbeats 4000000 in
theorem beside_walk (a0 a1 a2 a3 a4 a5 a6 : Int) (w : World) (hT : Tb w) (f0 : (Lit.int .u8 a0).wf = true) (f1 : (Lit.int .u8 a1).wf = true) :
    Calls Tryd.prog 4 #[.int .u8 a0, .int .u8 a1, .int .i64 a2, .int .i64 a3, .int .i64 a4, .int .i64 a5, .int .i64 a6] w fun e w' => e = .returned (.bool true) ∧ Below w.heap.size w w' := by
  have H0 := hide (own_new hT (N := 2) (by omega) (by omega))
  clear hT
  obtain ⟨A, hA, hA32⟩ := rem_u8 f0 32 (by omega)
  obtain ⟨B, hB, hB32⟩ := rem_u8 f1 32 (by omega)
  have hA' : a0.tmod 32 = (A : Int) := hA
  have hB' : a1.tmod 32 = (B : Int) := hB
  have va1 : IntKind.i64.wrap (A : Int) = (A : Int) := wrapi_small (by omega) (by omega)
  have va2 : wrap64 (A : Int) = (A : Int) := by unfold wrap64; omega
  have vb1 : IntKind.i64.wrap (B : Int) = (B : Int) := wrapi_small (by omega) (by omega)
  have vb2 : wrap64 (B : Int) = (B : Int) := by unfold wrap64; omega
  clear f0 f1 hA hB
  obtain ⟨M3, h3⟩ : ∃ M3, M3 = coM 2 (twoM 2) 0 2 1 0 := ⟨_, rfl⟩
  have E3 := hide h3
  obtain ⟨I, hI⟩ : ∃ I : Int, 64 + (A : Int) = I := ⟨_, rfl⟩
  obtain ⟨K, hK⟩ : ∃ K : Int, 64 + (B : Int) = K := ⟨_, rfl⟩
  have hi : 64 ≤ I ∧ I < 96 := by omega
  have hk : 64 ≤ K ∧ K < 96 := by omega
  have va3 : wrap64 (64 + (A : Int)) = I := by rw [← hI]; unfold wrap64; omega
  have vb3 : wrap64 (64 + (B : Int)) = K := by rw [← hK]; unfold wrap64; omega
  by_cases hn : I = K
  case pos =>
    have hik : (I == K) = true := by simp [hn]
    have HN := hide hn
    clear h3 hi hk hn hA32 hB32 hI hK
    go_enter Tryd.func4, Tryd.ntmps4
    go_wp2_with (first
    | (go_at_call 5; refine (new_ok 2 _ (by omega) (by omega)).mono ?_; rintro r1 w1 ⟨rfl, hw⟩; rw [← hw] at H0; clear hw; generalize w.heap.size + 1 = p at H0 ⊢; obtain ⟨b, hb⟩ : ∃ b, b = w.heap.size := ⟨_, rfl⟩; have H1 : Hid (Own w w1 p b 2 fun _ _ => 0) := (by rw [hb]; exact H0.out); clear H0 hb)
    | (go_at_call 6; refine (make_any p b 2 0 0 _ _ H1.out.mx).mono ?_; rintro r2 w2 ⟨rfl, hm, hb⟩; have H2 := hide (H1.out.but hm hb); clear hm hb H1)
    | (go_at_call 6; refine (make_any p b 2 1 1 _ _ H2.out.mx).mono ?_; rintro r3 w3 ⟨rfl, hm, hb⟩; rw [two_eq] at hm; have H3 := hide (H2.out.but hm hb); clear hm hb H2)
    | (go_at_call 7; refine (cons_any p b 2 0 2 1 0 _ _ H3.out.mx).mono ?_; rintro r4 w4 ⟨rfl, hm, hb⟩; rw [← E3.out] at hm; have H4 := hide (H3.out.but hm hb); clear hm hb H3)
    | (go_at_call 9; refine (awake_any _ H4.out.mx.tb).mono ?_; rintro r6 w6 ⟨rfl, hb⟩; have H6 := hide (H4.out.on hb); clear hb)
    | fail)
    go_ret
    exact ⟨rfl, H6.out.below⟩
  have hik : (I == K) = false := by simp [hn]
  by_cases hp : maE 2 M3 0 I a2 a4 0 = 0
  case neg =>
    obtain ⟨E, hE⟩ : ∃ E, maE 2 M3 0 I a2 a4 0 = E := ⟨_, rfl⟩
    rw [hE] at hp
    have EP := hide hE
    have hp' : (E != 0) = true := by simp [hp]
    clear h3 hi hk hn hA32 hB32 hp hE hI hK
    go_enter Tryd.func4, Tryd.ntmps4
    go_wp2_with (first
    | (go_at_call 5; refine (new_ok 2 _ (by omega) (by omega)).mono ?_; rintro r1 w1 ⟨rfl, hw⟩; rw [← hw] at H0; clear hw; generalize w.heap.size + 1 = p at H0 ⊢; obtain ⟨b, hb⟩ : ∃ b, b = w.heap.size := ⟨_, rfl⟩; have H1 : Hid (Own w w1 p b 2 fun _ _ => 0) := (by rw [hb]; exact H0.out); clear H0 hb)
    | (go_at_call 6; refine (make_any p b 2 0 0 _ _ H1.out.mx).mono ?_; rintro r2 w2 ⟨rfl, hm, hb⟩; have H2 := hide (H1.out.but hm hb); clear hm hb H1)
    | (go_at_call 6; refine (make_any p b 2 1 1 _ _ H2.out.mx).mono ?_; rintro r3 w3 ⟨rfl, hm, hb⟩; rw [two_eq] at hm; have H3 := hide (H2.out.but hm hb); clear hm hb H2)
    | (go_at_call 7; refine (cons_any p b 2 0 2 1 0 _ _ H3.out.mx).mono ?_; rintro r4 w4 ⟨rfl, hm, hb⟩; rw [← E3.out] at hm; have H4 := hide (H3.out.but hm hb); clear hm hb H3)
    | (go_at_call 8; refine (map_any p b 2 0 I a2 a4 0 _ _ H4.out.mx).mono ?_; rintro r5 w5 ⟨rfl, hm, hb⟩; rw [EP.out]; have H5 := hide (H4.out.but hm hb); clear hm hb H4)
    | (go_at_call 9; refine (awake_any _ H5.out.mx.tb).mono ?_; rintro r6 w6 ⟨rfl, hb⟩; have H6 := hide (H5.out.on hb); clear hb)
    | fail)
    go_ret
    exact ⟨rfl, H6.out.below⟩
  have EP := hide hp
  obtain ⟨M4, h4⟩ : ∃ M4, M4 = maM 2 M3 0 I a2 a4 0 := ⟨_, rfl⟩
  obtain ⟨M5, h5⟩ : ∃ M5, M5 = maM 2 M4 0 K a3 a5 0 := ⟨_, rfl⟩
  obtain ⟨M6, h6⟩ : ∃ M6, M6 = unM 2 M5 0 K a6 := ⟨_, rfl⟩
  have E4 := hide h4
  have E5 := hide h5
  have E6 := hide h6
  obtain ⟨l1, l2, l3, l4, l5, u1, u2, n1, k1, k2, k3, k4, k5⟩ := beside_all (now := a6) hi hk hn h3 hp h4 h5
  rw [← h6] at k1 k2 k3 k4 k5
  have L1 := hide l1
  have L2 := hide l2
  have L3 := hide l3
  have L4 := hide l4
  have L5 := hide l5
  have U1 := hide u1
  have K1 := hide k1
  have K2 := hide k2
  have K3 := hide k3
  have K4 := hide k4
  have K5 := hide k5
  obtain ⟨E, hE⟩ : ∃ E, maE 2 M4 0 K a3 a5 0 = E := ⟨_, rfl⟩
  rw [hE] at u2 n1
  have EE := hide hE
  obtain ⟨UN, hUN⟩ : ∃ UN, usN 2 M5 1 = UN := ⟨_, rfl⟩
  rw [hUN] at u2
  have EUN := hide hUN
  obtain ⟨X, hX⟩ : ∃ X, unE 2 M5 0 K a6 = X := ⟨_, rfl⟩
  rw [hX] at n1
  have EX := hide hX
  obtain ⟨O2, hO2⟩ : ∃ O2, unO 2 M5 0 K a6 = O2 := ⟨_, rfl⟩
  obtain ⟨F2, hF2⟩ : ∃ F2, unF 2 M5 0 K a6 = F2 := ⟨_, rfl⟩
  obtain ⟨R2, hR2⟩ : ∃ R2, unR 2 M5 0 K a6 = R2 := ⟨_, rfl⟩
  obtain ⟨T2, hT2⟩ : ∃ T2, unT 2 M5 0 K a6 = T2 := ⟨_, rfl⟩
  rw [hF2] at n1
  have EO2 := hide hO2
  have EF2 := hide hF2
  have ER2 := hide hR2
  have ET2 := hide hT2
  have heql := Ppte.eqlP true a2 a4 0
  have hcase : (E = 0 ∧ UN = 2 ∧ (X != 0) = true) ∨ (E = 0 ∧ UN = 2 ∧ X = 0 ∧ F2 = a3) ∨ ((E == 0) = false ∧ UN = 1 ∧ (X != 0) = true) := by
    by_cases hE0 : E = 0
    · rw [if_pos hE0] at u2
      by_cases hX0 : X = 0
      · exact .inr (.inl ⟨hE0, u2, hX0, (n1 hX0).2⟩)
      · exact .inl ⟨hE0, u2, by simp [hX0]⟩
    · rw [if_neg hE0] at u2
      refine .inr (.inr ⟨by simp [hE0], u2, ?_⟩)
      by_cases hX0 : X = 0
      · exact absurd (n1 hX0).1 hE0
      · simp [hX0]
  clear h3 h4 h5 h6 hi hk hn hA32 hB32 hp l1 l2 l3 l4 l5 u1 u2 n1 k1 k2 k3 k4 k5 hE hUN hX hO2 hF2 hR2 hT2 hI hK
  go_enter Tryd.func4, Tryd.ntmps4
  go_upto_region 13 with (first
    | (go_at_call 5; refine (new_ok 2 _ (by omega) (by omega)).mono ?_; rintro r1 w1 ⟨rfl, hw⟩; rw [← hw] at H0; clear hw; generalize w.heap.size + 1 = p at H0 ⊢; obtain ⟨b, hb⟩ : ∃ b, b = w.heap.size := ⟨_, rfl⟩; have H1 : Hid (Own w w1 p b 2 fun _ _ => 0) := (by rw [hb]; exact H0.out); clear H0 hb)
    | (go_at_call 6; refine (make_any p b 2 0 0 _ _ H1.out.mx).mono ?_; rintro r2 w2 ⟨rfl, hm, hb⟩; have H2 := hide (H1.out.but hm hb); clear hm hb H1)
    | (go_at_call 6; refine (make_any p b 2 1 1 _ _ H2.out.mx).mono ?_; rintro r3 w3 ⟨rfl, hm, hb⟩; rw [two_eq] at hm; have H3 := hide (H2.out.but hm hb); clear hm hb H2)
    | (go_at_call 7; refine (cons_any p b 2 0 2 1 0 _ _ H3.out.mx).mono ?_; rintro r4 w4 ⟨rfl, hm, hb⟩; rw [← E3.out] at hm; have H4 := hide (H3.out.but hm hb); clear hm hb H3)
    | (go_at_call 8; refine (map_any p b 2 0 I a2 a4 0 _ _ H4.out.mx).mono ?_; rintro r5 w5 ⟨rfl, hm, hb⟩; rw [EP.out]; rw [← E4.out] at hm; have H5 := hide (H4.out.but hm hb); clear hm hb H4)
    | (go_at_call 8; refine (map_any p b 2 0 K a3 a5 0 _ _ H5.out.mx).mono ?_; rintro r6 w6 ⟨rfl, hm, hb⟩; rw [EE.out]; rw [← E5.out] at hm; have H6 := hide (H5.out.but hm hb); clear hm hb H5)
    | (go_at_call 10; refine (pwalk_any p b 2 0 I M5 _ H6.out.mx).mono ?_; rintro r7 w7 ⟨rfl, hb⟩; rw [L1.out, L2.out, L3.out, L4.out, L5.out]; have H7 := (qs_new (H6.out.on hb)).more true a2 a4 0 31; clear hb H6)
    | fail)
  generalize w7.alloc _ = w8 at H7 ⊢
  generalize w7.heap.size = D at H7 ⊢
  have H8 := hide H7
  clear H7
  go_upto_region 15 with (first
    | (go_at_call 11; refine (used_any p b 2 1 M5 _ H8.out.own.mx).mono ?_; rintro r9 w9 ⟨rfl, hb⟩; rw [U1.out, EUN.out]; have H9 := hide (H8.out.on hb); clear hb H8)
    | (go_at_call 12; refine (unmap_any p b 2 0 K a6 M5 _ H9.out.own.mx).mono ?_; rintro r10 w10 ⟨rfl, hm, hb⟩; rw [EO2.out, EF2.out, ER2.out, ET2.out, EX.out]; rw [← E6.out] at hm; have H10 := (H9.out.but hm hb).more O2 F2 R2 T2 31; clear hm hb H9)
    | fail)
  generalize w10.alloc _ = w11 at H10 ⊢
  generalize w10.heap.size = D' at H10 ⊢
  have H11 := hide H10
  clear H10
  go_upto_region 16 with (first
    | (go_at_call 10; refine (pwalk_any p b 2 0 I M6 _ H11.out.own.mx).mono ?_; rintro r12 w12 ⟨rfl, hb⟩; rw [K1.out, K2.out, K3.out, K4.out, K5.out]; have H12 := (H11.out.on hb).more true a2 a4 0 31; clear hb H11)
    | fail)
  generalize w12.alloc _ = w13 at H12 ⊢
  generalize w12.heap.size = D'' at H12 ⊢
  have H13 := hide H12
  clear H12
  have x0 := H13.out.first.c0
  have x1 := H13.out.first.c1
  have x2 := H13.out.first.c2
  have x3 := H13.out.first.c3
  have z1 := H13.out.second.c1
  have y0 := H13.out.third.c0
  have y1 := H13.out.third.c1
  have y2 := H13.out.third.c2
  have y3 := H13.out.third.c3
  rcases hcase with ⟨rfl, rfl, hX0⟩ | ⟨rfl, rfl, rfl, rfl⟩ | ⟨hE0, rfl, hX0⟩
  all_goals
    go_wp2_with (first
      | (go_at_call 9; refine (awake_any _ H13.out.own.mx.tb).mono ?_; rintro r15 w15 ⟨rfl, hb⟩; have H15 := hide (H13.out.on hb); clear hb)
      | fail)
    go_ret
    exact ⟨rfl, H15.out.own.below⟩
end Go.Proofs.YtfmkhjbahgcgiaaDoor.Ppgtbl
