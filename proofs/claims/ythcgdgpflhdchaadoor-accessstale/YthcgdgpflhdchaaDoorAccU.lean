/- The walk of AccessBack. -/
import Derived.Test.YthcgdgpflhdchaaDoorAccL
namespace Go.Proofs.YthcgdgpflhdchaaDoor.Paccess
open Go.Proofs.YthcgdgpflhdchaaDoor.Pbase Go.Proofs.YthcgdgpflhdchaaDoor.Pmem
open Go.RowKit
set_option linter.unusedVariables false

theorem addr_bd {page t : Int} (h0 : 0 ≤ page ∧ page ≤ 31) (h1 : 0 ≤ t ∧ t ≤ 31) : -9223372036854775808 ≤ 32 * page + t ∧ 32 * page + t ≤ 9223372036854775807 := by omega
set_option maxRecDepth 100000 in
set_option maxHeartbeats 2000000 in
theorem back_bad (page other t r v : Int) (w : World) (h : Tx w) (hbad : ¬ ((0 ≤ page ∧ page ≤ 31) ∧ (0 ≤ other ∧ other ≤ 31) ∧ other ≠ page ∧ 0 ≤ t ∧ t ≤ 31)) : Calls Tryd.prog 3 #[.int .i64 page, .int .i64 other, .int .i64 t, .int .i64 r, .int .u64 v] w fun x w' => x = .returned (.bool true) ∧ Below w.heap.size w w' := by
  have H0 := ahide (Ppgtbl.own_new h.tb (N := 4) (by omega) (by omega))
  have HN := ahide h.nd
  clear h
  have hk : page < 0 ∨ (¬ page < 0 ∧ 31 < page) ∨ (¬ page < 0 ∧ ¬ 31 < page ∧ other < 0) ∨ (¬ page < 0 ∧ ¬ 31 < page ∧ ¬ other < 0 ∧ 31 < other) ∨ (¬ page < 0 ∧ ¬ 31 < page ∧ ¬ other < 0 ∧ ¬ 31 < other ∧ (other == page) = true) ∨ (¬ page < 0 ∧ ¬ 31 < page ∧ ¬ other < 0 ∧ ¬ 31 < other ∧ (other == page) = false ∧ t < 0) ∨ (¬ page < 0 ∧ ¬ 31 < page ∧ ¬ other < 0 ∧ ¬ 31 < other ∧ (other == page) = false ∧ ¬ t < 0 ∧ 31 < t) := by
    simp only [beq_eq_false_iff_ne, ne_eq, beq_iff_eq]
    omega
  clear hbad
  rcases hk with h1 | ⟨h1, h2⟩ | ⟨h1, h2, h3⟩ | ⟨h1, h2, h3, h4⟩ | ⟨h1, h2, h3, h4, h5⟩ | ⟨h1, h2, h3, h4, h5, h6⟩ | ⟨h1, h2, h3, h4, h5, h6, h7⟩
  all_goals
    go_enter Tryd.func3, Tryd.ntmps3
    go_wp2_with (first
      | (go_at_call 6; refine (new_ok 4 _ (by omega) (by omega)).mono ?_; rintro r1 w1 ⟨rfl, hw⟩; rw [← hw] at H0; clear hw; generalize w.heap.size + 1 = p at H0 ⊢; obtain ⟨b, hb⟩ : ∃ b, b = w.heap.size := ⟨_, rfl⟩; have H1 : Hid (Ppgtbl.Own w w1 p b 4 fun _ _ => 0) := (by rw [hb]; exact H0.out); clear H0 hb)
      | (go_at_call 7; refine (Ptlb.new_ok 2 _ (by omega) (by omega)).mono ?_; rintro r2 w2 ⟨rfl, ht, hb⟩; have H2 := ahide (ao_new (R := 2) H1.out HN.out ht hb (by omega)); clear ht hb H1; generalize w1.heap.size + 1 = pt at H2 ⊢; generalize w1.heap.size = bt at H2 ⊢)
      | (go_at_call 8; refine (aawake_any _ H2.out.ax.tx).mono ?_; rintro r3 w3 ⟨rfl, hb⟩; have H3 := ahide (H2.out.on hb); clear hb H2)
      | fail)
    go_ret
    exact ⟨rfl, H3.out.below⟩
set_option maxRecDepth 100000 in
set_option maxHeartbeats 4000000 in
theorem back_none (page other t r v : Int) (w : World) (hv : 0 ≤ v ∧ v ≤ 18446744073709551615) (h : Tx w) (g0 : 0 ≤ page ∧ page ≤ 31) (g1 : 0 ≤ other ∧ other ≤ 31) (gn : other ≠ page) (g2 : 0 ≤ t ∧ t ≤ 31) (hr : ¬ (1 ≤ r ∧ r ≤ 3)) : Calls Tryd.prog 3 #[.int .i64 page, .int .i64 other, .int .i64 t, .int .i64 r, .int .u64 v] w fun x w' => x = .returned (.bool true) ∧ Below w.heap.size w w' := by
  have H0 := ahide (Ppgtbl.own_new h.tb (N := 4) (by omega) (by omega))
  have HN := ahide h.nd
  have HV := ahide hv
  clear h hv
  obtain ⟨M3, h3⟩ : ∃ M3, M3 = Ppgtbl.coM 4 (Ppgtbl.twoM 4) 0 0 1 0 := ⟨_, rfl⟩
  obtain ⟨M4, h4⟩ : ∃ M4, M4 = Ppgtbl.maM 4 M3 0 page 2 r 0 := ⟨_, rfl⟩
  obtain ⟨M5, h5⟩ : ∃ M5, M5 = Ppgtbl.maM 4 M4 0 other 2 1 0 := ⟨_, rfl⟩
  have E3 := ahide h3
  have E4 := ahide h4
  have E5 := ahide h5
  have t1 : ¬ page < 0 := by omega
  have t2 : ¬ 31 < page := by omega
  have t3 : ¬ other < 0 := by omega
  have t4 : ¬ 31 < other := by omega
  have t5 : (other == page) = false := by simp; exact gn
  have t6 : ¬ t < 0 := by omega
  have t7 : ¬ 31 < t := by omega
  have E6 := ahide (back_no (page := page) (M3 := M3) hr)
  have hk : r < 1 ∨ ¬ r < 1 ∧ 3 < r := by omega
  clear h3 h4 h5 g0 g1 g2 gn hr HV
  generalize hE7 : Ppgtbl.maE 4 M4 0 other 2 1 0 = E7
  have HE7 := ahide hE7
  clear hE7
  rcases hk with k1 | ⟨k1, k2⟩
  all_goals
    go_enter Tryd.func3, Tryd.ntmps3
    go_wp2_with (first
      | (go_at_call 6; refine (new_ok 4 _ (by omega) (by omega)).mono ?_; rintro r1 w1 ⟨rfl, hw⟩; rw [← hw] at H0; clear hw; generalize w.heap.size + 1 = p at H0 ⊢; obtain ⟨b, hb⟩ : ∃ b, b = w.heap.size := ⟨_, rfl⟩; have H1 : Hid (Ppgtbl.Own w w1 p b 4 fun _ _ => 0) := (by rw [hb]; exact H0.out); clear H0 hb)
      | (go_at_call 7; refine (Ptlb.new_ok 2 _ (by omega) (by omega)).mono ?_; rintro r2 w2 ⟨rfl, ht, hb⟩; have H2 := ahide (ao_new (R := 2) H1.out HN.out ht hb (by omega)); clear ht hb H1; generalize w1.heap.size + 1 = pt at H2 ⊢; generalize w1.heap.size = bt at H2 ⊢)
      | (go_at_call 9; refine (Ppgtbl.make_any p b 4 0 0 _ _ H2.out.ax.mx).mono ?_; rintro r3 w3 ⟨rfl, hm, hb⟩; have H3 := ahide (H2.out.mem hm hb); clear hm hb H2)
      | (go_at_call 9; refine (Ppgtbl.make_any p b 4 1 1 _ _ H3.out.ax.mx).mono ?_; rintro r4 w4 ⟨rfl, hm, hb⟩; rw [Ppgtbl.two_eq] at hm; have H4 := ahide (H3.out.mem hm hb); clear hm hb H3)
      | (go_at_call 10; refine (Ppgtbl.cons_any p b 4 0 0 1 0 _ _ H4.out.ax.mx).mono ?_; rintro r5 w5 ⟨rfl, hm, hb⟩; rw [← E3.out] at hm; have H5 := ahide (H4.out.mem hm hb); clear hm hb H4)
      | (go_at_call 11; refine (Ppgtbl.map_any p b 4 0 page 2 r 0 _ _ H5.out.ax.mx).mono ?_; rintro r6 w6 ⟨rfl, hm, hb⟩; rw [E6.out]; rw [← E4.out] at hm; have H6 := ahide (H5.out.mem hm hb); clear hm hb H5)
      | (go_at_call 11; refine (Ppgtbl.map_any p b 4 0 other 2 1 0 _ _ H6.out.ax.mx).mono ?_; rintro r7 w7 ⟨rfl, hm, hb⟩; rw [HE7.out]; have H7 := ahide (H6.out.mem hm hb); clear hm hb H6)
      | (go_at_call 8; refine (aawake_any _ H7.out.ax.tx).mono ?_; rintro r8 w8 ⟨rfl, hb⟩; have H8 := ahide (H7.out.on hb); clear hb H7)
      | fail)
    go_ret
    exact ⟨rfl, H8.out.below⟩
set_option maxRecDepth 100000 in
set_option maxHeartbeats 4000000 in
theorem back_yes (page other t r v : Int) (w : World) (hv : 0 ≤ v ∧ v ≤ 18446744073709551615) (h : Tx w) (g0 : 0 ≤ page ∧ page ≤ 31) (g1 : 0 ≤ other ∧ other ≤ 31) (gn : other ≠ page) (g2 : 0 ≤ t ∧ t ≤ 31) (hr : 1 ≤ r ∧ r ≤ 3) : Calls Tryd.prog 3 #[.int .i64 page, .int .i64 other, .int .i64 t, .int .i64 r, .int .u64 v] w fun x w' => x = .returned (.bool true) ∧ Below w.heap.size w w' := by
  have H0 := ahide (Ppgtbl.own_new h.tb (N := 4) (by omega) (by omega))
  have HN := ahide h.nd
  have HV := ahide hv
  clear h hv
  obtain ⟨M3, h3⟩ : ∃ M3, M3 = Ppgtbl.coM 4 (Ppgtbl.twoM 4) 0 0 1 0 := ⟨_, rfl⟩
  obtain ⟨M4, h4⟩ : ∃ M4, M4 = Ppgtbl.maM 4 M3 0 page 2 r 0 := ⟨_, rfl⟩
  obtain ⟨M5, h5⟩ : ∃ M5, M5 = Ppgtbl.maM 4 M4 0 other 2 1 0 := ⟨_, rfl⟩
  have E3 := ahide h3
  have E4 := ahide h4
  have E5 := ahide h5
  have t1 : ¬ page < 0 := by omega
  have t2 : ¬ 31 < page := by omega
  have t3 : ¬ other < 0 := by omega
  have t4 : ¬ 31 < other := by omega
  have t5 : (other == page) = false := by simp; exact gn
  have t6 : ¬ t < 0 := by omega
  have t7 : ¬ 31 < t := by omega
  obtain ⟨M6, h6⟩ : ∃ M6, M6 = soM 4 M5 [] 0 (32 * page + t) v := ⟨_, rfl⟩
  obtain ⟨S1, hS1⟩ : ∃ S1, S1 = acS 2 4 M5 [] 0 (32 * page + t) := ⟨_, rfl⟩
  obtain ⟨S2, hS2⟩ : ∃ S2, S2 = acS 2 4 M6 S1 0 (32 * other + t) := ⟨_, rfl⟩
  obtain ⟨f1, f2, f3, f4, f5, f6, f7, f8⟩ := back_all g0 g1 g2 gn hr h3 h4 h5 h6 hS1 hS2
  have A1 := ahide (addr_bd g0 g2)
  have A2 := ahide (addr_bd g1 g2)
  have wa1 : wrap64 (32 * page) = 32 * page := by unfold wrap64; omega
  have wa2 : wrap64 (32 * page + t) = 32 * page + t := by unfold wrap64; omega
  have wb1 : wrap64 (32 * other) = 32 * other := by unfold wrap64; omega
  have wb2 : wrap64 (32 * other + t) = 32 * other + t := by unfold wrap64; omega
  obtain ⟨V, hV⟩ : ∃ V, IntKind.u64.wrap (v + 1) = V := ⟨_, rfl⟩
  have HVb : Hid (0 ≤ V ∧ V ≤ 18446744073709551615) := by rw [← hV]; exact Pradix.wrapu_bd (v + 1)
  have F1 := ahide f1
  have F2 := ahide f2
  have F3 := ahide f3
  have F4 := ahide (f4 V)
  have F5 := ahide f5
  have F6 := ahide f6
  have F7 := ahide f7
  have G6 := ahide h6
  have GS1 := ahide hS1
  have GS2 := ahide hS2
  clear f1 f2 f3 f4 f5 f6 f7 h3 h4 h5 h6 hS1 hS2 g0 g1 g2 gn hr
  rcases f8 with ⟨rfl, q1, q2, q3⟩ | ⟨k1, q1, q2, q3⟩
  all_goals
    have K1 := ahide q1
    have K2 := ahide q2
    have K3 := ahide q3
    clear q1 q2 q3
    go_enter Tryd.func3, Tryd.ntmps3
    go_wp2_with (first
      | (go_at_call 6; refine (new_ok 4 _ (by omega) (by omega)).mono ?_; rintro r1 w1 ⟨rfl, hw⟩; rw [← hw] at H0; clear hw; generalize w.heap.size + 1 = p at H0 ⊢; obtain ⟨b, hb⟩ : ∃ b, b = w.heap.size := ⟨_, rfl⟩; have H1 : Hid (Ppgtbl.Own w w1 p b 4 fun _ _ => 0) := (by rw [hb]; exact H0.out); clear H0 hb)
      | (go_at_call 7; refine (Ptlb.new_ok 2 _ (by omega) (by omega)).mono ?_; rintro r2 w2 ⟨rfl, ht, hb⟩; have H2 := ahide (ao_new (R := 2) H1.out HN.out ht hb (by omega)); clear ht hb H1; generalize w1.heap.size + 1 = pt at H2 ⊢; generalize w1.heap.size = bt at H2 ⊢)
      | (go_at_call 9; refine (Ppgtbl.make_any p b 4 0 0 _ _ H2.out.ax.mx).mono ?_; rintro r3 w3 ⟨rfl, hm, hb⟩; have H3 := ahide (H2.out.mem hm hb); clear hm hb H2)
      | (go_at_call 9; refine (Ppgtbl.make_any p b 4 1 1 _ _ H3.out.ax.mx).mono ?_; rintro r4 w4 ⟨rfl, hm, hb⟩; rw [Ppgtbl.two_eq] at hm; have H4 := ahide (H3.out.mem hm hb); clear hm hb H3)
      | (go_at_call 10; refine (Ppgtbl.cons_any p b 4 0 0 1 0 _ _ H4.out.ax.mx).mono ?_; rintro r5 w5 ⟨rfl, hm, hb⟩; rw [← E3.out] at hm; have H5 := ahide (H4.out.mem hm hb); clear hm hb H4)
      | (go_at_call 11; refine (Ppgtbl.map_any p b 4 0 page 2 _ 0 _ _ H5.out.ax.mx).mono ?_; rintro r6 w6 ⟨rfl, hm, hb⟩; rw [F1.out]; rw [← E4.out] at hm; have H6 := ahide (H5.out.mem hm hb); clear hm hb H5)
      | (go_at_call 11; refine (Ppgtbl.map_any p b 4 0 other 2 1 0 _ _ H6.out.ax.mx).mono ?_; rintro r7 w7 ⟨rfl, hm, hb⟩; rw [F2.out]; rw [← E5.out] at hm; have H7 := ahide (H6.out.mem hm hb); clear hm hb H6)
      | (go_at_call 12; refine (astore_any p b 4 M5 pt bt 2 0 [] 0 (32 * page + t) v _ H7.out.ax (by omega) A1.out HV.out).mono ?_; rintro r8 w8 ⟨rfl, hm, hb⟩; rw [K1.out]; rw [← G6.out, ← GS1.out] at hm; have H8 := ahide (H7.out.both hm hb); clear hm hb H7)
      | (go_at_call 13; refine (aload_any p b 4 M6 pt bt 2 1 S1 0 (32 * other + t) _ H8.out.ax (by omega) A2.out).mono ?_; rintro r9 w9 ⟨rfl, hm, hb⟩; rw [F6.out, K2.out]; rw [← GS2.out] at hm; have H9 := ahide (H8.out.tlb hm hb); clear hm hb H8)
      | (go_at_call 12; refine (astore_any p b 4 M6 pt bt 2 2 S2 0 (32 * other + t) V _ H9.out.ax (by omega) A2.out HVb.out).mono ?_; rintro r10 w10 ⟨rfl, hm, hb⟩; rw [F3.out]; rw [F4.out, F5.out] at hm; have H10 := ahide (H9.out.both hm hb); clear hm hb H9)
      | (go_at_call 13; refine (aload_any p b 4 M6 pt bt 2 3 S2 0 (32 * other + t) _ H10.out.ax (by omega) A2.out).mono ?_; rintro r11 w11 ⟨rfl, hm, hb⟩; rw [F7.out, K3.out]; have H11 := ahide (H10.out.tlb hm hb); clear hm hb H10)
      | (go_at_call 8; refine (aawake_any _ H11.out.ax.tx).mono ?_; rintro r12 w12 ⟨rfl, hb⟩; have H12 := ahide (H11.out.on hb); clear hb H11)
      | fail)
    go_ret
    exact ⟨by first | rfl | simp, H12.out.below⟩
theorem back_walk (page other t r v : Int) (w : World) (hv : 0 ≤ v ∧ v ≤ 18446744073709551615) (h : Tx w) : Calls Tryd.prog 3 #[.int .i64 page, .int .i64 other, .int .i64 t, .int .i64 r, .int .u64 v] w fun x w' => x = .returned (.bool true) ∧ Below w.heap.size w w' := by
  by_cases hg : (0 ≤ page ∧ page ≤ 31) ∧ (0 ≤ other ∧ other ≤ 31) ∧ other ≠ page ∧ 0 ≤ t ∧ t ≤ 31
  case neg => exact back_bad page other t r v w h hg
  by_cases hr : 1 ≤ r ∧ r ≤ 3
  · exact back_yes page other t r v w hv h hg.1 hg.2.1 hg.2.2.1 hg.2.2.2 hr
  · exact back_none page other t r v w hv h hg.1 hg.2.1 hg.2.2.1 hg.2.2.2 hr
end Go.Proofs.YthcgdgpflhdchaaDoor.Paccess
