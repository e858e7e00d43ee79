/- The walk of AccessStale. -/
import Derived.Test.YthcgdgpflhdchaaDoorAccU
namespace Go.Proofs.YthcgdgpflhdchaaDoor.Paccess
open Go.Proofs.YthcgdgpflhdchaaDoor.Pbase Go.Proofs.YthcgdgpflhdchaaDoor.Pmem
open Go.RowKit
set_option linter.unusedVariables false

set_option maxRecDepth 100000 in
set_option maxHeartbeats 2000000 in
theorem stale_bad (page t z : Int) (K : Nat) (hK : z.tmod 9 = (K : Int)) (h8 : K ≤ 8) (w : World) (h : Tx w) (hbad : ¬ ((0 ≤ page ∧ page ≤ 31) ∧ 0 ≤ t ∧ t ≤ 31)) : Calls Tryd.prog 4 #[.int .i64 page, .int .i64 t, .int .u8 z] w fun x w' => x = .returned (.bool true) ∧ Below w.heap.size w w' := by
  have H0 := ahide (Ppgtbl.own_new h.tb (N := 4) (by omega) (by omega))
  have HN := ahide h.nd
  have H8 := ahide h8
  have v1 : IntKind.i64.wrap (K : Int) = (K : Int) := wrapi_small (by omega) (by omega)
  have v2 : wrap64 (K : Int) = (K : Int) := by unfold wrap64; omega
  clear h h8
  have hk : page < 0 ∨ (¬ page < 0 ∧ 31 < page) ∨ (¬ page < 0 ∧ ¬ 31 < page ∧ t < 0) ∨ (¬ page < 0 ∧ ¬ 31 < page ∧ ¬ t < 0 ∧ 31 < t) := by omega
  clear hbad
  rcases hk with h1 | ⟨h1, h2⟩ | ⟨h1, h2, h3⟩ | ⟨h1, h2, h3, h4⟩
  all_goals
    go_enter Tryd.func4, Tryd.ntmps4
    go_wp2_with (first
      | (go_at_call 6; refine (new_ok 4 _ (by omega) (by omega)).mono ?_; rintro r1 w1 ⟨rfl, hw⟩; rw [← hw] at H0; clear hw; generalize w.heap.size + 1 = p at H0 ⊢; obtain ⟨b, hb⟩ : ∃ b, b = w.heap.size := ⟨_, rfl⟩; have H1 : Hid (Ppgtbl.Own w w1 p b 4 fun _ _ => 0) := (by rw [hb]; exact H0.out); clear H0 hb)
      | (go_at_call 7; refine (Ptlb.new_ok (K : Int) _ (by omega) (by have := H8.out; omega)).mono ?_; rintro r2 w2 ⟨rfl, ht, hb⟩; have H2 := ahide (ao_new (R := K) H1.out HN.out ht hb H8.out); clear ht hb H1; generalize w1.heap.size + 1 = pt at H2 ⊢; generalize w1.heap.size = bt at H2 ⊢)
      | (go_at_call 8; refine (aawake_any _ H2.out.ax.tx).mono ?_; rintro r3 w3 ⟨rfl, hb⟩; have H3 := ahide (H2.out.on hb); clear hb H2)
      | fail)
    go_ret
    exact ⟨rfl, H3.out.below⟩
set_option maxRecDepth 100000 in
set_option maxHeartbeats 4000000 in
theorem stale_walk (page t z : Int) (w : World) (hz : (Lit.int .u8 z).wf = true) (h : Tx w) : Calls Tryd.prog 4 #[.int .i64 page, .int .i64 t, .int .u8 z] w fun x w' => x = .returned (.bool true) ∧ Below w.heap.size w w' := by
  obtain ⟨K, hK0, hK9⟩ := rem_u8 hz 9 (by omega)
  have hK : z.tmod 9 = (K : Int) := hK0
  have h8 : K ≤ 8 := by omega
  clear hK0 hz hK9
  by_cases hg : (0 ≤ page ∧ page ≤ 31) ∧ 0 ≤ t ∧ t ≤ 31
  case neg => exact stale_bad page t z K hK h8 w h hg
  obtain ⟨g0, g2⟩ := hg
  have H0 := ahide (Ppgtbl.own_new h.tb (N := 4) (by omega) (by omega))
  have HN := ahide h.nd
  have H8 := ahide h8
  have v1 : IntKind.i64.wrap (K : Int) = (K : Int) := wrapi_small (by omega) (by omega)
  have v2 : wrap64 (K : Int) = (K : Int) := by unfold wrap64; omega
  clear h h8
  obtain ⟨M3, h3⟩ : ∃ M3, M3 = Ppgtbl.coM 4 (Ppgtbl.twoM 4) 0 0 1 0 := ⟨_, rfl⟩
  obtain ⟨M4, h4⟩ : ∃ M4, M4 = Ppgtbl.maM 4 M3 0 page 2 1 0 := ⟨_, rfl⟩
  obtain ⟨M5, h5⟩ : ∃ M5, M5 = Ppgtbl.unM 4 M4 0 page 5 := ⟨_, rfl⟩
  obtain ⟨S1, hS1⟩ : ∃ S1, S1 = acS K 4 M4 [] 0 (32 * page + t) := ⟨_, rfl⟩
  obtain ⟨f1, f2, f3⟩ := stale_all g0 g2 h3 h4 h5 hS1
  have A1 := ahide (addr_bd g0 g2)
  have wa1 : wrap64 (32 * page) = 32 * page := by unfold wrap64; omega
  have wa2 : wrap64 (32 * page + t) = 32 * page + t := by unfold wrap64; omega
  have t1 : ¬ page < 0 := by omega
  have t2 : ¬ 31 < page := by omega
  have t6 : ¬ t < 0 := by omega
  have t7 : ¬ 31 < t := by omega
  have E3 := ahide h3
  have E4 := ahide h4
  have E5 := ahide h5
  have F1 := ahide f1
  have F3 := ahide f3
  have GS1 := ahide hS1
  clear f1 f3 h3 h4 h5 hS1 g0 g2
  have hk : (0 < K ∧ loE 4 M5 S1 0 (32 * page + t) = 0) ∨ (K = 0 ∧ loE 4 M5 S1 0 (32 * page + t) = 9) := by
    by_cases k : 0 < K
    · rw [if_pos k] at f2; exact .inl ⟨k, f2⟩
    · rw [if_neg k] at f2; exact .inr ⟨by omega, f2⟩
  clear f2
  rcases hk with ⟨k0, q1⟩ | ⟨k0, q1⟩
  case' inl => have k1 : (0 : Int) < (K : Int) := by omega
  case' inr => have k1 : ¬ (0 : Int) < (K : Int) := by omega
  all_goals
    have Q1 := ahide q1
    clear q1 k0
    go_enter Tryd.func4, Tryd.ntmps4
    go_wp2_with (first
      | (go_at_call 6; refine (new_ok 4 _ (by omega) (by omega)).mono ?_; rintro r1 w1 ⟨rfl, hw⟩; rw [← hw] at H0; clear hw; generalize w.heap.size + 1 = p at H0 ⊢; obtain ⟨b, hb⟩ : ∃ b, b = w.heap.size := ⟨_, rfl⟩; have H1 : Hid (Ppgtbl.Own w w1 p b 4 fun _ _ => 0) := (by rw [hb]; exact H0.out); clear H0 hb)
      | (go_at_call 7; refine (Ptlb.new_ok (K : Int) _ (by omega) (by have := H8.out; omega)).mono ?_; rintro r2 w2 ⟨rfl, ht, hb⟩; have H2 := ahide (ao_new (R := K) H1.out HN.out ht hb H8.out); clear ht hb H1; generalize w1.heap.size + 1 = pt at H2 ⊢; generalize w1.heap.size = bt at H2 ⊢)
      | (go_at_call 9; refine (Ppgtbl.make_any p b 4 0 0 _ _ H2.out.ax.mx).mono ?_; rintro r3 w3 ⟨rfl, hm, hb⟩; have H3 := ahide (H2.out.mem hm hb); clear hm hb H2)
      | (go_at_call 9; refine (Ppgtbl.make_any p b 4 1 1 _ _ H3.out.ax.mx).mono ?_; rintro r4 w4 ⟨rfl, hm, hb⟩; rw [Ppgtbl.two_eq] at hm; have H4 := ahide (H3.out.mem hm hb); clear hm hb H3)
      | (go_at_call 10; refine (Ppgtbl.cons_any p b 4 0 0 1 0 _ _ H4.out.ax.mx).mono ?_; rintro r5 w5 ⟨rfl, hm, hb⟩; rw [← E3.out] at hm; have H5 := ahide (H4.out.mem hm hb); clear hm hb H4)
      | (go_at_call 11; refine (Ppgtbl.map_any p b 4 0 page 2 1 0 _ _ H5.out.ax.mx).mono ?_; rintro r6 w6 ⟨rfl, hm, hb⟩; rw [← E4.out] at hm; have H6 := ahide (H5.out.mem hm hb); clear hm hb H5)
      | (go_at_call 13; refine (aload_any p b 4 M4 pt bt K 0 [] 0 (32 * page + t) _ H6.out.ax (by omega) A1.out).mono ?_; rintro r7 w7 ⟨rfl, hm, hb⟩; rw [F1.out]; rw [← GS1.out] at hm; have H7 := ahide (H6.out.tlb hm hb); clear hm hb H6)
      | (go_at_call 14; refine (Ppgtbl.unmap_any p b 4 0 page 5 _ _ H7.out.ax.mx).mono ?_; rintro r8 w8 ⟨rfl, hm, hb⟩; rw [← E5.out] at hm; have H8' := ahide (H7.out.mem hm hb); clear hm hb H7)
      | (go_at_call 13; refine (aload_any p b 4 M5 pt bt K 1 S1 0 (32 * page + t) _ H8'.out.ax (by omega) A1.out).mono ?_; rintro r9 w9 ⟨rfl, hm, hb⟩; rw [Q1.out]; have H9 := ahide (H8'.out.tlb hm hb); clear hm hb H8')
      | (go_at_call 15; refine (aflush_any pt bt K _ _ H9.out.ax.tl).mono ?_; rintro r10 w10 ⟨rfl, hm, hb⟩; have H10 := ahide (H9.out.flush hm hb); clear hm hb H9)
      | (go_at_call 13; refine (aload_any p b 4 M5 pt bt K 2 [] 0 (32 * page + t) _ H10.out.ax (by omega) A1.out).mono ?_; rintro r11 w11 ⟨rfl, hm, hb⟩; rw [F3.out]; have H11 := ahide (H10.out.tlb hm hb); clear hm hb H10)
      | (go_at_call 8; refine (aawake_any _ H11.out.ax.tx).mono ?_; rintro r12 w12 ⟨rfl, hb⟩; have H12 := ahide (H11.out.on hb); clear hb H11)
      | fail)
    go_ret
    exact ⟨by first | rfl | simp, H12.out.below⟩
end Go.Proofs.YthcgdgpflhdchaaDoor.Paccess
