/- What Put of the document's answer does. -/
import Derived.Test.YtamfdnkjfmfcoaaTlbV
namespace Go.Proofs.Ytamfdnkjfmfcoaa
open Go.RowKit Go.ChangeMaps
set_option linter.unusedVariables false

set_option maxHeartbeats 8000000 in
theorem rput_any (n₀ q cap R : Nat) (ao : Option Addr) (S : List En) (k : Ky) (pt : Pt) (w : World) (h : RefIs n₀ w q R ao cap S) (hn : n₀ ≤ w.heap.size) (hl : S.length ≤ R) (hR : R ≤ 8) :
    Calls Try.prog 13 #[.pointer (some ⟨q, 0, none⟩), .agg #[.int .i64 k.1, .int .i64 k.2], .agg #[.bool pt.1, .int .i64 pt.2.1, .int .i64 pt.2.2.1, .int .i64 pt.2.2.2]] w fun e w' =>
      e = .returned (.tuple #[]) ∧ (∃ ao' cap', RefIs n₀ w' q R ao' cap' (putS R S k pt)) ∧ Other w w' ∧ ∀ B, B ≤ n₀ → Below B w w' := by
  have H : Hid (RefIs n₀ w q R ao cap S) := h
  clear h
  obtain ⟨a, c⟩ := k
  obtain ⟨q0, q1, q2, q3⟩ := pt
  obtain ⟨N, hN⟩ : ∃ N, N = S.length := ⟨_, rfl⟩
  have HN : Hid (N = S.length) := hN
  rw [← hN] at hl
  clear hN
  go_enter Try.func13, Try.ntmps13
  go_wp2
  obtain ⟨w1, hw1⟩ : ∃ w1, w1 = (w.alloc (.cells #[.int .i64 a, .int .i64 c] 36)).alloc (.cells #[.bool q0, .int .i64 q1, .int .i64 q2, .int .i64 q3] 38) := ⟨_, rfl⟩
  rw [← hw1]
  have HR1 : Hid (RefIs n₀ w1 q R ao cap S) := by rw [hw1]; exact (H.out.alloc _).alloc _
  have HB1 : Hid (Below w.heap.size w w1) := by rw [hw1]; exact bal (bal (Below.refl _ _) _) _
  have HK1 : Hid (w1.heap[w.heap.size]? = some (.cells #[.int .i64 a, .int .i64 c] 36 (0, 0))) := by
    rw [hw1]
    exact (Below.heap_alloc _ _ _ (by simp)).trans (heap_alloc_new w _)
  have HP1 : Hid (w1.heap[w.heap.size + 1]? = some (.cells #[.bool q0, .int .i64 q1, .int .i64 q2, .int .i64 q3] 38 (0, 0))) := by rw [hw1]; exact row_new2 _ _ _ _
  clear hw1
  go_loopw [6] (fun i wr => ∃ j : Nat, j ≤ N ∧ i = .int .i64 j ∧ (∀ l x, l < j → S[l]? = some x → x.1 ≠ (a, c)) ∧ RefIs n₀ wr q R ao cap S ∧ Below w.heap.size w wr ∧ wr.heap[w.heap.size]? = some (.cells #[.int .i64 a, .int .i64 c] 36 (0, 0)) ∧ wr.heap[w.heap.size + 1]? = some (.cells #[.bool q0, .int .i64 q1, .int .i64 q2, .int .i64 q3] 38 (0, 0))) (fun i _ => N - (intOf i).toNat)
  case atStart => exact ⟨0, by omega, rfl, fun l x hl => by omega, HR1.out, HB1.out, HK1.out, HP1.out⟩
  case round =>
    obtain ⟨j, hj, rfl, hne, hR', hB, hK, hP⟩ := hrel
    have HNE : Hid (∀ l x, l < j → S[l]? = some x → x.1 ≠ (a, c)) := hne
    have HR : Hid (RefIs n₀ wr q R ao cap S) := hR'
    have HB : Hid (Below w.heap.size w wr) := hB
    have HK : Hid (wr.heap[w.heap.size]? = some (.cells #[.int .i64 a, .int .i64 c] 36 (0, 0))) := hK
    have HP : Hid (wr.heap[w.heap.size + 1]? = some (.cells #[.bool q0, .int .i64 q1, .int .i64 q2, .int .i64 q3] 38 (0, 0))) := hP
    clear hne hR' hB hK hP HR1 HB1 HK1 HP1
    have c0 : wr.cell? ⟨q, 0, none⟩ = some (.slice ao N cap) := by rw [HN.out]; exact HR.out.cell
    have e0 : wr.cell? ⟨w.heap.size, 0, none⟩ = some (.int .i64 a) := by rw [cell_of_row wr _ 0 _ _ _ HK.out]; rfl
    have e1 : wr.cell? ⟨w.heap.size, 1, none⟩ = some (.int .i64 c) := by rw [cell_of_row wr _ 1 _ _ _ HK.out]; rfl
    have p0 : wr.cell? ⟨w.heap.size + 1, 0, none⟩ = some (.bool q0) := by rw [cell_of_row wr _ 0 _ _ _ HP.out]; rfl
    have p1 : wr.cell? ⟨w.heap.size + 1, 1, none⟩ = some (.int .i64 q1) := by rw [cell_of_row wr _ 1 _ _ _ HP.out]; rfl
    have p2 : wr.cell? ⟨w.heap.size + 1, 2, none⟩ = some (.int .i64 q2) := by rw [cell_of_row wr _ 2 _ _ _ HP.out]; rfl
    have p3 : wr.cell? ⟨w.heap.size + 1, 3, none⟩ = some (.int .i64 q3) := by rw [cell_of_row wr _ 3 _ _ _ HP.out]; rfl
    by_cases hlt : j < N
    · have hji : (j : Int) < (N : Int) := by omega
      obtain ⟨x, hx⟩ : ∃ x, S[j]? = some x := ⟨S[j]'(by rw [← HN.out]; exact hlt), List.getElem?_eq_getElem _⟩
      obtain ⟨g, off, rfl, hg, hgq, hgl, hc, hz⟩ := HR.out.ent hx
      have HX : Hid (S[j]? = some x) := hx
      have HG : Hid (n₀ ≤ g) := hg
      clear hx hg
      obtain ⟨⟨k1, k2⟩, ⟨u0, u1, u2, u3⟩, tt⟩ := x
      have g0 : wr.cell? ⟨g, off + j * 6, none⟩ = some (.int .i64 k1) := hc 0 (by omega)
      have g1 : wr.cell? ⟨g, off + j * 6 + 1, none⟩ = some (.int .i64 k2) := hc 1 (by omega)
      have g2 : wr.cell? ⟨g, off + j * 6 + 2, none⟩ = some (.bool u0) := hc 2 (by omega)
      have g3 : wr.cell? ⟨g, off + j * 6 + 3, none⟩ = some (.int .i64 u1) := hc 3 (by omega)
      have g4 : wr.cell? ⟨g, off + j * 6 + 4, none⟩ = some (.int .i64 u2) := hc 4 (by omega)
      have g5 : wr.cell? ⟨g, off + j * 6 + 5, none⟩ = some (.int .i64 u3) := hc 5 (by omega)
      clear hc
      by_cases he : k1 = a ∧ k2 = c
      · obtain ⟨rfl, rfl⟩ := he
        have heq : ∀ w, (binOp .eql 36 (.agg #[.int .i64 k1, .int .i64 k2]) (.agg #[.int .i64 k1, .int .i64 k2])).run Try.prog w = .ok (.bool true) w := fun w => by have := eqlK (k1, k2) (k1, k2) w; simpa using this
        have z2 := hz (off + j * 6 + 2)
        have z3 := hz (off + j * 6 + 3)
        have z4 := hz (off + j * 6 + 4)
        have z5 := hz (off + j * 6 + 5)
        have hgk : g ≠ w.heap.size := by
          intro e
          have := HR.out.ent HX.out
          obtain ⟨g', off', e1, _, _, _, hcc, _⟩ := this
          simp at e1
          rcases HR.out.held with ⟨e2, _⟩ | ⟨g2, o2, cur, e2, _, hr, _⟩
          · have := HX.out; rw [e2] at this; simp at this
          · simp at e2
            rw [← e2.1, e] at hr
            rw [HK.out] at hr
            cases hr
        have hgp : g ≠ w.heap.size + 1 := by
          intro e
          rcases HR.out.held with ⟨e2, _⟩ | ⟨g2, o2, cur, e2, _, hr, _⟩
          · have := HX.out; rw [e2] at this; simp at this
          · simp at e2
            rw [← e2.1, e] at hr
            rw [HP.out] at hr
            cases hr
        clear hz
        go_wp2
        go_quiet (fail)
        obtain ⟨w5, hw5⟩ : ∃ w5, w5 = wr.drewN nq := ⟨_, rfl⟩
        have HR5 : Hid (RefIs n₀ w5 q R (some ⟨g, off, none⟩) cap S) := by rw [hw5]; exact HR.out.drewN _
        have HB5 : Hid (Below w.heap.size w w5) := by rw [hw5]; exact below_drewN HB.out _
        have HH5 : Hid (w5.heap = wr.heap) := by rw [hw5]; exact rfl
        have d0 : w5.cell? ⟨q, 0, none⟩ = some (.slice (some ⟨g, off, none⟩) N cap) := by rw [hw5]; exact c0
        have d1 : w5.cell? ⟨w.heap.size + 1, 0, none⟩ = some (.bool q0) := by rw [hw5]; exact p0
        have d2 : w5.cell? ⟨w.heap.size + 1, 1, none⟩ = some (.int .i64 q1) := by rw [hw5]; exact p1
        have d3 : w5.cell? ⟨w.heap.size + 1, 2, none⟩ = some (.int .i64 q2) := by rw [hw5]; exact p2
        have d4 : w5.cell? ⟨w.heap.size + 1, 3, none⟩ = some (.int .i64 q3) := by rw [hw5]; exact p3
        have f2 : w5.cell? ⟨g, off + j * 6 + 2, none⟩ = some (.bool u0) := by rw [hw5]; exact g2
        have f3 : w5.cell? ⟨g, off + j * 6 + 3, none⟩ = some (.int .i64 u1) := by rw [hw5]; exact g3
        have f4 : w5.cell? ⟨g, off + j * 6 + 4, none⟩ = some (.int .i64 u2) := by rw [hw5]; exact g4
        have f5 : w5.cell? ⟨g, off + j * 6 + 5, none⟩ = some (.int .i64 u3) := by rw [hw5]; exact g5
        have y2 : w5.frozen? ⟨g, off + j * 6 + 2, none⟩ = false := by rw [hw5]; exact z2
        have y3 : w5.frozen? ⟨g, off + j * 6 + 3, none⟩ = false := by rw [hw5]; exact z3
        have y4 : w5.frozen? ⟨g, off + j * 6 + 4, none⟩ = false := by rw [hw5]; exact z4
        have y5 : w5.frozen? ⟨g, off + j * 6 + 5, none⟩ = false := by rw [hw5]; exact z5
        rw [← hw5]
        clear hw5 c0 e0 e1 p0 p1 p2 p3 g0 g1 g2 g3 g4 g5 z2 z3 z4 z5
        go_wp2
        go_region_held3 (fun w' => w'.cell? ⟨q, 0, none⟩ = some (.slice (some ⟨g, off, none⟩) N cap) ∧ w'.cell? ⟨w.heap.size + 1, 0, none⟩ = some (.bool q0) ∧ w'.cell? ⟨w.heap.size + 1, 1, none⟩ = some (.int .i64 q1) ∧ w'.cell? ⟨w.heap.size + 1, 2, none⟩ = some (.int .i64 q2) ∧ w'.cell? ⟨w.heap.size + 1, 3, none⟩ = some (.int .i64 q3)) (go_keep) (fail)
        go_wp2

        have hrow : Hid (∃ cur, w5.heap[g]? = some (.cells cur 47 (0, 0))) := by
          rcases HR5.out.held with ⟨e2, _⟩ | ⟨g2, o2, cur, e2, _, hr, _⟩
          · have := HX.out; rw [e2] at this; simp at this
          · simp at e2
            rw [← e2.1] at hr
            exact ⟨cur, hr⟩
        refine bodyPost_ret (v := .tuple #[]) (by simp [results, Try.results13, go_sem]) rfl ⟨rfl, ⟨some ⟨g, off, none⟩, cap, ?_⟩, ?_, fun B hB => ?_⟩
        · rw [putS_at (by rw [← HN.out]; exact hl) (q0, q1, q2, q3) HNE.out HX.out rfl]
          exact (HR5.out.set4 HX.out q0 q1 q2 q3 _).drew
        · obtain ⟨cur, hr⟩ := hrow.out
          refine (Other.of_below HB5.out).trans (other_set hr (.inr rfl) rfl rfl rfl (by simp) (fun i hi => ?_))
          exact (Below.heap_setCell _ _ _ i hi).trans ((Below.heap_setCell _ _ _ i hi).trans ((Below.heap_setCell _ _ _ i hi).trans (Below.heap_setCell _ _ _ i hi)))
        · have hg := HG.out
          exact (((((HB5.out.mono (by omega)).setCell (p := ⟨g, _, none⟩) (by simp only; omega) _).setCell (p := ⟨g, _, none⟩) (by simp only; omega) _).setCell (p := ⟨g, _, none⟩) (by simp only; omega) _).setCell (p := ⟨g, _, none⟩) (by simp only; omega) _).drew
      · have hde : decide ((k1, k2) = (a, c)) = false := by simpa using he
        have heq : ∀ w, (binOp .eql 36 (.agg #[.int .i64 k1, .int .i64 k2]) (.agg #[.int .i64 a, .int .i64 c])).run Try.prog w = .ok (.bool false) w := fun w => by have := eqlK (k1, k2) (a, c) w; rwa [hde] at this
        have HE : Hid (¬ (k1 = a ∧ k2 = c)) := he
        clear hde he hz
        go_wp2
        go_quiet (fail)
        obtain ⟨w5, hw5⟩ : ∃ w5, w5 = wr.drewN nq := ⟨_, rfl⟩
        rw [← hw5]
        have HR5 : Hid (RefIs n₀ w5 q R (some ⟨g, off, none⟩) cap S) := by rw [hw5]; exact HR.out.drewN _
        have HB5 : Hid (Below w.heap.size w w5) := by rw [hw5]; exact below_drewN HB.out _
        have HK5 : Hid (w5.heap[w.heap.size]? = some (.cells #[.int .i64 a, .int .i64 c] 36 (0, 0))) := by rw [hw5]; exact HK.out
        have HP5 : Hid (w5.heap[w.heap.size + 1]? = some (.cells #[.bool q0, .int .i64 q1, .int .i64 q2, .int .i64 q3] 38 (0, 0))) := by rw [hw5]; exact HP.out
        clear hw5
        go_wp2
        go_roundw
        case rel =>
          refine ⟨j + 1, by omega, by go_num, fun l x hlx hx => ?_, HR5.out, HB5.out, HK5.out, HP5.out⟩
          by_cases e : l = j
          · subst e
            have := HX.out
            rw [hx] at this
            cases this
            intro e2
            exact HE.out (by simpa using e2)
          · exact HNE.out l x (by omega) hx
        case measure => simp [intOf]; omega
    · obtain rfl : j = N := by omega
      have hji : ¬ (j : Int) < (j : Int) := by omega
      have HH : Hid (hasK S (a, c) = false) := none_before HNE.out (by rw [← HN.out]; exact Nat.le_refl _)
      have z0 := HR.out.free 0
      have HQK : Hid (q ≠ w.heap.size) := by
        intro e
        have := HR.out.row
        rw [e, HK.out] at this
        cases this
      have HQP : Hid (q ≠ w.heap.size + 1) := by
        intro e
        have := HR.out.row
        rw [e, HP.out] at this
        cases this
      have HC0 : Hid (wr.cell? ⟨q, 0, none⟩ = some (.slice ao j cap)) := c0
      have HZ0 : Hid (wr.frozen? ⟨q, 0, none⟩ = false) := z0
      have HKEY : Hid (wr.cell? ⟨w.heap.size, 0, none⟩ = some (.int .i64 a) ∧ wr.cell? ⟨w.heap.size, 1, none⟩ = some (.int .i64 c) ∧ wr.cell? ⟨w.heap.size + 1, 0, none⟩ = some (.bool q0) ∧ wr.cell? ⟨w.heap.size + 1, 1, none⟩ = some (.int .i64 q1) ∧ wr.cell? ⟨w.heap.size + 1, 2, none⟩ = some (.int .i64 q2) ∧ wr.cell? ⟨w.heap.size + 1, 3, none⟩ = some (.int .i64 q3)) := ⟨e0, e1, p0, p1, p2, p3⟩
      have HSRC : Hid (∀ w', Below wr.heap.size wr w' → ∀ b, ao = some b → ∀ i u, (rcells S)[i]? = some u → w'.cell? (b.add i) = some u) := fun w' hB => (HR.out.more hB).src
      have HNONE : Hid (ao = none → j = 0) := fun e => by rw [HN.out]; exact HR.out.nil e
      clear z0 e0 e1 p0 p1 p2 p3
      go_wp2
      refine wp_region_noPanic ?_
      refine region6 q w.heap.size (w.heap.size + 1) j cap ao S a c q0 q1 q2 q3 wr _ _ _ _ _ _ _ _ _ _ _ _ _ _ _ _ _ _ _ _ _ _ _ _ _ _ _ _ _ _ _ _ _ _ _ _ _ _ _ _ _ _ _ _ _ _ _ _ _ _ _ _ _ _ _ _ _ _ _ _ _ _ _ _ HN (by omega) HR.out.lt HQK.out HQP.out HC0 HZ0 HSRC HNONE HKEY ?_ (fun _ _ _ _ _ h => h)
      unfold Hid
      intro v34 v35 v36 v37 v38 v39 v40 v41 v42 v43 v44 v45 v46 v47 g6 c6 w6 ho6 hb6
      have HO6 : Hid (w6.ownsRow wr.heap.size 47 6 (.slice (some ⟨g6, 0, none⟩) (j + 1) c6) (j + 1) (rcells S ++ [.int .i64 a, .int .i64 c, .bool q0, .int .i64 q1, .int .i64 q2, .int .i64 q3])) := ho6
      have HB6 : Hid (Below wr.heap.size wr w6) := hb6
      clear ho6 hb6
      obtain ⟨w7, hw7⟩ : ∃ x, x = w6.setCell ⟨q, 0, none⟩ (.slice (some ⟨g6, 0, none⟩) (j + 1) c6) := ⟨_, rfl⟩
      rw [← hw7]
      refine NoPanic.normal ?_
      have HPN := putS_none (R := R) (k := (a, c)) (q0, q1, q2, q3) HH.out
      obtain ⟨S7, hS7⟩ : ∃ x, x = S ++ [((a, c), (q0, q1, q2, q3), turnS S (a, c))] := ⟨_, rfl⟩
      rw [← hS7, ← HN.out] at HPN
      have HPS : Hid (putS R S (a, c) (q0, q1, q2, q3) = if R < j + 1 then S7.tail else S7) := HPN
      have HL7 : Hid (S7.length = j + 1) := by
        have : S7.length = j + 1 := by rw [hS7, HN.out]; simp
        exact this
      have HR7 : Hid (RefIs n₀ w7 q R (some ⟨g6, 0, none⟩) c6 S7) := by
        have ho : w6.ownsRow wr.heap.size 47 6 (.slice (some ⟨g6, 0, none⟩) S7.length c6) S7.length (rcells S7) := by
          rw [HL7.out, hS7, rcells_snoc]
          exact HO6.out
        have := HR.out.lay (Nat.le_trans hn HB.out.size) (HB6.out.block q HR.out.lt) ho
        rw [HL7.out, ← hw7] at this
        exact this
      have HO7 : Hid (Other w w7) := by
        refine (Other.of_below (belowt HB.out HB6.out)).trans (other_set ((HB6.out.block q HR.out.lt).trans HR.out.row) (.inl rfl) (by rw [hw7]; rfl) (by rw [hw7]; rfl) (by rw [hw7]; rfl) (by rw [hw7]; simp) (fun i hi => ?_))
        rw [hw7]
        exact Below.heap_setCell _ ⟨q, 0, none⟩ _ i hi
      have HB7 : Hid (∀ B, B ≤ n₀ → Below B w w7) := fun B hB => by
        rw [hw7]
        have hb := HR.out.base
        exact ((belowt HB.out HB6.out).mono (by omega)).setCell (p := ⟨q, 0, none⟩) (by simp only; omega) _
      have hc6 : j + 1 ≤ c6 := by have := HR7.out.capn; rw [HL7.out] at this; exact this
      have r0 : w7.cell? ⟨q, 0, none⟩ = some (.slice (some ⟨g6, 0, none⟩) (j + 1) c6) := by have := HR7.out.cell; rwa [HL7.out] at this
      have r1 := HR7.out.room
      have r2 := HR7.out.free 0
      clear hw7 HPN hS7 HC0 HZ0 HKEY HSRC HNONE HO6
      by_cases hgt : R < j + 1
      · have hgt' : (R : Int) < (j : Int) + 1 := by omega
        have hPE : Hid (putS R S (a, c) (q0, q1, q2, q3) = S7.tail) := by rw [HPS.out, if_pos hgt]; exact rfl
        obtain ⟨x7, S8, e7⟩ : ∃ x S8, S7 = x :: S8 := by
          cases S7 with
          | nil => have := HL7.out; simp at this
          | cons x S8 => exact ⟨x, S8, rfl⟩
        subst e7
        have HL8 : Hid (S8.length = j) := by
          have := HL7.out
          simp at this
          exact this
        go_wp2
        go_quiet (fail)
        obtain ⟨w8, hw8⟩ : ∃ x, x = w7.drewN nq := ⟨_, rfl⟩
        have s0 : w8.cell? ⟨q, 0, none⟩ = some (.slice (some ⟨g6, 0, none⟩) (j + 1) c6) := by rw [hw8]; exact r0
        have s2 : w8.frozen? ⟨q, 0, none⟩ = false := by rw [hw8]; exact r2
        have HR8 : Hid (RefIs n₀ w8 q R (some ⟨g6, 0, none⟩) c6 (x7 :: S8)) := by rw [hw8]; exact HR7.out.drewN _
        have HO8 : Hid (Other w w8) := by rw [hw8]; exact ⟨HO7.out.os, HO7.out.tape, HO7.out.output, HO7.out.size, HO7.out.block⟩
        have HB8 : Hid (∀ B, B ≤ n₀ → Below B w w8) := fun B hB => by rw [hw8]; exact ⟨(HB7.out B hB).os, (HB7.out B hB).tape, (HB7.out B hB).output, (HB7.out B hB).size, (HB7.out B hB).block⟩
        rw [← hw8]
        clear hw8 r0 r1 r2
        have hci : (j : Int) + 1 ≤ (c6 : Int) := by omega
        have h1j : (1 : Int) ≤ (j : Int) + 1 := by omega
        go_wp2
        · go_end0
          have hj0 : j = 0 := by omega
          have hS8 : S8 = [] := List.eq_nil_of_length_eq_zero (by rw [HL8.out]; exact hj0)
          refine ⟨rfl, ⟨some ⟨g6, 0, none⟩, 0, ?_⟩, ?_, fun B hB => ?_⟩
          · rw [hPE.out, List.tail_cons, hS8, hj0]
            rw [setCell_eq_setRow w8 q 0 _ _ _ _ HR8.out.row]
            exact ⟨setRow_heap _ _ _ _ _ _ HR8.out.row, HR8.out.base, Nat.le_refl _, .inl ⟨rfl, .inr ⟨_, rfl⟩⟩⟩
          · exact HO8.out.trans (other_set HR8.out.row (.inl rfl) rfl rfl rfl (by simp) (fun i hi => Below.heap_setCell _ ⟨q, 0, none⟩ _ i hi))
          · have hb := HR8.out.base
            exact (HB8.out B hB).setCell (p := ⟨q, 0, none⟩) (by simp only; omega) _
        · go_end0
          refine ⟨rfl, ⟨some ⟨g6, 6, none⟩, c6 - 1, ?_⟩, ?_, fun B hB => ?_⟩
          · have := HR8.out.tail
            rw [HL8.out, Nat.zero_add] at this
            rw [hPE.out, List.tail_cons]
            exact this
          · exact HO8.out.trans (other_set HR8.out.row (.inl rfl) rfl rfl rfl (by simp) (fun i hi => Below.heap_setCell _ ⟨q, 0, none⟩ _ i hi))
          · have hb := HR8.out.base
            exact (HB8.out B hB).setCell (p := ⟨q, 0, none⟩) (by simp only; omega) _
      · have hgt' : ¬ (R : Int) < (j : Int) + 1 := by omega
        have hPE : Hid (putS R S (a, c) (q0, q1, q2, q3) = S7) := by rw [HPS.out, if_neg hgt]; exact rfl
        go_wp2
        go_quiet (fail)
        go_wp2
        go_end0
        refine ⟨rfl, ⟨_, _, by rw [hPE.out]; exact HR7.out.drewN _⟩, ⟨HO7.out.os, HO7.out.tape, HO7.out.output, HO7.out.size, HO7.out.block⟩, fun B hB => ⟨(HB7.out B hB).os, (HB7.out B hB).tape, (HB7.out B hB).output, (HB7.out B hB).size, (HB7.out B hB).block⟩⟩
end Go.Proofs.Ytamfdnkjfmfcoaa
