/- What Get of the document's answer answers. -/
import Derived.Test.YtamfdnkjfmfcoaaTlbR
namespace Go.Proofs.Ytamfdnkjfmfcoaa
open Go.RowKit Go.ChangeMaps
set_option linter.unusedVariables false

theorem eqlK (k l : Ky) (w : World) : (binOp .eql 36 (.agg #[.int .i64 k.1, .int .i64 k.2]) (.agg #[.int .i64 l.1, .int .i64 l.2])).run Try.prog w = .ok (.bool (decide (k = l))) w := by
  rw [run_eql_struct]
  have := run_equalK k l w
  simp only [kv, Op.equal, Op.maxDepth] at this
  rw [this]
  rfl
theorem neqK (k l : Ky) (w : World) : (binOp .neq 36 (.agg #[.int .i64 k.1, .int .i64 k.2]) (.agg #[.int .i64 l.1, .int .i64 l.2])).run Try.prog w = .ok (.bool (!decide (k = l))) w := by
  rw [run_neq_struct]
  have := run_equalK k l w
  simp only [kv, Op.equal, Op.maxDepth] at this
  rw [this]
  rfl
theorem none_before {S : List En} {k : Ky} {j : Nat} (h : ∀ l x, l < j → S[l]? = some x → x.1 ≠ k) (hj : S.length ≤ j) : hasK S k = false := by
  simp only [hasK, List.any_eq_false, decide_eq_true_eq]
  intro x hx
  obtain ⟨l, hl⟩ := List.getElem?_of_mem hx
  exact h l x (Nat.lt_of_lt_of_le (List.getElem?_eq_some_iff.1 hl).1 hj) hl
theorem first_at : ∀ {S : List En} {k : Ky} {j : Nat} {x : En}, (∀ l y, l < j → S[l]? = some y → y.1 ≠ k) → S[j]? = some x → x.1 = k → hasK S k = true ∧ ptK S k = x.2.1
  | [], _, _, _, _, hx, _ => by simp at hx
  | y :: S, k, 0, x, h, hx, e => by
    simp at hx
    subst hx
    simp [hasK, ptK, e]
  | y :: S, k, j + 1, x, h, hx, e => by
    have hy : y.1 ≠ k := h 0 y (by omega) rfl
    have := first_at (S := S) (k := k) (j := j) (x := x) (fun l z hl hz => h (l + 1) z (by omega) (by simpa using hz)) (by simpa using hx) e
    simpa [hasK, ptK, hy] using this
set_option maxHeartbeats 4000000 in
theorem rget_any (n₀ q cap : Nat) (room : Int) (ao : Option Addr) (S : List En) (k : Ky) (w : World) (h : RefIs n₀ w q room ao cap S) (hl : S.length ≤ 1000) :
    Calls Try.prog 18 #[.pointer (some ⟨q, 0, none⟩), .agg #[.int .i64 k.1, .int .i64 k.2]] w fun e w' => e = .returned (.tuple #[pv (ptK S k), .bool (hasK S k)]) ∧ Below w.heap.size w w' := by
  have H : Hid (RefIs n₀ w q room ao cap S) := h
  clear h
  obtain ⟨a, c⟩ := k
  obtain ⟨N, hN⟩ : ∃ N, N = S.length := ⟨_, rfl⟩
  have HN : Hid (N = S.length) := hN
  rw [← hN] at hl
  clear hN
  obtain ⟨q0, hq0⟩ : ∃ v, v = pv (ptK S (a, c)) := ⟨_, rfl⟩
  have HQ0 : Hid (q0 = pv (ptK S (a, c))) := hq0
  rw [← hq0]
  clear hq0
  obtain ⟨y0, hy0⟩ : ∃ v, v = hasK S (a, c) := ⟨_, rfl⟩
  have HY0 : Hid (y0 = hasK S (a, c)) := hy0
  rw [← hy0]
  clear hy0
  go_enter Try.func18, Try.ntmps18
  go_wp2
  obtain ⟨w1, hw1⟩ : ∃ w1, w1 = (w.alloc (.cells #[.int .i64 a, .int .i64 c] 36)).alloc (.cells #[.bool false, .int .i64 0, .int .i64 0, .int .i64 0] 38) := ⟨_, rfl⟩
  rw [← hw1]
  have HR1 : Hid (RefIs n₀ w1 q room ao cap S) := by rw [hw1]; exact (H.out.alloc _).alloc _
  have HB1 : Hid (Below w.heap.size w w1) := by rw [hw1]; exact bal (bal (Below.refl _ _) _) _
  have HK1 : Hid (w1.heap[w.heap.size]? = some (.cells #[.int .i64 a, .int .i64 c] 36 (0, 0))) := by
    rw [hw1]
    exact (Below.heap_alloc _ _ _ (by simp)).trans (heap_alloc_new w _)
  have HP1 : Hid (w1.heap[w.heap.size + 1]? = some (.cells #[.bool false, .int .i64 0, .int .i64 0, .int .i64 0] 38 (0, 0))) := by rw [hw1]; exact row_new2 _ _ _ _
  clear hw1
  go_loopw [6] (fun i wr => ∃ j : Nat, j ≤ N ∧ i = .int .i64 j ∧ (∀ l x, l < j → S[l]? = some x → x.1 ≠ (a, c)) ∧ RefIs n₀ wr q room ao cap S ∧ Below w.heap.size w wr ∧ wr.heap[w.heap.size]? = some (.cells #[.int .i64 a, .int .i64 c] 36 (0, 0)) ∧ wr.heap[w.heap.size + 1]? = some (.cells #[.bool false, .int .i64 0, .int .i64 0, .int .i64 0] 38 (0, 0))) (fun i _ => N - (intOf i).toNat)
  case atStart => exact ⟨0, by omega, rfl, fun l x hl => by omega, HR1.out, HB1.out, HK1.out, HP1.out⟩
  case round =>
    obtain ⟨j, hj, rfl, hne, hR, hB, hK, hP⟩ := hrel
    have HNE : Hid (∀ l x, l < j → S[l]? = some x → x.1 ≠ (a, c)) := hne
    have HR : Hid (RefIs n₀ wr q room ao cap S) := hR
    have HB : Hid (Below w.heap.size w wr) := hB
    have HK : Hid (wr.heap[w.heap.size]? = some (.cells #[.int .i64 a, .int .i64 c] 36 (0, 0))) := hK
    have HP : Hid (wr.heap[w.heap.size + 1]? = some (.cells #[.bool false, .int .i64 0, .int .i64 0, .int .i64 0] 38 (0, 0))) := hP
    clear hne hR hB hK hP HR1 HB1 HK1 HP1
    have c0 : wr.cell? ⟨q, 0, none⟩ = some (.slice ao N cap) := by rw [HN.out]; exact HR.out.cell
    have e0 : wr.cell? ⟨w.heap.size, 0, none⟩ = some (.int .i64 a) := by rw [cell_of_row wr _ 0 _ _ _ HK.out]; rfl
    have e1 : wr.cell? ⟨w.heap.size, 1, none⟩ = some (.int .i64 c) := by rw [cell_of_row wr _ 1 _ _ _ HK.out]; rfl
    have p0 : wr.cell? ⟨w.heap.size + 1, 0, none⟩ = some (.bool false) := by rw [cell_of_row wr _ 0 _ _ _ HP.out]; rfl
    have p1 : wr.cell? ⟨w.heap.size + 1, 1, none⟩ = some (.int .i64 0) := by rw [cell_of_row wr _ 1 _ _ _ HP.out]; rfl
    have p2 : wr.cell? ⟨w.heap.size + 1, 2, none⟩ = some (.int .i64 0) := by rw [cell_of_row wr _ 2 _ _ _ HP.out]; rfl
    have p3 : wr.cell? ⟨w.heap.size + 1, 3, none⟩ = some (.int .i64 0) := by rw [cell_of_row wr _ 3 _ _ _ HP.out]; rfl
    have z0 := frozen_of_row wr (w.heap.size + 1) 0 _ _ HP.out
    have z1 := frozen_of_row wr (w.heap.size + 1) 1 _ _ HP.out
    have z2 := frozen_of_row wr (w.heap.size + 1) 2 _ _ HP.out
    have z3 := frozen_of_row wr (w.heap.size + 1) 3 _ _ HP.out
    by_cases hlt : j < N
    · have hji : (j : Int) < (N : Int) := by omega
      obtain ⟨x, hx⟩ : ∃ x, S[j]? = some x := ⟨S[j]'(by rw [← HN.out]; exact hlt), List.getElem?_eq_getElem _⟩
      obtain ⟨g, off, rfl, hg, hgq, hgl, hc, hz⟩ := HR.out.ent hx
      have HX : Hid (S[j]? = some x) := hx
      clear hx hz hgq hg
      obtain ⟨⟨k1, k2⟩, ⟨u0, u1, u2, u3⟩, tt⟩ := x
      have g0 : wr.cell? ⟨g, off + j * 6, none⟩ = some (.int .i64 k1) := hc 0 (by omega)
      have g1 : wr.cell? ⟨g, off + j * 6 + 1, none⟩ = some (.int .i64 k2) := hc 1 (by omega)
      have g2 : wr.cell? ⟨g, off + j * 6 + 2, none⟩ = some (.bool u0) := hc 2 (by omega)
      have g3 : wr.cell? ⟨g, off + j * 6 + 3, none⟩ = some (.int .i64 u1) := hc 3 (by omega)
      have g4 : wr.cell? ⟨g, off + j * 6 + 4, none⟩ = some (.int .i64 u2) := hc 4 (by omega)
      have g5 : wr.cell? ⟨g, off + j * 6 + 5, none⟩ = some (.int .i64 u3) := hc 5 (by omega)
      clear hc
      by_cases he : k1 = a ∧ k2 = c
      · obtain ⟨rfl, rfl⟩ := he
        have heq : ∀ w, (binOp .eql 36 (.agg #[.int .i64 k1, .int .i64 k2]) (.agg #[.int .i64 k1, .int .i64 k2])).run Try.prog w = .ok (.bool true) w := fun w => by have := eqlK (k1, k2) (k1, k2) w; simpa using this
        have HF := first_at HNE.out HX.out rfl
        have HF1 : Hid (hasK S (k1, k2) = true) := HF.1
        have HF2 : Hid (ptK S (k1, k2) = (u0, u1, u2, u3)) := HF.2
        clear HF
        go_wp2
        go_quiet (fail)
        go_wp2
        exact bodyPost_ret (v := .tuple #[.agg #[.bool u0, .int .i64 u1, .int .i64 u2, .int .i64 u3], .bool true]) (by simp [results, Try.results18, go_sem, p0, p1, p2, p3]) rfl
          ⟨by rw [HQ0.out, HY0.out, HF1.out, HF2.out]; rfl, bst (bst (bst (bst (below_drewN HB.out _) (by omega) _ _) (by omega) _ _) (by omega) _ _) (by omega) _ _⟩
      · have hde : decide ((k1, k2) = (a, c)) = false := by simpa using he
        have heq : ∀ w, (binOp .eql 36 (.agg #[.int .i64 k1, .int .i64 k2]) (.agg #[.int .i64 a, .int .i64 c])).run Try.prog w = .ok (.bool false) w := fun w => by have := eqlK (k1, k2) (a, c) w; rwa [hde] at this
        have HE : Hid (¬ (k1 = a ∧ k2 = c)) := he
        clear hde he
        go_wp2
        go_quiet (fail)
        obtain ⟨w5, hw5⟩ : ∃ w5, w5 = wr.drewN nq := ⟨_, rfl⟩
        rw [← hw5]
        have HR5 : Hid (RefIs n₀ w5 q room (some ⟨g, off, none⟩) cap S) := by rw [hw5]; exact HR.out.drewN _
        have HB5 : Hid (Below w.heap.size w w5) := by rw [hw5]; exact below_drewN HB.out _
        have HK5 : Hid (w5.heap[w.heap.size]? = some (.cells #[.int .i64 a, .int .i64 c] 36 (0, 0))) := by rw [hw5]; exact HK.out
        have HP5 : Hid (w5.heap[w.heap.size + 1]? = some (.cells #[.bool false, .int .i64 0, .int .i64 0, .int .i64 0] 38 (0, 0))) := by rw [hw5]; exact HP.out
        clear hw5
        go_wp2
        go_roundw
        case rel =>
          refine ⟨j + 1, by omega, by go_num, fun l x hlx hx => ?_, HR5.out, HB5.out, HK5.out, HP5.out⟩
          by_cases e : l = j
          · subst e
            have := HX.out
            rw [hx] at this
            cases this
            intro e2
            exact HE.out (by simpa using e2)
          · exact HNE.out l x (by omega) hx
        case measure => simp [intOf]; omega
    · obtain rfl : j = N := by omega
      have hji : ¬ (j : Int) < (j : Int) := by omega
      have HH : Hid (hasK S (a, c) = false) := none_before HNE.out (by rw [← HN.out]; exact Nat.le_refl _)
      have HPT : Hid (ptK S (a, c) = pt0) := (findS_none S (a, c) 0 HH.out).2.1
      go_wp2
      exact bodyPost_ret (v := .tuple #[.agg #[.bool false, .int .i64 0, .int .i64 0, .int .i64 0], .bool false]) (by simp [results, Try.results18, go_sem, p0, p1, p2, p3]) rfl
        ⟨by rw [HQ0.out, HY0.out, HH.out, HPT.out]; rfl, bst (bst (bst (bst HB.out (by omega) _ _) (by omega) _ _) (by omega) _ _) (by omega) _ _⟩
end Go.Proofs.Ytamfdnkjfmfcoaa
