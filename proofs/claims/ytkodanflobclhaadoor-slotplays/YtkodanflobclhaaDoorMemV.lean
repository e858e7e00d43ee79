/- The document's memory: what its New answers and makes, for every argument. -/
import Derived.Test.YtkodanflobclhaaDoorMemU
namespace Go.Proofs.YtkodanflobclhaaDoor.Pmem
open Go.Proofs.YtkodanflobclhaaDoor.Pbase
open Go.RowKit
set_option linter.unusedVariables false

theorem rnew_bad (n : Int) (w : World) (h : ¬ (1 ≤ n ∧ n ≤ 64)) :
    Calls Tryd.prog 20 #[.int .i64 n] w fun e w' => e = .returned (.tuple #[.pointer none, .int .i64 1]) ∧ w' = w := by
  by_cases h1 : n < 1
  · clear h
    go_enter Tryd.func20, Tryd.ntmps20
    go_wp2
    go_ret2
    exact ⟨rfl, rfl⟩
  · have h2 : 64 < n := by omega
    clear h
    go_enter Tryd.func20, Tryd.ntmps20
    go_wp2
    go_ret2
    exact ⟨rfl, rfl⟩
theorem ownsRow_succ {w : World} {base : Nat} {e : TypeId} {v : Value} {n : Nat} {xs : List Value} (h : w.ownsRow base e 1 v (n + 1) xs) : ∃ g cap, v = .slice (some ⟨g, 0, none⟩) (n + 1) cap := by
  rcases h.2 with ⟨_, e⟩ | ⟨g, cap, _, e, _⟩
  · cases e
  · exact ⟨g, cap, e⟩
/-- What holds between two rounds of New: the struct's field is v, a list of k lists of zeros. -/
structure NewI (B : Nat) (w wr : World) (v : Value) (k : Nat) : Prop where
  head : wr.heap[B]? = some (.cells #[v] 79 (0, 0))
  rows : RowsIs wr (B + 1) v k fun _ _ => 0
  below : Below B w wr
  size : B + 1 ≤ wr.heap.size
theorem NewI.step {B : Nat} {w wo wi w1 : World} {v v' : Value} {k x cx : Nat} {cur : Array Value} {o : Obj} {xs : List Value} (h : NewI B w wo v k) (hB : Below wo.heap.size wo wi) (hx : wo.heap.size ≤ x) (hh : wi.heap[x]? = some (.cells cur 58 (0, 0))) (hc : ∀ a, a < 36 → cur[a]? = some (.int .u64 0))
    (ho : wi.ownsRow (B + 1) 22 1 v k xs) (hown : w1.ownsRow (B + 1) 22 1 v' (k + 1) (xs ++ [.slice (some ⟨x, 0, none⟩) 36 cx])) (hg : (wi.alloc o).grownBy w1 v.ownBlock) :
    w1.heap[B]? = some (.cells #[v] 79 (0, 0)) ∧ NewI B w (w1.setCell ⟨B, 0, none⟩ v') v' (k + 1) := by
  have hs := h.size
  have hs2 := hB.size
  have hb1 : Below (B + 1) wi w1 := ((Below.refl _ _).alloc (by omega) o).grown hg (by simp; omega) (own_ge ho)
  have hhead : w1.heap[B]? = some (.cells #[v] 79 (0, 0)) := by rw [hb1.block B (by omega), hB.block B (by omega)]; exact h.head
  refine ⟨hhead, ?_, ?_, ?_, ?_⟩
  · rw [heap_setCell_same w1 B 0 _ _ v' hhead]; rfl
  · refine RowsIs.on (w := w1) ?_ (fun j hj _ => Below.heap_setCell _ _ _ _ (by show j ≠ B; omega))
    exact RowsIs.push h.rows (fun j _ hj => hB.block j hj) hx (by omega) hh hc ho hown hg
  · exact (h.below.trans ((hB.mono (by omega)).trans (hb1.mono (by omega)))).setCell (Nat.le_refl _) _
  · have := hb1.size
    simp only [World.size_setCell]
    omega
set_option maxRecDepth 100000 in
set_option maxHeartbeats 2000000 in
theorem rnew_ok (N : Nat) (w : World) (hN1 : 1 ≤ N) (hN : N ≤ 64) :
    Calls Tryd.prog 20 #[.int .i64 N] w fun e w' => e = .returned (.tuple #[.pointer (some ⟨w.heap.size, 0, none⟩), .int .i64 0]) ∧ RefIs w' w.heap.size w.heap.size N (fun _ _ => 0) ∧ Below w.heap.size w w' := by
  obtain ⟨it, hi, hz0, hz1, hz2⟩ := info_parts infoWordM
  obtain ⟨jt, hj, hy0, hy1, hy2⟩ := info_parts infoWords
  have h1 : (1 : Int) ≤ N := by omega
  have h2 : (N : Int) ≤ 64 := by omega
  have H0 : Hid (NewI w.heap.size w (w.alloc (.cells #[.slice none 0 0] 79)) (.slice none 0 0) 0) :=
    ⟨heap_alloc_new _ _, RowsIs.nil _ _ _, (Below.refl _ _).alloc (Nat.le_refl _) _, by simp⟩
  go_enter Tryd.func20, Tryd.ntmps20
  go_wp2
  go_loopw [5] (fun i wr => ∃ k : Nat, k ≤ N ∧ i = .int .i64 k ∧ ∃ v, NewI w.heap.size w wr v k) (fun i _ => N - (intOf i).toNat)
  case atStart => exact ⟨0, by omega, rfl, _, H0.out⟩
  case round =>
    obtain ⟨k, hk, rfl, v, hI⟩ := hrel
    have HI : Hid (NewI w.heap.size w wr v k) := hI
    clear hI H0
    by_cases hlt : k < N
    · have hki : (k : Int) < (N : Int) := by omega
      obtain ⟨wo, hwo⟩ : ∃ wo, wo = wr := ⟨_, rfl⟩
      subst hwo
      go_wp2
      go_loopw [6, 7] (fun u i wi => ∃ j : Nat, j ≤ 36 ∧ i = .int .i64 j ∧ wi.ownsRow wo.heap.size 58 1 u j (List.replicate j (.int .u64 0)) ∧ Below wo.heap.size wo wi) (fun _ i _ => 36 - (intOf i).toNat)
      case atStart => exact ⟨0, by omega, rfl, ⟨rfl, .inl ⟨rfl, rfl⟩⟩, Below.refl _ _⟩
      case round =>
        obtain ⟨j, hj36, rfl, hO, hB⟩ := hrel
        have HO : Hid (wr.ownsRow wo.heap.size 58 1 u6 j (List.replicate j (.int .u64 0))) := hO
        have HB : Hid (Below wo.heap.size wo wr) := hB
        have hsz := hB.size
        clear hO hB
        by_cases hjl : j < 36
        · have hji : (j : Int) < 36 := by omega
          go_wp2_with (at_builtin; refine wpList_append_own _ rfl _ _ 22 rfl wo.heap.size 58 it (.int .u64 0) 1 8 Tryd.underlying22 hi hz0 hz1 hz2 rfl (by decide) _ _ _ rfl (HO.out.alloc _) ⟨wr.heap.size, 0, none⟩ 1 1 [.int .u64 0] rfl rfl (cell_one_new wr _ _) (by simp [Value.oneCell']) (by unfold maxLen; omega) (by omega) (by simp; omega) ?_; intro v' w1 hown' hgrow _; have HO1 : Hid (w1.ownsRow wo.heap.size 58 1 v' (j + 1) (List.replicate (j + 1) (.int .u64 0))) := (by rw [List.replicate_succ']; exact hown'); have HB1 : Hid (Below wo.heap.size wo w1) := (HB.out.alloc hsz _).grown hgrow (by simp; omega) (own_ge HO.out); clear hown' hgrow)
          go_roundw
          case rel => exact ⟨j + 1, by omega, by go_num, HO1.out, HB1.out⟩
          case measure => simp [intOf]; omega
        · obtain rfl : j = 36 := by omega
          obtain ⟨xs, hxs⟩ := rows_own HI.out.rows
          have HX : Hid (wr.ownsRow (w.heap.size + 1) 22 1 v k xs) := ownsRow_on hxs (fun i hi1 hi2 => HB.out.block i hi2)
          have hcell : wr.cell? ⟨w.heap.size, 0, none⟩ = some v := by
            rw [HB.out.cell (p := ⟨w.heap.size, 0, none⟩) (by have := HI.out.size; show w.heap.size < _; omega), cell_of_row wo _ 0 _ _ _ HI.out.head]; rfl
          rcases HO.out.2 with ⟨_, e⟩ | ⟨x, cx, cur, rfl, hxg, hxh, _, _, _, hxt⟩
          · cases e
          · have HC : Hid (∀ a, a < 36 → cur[a]? = some (.int .u64 0)) := by
              intro a ha
              have := congrArg (fun l => l[a]?) hxt
              simp only [Nat.mul_one, List.getElem?_take, ha, if_true, List.getElem?_replicate, Array.getElem?_toList] at this
              exact this
            have HH : Hid (wr.heap[x]? = some (.cells cur 58 (0, 0))) := hxh
            have HG : Hid (wo.heap.size ≤ x) := hxg
            have hs1 := HI.out.size
            clear hxs hxt hxh hxg
            go_wp2_with (at_builtin; refine wpList_append_own _ rfl _ _ 77 rfl (w.heap.size + 1) 22 jt (.slice none 0 0) 1 24 Tryd.underlying77 hj hy0 hy1 hy2 rfl (by decide) _ _ _ rfl (HX.out.alloc _) ⟨wr.heap.size, 0, none⟩ 1 1 [.slice (some ⟨x, 0, none⟩) 36 cx] rfl rfl (cell_one_new wr _ _) (by simp [Value.oneCell']) (by unfold maxLen; omega) (by omega) (by simp; omega) ?_; intro v' w1 hown' hgrow _; obtain ⟨g', cap', rfl⟩ := ownsRow_succ hown'; have S := HI.out.step HB.out HG.out HH.out HC.out HX.out hown' hgrow; have hc1 : w1.cell? ⟨w.heap.size, 0, none⟩ = some v := (by rw [cell_of_row w1 _ 0 _ _ _ S.1]; rfl); have hz1' : w1.frozen? ⟨w.heap.size, 0, none⟩ = false := frozen_of_row w1 _ 0 _ _ S.1; have HS : Hid (∃ v, NewI w.heap.size w (w1.setCell ⟨w.heap.size, 0, none⟩ (.slice (some ⟨g', 0, none⟩) (k + 1) cap')) v (k + 1)) := ⟨_, S.2⟩; clear hown' hgrow S)
            go_roundw
            case rel => exact ⟨k + 1, by omega, by go_num, HS.out⟩
            case measure => simp [intOf]; omega
    · obtain rfl : k = N := by omega
      go_wp2
      go_ret2
      refine ⟨rfl, ⟨Nat.le_refl _, v, HI.out.head, ?_⟩, HI.out.below⟩
      obtain ⟨r, c, g1, g2, g3⟩ := HI.out.rows
      refine ⟨r, c, ⟨g1.1, ?_⟩, fun j hj => ?_, g3⟩
      · rcases g1.2 with g4 | ⟨g, cap, cur, e, hg, rest⟩
        · exact .inl g4
        · exact .inr ⟨g, cap, cur, e, by omega, rest⟩
      · obtain ⟨hb, rest⟩ := g2 j hj
        exact ⟨by omega, rest⟩

end Go.Proofs.YtkodanflobclhaaDoor.Pmem
