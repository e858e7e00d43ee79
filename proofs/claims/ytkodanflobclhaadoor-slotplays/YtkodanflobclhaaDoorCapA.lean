/- What Check and Under of package cap answer, for every argument that their types allow. -/
import Derived.Test.YtkodanflobclhaaDoorCapT
import Derived.BigQuiet
import Derived.Deep.RegionHeld3
namespace Go.Proofs.YtkodanflobclhaaDoor.Pcap
open Go.Proofs.YtkodanflobclhaaDoor.Pbase Go.Proofs.YtkodanflobclhaaDoor.Pfield
open Go.RowKit M
set_option linter.unusedVariables false

/-- A capability, its numbers in a row, and the table lie in a world. -/
structure Two (w : World) (B C : Nat) (K : Nat) (r t l e a : Int) : Prop where
  tab : TabM w
  ltb : B < w.heap.size
  ltc : C < w.heap.size
  b : ∀ j, j < 6 → w.cell? ⟨B, j, none⟩ = some (.int .i64 (nth K r t l e a j))
  c : ∀ j, j < 6 → w.cell? ⟨C, j, none⟩ = some (.int .i64 (nth K r t l e a j))
theorem Two.on {w w' : World} {B C K : Nat} {r t l e a : Int} (h : Two w B C K r t l e a) (hB : Below w.heap.size w w') : Two w' B C K r t l e a :=
  ⟨h.tab.on hB, Nat.lt_of_lt_of_le h.ltb hB.size, Nat.lt_of_lt_of_le h.ltc hB.size, fun j hj => (hB.cell (p := ⟨B, j, none⟩) h.ltb).trans (h.b j hj), fun j hj => (hB.cell (p := ⟨C, j, none⟩) h.ltc).trans (h.c j hj)⟩
theorem row_six (K : Nat) (r t l e a : Int) (j : Nat) (hj : j < 6) : (#[Value.int .i64 (K : Int), .int .i64 r, .int .i64 t, .int .i64 l, .int .i64 e, .int .i64 a] : Array Value)[j]? = some (.int .i64 (nth K r t l e a j)) := by
  match j, hj with
  | 0, _ | 1, _ | 2, _ | 3, _ | 4, _ | 5, _ => rfl
theorem two_new {w w1 : World} {K : Nat} {r t l e a : Int} {ty ty' : TypeId} (hT : TabM w) (hb1 : Below (w.alloc (.cells #[.int .i64 (K : Int), .int .i64 r, .int .i64 t, .int .i64 l, .int .i64 e, .int .i64 a] ty)).heap.size (w.alloc (.cells #[.int .i64 (K : Int), .int .i64 r, .int .i64 t, .int .i64 l, .int .i64 e, .int .i64 a] ty)) w1) :
    Two (w1.alloc (.cells #[.int .i64 (K : Int), .int .i64 r, .int .i64 t, .int .i64 l, .int .i64 e, .int .i64 a] ty')) w.heap.size w1.heap.size K r t l e a ∧ Below w.heap.size w (w1.alloc (.cells #[.int .i64 (K : Int), .int .i64 r, .int .i64 t, .int .i64 l, .int .i64 e, .int .i64 a] ty')) := by
  have hs := hb1.size
  simp only [World.size_alloc] at hs
  have B1 : Below w.heap.size w w1 := (bal (Below.refl _ _) _).trans (hb1.mono (by simp))
  have B2 := B1.alloc B1.size (.cells #[.int .i64 (K : Int), .int .i64 r, .int .i64 t, .int .i64 l, .int .i64 e, .int .i64 a] ty')
  refine ⟨⟨hT.on B2, by simp; omega, by simp, fun j hj => ?_, fun j hj => ?_⟩, B2⟩
  · rw [cell_of_row _ _ j _ _ _ ((Below.heap_alloc w1 _ w.heap.size (by omega)).trans ((hb1.block w.heap.size (by simp)).trans (heap_alloc_new w _)))]
    exact row_six K r t l e a j hj
  · rw [cell_of_row _ _ j _ _ _ (heap_alloc_new w1 _)]
    exact row_six K r t l e a j hj
theorem ret_no {k r t l e a : Int} (h : ¬ Rt k r t l e a) : Ending.returned (Value.int .i64 1) = .returned (.int .i64 (chk k r t l e a)) := by rw [chk_no h]
theorem ret_yes {k r t l e a : Int} (h : Rt k r t l e a) : Ending.returned (Value.int .i64 0) = .returned (.int .i64 (chk k r t l e a)) := by rw [chk_yes h]
set_option maxRecDepth 100000 in
theorem check_any (k r t l e a : Int) (w : World) (hT : TabM w) :
    Calls Tryd.prog 38 #[.agg #[.int .i64 k, .int .i64 r, .int .i64 t, .int .i64 l, .int .i64 e, .int .i64 a]] w fun x w' => x = .returned (.int .i64 (chk k r t l e a)) ∧ Below w.heap.size w w' := by
  by_cases h0 : k < 0
  · rw [chk_no (by unfold Rt; omega)]
    go_enter Tryd.func38, Tryd.ntmps38
    go_wp2
    go_ret
    exact ⟨rfl, bal (Below.refl _ _) _⟩
  by_cases h12 : 12 ≤ k
  · rw [chk_no (by unfold Rt; omega)]
    go_enter Tryd.func38, Tryd.ntmps38
    go_wp2
    go_ret
    exact ⟨rfl, bal (Below.refl _ _) _⟩
  obtain ⟨K, rfl⟩ := Int.eq_ofNat_of_zero_le (show 0 ≤ k by omega)
  have hK : K < 12 := by omega
  have HT : Hid (TabM w) := hT
  clear hT h12 h0
  have n0 : ¬ (K : Int) < 0 := by omega
  have n1 : ¬ 12 ≤ (K : Int) := by omega
  have n2 : ¬ 12 ≤ K := by omega
  go_enter Tryd.func38, Tryd.ntmps38
  go_wp2_with (first
    | (go_at_call 39; refine (numbers_any _ _ _ _ _ _ _).mono ?_; rintro e1 w1 ⟨rfl, hb1⟩; have HB1 := fun ty' => two_new (ty' := ty') HT.out hb1; clear hb1)
    | fail)
  replace HB1 := HB1 93
  generalize w1.alloc _ = w2 at HB1 ⊢
  obtain ⟨h2, hb2⟩ := HB1
  have H2 : Hid (Two w2 w.heap.size w1.heap.size K r t l e a) := h2
  have HB2 : Hid (Below w.heap.size w w2) := hb2
  clear h2 hb2 HT
  generalize w1.heap.size = C at H2 ⊢
  obtain ⟨B, hB⟩ : ∃ B, B = w.heap.size := ⟨_, rfl⟩
  rw [← hB] at H2 ⊢
  have HBB : Hid (B = w.heap.size) := hB
  clear hB
  go_loopw [4] (fun n wr => ∃ N : Nat, 1 ≤ N ∧ N ≤ 6 ∧ n = .int .i64 N ∧ (∀ j, 1 ≤ j → j < N → 0 ≤ nth K r t l e a j ∧ nth K r t l e a j ≤ mostAt K j) ∧ Hid (Below w2.heap.size w2 wr)) (fun n _ => 6 - (intOf n).toNat)
  case atStart => exact ⟨1, by omega, by omega, rfl, fun j _ _ => by omega, Below.refl _ _⟩
  case round =>
    obtain ⟨N, hN1, hN6, rfl, hok, HR⟩ := hrel
    by_cases hlt : N < 6
    · have c1 := (H2.out.on HR.out).c N hlt
      have c2 := (H2.out.on HR.out).b 0 (by omega)
      have c3 := (H2.out.on HR.out).tab.cell K N hK hlt
      obtain ⟨x, hx⟩ : ∃ x, x = nth K r t l e a N := ⟨_, rfl⟩
      obtain ⟨m, hm⟩ : ∃ m, m = mostAt K N := ⟨_, rfl⟩
      rw [← hx] at c1
      rw [← hm] at c3
      rw [show nth K r t l e a 0 = K from rfl] at c2
      have HX : Hid (x = nth K r t l e a N) := hx
      have HM : Hid (m = mostAt K N) := hm
      have HO : Hid (∀ j, 1 ≤ j → j < N → 0 ≤ nth K r t l e a j ∧ nth K r t l e a j ≤ mostAt K j) := hok
      clear hx hm hok
      by_cases hx0 : x < 0
      · go_wp2
        go_quiet (fail)
        go_wp2
        go_ret
        refine ⟨?_, (HB2.out.trans (HR.out.mono HB2.out.size)).trans (below_drew' _ _ _)⟩
        refine ret_no fun h => ?_
        have := ((rt_of_table hK).2 h).1 N hN1 hlt
        rw [← HX.out] at this
        omega
      · by_cases hxm : m < x
        · go_wp2
          go_quiet (fail)
          go_wp2
          go_ret
          refine ⟨?_, (HB2.out.trans (HR.out.mono HB2.out.size)).trans (below_drew' _ _ _)⟩
          refine ret_no fun h => ?_
          have := ((rt_of_table hK).2 h).1 N hN1 hlt
          rw [← HX.out, ← HM.out] at this
          omega
        · go_wp2
          go_quiet (fail)
          go_wp2
          go_roundw
          case rel =>
            refine ⟨N + 1, by omega, by omega, by go_num, fun j h1 h2 => ?_, HR.out.trans (below_drew' _ _ _)⟩
            by_cases hj : j = N
            · rw [hj, ← HX.out, ← HM.out]; omega
            · exact HO.out j h1 (by omega)
          case measure => simp [intOf]; omega
    · obtain rfl : N = 6 := by omega
      have HO : Hid (∀ j, 1 ≤ j → j < 6 → 0 ≤ nth K r t l e a j ∧ nth K r t l e a j ≤ mostAt K j) := hok
      have c2 := (H2.out.on HR.out).b 0 (by omega)
      have c3 := (H2.out.on HR.out).b 1 (by omega)
      have c4 := (H2.out.on HR.out).b 2 (by omega)
      have c5 := (H2.out.on HR.out).b 3 (by omega)
      have c6 := (H2.out.on HR.out).b 4 (by omega)
      have c7 := (H2.out.on HR.out).b 5 (by omega)
      simp only [nth, List.getElem?_cons_zero, List.getElem?_cons_succ, Option.getD_some] at c2 c3 c4 c5 c6 c7
      have HW : Hid (Below w.heap.size w wr) := HB2.out.trans (HR.out.mono HB2.out.size)
      clear hok hlt HR HB2 H2
      by_cases hk2 : K = 2
      · subst hk2
        by_cases ha : a = 0
        · subst ha
          have HE : Hid (Ending.returned (Value.int .i64 1) = .returned (.int .i64 (chk (2 : Nat) r t l e 0))) := ret_no (by unfold Rt; simp)
          go_wp2
          go_ret
          exact ⟨HE.out, HW.out⟩
        · have b0 : (a == 0) = false := by simp [ha]
          have h2 := HO.out 2 (by omega) (by omega)
          have h5 := HO.out 5 (by omega) (by omega)
          simp only [nth, mostAt, mostL, List.getElem?_cons_zero, List.getElem?_cons_succ, Option.getD_some] at h2 h5
          have hs : wrap64 (t + a) = t + a := by unfold wrap64; omega
          by_cases hta : 64 < t + a
          · have HE : Hid (Ending.returned (Value.int .i64 1) = .returned (.int .i64 (chk (2 : Nat) r t l e a))) := ret_no (by unfold Rt; omega)
            clear h2 h5
            go_wp2_with (first
              | (go_at_call 48; refine (end_any _ _ _ _ _ _ _).mono ?_; rintro e1 w3 ⟨rfl, hb3⟩; rw [hs]; have HW3 : Hid (Below w.heap.size w w3) := HW.out.trans (hb3.mono HW.out.size); clear hb3)
              | fail)
            go_ret
            exact ⟨HE.out, HW3.out⟩
          · have HE : Hid (Ending.returned (Value.int .i64 0) = .returned (.int .i64 (chk (2 : Nat) r t l e a))) := ret_yes ((rt_of_table hK).1 ⟨HO.out, fun _ => ⟨ha, by omega⟩⟩)
            clear h2 h5
            go_wp2_with (first
              | (go_at_call 48; refine (end_any _ _ _ _ _ _ _).mono ?_; rintro e1 w3 ⟨rfl, hb3⟩; rw [hs]; have HW3 : Hid (Below w.heap.size w w3) := HW.out.trans (hb3.mono HW.out.size); clear hb3)
              | fail)
            go_ret
            exact ⟨HE.out, HW3.out⟩
      · have HE : Hid (Ending.returned (Value.int .i64 0) = .returned (.int .i64 (chk K r t l e a))) := ret_yes ((rt_of_table hK).1 ⟨HO.out, fun h => absurd h hk2⟩)
        have b2 : (((K : Nat) : Int) == 2) = false := by simp; omega
        go_wp2
        go_ret
        exact ⟨HE.out, HW.out⟩
end Go.Proofs.YtkodanflobclhaaDoor.Pcap
