/- A list of events of the call's own that is cut ahead and grows behind (in = in[1:], append(in, x)): where it lies, and what an append makes of it. -/
import Derived.Test.YtdplailaolfpkaaDoorRngE
import Derived.ArgAppend
namespace Go.Proofs.YtdplailaolfpkaaDoor.Pring
open Go.Proofs.YtdplailaolfpkaaDoor.Pbase Go.Proofs.YtdplailaolfpkaaDoor.Pfield Go.Proofs.YtdplailaolfpkaaDoor.Play Go.Proofs.YtdplailaolfpkaaDoor.Pmem
open Go.RowKit M
set_option linter.unusedVariables false

/-- The slice v holds the events of L: nothing, or a part of a block from base on. -/
def Qu (W : World) (base : Nat) (v : Value) (L : List Ev) : Prop :=
  (v = .slice none 0 0 ∧ L = []) ∨ ∃ g off cap cur, v = .slice (some ⟨g, off, none⟩) L.length cap ∧ base ≤ g ∧ W.heap[g]? = some (.cells cur 32 (0, 0)) ∧ L.length ≤ cap ∧ off + cap * 2 ≤ cur.size ∧ ∀ (i : Nat) (x : Ev), L[i]? = some x → cur[off + i * 2]? = some (.int .i64 x.k) ∧ cur[off + i * 2 + 1]? = some (.int .i64 x.t)
section
variable {W W' : World} {base : Nat} {v : Value} {L : List Ev}
theorem qu_nil (W : World) (base : Nat) : Qu W base (.slice none 0 0) [] := .inl ⟨rfl, rfl⟩
theorem Qu.slice (h : Qu W base v L) : ∃ a cap, v = .slice a L.length cap := by
  rcases h with ⟨rfl, rfl⟩ | ⟨g, off, cap, cur, rfl, _⟩
  · exact ⟨_, _, rfl⟩
  · exact ⟨_, _, rfl⟩
theorem Qu.of (h : Qu W base v L) (hk : ∀ g, base ≤ g → g < W.heap.size → W'.heap[g]? = W.heap[g]?) : Qu W' base v L := by
  rcases h with h | ⟨g, off, cap, cur, e, hb, hg, rest⟩
  · exact .inl h
  · exact .inr ⟨g, off, cap, cur, e, hb, (hk g hb (Array.getElem?_eq_some_iff.1 hg).1).trans hg, rest⟩
theorem Qu.on (h : Qu W base v L) (hB : Below W.heap.size W W') : Qu W' base v L := h.of fun g _ hl => hB.block g hl
theorem Qu.but {b : Nat} (h : Qu W base v L) (hB : But b W W') (hb : b < base) : Qu W' base v L := h.of fun g h1 hl => hB.block g hl (by omega)
/-- The one at i, where it lies. -/
theorem Qu.at {a : Option Addr} {n cap : Nat} (h : Qu W base (.slice a n cap) L) {i : Nat} {x : Ev} (hi : L[i]? = some x) : ∃ g off, a = some ⟨g, off, none⟩ ∧ W.cell? ⟨g, off + i * 2, none⟩ = some (.int .i64 x.k) ∧ W.cell? ⟨g, off + i * 2 + 1, none⟩ = some (.int .i64 x.t) := by
  rcases h with ⟨_, rfl⟩ | ⟨g, off, cap', cur, e, _, hg, _, _, hc⟩
  · simp at hi
  · cases e
    obtain ⟨c0, c1⟩ := hc i x hi
    exact ⟨g, off, rfl, (cell_of_row _ _ _ _ _ _ hg).trans c0, (cell_of_row _ _ _ _ _ _ hg).trans c1⟩
/-- The first one cut off. -/
theorem Qu.tail {g off n cap : Nat} {x : Ev} (h : Qu W base (.slice (some ⟨g, off, none⟩) n cap) (x :: L)) : Qu W base (.slice (some ⟨g, if cap = 1 then off else off + 2, none⟩) (n - 1) (cap - 1)) L := by
  rcases h with ⟨e, _⟩ | ⟨g', off', cap', cur, e, hb, hg, hl, hs, hc⟩
  · cases e
  · simp only [Value.slice.injEq, Option.some.injEq, Addr.mk.injEq, and_true] at e
    obtain ⟨⟨rfl, rfl⟩, rfl, rfl⟩ := e
    rw [List.length_cons] at hl ⊢
    refine .inr ⟨g, _, cap - 1, cur, by rw [Nat.add_sub_cancel], hb, hg, by omega, ?_, fun i y hi => ?_⟩
    · split <;> omega
    · have hi1 : i < L.length := (List.getElem?_eq_some_iff.1 hi).1
      rw [if_neg (by omega), show off + 2 + i * 2 = off + (i + 1) * 2 by omega]
      exact hc (i + 1) y (by rw [List.getElem?_cons_succ]; exact hi)
/-- A row of the call's own. -/
theorem qu_of (h : W.ownsRow base 32 2 v L.length (cellsL L)) : Qu W base v L := by
  rcases h.2 with ⟨e, e0⟩ | ⟨g, cap, cur, rfl, hb, hg, hl, _, hs, ht⟩
  · exact .inl ⟨e, List.eq_nil_of_length_eq_zero e0⟩
  · refine .inr ⟨g, 0, cap, cur, rfl, hb, hg, hl, by omega, fun i x hi => ?_⟩
    have hid : i < L.length := (List.getElem?_eq_some_iff.1 hi).1
    have key : ∀ j, j < 2 → cur[0 + i * 2 + j]? = (twoL x)[j]? := fun j hj => by
      have := cellsL_at L i j x hi hj
      rw [← ht, List.getElem?_take, if_pos (by omega), Array.getElem?_toList] at this
      rw [Nat.zero_add, this]
    exact ⟨key 0 (by omega), key 1 (by omega)⟩
theorem cellsL_get {j : Nat} {u : Value} (h : (cellsL L)[j]? = some u) : ∃ x, L[j / 2]? = some x ∧ (twoL x)[j % 2]? = some u := by
  have hj : j < (cellsL L).length := (List.getElem?_eq_some_iff.1 h).1
  rw [cellsL_len] at hj
  have hd : j / 2 < L.length := by omega
  refine ⟨L[j / 2], List.getElem?_eq_getElem hd, ?_⟩
  rw [← cellsL_at L (j / 2) (j % 2) _ (List.getElem?_eq_getElem hd) (by omega), show j / 2 * 2 + j % 2 = j by omega]
  exact h
end
/-- Two stores into a block. -/
theorem set2_row {w : World} {g o : Nat} {cur : Array Value} {t : TypeId} (h : w.heap[g]? = some (.cells cur t (0, 0))) (u v : Value) : ((w.setCell ⟨g, o, none⟩ u).setCell ⟨g, o + 1, none⟩ v).heap[g]? = some (.cells ((cur.setIfInBounds o u).setIfInBounds (o + 1) v) t (0, 0)) := by
  rw [heap_setCell_same _ _ _ _ _ _ (heap_setCell_same _ _ _ _ _ _ h)]
set_option maxHeartbeats 1000000 in
theorem run_append_qu {W : World} {base : Nat} {v : Value} {L : List Ev} (h : Qu W base v L) (hl : L.length ≤ 100) (hb : base ≤ W.heap.size) (i : TypeInfo) (hi : Tryd.prog.info? 32 = some i) (hz : i.zero = some (.agg #[.int .i64 0, .int .i64 0])) (h1 : i.size = 2) (h2 : i.bytes = 16) (ty : TypeId) (x : Ev) (A : Nat) (W1 : World) (hW1 : Below W.heap.size W W1) (hA0 : W1.cell? ⟨A, 0, none⟩ = some (.int .i64 x.k)) (hA1 : W1.cell? ⟨A, 1, none⟩ = some (.int .i64 x.t)) :
    ∃ v' w', (Builtin.append_ #[25, 25] ty #[v, .slice (some ⟨A, 0, none⟩) 1 1]).run Tryd.prog W1 = .ok v' w' ∧ Qu w' base v' (L ++ [x]) ∧ Below base W w' := by
  have hnews : ∀ j u, (twoL x)[j]? = some u → W1.cell? ((⟨A, 0, none⟩ : Addr).add j) = some u := fun j u hj => by
    rw [Addr.add_lit, Nat.zero_add]
    match j, hj with
    | 0, hj => rw [hA0]; exact hj
    | 1, hj => rw [hA1]; exact hj
    | j + 2, hj => simp [twoL] at hj
  have hq := h.on hW1
  rcases hq with ⟨rfl, rfl⟩ | ⟨g, off, cap, cur, rfl, hbg, hg, hlc, hs, hc⟩
  · obtain ⟨v', w', hrun, r1, r2, _⟩ := run_append_own (P := Tryd.prog) W1 W1.heap.size 25 ty 32 i _ 2 16 Tryd.underlying25 hi hz h1 h2 rfl (by decide) (.slice none 0 0) 0 [] (World.ownsRow_nil W1 _ 32 2) ⟨A, 0, none⟩ 1 1 (twoL x) rfl hnews (twoL_one x) (by unfold maxLen; omega) (by omega) (Nat.le_refl _)
    have hs := hW1.size
    exact ⟨v', w', hrun, qu_of (base := base) (L := [x]) ((show w'.ownsRow W1.heap.size 32 2 v' 1 (cellsL [x]) by simpa [cellsL] using r1).2 |> fun q => ⟨by simp [cellsL, twoL], or_right q fun ⟨g, cap, cur, e1, e2, e3⟩ => ⟨g, cap, cur, e1, by omega, e3⟩⟩), (hW1.mono hb).trans ⟨r2.os, r2.tape, r2.output, r2.size, fun k hk => r2.block k (by omega) (by simp [Value.ownBlock])⟩⟩
  · by_cases hr : L.length + 1 ≤ cap
    · have hrun := run_append_room_cells (P := Tryd.prog) W1 25 ty 32 i Tryd.underlying25 hi g off L.length cap ⟨A, 0, none⟩ 1 1 (twoL x) (by rw [h1]; rfl) hnews (twoL_one x) hr
        (fun j hj => by
          have hj' : j < 2 := hj
          rw [cell_of_row _ _ _ _ _ _ hg, h1, Array.getElem?_eq_getElem (by omega)]
          rfl) (fun j hj => frozen_of_row _ _ _ _ _ hg)
      rw [h1] at hrun
      have e : W1.setCells g (off + L.length * 2) (twoL x) = (W1.setCell ⟨g, off + L.length * 2, none⟩ (.int .i64 x.k)).setCell ⟨g, off + L.length * 2 + 1, none⟩ (.int .i64 x.t) := rfl
      rw [e] at hrun
      refine ⟨_, _, hrun, .inr ⟨g, off, cap, _, by rw [List.length_append, List.length_singleton], hbg, set2_row hg _ _, by rw [List.length_append, List.length_singleton]; exact hr, by simpa using hs, fun j y hj => ?_⟩, ?_⟩
      · by_cases hjl : j < L.length
        · rw [List.getElem?_append_left hjl] at hj
          obtain ⟨c0, c1⟩ := hc j y hj
          constructor
          · rw [Array.getElem?_setIfInBounds_ne (by omega), Array.getElem?_setIfInBounds_ne (by omega)]
            exact c0
          · rw [Array.getElem?_setIfInBounds_ne (by omega), Array.getElem?_setIfInBounds_ne (by omega)]
            exact c1
        · have hj' : j < (L ++ [x]).length := (List.getElem?_eq_some_iff.1 hj).1
          rw [List.length_append, List.length_singleton] at hj'
          obtain rfl : j = L.length := by omega
          rw [List.getElem?_append_right (Nat.le_refl _), Nat.sub_self] at hj
          obtain rfl : x = y := by simpa using hj
          constructor
          · rw [Array.getElem?_setIfInBounds_ne (by omega), Array.getElem?_setIfInBounds_self_of_lt (by omega)]
          · rw [Array.getElem?_setIfInBounds_self_of_lt (by simp; omega)]
      · exact (((hW1.mono hb).setCell (p := ⟨g, off + L.length * 2, none⟩) hbg _).setCell (p := ⟨g, off + L.length * 2 + 1, none⟩) hbg _)
    · obtain ⟨v', w', hrun, r1, r2⟩ := run_append_arg_grows (P := Tryd.prog) W1 25 ty 32 i _ 2 16 Tryd.underlying25 hi hz h1 h2 rfl (by decide) ⟨g, off, none⟩ L.length cap (cellsL L) (cellsL_len L)
        (fun j u hj => by
          obtain ⟨y, hy, hu⟩ := cellsL_get hj
          obtain ⟨c0, c1⟩ := hc _ y hy
          rw [Addr.add_lit, cell_of_row _ _ _ _ _ _ hg]
          rcases Nat.mod_two_eq_zero_or_one j with h0 | h0
          · rw [show off + j = off + j / 2 * 2 by omega, c0]
            rw [h0] at hu
            exact hu
          · rw [show off + j = off + j / 2 * 2 + 1 by omega, c1]
            rw [h0] at hu
            exact hu) ⟨A, 0, none⟩ 1 1 (twoL x) rfl hnews (by omega) (by unfold maxLen; omega) (by omega)
      have hs1 := hW1.size
      refine ⟨v', w', hrun, qu_of ?_, (hW1.mono hb).trans ⟨r2.os, r2.tape, r2.output, r2.size, fun k hk => r2.block k (by omega) (by simp)⟩⟩
      rw [List.length_append, List.length_singleton, cellsL_snoc]
      exact ⟨r1.1, or_right r1.2 fun ⟨g, cap, cur, e1, e2, e3⟩ => ⟨g, cap, cur, e1, by omega, e3⟩⟩
/-- At the operation, for the walk. -/
theorem wpList_append_qu {ops : Array Oper} {rest : List Oper} {o : Oper} {a : Act} {Q : Exit → Act → World → Prop} {W1 : World} (hgd : o.guard = none) (s x : Operand)
    (ho : o.op = .call { callee := .builtin .append, args := #[s, x], argTypes := #[25, 25] })
    {W : World} {base : Nat} {v : Value} {L : List Ev} (h : Qu W base v L) (hl : L.length ≤ 100) (hb : base ≤ W.heap.size) (i : TypeInfo) (hi : Tryd.prog.info? 32 = some i) (hz : i.zero = some (.agg #[.int .i64 0, .int .i64 0])) (h1 : i.size = 2) (h2 : i.bytes = 16)
    (y : Ev) (A : Nat) (hW1 : Below W.heap.size W W1) (hA0 : W1.cell? ⟨A, 0, none⟩ = some (.int .i64 y.k)) (hA1 : W1.cell? ⟨A, 1, none⟩ = some (.int .i64 y.t)) (hs : a.eval s = v) (hx : a.eval x = .slice (some ⟨A, 0, none⟩) 1 1)
    (hK : ∀ v' w', Qu w' base v' (L ++ [y]) → Below base W w' → wpList Tryd.prog ops Q rest (a.put o.dst v') w') : wpList Tryd.prog ops Q (o :: rest) a W1 := by
  refine wpList_plain hgd fun K hK' => ?_
  obtain ⟨v', w', hr, q1, q2⟩ := run_append_qu h hl hb i hi hz h1 h2 o.type y A W1 hW1 hA0 hA1
  unfold Oper.wp execOp
  simp only [ho, resolve, invoke, builtin, Sem.run_bind, Sem.run_pure, Result.andThen_ok, List.map_toArray, List.map_cons, List.map_nil, hs, hx, hr]
  exact hK' _ _ (hK v' w' q1 q2)
/-- Cutting the first one off. -/
theorem run_tail {g off n cap : Nat} (hn : 1 ≤ n) (w : World) : (Instr.slice 25 (.slice (some ⟨g, off, none⟩) n cap) (some (.int .i64 1)) none none).run Tryd.prog w = .ok (.slice (some ⟨g, if cap = 1 then off else off + 2, none⟩) (n - 1) (cap - 1)) w := by
  have he : Tryd.prog.elem 25 = 32 := by kernel_rfl
  obtain ⟨it, hi, _, hz1, _⟩ := info_parts infoEv
  rw [run_slice_l (P := Tryd.prog) w 25 (some ⟨g, off, none⟩) n cap (by rw [he]; exact Tryd.underlying25) .i64 1 (by omega) (by omega), he]
  have hs : (sizeOf 32).run Tryd.prog w = .ok 2 w := by
    simp [sizeOf, typeInfo, hi, hz1]
  rw [hs]
  simp only [Result.andThen_ok, sliced]
  have e1 : (1 : Int).toNat = 1 := rfl
  rw [e1]
  split
  · rfl
  · simp [Addr.add_lit]
end Go.Proofs.YtdplailaolfpkaaDoor.Pring
