/- Lists of events of the call's own, and as a reader asks them. -/
import Derived.Test.YtdplailaolfpkaaDoorRngF
import Derived.Test.YtdplailaolfpkaaDoorRngI
import Derived.Maps.AppendAt
namespace Go.Proofs.YtdplailaolfpkaaDoor.Pring
open Go.Proofs.YtdplailaolfpkaaDoor.Pbase Go.Proofs.YtdplailaolfpkaaDoor.Pfield Go.Proofs.YtdplailaolfpkaaDoor.Play Go.Proofs.YtdplailaolfpkaaDoor.Pmem
open Go.RowKit M
set_option linter.unusedVariables false

theorem infoEv : (Tryd.prog.info? 32).map (fun i => (i.zero, i.size, i.bytes)) = some (some (.agg #[.int .i64 0, .int .i64 0]), 2, 16) := by kernel_rfl
theorem grown_none {W W' : World} (h : Below W.heap.size W W') : W.grownBy W' none := ⟨h.os, h.tape, h.output, h.size, fun k hk _ => h.block k hk⟩
def twoL (x : Ev) : List Value := [.int .i64 x.k, .int .i64 x.t]
def cellsL (L : List Ev) : List Value := L.flatMap twoL
theorem cellsL_snoc (L : List Ev) (x : Ev) : cellsL (L ++ [x]) = cellsL L ++ twoL x := by simp [cellsL]
theorem cellsL_len (L : List Ev) : (cellsL L).length = L.length * 2 := by
  induction L with
  | nil => rfl
  | cons x L ih => rw [show cellsL (x :: L) = twoL x ++ cellsL L from rfl, List.length_append, ih]; simp [twoL]; omega
theorem cellsL_at : ∀ (L : List Ev) (i j : Nat) (x : Ev), L[i]? = some x → j < 2 → (cellsL L)[i * 2 + j]? = (twoL x)[j]?
  | [], i, j, x, hi, _ => by simp at hi
  | y :: L, 0, j, x, hi, hj => by
    simp at hi
    subst hi
    rw [show cellsL (y :: L) = twoL y ++ cellsL L from rfl, List.getElem?_append_left (by simp [twoL]; omega)]
    simp
  | y :: L, i + 1, j, x, hi, hj => by
    rw [List.getElem?_cons_succ] at hi
    rw [show cellsL (y :: L) = twoL y ++ cellsL L from rfl, List.getElem?_append_right (by simp [twoL]; omega), show (i + 1) * 2 + j - (twoL y).length = i * 2 + j by simp [twoL]; omega]
    exact cellsL_at L i j x hi hj
theorem twoL_one (x : Ev) : ∀ u ∈ twoL x, u.oneCell' = true := by
  intro u hu
  simp only [twoL, List.mem_cons, List.not_mem_nil, or_false] at hu
  rcases hu with rfl | rfl <;> rfl
theorem two_new (w : World) (a b : Value) (t : TypeId) : ∀ j u, [a, b][j]? = some u → (w.alloc (.cells #[a, b] t)).cell? ((⟨w.heap.size, 0, none⟩ : Addr).add j) = some u := by
  intro j u hj
  rw [Addr.add_lit, Nat.zero_add, cell_of_row _ _ j _ _ _ (heap_alloc_new w _)]
  match j, hj with
  | 0, hj | 1, hj => exact hj
  | j + 2, hj => simp at hj
theorem own_ge {w : World} {base : Nat} {e : TypeId} {v : Value} {n : Nat} {xs : List Value} (h : w.ownsRow base e 2 v n xs) : ∀ k, v.ownBlock = some k → base ≤ k := fun k hk => (h.lt k hk).1
theorem own_succ {w : World} {base : Nat} {e : TypeId} {size : Nat} {v : Value} {n : Nat} {xs : List Value} (h : w.ownsRow base e size v (n + 1) xs) : ∃ g cap, v = .slice (some ⟨g, 0, none⟩) (n + 1) cap := by
  rcases h.2 with ⟨_, e⟩ | ⟨g, cap, _, e, _⟩
  · cases e
  · exact ⟨g, cap, e⟩
/-- A block of another type is no row of events. -/
theorem own_ne {w : World} {base D : Nat} {v : Value} {n : Nat} {xs : List Value} (h : w.ownsRow base 32 2 v n xs) {cs : Array Value} {t : TypeId} {fr : Nat × Nat} (hr : w.heap[D]? = some (.cells cs t fr)) (ht : t ≠ 32) : v.ownBlock ≠ some D := by
  intro e
  rcases h.2 with ⟨rfl, _⟩ | ⟨g, cap, cur, rfl, hb, hg, _⟩
  · cases e
  · obtain rfl : g = D := Option.some.inj e
    rw [hg] at hr
    simp only [Option.some.injEq, Obj.cells.injEq] at hr
    exact ht hr.2.1.symm
theorem own_on {w w' : World} {base : Nat} {v : Value} {n : Nat} {xs : List Value} (h : w.ownsRow base 32 2 v n xs) (hB : Below w.heap.size w w') : w'.ownsRow base 32 2 v n xs := h.kept (grown_none hB) (by cases hv : v.ownBlock <;> simp)
theorem own_off {W W' : World} {base : Nat} {v : Value} {n : Nat} {xs : List Value} (h : W.ownsRow base 32 2 v n xs) (hk : ∀ g, v.ownBlock = some g → W'.heap[g]? = W.heap[g]?) : W'.ownsRow base 32 2 v n xs := by
  refine ⟨h.1, ?_⟩
  rcases h.2 with h2 | ⟨g, cap, cur, rfl, hb1, hg, rest⟩
  · exact .inl h2
  · exact .inr ⟨g, cap, cur, rfl, hb1, (hk g rfl).trans hg, rest⟩
/-- The slice v holds the events of L, in a block from base on. -/
def Evs (w : World) (base : Nat) (v : Value) (L : List Ev) : Prop :=
  ∃ a cap, v = .slice a L.length cap ∧ (L.length = 0 ∨ ∃ g, a = some ⟨g, 0, none⟩ ∧ base ≤ g ∧ g < w.heap.size ∧ ∀ i x, L[i]? = some x → AtE w g (i * 2) x)
theorem atE_of {w w' : World} {g o : Nat} {x : Ev} (h : AtE w g o x) (hk : w'.heap[g]? = w.heap[g]?) : AtE w' g o x := by
  obtain ⟨c0, c1⟩ := h
  have k : ∀ j, w'.cell? ⟨g, j, none⟩ = w.cell? ⟨g, j, none⟩ := fun j => World.cell?_of_block hk
  exact ⟨(k _).trans c0, (k _).trans c1⟩
theorem Evs.on {w w' : World} {base : Nat} {v : Value} {L : List Ev} (h : Evs w base v L) (hB : Below w.heap.size w w') : Evs w' base v L := by
  obtain ⟨a, cap, e, h⟩ := h
  refine ⟨a, cap, e, ?_⟩
  rcases h with h | ⟨g, e1, h1, h2, h3⟩
  · exact .inl h
  · exact .inr ⟨g, e1, h1, Nat.lt_of_lt_of_le h2 hB.size, fun i x hi => atE_of (h3 i x hi) (hB.block g h2)⟩
theorem Evs.downTo {w : World} {base base' : Nat} {v : Value} {L : List Ev} (h : Evs w base v L) (hb : base' ≤ base) : Evs w base' v L := by
  obtain ⟨a, cap, e, h⟩ := h
  refine ⟨a, cap, e, ?_⟩
  rcases h with h | ⟨g, e1, h1, h2, h3⟩
  · exact .inl h
  · exact .inr ⟨g, e1, Nat.le_trans hb h1, h2, h3⟩
theorem Evs.slice {w : World} {base : Nat} {v : Value} {L : List Ev} (h : Evs w base v L) : ∃ a cap, v = .slice a L.length cap := by
  obtain ⟨a, cap, e, _⟩ := h
  exact ⟨a, cap, e⟩
theorem Evs.at {w : World} {base : Nat} {a : Option Addr} {n cap : Nat} {L : List Ev} (h : Evs w base (.slice a n cap) L) {i : Nat} {x : Ev} (hi : L[i]? = some x) : ∃ g, a = some ⟨g, 0, none⟩ ∧ base ≤ g ∧ g < w.heap.size ∧ AtE w g (i * 2) x := by
  obtain ⟨a', cap', e, h⟩ := h
  cases e
  rcases h with h | ⟨g, e1, h1, h2, h3⟩
  · have := (List.getElem?_eq_some_iff.1 hi).1
    omega
  · exact ⟨g, e1, h1, h2, h3 i x hi⟩
theorem evs_nil (w : World) (base : Nat) : Evs w base (.slice none 0 0) [] := ⟨none, 0, rfl, .inl rfl⟩
theorem evs_of {w : World} {base : Nat} {v : Value} {L : List Ev} (h : w.ownsRow base 32 2 v L.length (cellsL L)) : Evs w base v L := by
  rcases h.2 with ⟨e, e0⟩ | ⟨g, cap, cur, rfl, hb, hg, _, _, _, ht⟩
  · exact ⟨none, 0, by rw [e0]; exact e, .inl e0⟩
  · refine ⟨some ⟨g, 0, none⟩, cap, rfl, .inr ⟨g, rfl, hb, (Array.getElem?_eq_some_iff.1 hg).1, fun i x hi => ?_⟩⟩
    have hid : i < L.length := (List.getElem?_eq_some_iff.1 hi).1
    have key : ∀ j, j < 2 → w.cell? ⟨g, i * 2 + j, none⟩ = (twoL x)[j]? := fun j hj => by
      have := cellsL_at L i j x hi hj
      rw [← ht, List.getElem?_take, if_pos (by omega), Array.getElem?_toList] at this
      rw [cell_of_row _ _ _ _ _ _ hg, this]
    exact ⟨key 0 (by omega), key 1 (by omega)⟩
/-! ### the events that All answers -/
/-- The first k of them. -/
def allK (M : Nat → Nat → Int) (f : Int) (k : Nat) : List Ev := (List.range k).map fun (i : Nat) => ofX (rwI M f (i : Int))
theorem allK_len (M : Nat → Nat → Int) (f : Int) (k : Nat) : (allK M f k).length = k := by simp [allK]
theorem allK_succ (M : Nat → Nat → Int) (f : Int) (k : Nat) : allK M f (k + 1) = allK M f k ++ [ofX (rwI M f (k : Int))] := by simp [allK, List.range_succ]
theorem al_yes {N : Nat} {M : Nat → Nat → Int} {f : Int} (hp : plE N M f = 0) (h : ∀ j : Nat, j < (cnI M f).toNat → ofE (rwI M f (j : Int)) = 0) : alE N M f = 0 ∧ alL N M f = allK M f (cnI M f).toNat := by
  have hb : alB M f (cnI M f).toNat = true := by
    unfold alB
    simp only [List.all_eq_true, List.mem_range, beq_iff_eq]
    exact h
  have e : alE N M f = 0 := by unfold alE; rw [if_pos hp, if_pos hb]
  exact ⟨e, by unfold alL; rw [if_pos e]; rfl⟩
theorem al_no {N : Nat} {M : Nat → Nat → Int} {f : Int} (hp : plE N M f = 0) {x : Nat} (hx : x < (cnI M f).toNat) (h : ofE (rwI M f (x : Int)) ≠ 0) : alE N M f = 12 ∧ alL N M f = [] := by
  have hb : ¬ alB M f (cnI M f).toNat = true := by
    unfold alB
    simp only [List.all_eq_true, List.mem_range, beq_iff_eq]
    exact fun hh => h (hh x hx)
  have e : alE N M f = 12 := by unfold alE; rw [if_pos hp, if_neg hb]
  exact ⟨e, by unfold alL; rw [if_neg (by rw [e]; decide)]⟩
theorem al_err {N : Nat} {M : Nat → Nat → Int} {f : Int} (hp : plE N M f ≠ 0) : alE N M f = plE N M f ∧ alL N M f = [] := by
  have e : alE N M f = plE N M f := by unfold alE; rw [if_neg hp]
  exact ⟨e, by unfold alL; rw [if_neg (by rw [e]; exact hp)]⟩
/-- The word of the i-th place, by its number in the frame. -/
theorem rw_at {N : Nat} {M : Nat → Nat → Int} {f : Int} (hF : Fit M) (hp : plE N M f = 0) (i : Nat) : M f.toNat (14 + ((bgI M f + (i : Int)) % 8)).toNat = rwI M f (i : Int) := by
  have := (pl_yes hF hp).2.2.1
  unfold rwI plN
  congr 1
  omega
theorem rw_zero {N : Nat} {M : Nat → Nat → Int} {f : Int} (hF : Fit M) (hp : plE N M f = 0) : M f.toNat (14 + (bgI M f).toNat) = rwI M f 0 := by
  have := (pl_yes hF hp).2.2.1
  unfold rwI plN
  congr 1
  omega
/-! ### Put, Take: which way -/
theorem pu_arg (N : Nat) (M : Nat → Nat → Int) (f : Int) {x : Ev} (h : ¬ Eo x) : puE N M f x = 1 ∧ puM N M f x = M := by
  have e : puE N M f x = 1 := by unfold puE; rw [eoB_no h]; rfl
  exact ⟨e, by unfold puM; rw [if_neg (by rw [e]; decide)]⟩
theorem pu_pl {N : Nat} {M : Nat → Nat → Int} {f : Int} {x : Ev} (h : Eo x) (hp : plE N M f ≠ 0) : puE N M f x = plE N M f ∧ puM N M f x = M := by
  have e : puE N M f x = plE N M f := by unfold puE; rw [if_pos (eoB_yes h), if_neg hp]
  exact ⟨e, by unfold puM; rw [if_neg (by rw [e]; exact hp)]⟩
theorem pu_full {N : Nat} {M : Nat → Nat → Int} {f : Int} {x : Ev} (h : Eo x) (hp : plE N M f = 0) (hc : cnI M f = 8) : puE N M f x = 2 ∧ puM N M f x = M := by
  have e : puE N M f x = 2 := by unfold puE; rw [if_pos (eoB_yes h), if_pos hp, if_pos hc]
  exact ⟨e, by unfold puM; rw [if_neg (by rw [e]; decide)]⟩
theorem pu_ok {N : Nat} {M : Nat → Nat → Int} {f : Int} {x : Ev} (h : Eo x) (hp : plE N M f = 0) (hc : cnI M f ≠ 8) : puE N M f x = 0 ∧ puM N M f x = stW N (stW N M f (14 + (bgI M f + cnI M f) % 8) (ewd x)) f 13 (cnI M f + 1) := by
  have e : puE N M f x = 0 := by unfold puE; rw [if_pos (eoB_yes h), if_pos hp, if_neg hc]
  exact ⟨e, by unfold puM; rw [if_pos e]⟩
theorem tk_pl {N : Nat} {M : Nat → Nat → Int} {f : Int} (hp : plE N M f ≠ 0) : tkE N M f = plE N M f ∧ tkX N M f = ev0 ∧ tkM N M f = M := by
  have e : tkE N M f = plE N M f := by unfold tkE; rw [if_neg hp]
  exact ⟨e, by unfold tkX; rw [if_neg (by rw [e]; exact hp)], by unfold tkM; rw [if_neg (by rw [e]; exact hp)]⟩
theorem tk_none {N : Nat} {M : Nat → Nat → Int} {f : Int} (hp : plE N M f = 0) (hc : cnI M f = 0) : tkE N M f = 3 ∧ tkX N M f = ev0 ∧ tkM N M f = M := by
  have e : tkE N M f = 3 := by unfold tkE; rw [if_pos hp, if_pos hc]
  exact ⟨e, by unfold tkX; rw [if_neg (by rw [e]; decide)], by unfold tkM; rw [if_neg (by rw [e]; decide)]⟩
theorem tk_form {N : Nat} {M : Nat → Nat → Int} {f : Int} (hp : plE N M f = 0) (hc : cnI M f ≠ 0) (ho : ofE (rwI M f 0) ≠ 0) : tkE N M f = 12 ∧ tkX N M f = ev0 ∧ tkM N M f = M := by
  have e : tkE N M f = 12 := by unfold tkE; rw [if_pos hp, if_neg hc]; exact (of_no ho).1
  exact ⟨e, by unfold tkX; rw [if_neg (by rw [e]; decide)], by unfold tkM; rw [if_neg (by rw [e]; decide)]⟩
theorem tk_ok {N : Nat} {M : Nat → Nat → Int} {f : Int} (hp : plE N M f = 0) (hc : cnI M f ≠ 0) (ho : ofE (rwI M f 0) = 0) : tkE N M f = 0 ∧ tkX N M f = ofX (rwI M f 0) ∧ tkM N M f = stW N (stW N M f 12 ((bgI M f + 1) % 8)) f 13 (cnI M f - 1) := by
  have e : tkE N M f = 0 := by unfold tkE; rw [if_pos hp, if_neg hc]; exact ho
  exact ⟨e, by unfold tkX; rw [if_pos e], by unfold tkM; rw [if_pos e]⟩
end Go.Proofs.YtdplailaolfpkaaDoor.Pring
