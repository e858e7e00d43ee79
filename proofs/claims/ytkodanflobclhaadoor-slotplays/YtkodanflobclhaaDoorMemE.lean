/- A list of lists of words that the call itself made; and what the statements' own comparison of two lists answers. -/
import Derived.Test.YtkodanflobclhaaDoorMemD
import Derived.Deep.LoopGhost
namespace Go.Proofs.YtkodanflobclhaaDoor.Pmem
open Go.Proofs.YtkodanflobclhaaDoor.Pbase
open Go.RowKit
set_option linter.unusedVariables false

theorem below_drewNM {B : Nat} {a w : World} (h : Below B a w) (n : Nat) : Below B a (w.drewN n) := ⟨h.os, h.tape, h.output, h.size, h.block⟩

theorem infoWords : (Tryd.prog.info? 22).map (fun i => (i.zero, i.size, i.bytes)) = some (some (.slice none 0 0), 1, 24) := by kernel_rfl
theorem cell_one_new (w : World) (v : Value) (t : TypeId) : ∀ j u, ([v] : List Value)[j]? = some u → (w.alloc (.cells #[v] t)).cell? ((⟨w.heap.size, 0, none⟩ : Addr).add j) = some u := by
  intro j u hj
  match j, hj with
  | 0, hj => simp at hj; subst hj; simp [Addr.add]
theorem own_ge {w : World} {base : Nat} {e : TypeId} {v : Value} {n : Nat} {xs : List Value} (h : w.ownsRow base e 1 v n xs) : ∀ k, v.ownBlock = some k → base ≤ k := by
  intro k hk
  rcases h.2 with ⟨rfl, _⟩ | ⟨g, cap, cur, rfl, hg, _⟩
  · simp [Value.ownBlock] at hk
  · simp [Value.ownBlock] at hk; omega
/-- The slice v of the call's own holds n slices; the j-th leads to a block of its own whose first 36 words are M j. -/
def RowsIs (w : World) (base : Nat) (v : Value) (n : Nat) (M : Nat → Nat → Int) : Prop :=
  ∃ r c : Nat → Nat, w.ownsRow base 22 1 v n ((List.range n).map fun j => .slice (some ⟨r j, 0, none⟩) 36 (c j)) ∧
    (∀ j, j < n → base ≤ r j ∧ ∃ cur, w.heap[r j]? = some (.cells cur 58 (0, 0)) ∧ ∀ a, a < 36 → cur[a]? = some (.int .u64 (M j a))) ∧ ∀ i j, i < n → j < n → r i = r j → i = j
theorem RowsIs.nil (w : World) (base : Nat) (M : Nat → Nat → Int) : RowsIs w base (.slice none 0 0) 0 M :=
  ⟨fun _ => 0, fun _ => 0, ⟨rfl, .inl ⟨rfl, rfl⟩⟩, fun j hj => absurd hj (by omega), fun i j hi => absurd hi (by omega)⟩
theorem ownsRow_on {w w' : World} {base : Nat} {e : TypeId} {size : Nat} {v : Value} {n : Nat} {xs : List Value} (h : w.ownsRow base e size v n xs) (hk : ∀ k, base ≤ k → k < w.heap.size → w'.heap[k]? = w.heap[k]?) : w'.ownsRow base e size v n xs := by
  refine ⟨h.1, ?_⟩
  rcases h.2 with h2 | ⟨g, cap, cur, hv, hg, hh, r⟩
  · exact .inl h2
  · exact .inr ⟨g, cap, cur, hv, hg, by rw [hk g hg (Array.getElem?_eq_some_iff.1 hh).1]; exact hh, r⟩
/-- Whatever leaves the blocks from base on as they were leaves the lists. -/
theorem RowsIs.on {w w' : World} {base : Nat} {v : Value} {n : Nat} {M : Nat → Nat → Int} (h : RowsIs w base v n M) (hk : ∀ k, base ≤ k → k < w.heap.size → w'.heap[k]? = w.heap[k]?) : RowsIs w' base v n M := by
  obtain ⟨r, c, h1, h2, h3⟩ := h
  refine ⟨r, c, ownsRow_on h1 hk, fun j hj => ?_, h3⟩
  obtain ⟨hb, cur, hh, hc⟩ := h2 j hj
  exact ⟨hb, cur, by rw [hk _ hb (Array.getElem?_eq_some_iff.1 hh).1]; exact hh, hc⟩
theorem RowsIs.alloc {w : World} {base : Nat} {v : Value} {n : Nat} {M : Nat → Nat → Int} (h : RowsIs w base v n M) (o : Obj) : RowsIs (w.alloc o) base v n M :=
  h.on fun k _ hk => Below.heap_alloc w o k hk
theorem RowsIs.drewN {w : World} {base : Nat} {v : Value} {n : Nat} {M : Nat → Nat → Int} (h : RowsIs w base v n M) (m : Nat) : RowsIs (w.drewN m) base v n M :=
  h.on fun k _ hk => rfl
theorem RowsIs.setRow {w : World} {base : Nat} {v : Value} {n : Nat} {M : Nat → Nat → Int} (h : RowsIs w base v n M) {b : Nat} (hb : b < base) (cs : Array Value) : RowsIs (w.setRow b cs) base v n M :=
  h.on fun k hk _ => setRow_other w b k cs (by omega)
theorem RowsIs.owns {w : World} {base : Nat} {v : Value} {n : Nat} {M : Nat → Nat → Int} (h : RowsIs w base v n M) : ∃ xs, w.ownsRow base 22 1 v n xs ∧ ∀ j, j < n → ∃ r c, xs[j]? = some (.slice (some ⟨r, 0, none⟩) 36 c) ∧ base ≤ r ∧ r < w.heap.size ∧ ∀ a, a < 36 → w.cell? ⟨r, a, none⟩ = some (.int .u64 (M j a)) := by
  obtain ⟨r, c, h1, h2, h3⟩ := h
  refine ⟨_, h1, fun j hj => ⟨r j, c j, by simp [hj], ?_⟩⟩
  obtain ⟨hb, cur, hh, hc⟩ := h2 j hj
  exact ⟨hb, (Array.getElem?_eq_some_iff.1 hh).1, fun a ha => by rw [cell_of_row w _ a _ _ _ hh]; exact hc a ha⟩
/-- A list more, behind an append to a world that has one block more (the appended slice's own). -/
theorem RowsIs.push {w w' : World} {base : Nat} {v v' : Value} {n : Nat} {M : Nat → Nat → Int} {o : Obj} {xs : List Value} {x c : Nat} {cur : Array Value} {w₀ : World} (h0 : RowsIs w₀ base v n M) (hk0 : ∀ k, base ≤ k → k < w₀.heap.size → w.heap[k]? = w₀.heap[k]?) (hx0 : w₀.heap.size ≤ x)
    (hx : base ≤ x) (hc : w.heap[x]? = some (.cells cur 58 (0, 0))) (hM : ∀ a, a < 36 → cur[a]? = some (.int .u64 (M n a)))
    (ho : w.ownsRow base 22 1 v n xs) (hown : w'.ownsRow base 22 1 v' (n + 1) (xs ++ [.slice (some ⟨x, 0, none⟩) 36 c])) (hg : (w.alloc o).grownBy w' v.ownBlock) : RowsIs w' base v' (n + 1) M := by
  obtain ⟨r, cc, g1, g2, h3⟩ := h0
  have h1 := ownsRow_on g1 hk0
  have h2 : ∀ j, j < n → base ≤ r j ∧ ∃ cur, w.heap[r j]? = some (.cells cur 58 (0, 0)) ∧ ∀ a, a < 36 → cur[a]? = some (.int .u64 (M j a)) := by
    intro j hj
    obtain ⟨hb, cur, hh, hc⟩ := g2 j hj
    exact ⟨hb, cur, by rw [hk0 _ hb (Array.getElem?_eq_some_iff.1 hh).1]; exact hh, hc⟩
  have hxs : xs = (List.range n).map fun j => .slice (some ⟨r j, 0, none⟩) 36 (cc j) := by
    rcases h1.2 with ⟨e1, e2⟩ | ⟨g, cap, cu, e1, _, hh, _, _, _, ht⟩
    · subst e2
      have := ho.1
      simp at this
      simpa using this
    · rcases ho.2 with ⟨e3, e4⟩ | ⟨g', cap', cu', e3, _, hh', _, _, _, ht'⟩
      · rw [e1] at e3; cases e3
      · rw [e1] at e3
        cases e3
        rw [hh] at hh'
        cases hh'
        exact ht'.symm.trans ht
  have hkeep : ∀ (k : Nat) (cu : Array Value), w.heap[k]? = some (.cells cu 58 (0, 0)) → w'.heap[k]? = some (.cells cu 58 (0, 0)) := by
    intro k cu hk
    have hlt := (Array.getElem?_eq_some_iff.1 hk).1
    rw [hg.block k (by simp; omega) ?_, Below.heap_alloc w o k hlt]
    · exact hk
    · rcases h1.2 with ⟨e1, e2⟩ | ⟨g, cap, cu', e1, _, hh, _⟩
      · rw [e1]; simp [Value.ownBlock]
      · rw [e1]
        simp only [Value.ownBlock, ne_eq, Option.some.injEq]
        rintro rfl
        rw [hk] at hh
        simp at hh
  refine ⟨fun j => if j = n then x else r j, fun j => if j = n then c else cc j, ?_, ?_, ?_⟩
  · have e : (List.range (n + 1)).map (fun j => Value.slice (some ⟨if j = n then x else r j, 0, none⟩) 36 (if j = n then c else cc j)) = xs ++ [.slice (some ⟨x, 0, none⟩) 36 c] := by
      rw [List.range_succ, List.map_append, hxs]
      congr 1
      · apply List.map_congr_left
        intro j hj
        have : j ≠ n := by simp at hj; omega
        simp [this]
      · simp
    rw [e]
    exact hown
  · intro j hj
    by_cases e : j = n
    · subst e
      simp only [if_true]
      exact ⟨hx, cur, hkeep _ _ hc, hM⟩
    · simp only [e, if_false]
      obtain ⟨hb, cu, hh, hcu⟩ := h2 j (by omega)
      exact ⟨hb, cu, hkeep _ _ hh, hcu⟩
  · have hne : ∀ j, j < n → r j ≠ x := fun j hj => by
      obtain ⟨_, _, hh, _⟩ := g2 j hj
      have := (Array.getElem?_eq_some_iff.1 hh).1
      omega
    intro i j hi hj e
    dsimp only at e
    by_cases ei : i = n
    · by_cases ej : j = n
      · omega
      · rw [if_pos ei, if_neg ej] at e
        exact absurd e.symm (hne j (by omega))
    · by_cases ej : j = n
      · rw [if_neg ei, if_pos ej] at e
        exact absurd e (hne i (by omega))
      · rw [if_neg ei, if_neg ej] at e
        exact h3 i j (by omega) (by omega) e
theorem rows_own {w : World} {v : Value} {k base : Nat} {M : Nat → Nat → Int} (h : RowsIs w base v k M) : ∃ xs, w.ownsRow base 22 1 v k xs := by
  obtain ⟨xs, h, _⟩ := h.owns
  exact ⟨xs, h⟩

end Go.Proofs.YtkodanflobclhaaDoor.Pmem
