/- Of keys that are put one behind the other, each once: what is remembered. -/
import Derived.Test.YtamfdnkjfmfcoaaTlbQ
namespace Go.Proofs.Ytamfdnkjfmfcoaa
open Go.RowKit
set_option linter.unusedVariables false

theorem hasK_keys (S : List En) (k : Ky) : hasK S k = decide (k ∈ S.map (·.1)) := by
  rw [Bool.eq_iff_iff]
  simp [hasK]
/-- The keys that are remembered behind m keys (0, 0), (0, 1) ..: the last ones. -/
def lastK (R m : Nat) : List Ky := (List.range (min m R)).map fun j => (0, ((m - min m R + j : Nat) : Int))
theorem lastK_len (R m : Nat) : (lastK R m).length = min m R := by simp [lastK]
theorem lastK_mem (R m i : Nat) (hi : i < m) : (((0 : Int), (i : Int)) ∈ lastK R m) ↔ m - i ≤ R := by
  unfold lastK
  simp only [List.mem_map, List.mem_range, Prod.mk.injEq, true_and]
  constructor
  · rintro ⟨j, hj, e⟩
    omega
  · intro h
    exact ⟨i - (m - min m R), by omega, by omega⟩
theorem lastK_new (R m : Nat) : ((0 : Int), (m : Int)) ∉ lastK R m := by
  unfold lastK
  simp only [List.mem_map, List.mem_range, Prod.mk.injEq, true_and, not_exists, not_and]
  intro j hj e
  omega
theorem lastK_step (R m : Nat) : lastK R (m + 1) = if R < min m R + 1 then (lastK R m ++ [(0, (m : Int))]).tail else lastK R m ++ [(0, (m : Int))] := by
  have get : ∀ m j, (lastK R m)[j]? = if j < min m R then some (0, ((m - min m R + j : Nat) : Int)) else none := by
    intro m j
    unfold lastK
    by_cases h : j < min m R
    · rw [if_pos h]
      simp [h]
    · rw [if_neg h]
      simp [h]
  have app : ∀ j, (lastK R m ++ [((0 : Int), (m : Int))])[j]? = if j < min m R then some (0, ((m - min m R + j : Nat) : Int)) else if j = min m R then some (0, (m : Int)) else none := by
    intro j
    by_cases h : j < min m R
    · rw [List.getElem?_append_left (by rw [lastK_len]; exact h), get, if_pos h, if_pos h]
    · rw [List.getElem?_append_right (by rw [lastK_len]; omega), lastK_len, if_neg h]
      by_cases h2 : j = min m R
      · rw [if_pos h2, h2]
        simp
      · rw [if_neg h2]
        have : j - min m R ≠ 0 := by omega
        obtain ⟨n, hn⟩ : ∃ n, j - min m R = n + 1 := ⟨j - min m R - 1, by omega⟩
        rw [hn]
        rfl
  split
  · apply List.ext_getElem?
    intro j
    rw [List.getElem?_tail, app, get]
    have hm : min m R = R := by omega
    have hm2 : min (m + 1) R = R := by omega
    rw [hm, hm2]
    by_cases h1 : j + 1 < R
    · rw [if_pos (by omega), if_pos h1]
      congr 3
      omega
    · by_cases h2 : j + 1 = R
      · rw [if_pos (by omega), if_neg h1, if_pos h2]
        congr 3
        omega
      · rw [if_neg (by omega), if_neg h1, if_neg h2]
  · apply List.ext_getElem?
    intro j
    rw [app, get]
    have hm : min m R = m := by omega
    have hm2 : min (m + 1) R = m + 1 := by omega
    rw [hm, hm2]
    by_cases h1 : j < m
    · rw [if_pos (by omega), if_pos h1]
      congr 3
      omega
    · by_cases h2 : j = m
      · rw [if_pos (by omega), if_neg h1, if_pos h2]
        congr 3
        omega
      · rw [if_neg (by omega), if_neg h1, if_neg h2]
/-- Behind one more. -/
theorem putS_keys {R m : Nat} {S : List En} (h : S.map (·.1) = lastK R m) (p : Pt) : (putS R S (0, (m : Int)) p).map (·.1) = lastK R (m + 1) := by
  have hn : hasK S (0, (m : Int)) = false := by
    rw [hasK_keys, h]
    simpa using lastK_new R m
  have hlen : S.length = min m R := by rw [← lastK_len R m, ← h]; simp
  unfold putS
  rw [put_none _ _ _ S hn, lastK_step, ← h]
  simp only [List.length_append, List.length_cons, List.length_nil, Nat.zero_add, hlen]
  split
  · rw [List.map_tail]
    simp
  · simp

theorem bounds_u8 {z : Int} (h : (Lit.int .u8 z).wf = true) : 0 ≤ z ∧ z ≤ 255 := by
  have h' : (decide (IntKind.u8.min ≤ z) && decide (z ≤ IntKind.u8.max)) = true := h
  have e1 : IntKind.u8.min = 0 := by decide
  have e2 : IntKind.u8.max = 255 := by decide
  rw [e1, e2] at h'
  simpa using h'
theorem rem_u8 {z : Int} (h : (Lit.int .u8 z).wf = true) (n : Nat) (hn : 1 ≤ n) : ∃ r : Nat, z.tmod n = r ∧ r < n := by
  have hz := bounds_u8 h
  have h1 := Int.emod_nonneg z (show (n : Int) ≠ 0 by omega)
  have h2 := Int.emod_lt_of_pos z (show (0 : Int) < n by omega)
  exact ⟨(z.tmod n).toNat, by rw [Int.tmod_eq_emod_of_nonneg hz.1]; omega, by rw [Int.tmod_eq_emod_of_nonneg hz.1]; omega⟩
/-- A mapping lies in block b. -/
structure PteAt (w : World) (b : Nat) (q0 : Bool) (q1 q2 q3 : Int) : Prop where
  c0 : w.cell? ⟨b, 0, none⟩ = some (.bool q0)
  c1 : w.cell? ⟨b, 1, none⟩ = some (.int .i64 q1)
  c2 : w.cell? ⟨b, 2, none⟩ = some (.int .i64 q2)
  c3 : w.cell? ⟨b, 3, none⟩ = some (.int .i64 q3)
theorem PteAt.on {w w' : World} {b : Nat} {q0 : Bool} {q1 q2 q3 : Int} (h : PteAt w b q0 q1 q2 q3) (e : w'.heap[b]? = w.heap[b]?) : PteAt w' b q0 q1 q2 q3 :=
  ⟨(World.cell?_of_block (w := w) e).trans h.c0, (World.cell?_of_block (w := w) e).trans h.c1, (World.cell?_of_block (w := w) e).trans h.c2, (World.cell?_of_block (w := w) e).trans h.c3⟩
theorem PteAt.more {w w' : World} {b : Nat} {q0 : Bool} {q1 q2 q3 : Int} (h : PteAt w b q0 q1 q2 q3) (k : Below w.heap.size w w') : PteAt w' b q0 q1 q2 q3 := h.on (k.block b (World.block_lt_of_cell? w _ h.c0))
theorem PteAt.new (w : World) (q0 : Bool) (q1 q2 q3 : Int) (t : TypeId) : PteAt (w.alloc (.cells #[.bool q0, .int .i64 q1, .int .i64 q2, .int .i64 q3] t)) w.heap.size q0 q1 q2 q3 := ⟨by simp, by simp, by simp, by simp⟩
theorem belowt {a w w' : World} (h : Below a.heap.size a w) (k : Below w.heap.size w w') : Below a.heap.size a w' := h.trans (k.mono h.size)
/-- All that Put asks of a list, and keeps. -/
structure Fine (S : List En) (R T : Nat) : Prop where
  ok : OkS S
  len : S.length ≤ R
  turns : ∀ x ∈ S, x.2.2 ≤ (T : Int)
theorem fine_nil (R : Nat) : Fine [] R 0 := ⟨okS_nil, by simp, by simp⟩
theorem Fine.put {S : List En} {R T : Nat} (h : Fine S R T) (k : Ky) (p : Pt) : Fine (putS R S k p) R (T + 1) :=
  ⟨okS_putS h.ok R k p, len_putS h.len k p, fun x hx => by have := turns_putS (by omega) h.turns R k p x hx; omega⟩
theorem Fine.mono {S : List En} {R T T' : Nat} (h : Fine S R T) (hT : T ≤ T') : Fine S R T' := ⟨h.ok, h.len, fun x hx => by have := h.turns x hx; omega⟩
theorem Fine.mx {S : List En} {R T : Nat} (h : Fine S R T) (hT : T ≤ 1000) : mxT S < 4611686018427387904 := by
  have := mxT_le S (by omega) h.turns
  omega
theorem lastK_first {R m : Nat} {S : List En} (h : S.map (·.1) = lastK R m) (h0 : 0 < min m R) : ∃ x, S[0]? = some x ∧ x.1.2 = (m : Int) - (min m R : Nat) := by
  have e : (S.map (·.1))[0]? = some (0, ((m - min m R + 0 : Nat) : Int)) := by
    rw [h]
    unfold lastK
    simp [h0]
  rw [List.getElem?_map] at e
  cases hx : S[0]? with
  | none => rw [hx] at e; cases e
  | some x =>
    rw [hx] at e
    simp only [Option.map_some, Option.some.injEq] at e
    refine ⟨x, rfl, ?_⟩
    rw [e]
    simp only
    omega
end Go.Proofs.Ytamfdnkjfmfcoaa
