/- Who has seen it: plain definitions and lemmas over a clock's state; a list of the call's own, as a reader needs it. No program is named. -/
import Derived.Test.YtjbchnnbphikhaaClkG
import Derived.Laws.OwnMore
import Derived.Maps.AppendAt
import Derived.OwnWalk
namespace Go.Proofs.Ytjbchnnbphikhaa
open Go.RowKit
set_option linter.unusedVariables false

/-- Has that core seen what must be seen of a frame that was that? -/
def seenC (N : Nat) (s : CS) (was t c : Int) : Bool :=
  if was = 0 then true
  else if was = 3 then decide (t < flS N s c) && decide (t < enS N s c)
  else if was = 2 then decide (t < enS N s c)
  else if was = 1 then decide (t < flS N s c)
  else false
/-- The numbers below n that f says no to, rising. -/
def leftU (f : Nat → Bool) : Nat → List Nat
  | 0 => []
  | n + 1 => if f n = true then leftU f n else leftU f n ++ [n]
theorem leftU_yes {f : Nat → Bool} {n : Nat} (h : f n = true) : leftU f (n + 1) = leftU f n := by simp [leftU, h]
theorem leftU_no {f : Nat → Bool} {n : Nat} (h : f n = false) : leftU f (n + 1) = leftU f n ++ [n] := by simp [leftU, h]
theorem mem_leftU {f : Nat → Bool} {i : Nat} : ∀ n : Nat, i ∈ leftU f n ↔ i < n ∧ f i = false
  | 0 => by simp [leftU]
  | n + 1 => by
    have ih := mem_leftU (f := f) (i := i) n
    cases h : f n
    · rw [leftU_no h, List.mem_append, ih, List.mem_singleton]
      constructor
      · rintro (⟨h1, h2⟩ | rfl)
        · exact ⟨by omega, h2⟩
        · exact ⟨by omega, h⟩
      · rintro ⟨h1, h2⟩
        by_cases e : i = n
        · exact .inr e
        · exact .inl ⟨by omega, h2⟩
    · rw [leftU_yes h, ih]
      constructor
      · rintro ⟨h1, h2⟩; exact ⟨by omega, h2⟩
      · rintro ⟨h1, h2⟩
        by_cases e : i = n
        · subst e; rw [h] at h2; cases h2
        · exact ⟨by omega, h2⟩
theorem len_leftU (f : Nat → Bool) : ∀ n : Nat, (leftU f n).length ≤ n
  | 0 => Nat.le_refl _
  | n + 1 => by
    have ih := len_leftU f n
    cases h : f n
    · rw [leftU_no h, List.length_append, List.length_singleton]; omega
    · rw [leftU_yes h]; omega
theorem leftU_nil {f : Nat → Bool} {n : Nat} : (leftU f n).length = 0 ↔ ∀ i, i < n → f i = true := by
  rw [List.length_eq_zero_iff]
  constructor
  · intro h i hi
    cases e : f i
    · have : i ∈ leftU f n := (mem_leftU n).2 ⟨hi, e⟩
      rw [h] at this; cases this
    · rfl
  · intro h
    cases e : leftU f n with
    | nil => rfl
    | cons a l =>
      have : a ∈ leftU f n := by rw [e]; simp
      have := (mem_leftU n).1 this
      rw [h a this.1] at this
      simp at this
theorem nodup_leftU (f : Nat → Bool) : ∀ n : Nat, (leftU f n).Nodup
  | 0 => by simp [leftU]
  | n + 1 => by
    have ih := nodup_leftU f n
    cases h : f n
    · rw [leftU_no h, List.nodup_append]
      refine ⟨ih, by simp, ?_⟩
      intro a ha b hb
      have := ((mem_leftU n).1 ha).1
      simp at hb
      omega
    · rw [leftU_yes h]; exact ih
/-- The cores that are missing. -/
def leftL (N : Nat) (s : CS) (was t : Int) : List Nat := leftU (fun i => seenC N s was t i) N
/-- Is it quiet? -/
def quF (N : Nat) (s : CS) (was t : Int) : Bool := ((leftL N s was t).length : Int) == 0
theorem quF_iff {N : Nat} {s : CS} {was t : Int} : quF N s was t = true ↔ ∀ i, i < N → seenC N s was t (i : Nat) = true := by
  unfold quF leftL
  rw [beq_iff_eq, Int.natCast_eq_zero, leftU_nil]
theorem quF_zero (N : Nat) (s : CS) (t : Int) : quF N s 0 t = true := quF_iff.2 fun i _ => by simp [seenC]
theorem quF_none {N : Nat} {s : CS} {was t : Int} (hN : 1 ≤ N) (h : was < 0 ∨ 3 < was) : quF N s was t = false := by
  cases e : quF N s was t
  · rfl
  · have := quF_iff.1 e 0 (by omega)
    simp [seenC, show ¬ was = 0 by omega, show ¬ was = 3 by omega, show ¬ was = 2 by omega, show ¬ was = 1 by omega] at this
theorem enS_at {N : Nat} {s : CS} {c : Nat} (h : c < N) : enS N s c = s.en c := by simp [enS, okF_nat h]
theorem flS_at {N : Nat} {s : CS} {c : Nat} (h : c < N) : flS N s c = s.fl c := by simp [flS, okF_nat h]
theorem lt_least {g : Nat → Int} {N : Nat} {t : Int} (hN : 1 ≤ N) : t < leastN g (N - 1) ↔ ∀ i, i < N → t < g i := by
  constructor
  · intro h i hi
    have := leastN_le g (N - 1) i (by omega)
    omega
  · intro h
    obtain ⟨i, hi, e⟩ := leastN_ex g (N - 1)
    rw [e]
    exact h i (by omega)
theorem quF_kernel {N : Nat} (s : CS) (t : Int) (hN : 1 ≤ N) : quF N s 2 t = decide (t < floE N s) := by
  rw [Bool.eq_iff_iff, quF_iff, decide_eq_true_iff]
  unfold floE
  rw [lt_least hN]
  constructor
  · intro h i hi
    have := h i hi
    rw [← enS_at hi]
    simpa [seenC] using this
  · intro h i hi
    have := h i hi
    rw [← enS_at hi] at this
    simpa [seenC] using this
theorem quF_user {N : Nat} (s : CS) (t : Int) (hN : 1 ≤ N) : quF N s 1 t = decide (t < floF N s) := by
  rw [Bool.eq_iff_iff, quF_iff, decide_eq_true_iff]
  unfold floF
  rw [lt_least hN]
  constructor
  · intro h i hi
    have := h i hi
    rw [← flS_at hi]
    simpa [seenC] using this
  · intro h i hi
    have := h i hi
    rw [← flS_at hi] at this
    simpa [seenC] using this
theorem quF_both (N : Nat) (s : CS) (t : Int) : quF N s 3 t = (quF N s 1 t && quF N s 2 t) := by
  rw [Bool.eq_iff_iff, Bool.and_eq_true, quF_iff, quF_iff, quF_iff]
  constructor
  · intro h
    refine ⟨fun i hi => ?_, fun i hi => ?_⟩
    · have := h i hi
      simp [seenC] at this ⊢
      exact this.1
    · have := h i hi
      simp [seenC] at this ⊢
      exact this.2
  · rintro ⟨h1, h2⟩ i hi
    have a := h1 i hi
    have b := h2 i hi
    simp [seenC] at a b ⊢
    exact ⟨a, b⟩
/-- What is quiet for a time is for each earlier one. -/
theorem quF_mono {N : Nat} {s : CS} {was a b : Int} (hab : a ≤ b) (h : quF N s was b = true) : quF N s was a = true := by
  rw [quF_iff] at h ⊢
  intro i hi
  have := h i hi
  unfold seenC at this ⊢
  split
  · rfl
  · rename_i h0
    rw [if_neg h0] at this
    split
    · rename_i h3
      rw [if_pos h3] at this
      simp at this ⊢
      omega
    · rename_i h3
      rw [if_neg h3] at this
      split
      · rename_i h2
        rw [if_pos h2] at this
        simp at this ⊢
        omega
      · rename_i h2
        rw [if_neg h2] at this
        split
        · rename_i h1
          rw [if_pos h1] at this
          simp at this ⊢
          omega
        · rename_i h1
          rw [if_neg h1] at this
          exact this
/-- A core that entered and flushed behind t has seen all that a frame can have been. -/
theorem seenC_all {N : Nat} {s : CS} {was t : Int} {c : Nat} (hc : c < N) (hw : 0 ≤ was ∧ was ≤ 3) (he : t < s.en c) (hf : t < s.fl c) : seenC N s was t (c : Nat) = true := by
  have : was = 0 ∨ was = 1 ∨ was = 2 ∨ was = 3 := by omega
  rcases this with rfl | rfl | rfl | rfl <;> simp [seenC, enS_at hc, flS_at hc, he, hf]
/-- Only when a core entered and flushed tells what it has seen. -/
theorem seenC_congr {N : Nat} {s s' : CS} {was t : Int} {c : Nat} (hc : c < N) (he : s'.en c = s.en c) (hf : s'.fl c = s.fl c) : seenC N s' was t (c : Nat) = seenC N s was t (c : Nat) := by
  simp [seenC, enS_at hc, flS_at hc, he, hf]

/-! ### A list of the call's own, as a reader needs it -/
def vals (l : List Nat) : List Value := l.map fun i : Nat => Value.int .i64 (i : Int)
/-- The value v is the slice of the numbers l, in a block from base on. -/
def Got (w : World) (base : Nat) (v : Value) (l : List Nat) : Prop :=
  ∃ a cap, v = .slice a l.length cap ∧ (l.length = 0 ∨ ∃ g, a = some ⟨g, 0, none⟩ ∧ base ≤ g ∧ g < w.heap.size ∧ ∀ j, j < l.length → w.cell? ⟨g, j, none⟩ = some (.int .i64 ((l.getD j 0 : Nat) : Int)))
theorem got_of_own {w : World} {base : Nat} {e : TypeId} {v : Value} {l : List Nat} (h : w.ownsRow base e 1 v l.length (vals l)) : Got w base v l := by
  have hcell := fun g (hg : v.ownBlock = some g) => h.cells hg
  rcases h.2 with ⟨rfl, e0⟩ | ⟨g, cap, cur, rfl, hg, hh, r⟩
  · exact ⟨none, 0, by rw [e0], .inl e0⟩
  · refine ⟨some ⟨g, 0, none⟩, cap, rfl, .inr ⟨g, rfl, hg, (Array.getElem?_eq_some_iff.1 hh).1, fun j hj => ?_⟩⟩
    have := hcell g rfl j (.int .i64 ((l.getD j 0 : Nat) : Int)) (by simp [vals, List.getElem?_eq_getElem hj])
    rwa [Addr.add_lit, Nat.zero_add] at this
theorem Got.below {w w' : World} {base B : Nat} {v : Value} {l : List Nat} (h : Got w base v l) (hB : Below B w w') (hle : w.heap.size ≤ B) : Got w' base v l := by
  obtain ⟨a, cap, e, h⟩ := h
  refine ⟨a, cap, e, h.imp id ?_⟩
  rintro ⟨g, e, hg, hl, hc⟩
  exact ⟨g, e, hg, Nat.lt_of_lt_of_le hl hB.size, fun j hj => (hB.cell (p := ⟨g, j, none⟩) (by show g < B; omega)).trans (hc j hj)⟩
theorem Got.mono {w : World} {base base' : Nat} {v : Value} {l : List Nat} (h : Got w base v l) (hle : base' ≤ base) : Got w base' v l := by
  obtain ⟨a, cap, e, h⟩ := h
  refine ⟨a, cap, e, h.imp id ?_⟩
  rintro ⟨g, e, hg, hl, hc⟩
  exact ⟨g, e, by omega, hl, hc⟩
/-- The blocks from base on are as they were. -/
theorem Got.on {w w' : World} {base : Nat} {v : Value} {l : List Nat} (h : Got w base v l) (hk : ∀ k, base ≤ k → k < w.heap.size → w'.heap[k]? = w.heap[k]?) (hs : w.heap.size ≤ w'.heap.size) : Got w' base v l := by
  obtain ⟨a, cap, e, h⟩ := h
  refine ⟨a, cap, e, h.imp id ?_⟩
  rintro ⟨g, e, hg, hl, hc⟩
  exact ⟨g, e, hg, Nat.lt_of_lt_of_le hl hs, fun j hj => (World.cell?_of_block (w := w) (w' := w') (a := ⟨g, j, none⟩) (hk g hg hl)).trans (hc j hj)⟩
theorem Got.at {w : World} {base : Nat} {a : Option Addr} {n cap : Nat} {l : List Nat} (h : Got w base (.slice a n cap) l) {j : Nat} (hj : j < l.length) :
    ∃ g, a = some ⟨g, 0, none⟩ ∧ base ≤ g ∧ g < w.heap.size ∧ w.cell? ⟨g, j, none⟩ = some (.int .i64 ((l.getD j 0 : Nat) : Int)) := by
  obtain ⟨a', cap', e, h⟩ := h
  cases e
  rcases h with h | ⟨g, e, hg, hl, hc⟩
  · omega
  · exact ⟨g, e, hg, hl, hc j hj⟩
theorem own_ge' {w : World} {base : Nat} {e : TypeId} {v : Value} {n : Nat} {xs : List Value} (h : w.ownsRow base e 1 v n xs) : ∀ k, v.ownBlock = some k → base ≤ k := fun k hk => (h.lt k hk).1
theorem row_on {w w' : World} {base : Nat} {e : TypeId} {size : Nat} {v : Value} {n : Nat} {xs : List Value} (h : w.ownsRow base e size v n xs) (hk : ∀ k, base ≤ k → k < w.heap.size → w'.heap[k]? = w.heap[k]?) : w'.ownsRow base e size v n xs := by
  refine ⟨h.1, h.2.imp id ?_⟩
  rintro ⟨g, cap, cur, hv, hg, hh, r⟩
  exact ⟨g, cap, cur, hv, hg, by rw [hk g hg (Array.getElem?_eq_some_iff.1 hh).1]; exact hh, r⟩
theorem row_below {w w' : World} {base B : Nat} {e : TypeId} {size : Nat} {v : Value} {n : Nat} {xs : List Value} (h : w.ownsRow base e size v n xs) (hB : Below B w w') (hle : w.heap.size ≤ B) : w'.ownsRow base e size v n xs :=
  row_on h fun k _ hk => hB.block k (by omega)
theorem vals_snoc (l : List Nat) (n : Nat) : vals (l ++ [n]) = vals l ++ [.int .i64 (n : Int)] := by simp [vals]
theorem below_drewN (B : Nat) (w : World) (n : Nat) : Below B w (w.drewN n) := ⟨rfl, rfl, rfl, Nat.le_refl _, fun _ _ => rfl⟩
theorem one_cell (w : World) (v : Value) (t : TypeId) : ∀ j u, ([v] : List Value)[j]? = some u → (w.alloc (.cells #[v] t)).cell? ((⟨w.heap.size, 0, none⟩ : Addr).add j) = some u := by
  intro j u hj
  match j, hj with
  | 0, hj => simp at hj; subst hj; simp [Addr.add]
theorem bounds_u8 {z : Int} (h : (Lit.int .u8 z).wf = true) : 0 ≤ z ∧ z ≤ 255 := by
  have h' : (decide (IntKind.u8.min ≤ z) && decide (z ≤ IntKind.u8.max)) = true := h
  have e1 : IntKind.u8.min = 0 := by decide
  have e2 : IntKind.u8.max = 255 := by decide
  rw [e1, e2] at h'
  simpa using h'
/-- A remainder of a byte. -/
theorem rem_u8 {z : Int} (h : (Lit.int .u8 z).wf = true) (n : Nat) (hn : 1 ≤ n) : ∃ r : Nat, z.tmod n = r ∧ r < n := by
  have hz := bounds_u8 h
  have h1 := Int.emod_nonneg z (show (n : Int) ≠ 0 by omega)
  have h2 := Int.emod_lt_of_pos z (show (0 : Int) < n by omega)
  exact ⟨(z.tmod n).toNat, by rw [Int.tmod_eq_emod_of_nonneg hz.1]; omega, by rw [Int.tmod_eq_emod_of_nonneg hz.1]; omega⟩

end Go.Proofs.Ytjbchnnbphikhaa
