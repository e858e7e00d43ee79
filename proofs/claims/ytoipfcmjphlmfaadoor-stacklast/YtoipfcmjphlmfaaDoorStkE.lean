/- A list of records as a reader asks it; what All of package stack answers, for every frame. -/
import Derived.Test.YtoipfcmjphlmfaaDoorStkD
import Derived.Test.YtoipfcmjphlmfaaDoorStkI
namespace Go.Proofs.YtoipfcmjphlmfaaDoor.Pstack
open Go.Proofs.YtoipfcmjphlmfaaDoor.Pbase Go.Proofs.YtoipfcmjphlmfaaDoor.Pfield Go.Proofs.YtoipfcmjphlmfaaDoor.Play Go.Proofs.YtoipfcmjphlmfaaDoor.Pmem Go.Proofs.YtoipfcmjphlmfaaDoor.Pthd
open Go.RowKit M
set_option linter.unusedVariables false

/-- The slice v holds the records of L, in a block from base on. -/
def Recs (w : World) (base : Nat) (v : Value) (L : List Rc) : Prop :=
  ∃ a cap, v = .slice a L.length cap ∧ (L.length = 0 ∨ ∃ g, a = some ⟨g, 0, none⟩ ∧ base ≤ g ∧ g < w.heap.size ∧ ∀ i x, L[i]? = some x → AtR w g (i * 6) x)
theorem atR_of {w w' : World} {g o : Nat} {x : Rc} (h : AtR w g o x) (hk : w'.heap[g]? = w.heap[g]?) : AtR w' g o x := by
  obtain ⟨c0, c1, c2, c3, c4, c5⟩ := h
  have k : ∀ j, w'.cell? ⟨g, j, none⟩ = w.cell? ⟨g, j, none⟩ := fun j => World.cell?_of_block hk
  exact ⟨(k _).trans c0, (k _).trans c1, (k _).trans c2, (k _).trans c3, (k _).trans c4, (k _).trans c5⟩
theorem Recs.on {w w' : World} {base : Nat} {v : Value} {L : List Rc} (h : Recs w base v L) (hB : Below w.heap.size w w') : Recs w' base v L := by
  obtain ⟨a, cap, e, h⟩ := h
  refine ⟨a, cap, e, ?_⟩
  rcases h with h | ⟨g, e1, h1, h2, h3⟩
  · exact .inl h
  · exact .inr ⟨g, e1, h1, Nat.lt_of_lt_of_le h2 hB.size, fun i x hi => atR_of (h3 i x hi) (hB.block g h2)⟩
theorem Recs.but {w w' : World} {q base : Nat} {v : Value} {L : List Rc} (h : Recs w base v L) (hB : But q w w') (hq : q < base) : Recs w' base v L := by
  obtain ⟨a, cap, e, h⟩ := h
  refine ⟨a, cap, e, ?_⟩
  rcases h with h | ⟨g, e1, h1, h2, h3⟩
  · exact .inl h
  · exact .inr ⟨g, e1, h1, Nat.lt_of_lt_of_le h2 hB.size, fun i x hi => atR_of (h3 i x hi) (hB.block g h2 (by omega))⟩
theorem Recs.keep {w w' : World} {base base' : Nat} {v : Value} {L : List Rc} (h : Recs w base v L) (hb : base' ≤ base) (hs : w.heap.size ≤ w'.heap.size) (hk : ∀ g, base ≤ g → g < w.heap.size → w'.heap[g]? = w.heap[g]?) : Recs w' base' v L := by
  obtain ⟨a, cap, e, h⟩ := h
  refine ⟨a, cap, e, ?_⟩
  rcases h with h | ⟨g, e1, h1, h2, h3⟩
  · exact .inl h
  · exact .inr ⟨g, e1, by omega, Nat.lt_of_lt_of_le h2 hs, fun i x hi => atR_of (h3 i x hi) (hk g h1 h2)⟩
theorem Recs.slice {w : World} {base : Nat} {v : Value} {L : List Rc} (h : Recs w base v L) : ∃ a cap, v = .slice a L.length cap := by
  obtain ⟨a, cap, e, _⟩ := h
  exact ⟨a, cap, e⟩
theorem Recs.at {w : World} {base : Nat} {a : Option Addr} {n cap : Nat} {L : List Rc} (h : Recs w base (.slice a n cap) L) {i : Nat} {x : Rc} (hi : L[i]? = some x) : ∃ g, a = some ⟨g, 0, none⟩ ∧ base ≤ g ∧ g < w.heap.size ∧ AtR w g (i * 6) x := by
  obtain ⟨a', cap', e, h⟩ := h
  cases e
  rcases h with h | ⟨g, e1, h1, h2, h3⟩
  · have := (List.getElem?_eq_some_iff.1 hi).1
    omega
  · exact ⟨g, e1, h1, h2, h3 i x hi⟩
theorem recs_nil (w : World) (base : Nat) : Recs w base (.slice none 0 0) [] := ⟨none, 0, rfl, .inl rfl⟩
theorem recsOf_len (M : Nat → Nat → Int) (f : Int) {d : Nat} (pre : List (Fin d)) : (recsOf M f pre).length = pre.length * 6 := by
  induction pre with
  | nil => rfl
  | cons x pre ih => rw [show recsOf M f (x :: pre) = cells6 M f x.1 ++ recsOf M f pre from rfl, List.length_append, ih]; simp [cells6]; omega
theorem recsOf_at (M : Nat → Nat → Int) (f : Int) (d : Nat) : ∀ (k i j : Nat), k ≤ d → i < k → j < 6 → (recsOf M f (upto d k))[i * 6 + j]? = (cells6 M f i)[j]?
  | 0, i, j, _, hi, _ => by omega
  | k + 1, i, j, hk, hi, hj => by
    have hk' : k < d := by omega
    rw [upto_succ hk', recsOf_snoc]
    have hl : (recsOf M f (upto d k)).length = k * 6 := by rw [recsOf_len, upto_length (by omega)]
    by_cases h : i < k
    · rw [List.getElem?_append_left (by rw [hl]; omega)]
      exact recsOf_at M f d k i j (by omega) h hj
    · obtain rfl : i = k := by omega
      rw [List.getElem?_append_right (by rw [hl]; omega), hl, show i * 6 + j - i * 6 = j by omega]
theorem recs_of_own {w : World} {base : Nat} {v : Value} {M : Nat → Nat → Int} {f : Int} {d : Nat} (h : w.ownsRow base 32 6 v d (recsOf M f (upto d d))) : Recs w base v ((List.range d).map (rcX M f)) := by
  have hl : ((List.range d).map (rcX M f)).length = d := by simp
  rcases h.2 with ⟨e, e0⟩ | ⟨g, cap, cur, rfl, hb, hg, _, _, _, ht⟩
  · subst e0
    exact ⟨none, 0, e, .inl rfl⟩
  · refine ⟨some ⟨g, 0, none⟩, cap, by rw [hl], .inr ⟨g, rfl, hb, (Array.getElem?_eq_some_iff.1 hg).1, fun i x hi => ?_⟩⟩
    have hid : i < d := by have := (List.getElem?_eq_some_iff.1 hi).1; rwa [hl] at this
    have hx : x = rcX M f i := by
      rw [List.getElem?_map, List.getElem?_range hid, Option.map_some] at hi
      exact (Option.some.inj hi).symm
    subst hx
    have key : ∀ j, j < 6 → w.cell? ⟨g, i * 6 + j, none⟩ = (cells6 M f i)[j]? := fun j hj => by
      have := recsOf_at M f d d i j (Nat.le_refl _) hid hj
      rw [← ht, List.getElem?_take, if_pos (by omega), Array.getElem?_toList] at this
      rw [cell_of_row _ _ _ _ _ _ hg, this]
    exact ⟨key 0 (by omega), key 1 (by omega), key 2 (by omega), key 3 (by omega), key 4 (by omega), key 5 (by omega)⟩
/-! ### All -/
set_option maxRecDepth 100000 in
set_option maxHeartbeats 1000000 in
theorem all_no (p b N : Nat) (f E : Int) (y : Th) (M : Nat → Nat → Int) (w : World) (hM : Sx w p b N M) (hE0 : E ≠ 0)
    (HG : Hid (∀ wc, Ag w wc p b N M → Calls Tryd.prog 16 #[.pointer (some ⟨p, 0, none⟩), .int .i64 f] wc fun e w' => e = .returned (.tuple #[.agg #[.int .i64 y.st, .int .i64 y.co, .int .i64 y.tc, .int .i64 y.rc, .int .i64 y.de], .int .i64 E]) ∧ Below wc.heap.size wc w')) :
    Calls Tryd.prog 9 #[.pointer (some ⟨p, 0, none⟩), .int .i64 f] w fun e w' => e = .returned (.tuple #[.slice none 0 0, .int .i64 E]) ∧ Below w.heap.size w w' := by
  have H0 := rhide (ag_new hM)
  have hE : (E != 0) = true := by simp [hE0]
  clear hM hE0
  go_enter Tryd.func9, Tryd.ntmps9
  go_wp2_with (first
    | (go_at_call 16; refine (HG.out _ H0.out).mono ?_; rintro e1 w1 ⟨rfl, hb⟩; have H1 := rhide ((H0.out.on hb).on (bal (Below.refl _ _) (.cells #[.int .i64 y.st, .int .i64 y.co, .int .i64 y.tc, .int .i64 y.rc, .int .i64 y.de] 29))); clear hb H0 HG; have x0 := H1.out.br.cell; have z0 := H1.out.br.frozen; have x1 := H1.out.be.cell; have z1 := H1.out.be.frozen)
    | fail)
  refine bodyPost_ret (v := .tuple #[.slice none 0 0, .int .i64 E]) (by simp [results, Tryd.results9, go_sem, x0, x1]) rfl ⟨rfl, ?_⟩
  exact bst (bst H1.out.below (Nat.le_refl _) _ _) (by omega) _ _
theorem al_yes {N : Nat} {M : Nat → Nat → Int} {f : Int} (hg : gtE N M f = 0) (h : ∀ j : Nat, j < dpN M f → rcE M f j = 0) : alE N M f = 0 ∧ alL N M f = (List.range (dpN M f)).map (rcX M f) := by
  have hb : alB M f (dpN M f) = true := by
    unfold alB
    simp only [List.all_eq_true, List.mem_range, beq_iff_eq]
    exact h
  have e : alE N M f = 0 := by unfold alE; rw [if_pos hg, if_pos hb]
  exact ⟨e, by unfold alL; rw [if_pos e]⟩
theorem al_no {N : Nat} {M : Nat → Nat → Int} {f : Int} (hg : gtE N M f = 0) {x : Nat} (hx : x < dpN M f) (h : rcE M f x ≠ 0) : alE N M f = rcE M f x ∧ alL N M f = [] := by
  have h12 : rcE M f x = 12 := (rcE_or M f x).resolve_left h
  have hb : ¬ alB M f (dpN M f) = true := by
    unfold alB
    simp only [List.all_eq_true, List.mem_range, beq_iff_eq]
    exact fun hh => h (hh x hx)
  have e : alE N M f = 12 := by unfold alE; rw [if_pos hg, if_neg hb]
  exact ⟨by rw [e, h12], by unfold alL; rw [if_neg (by rw [e]; decide)]⟩
theorem al_err {N : Nat} {M : Nat → Nat → Int} {f : Int} (hg : gtE N M f ≠ 0) : alE N M f = gtE N M f ∧ alL N M f = [] := by
  have e : alE N M f = gtE N M f := by unfold alE; rw [if_neg hg]
  exact ⟨e, by unfold alL; rw [if_neg (by rw [e]; exact hg)]⟩
theorem all_any (p b N : Nat) (f : Int) (M : Nat → Nat → Int) (w : World) (hM : Sx w p b N M) :
    Calls Tryd.prog 9 #[.pointer (some ⟨p, 0, none⟩), .int .i64 f] w fun e w' => ∃ v, e = .returned (.tuple #[v, .int .i64 (alE N M f)]) ∧ Recs w' w.heap.size v (alL N M f) ∧ Below w.heap.size w w' := by
  by_cases hg : gtE N M f = 0
  · obtain ⟨hf, hde, h6⟩ := gt_dp hg
    refine (all_in p b N (dpN M f) f (thOf M f) M w hM h6 hf (fun wc h => ?_)).mono ?_
    · have := Pthd.get_any p b N f M wc h.sx.mx
      rwa [hg, (gt_yes hg).2.2, hde] at this
    · rintro e w' ⟨h | ⟨x, hx, hx0, rfl⟩, hB⟩
      · obtain ⟨h1, v, rfl, hv⟩ := h
        obtain ⟨e1, e2⟩ := al_yes hg h1
        rw [e1, e2]
        exact ⟨v, rfl, recs_of_own hv, hB⟩
      · obtain ⟨e1, e2⟩ := al_no hg hx hx0
        rw [e1, e2]
        exact ⟨_, rfl, recs_nil _ _, hB⟩
  · obtain ⟨e1, e2⟩ := al_err hg
    rw [e1, e2]
    exact (all_no p b N f (gtE N M f) (gtT N M f) M w hM hg (fun wc h => Pthd.get_any p b N f M wc h.sx.mx)).mono fun e w' ⟨q1, q2⟩ => ⟨_, q1, recs_nil _ _, q2⟩
end Go.Proofs.YtoipfcmjphlmfaaDoor.Pstack
