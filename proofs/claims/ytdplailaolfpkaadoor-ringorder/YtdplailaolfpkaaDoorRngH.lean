/- A ring told by the list of its events: what Put, Take and All make of it (RingOrder in plain words). No program is named here. -/
import Derived.Test.YtdplailaolfpkaaDoorRngG
namespace Go.Proofs.YtdplailaolfpkaaDoor.Pring
open Go.Proofs.YtdplailaolfpkaaDoor.Pbase Go.Proofs.YtdplailaolfpkaaDoor.Pfield Go.Proofs.YtdplailaolfpkaaDoor.Play Go.Proofs.YtdplailaolfpkaaDoor.Pmem
open Go.RowKit M
set_option linter.unusedVariables false

theorem st_at {N : Nat} {M : Nat → Nat → Int} {f a v : Int} (h : okW N f a = true) (g b : Nat) : stW N M f a v g b = if g = f.toNat ∧ b = a.toNat then v else M g b := by
  unfold stW
  rw [if_pos h]
theorem st_two {N : Nat} {M : Nat → Nat → Int} {f a c v u : Int} (h : okF N f = true) (ha : 0 ≤ a ∧ a < 36) (hc : 0 ≤ c ∧ c < 36) (b : Nat) : stW N (stW N M f a v) f c u f.toNat b = if b = c.toNat then u else if b = a.toNat then v else M f.toNat b := by
  rw [st_at (okW_ring h hc.1 hc.2), st_at (okW_ring h ha.1 ha.2)]
  simp
/-- The frame f holds the ring of the events L. -/
structure Rg (N : Nat) (M : Nat → Nat → Int) (f : Int) (L : List Ev) : Prop where
  fit : Fit M
  pl : plE N M f = 0
  cn : cnI M f = (L.length : Int)
  ws : ∀ (i : Nat) (x : Ev), L[i]? = some x → rwI M f (i : Int) = ewd x ∧ Eo x
theorem pl_of {N : Nat} {M : Nat → Nat → Int} {f : Int} (h : Phead.isE N M f 6 = 0) (hb : bgI M f < 8) (hc : cnI M f ≤ 8) : plE N M f = 0 := by
  unfold plE
  rw [if_pos h, if_pos ⟨hb, hc⟩]
theorem is_two {N : Nat} {M : Nat → Nat → Int} {f a c v u : Int} (h : okF N f = true) (ha : 4 ≤ a ∧ a < 36) (hc : 4 ≤ c ∧ c < 36) (q : Int) : Phead.isE N (stW N (stW N M f a v) f c u) f q = Phead.isE N M f q :=
  is_words (fun j hj => by rw [st_two h (by omega) (by omega), if_neg (by omega), if_neg (by omega)]) q
theorem rg_made {N f : Nat} {M : Nat → Nat → Int} (hf : f < N) (hF : Fit M) : Rg N (Phead.mkM N M f 6 0 false 0) f [] := by
  have w : ∀ j, 4 ≤ j → Phead.mkM N M f 6 0 false 0 f j = 0 := fun j hj => made_word hf (by omega) hj
  have b0 : bgI (Phead.mkM N M f 6 0 false 0) f = 0 := by unfold bgI; rw [Int.toNat_natCast]; exact w 12 (by omega)
  have c0 : cnI (Phead.mkM N M f 6 0 false 0) f = 0 := by unfold cnI; rw [Int.toNat_natCast]; exact w 13 (by omega)
  exact ⟨Phead.fit_mk hF N f 6 0 false 0, pl_of (is_made hf (by omega)) (by omega) (by omega), c0, fun i x h => by simp at h⟩
theorem rg_bad {N : Nat} {M : Nat → Nat → Int} {f : Int} {L : List Ev} (h : Rg N M f L) {x : Ev} (hx : ¬ (Eo x ∧ L.length < 8)) : puE N M f x ≠ 0 ∧ puM N M f x = M := by
  have h8 := (pl_yes h.fit h.pl).2.2.2
  have e : puE N M f x ≠ 0 := fun h0 => by
    obtain ⟨h1, _, h3⟩ := pu_yes h.fit h0
    rw [h.cn] at h3
    exact hx ⟨h1, by omega⟩
  exact ⟨e, by unfold puM; rw [if_neg e]⟩
theorem rg_put {N : Nat} {M : Nat → Nat → Int} {f : Int} {L : List Ev} (h : Rg N M f L) {x : Ev} (hx : Eo x) (hl : L.length < 8) : puE N M f x = 0 ∧ Rg N (puM N M f x) f (L ++ [x]) := by
  obtain ⟨h1, h2, hb, hc⟩ := pl_yes h.fit h.pl
  have hcn := h.cn
  have e : puE N M f x = 0 := by
    unfold puE
    rw [if_pos (eoB_yes hx), if_pos h.pl, if_neg (by omega)]
  have em : puM N M f x = stW N (stW N M f (14 + (bgI M f + cnI M f) % 8) (ewd x)) f 13 (cnI M f + 1) := by unfold puM; rw [if_pos e]
  have hF := fit_pu h.fit N f x
  refine ⟨e, ?_⟩
  rw [em] at hF ⊢
  generalize hA : (bgI M f + cnI M f) % 8 = A at hF ⊢
  have hA8 : 0 ≤ A ∧ A < 8 := by omega
  have k := fun b => st_two (M := M) (v := ewd x) (u := cnI M f + 1) h2 (show 0 ≤ 14 + A ∧ 14 + A < 36 by omega) (show (0 : Int) ≤ 13 ∧ (13 : Int) < 36 by omega) b
  have i2 := is_two (M := M) (v := ewd x) (u := cnI M f + 1) h2 (show 4 ≤ 14 + A ∧ 14 + A < 36 by omega) (show (4 : Int) ≤ 13 ∧ (13 : Int) < 36 by omega) 6
  generalize stW N (stW N M f (14 + A) (ewd x)) f 13 (cnI M f + 1) = M' at hF k i2 ⊢
  have b' : bgI M' f = bgI M f := by
    unfold bgI
    rw [k, if_neg (by omega), if_neg (by omega)]
  have c' : cnI M' f = cnI M f + 1 := by
    show M' f.toNat 13 = _
    rw [k, if_pos (by omega)]
  refine ⟨hF, pl_of (i2.trans h1) (by omega) (by omega), by rw [c', hcn]; simp, fun i y hy => ?_⟩
  unfold rwI plN
  rw [b', k, if_neg (by omega)]
  by_cases hi : i < L.length
  · rw [List.getElem?_append_left hi] at hy
    rw [if_neg (by omega)]
    exact h.ws i y hy
  · rw [List.getElem?_append_right (by omega)] at hy
    obtain rfl : i = L.length := by
      have := (List.getElem?_eq_some_iff.1 hy).1
      simp at this
      omega
    simp at hy
    subst hy
    rw [if_pos (by omega)]
    exact ⟨rfl, hx⟩
theorem rg_none {N : Nat} {M : Nat → Nat → Int} {f : Int} (h : Rg N M f []) : tkE N M f = 3 ∧ tkM N M f = M := by
  have e : tkE N M f = 3 := by
    unfold tkE
    rw [if_pos h.pl, if_pos (by rw [h.cn]; rfl)]
  exact ⟨e, by unfold tkM; rw [if_neg (by rw [e]; decide)]⟩
theorem rg_take {N : Nat} {M : Nat → Nat → Int} {f : Int} {x : Ev} {L : List Ev} (h : Rg N M f (x :: L)) : tkE N M f = 0 ∧ tkX N M f = x ∧ Rg N (tkM N M f) f L := by
  obtain ⟨h1, h2, hb, hc⟩ := pl_yes h.fit h.pl
  have hcn := h.cn
  rw [List.length_cons] at hcn
  obtain ⟨w0, hx⟩ := h.ws 0 x rfl
  obtain ⟨o1, o2⟩ := of_back hx
  have w0' : rwI M f 0 = ewd x := w0
  have e : tkE N M f = 0 := by
    unfold tkE
    rw [if_pos h.pl, if_neg (by omega), w0', o1]
  have eX : tkX N M f = x := by unfold tkX; rw [if_pos e, w0', o2]
  have em : tkM N M f = stW N (stW N M f 12 ((bgI M f + 1) % 8)) f 13 (cnI M f - 1) := by unfold tkM; rw [if_pos e]
  have hF := fit_tk h.fit N f
  refine ⟨e, eX, ?_⟩
  rw [em] at hF ⊢
  generalize hA : (bgI M f + 1) % 8 = A at hF ⊢
  have k := fun b => st_two (M := M) (v := A) (u := cnI M f - 1) h2 (show (0 : Int) ≤ 12 ∧ (12 : Int) < 36 by omega) (show (0 : Int) ≤ 13 ∧ (13 : Int) < 36 by omega) b
  have i2 := is_two (M := M) (v := A) (u := cnI M f - 1) h2 (show (4 : Int) ≤ 12 ∧ (12 : Int) < 36 by omega) (show (4 : Int) ≤ 13 ∧ (13 : Int) < 36 by omega) 6
  generalize stW N (stW N M f 12 A) f 13 (cnI M f - 1) = M' at hF k i2 ⊢
  have b' : bgI M' f = A := by
    show M' f.toNat 12 = _
    rw [k, if_neg (by omega), if_pos (by omega)]
  have c' : cnI M' f = cnI M f - 1 := by
    show M' f.toNat 13 = _
    rw [k, if_pos (by omega)]
  refine ⟨hF, pl_of (i2.trans h1) (by omega) (by omega), by rw [c', hcn]; push_cast; omega, fun i y hy => ?_⟩
  have hw := h.ws (i + 1) y (by simpa using hy)
  unfold rwI plN at hw ⊢
  rw [b', k, if_neg (by omega), if_neg (by omega), show ((A + (i : Int)) % 8).toNat = ((bgI M f + ((i + 1 : Nat) : Int)) % 8).toNat by push_cast; omega]
  exact hw
theorem rg_all {N : Nat} {M : Nat → Nat → Int} {f : Int} {L : List Ev} (h : Rg N M f L) : alE N M f = 0 ∧ alL N M f = L := by
  have hn : (cnI M f).toNat = L.length := by rw [h.cn]; simp
  have at' : ∀ i (hi : i < L.length), ofE (rwI M f (i : Int)) = 0 ∧ ofX (rwI M f (i : Int)) = L[i] := fun i hi => by
    obtain ⟨w0, hx⟩ := h.ws i L[i] (List.getElem?_eq_getElem hi)
    rw [w0]
    exact of_back hx
  have e : alE N M f = 0 := by
    unfold alE
    rw [if_pos h.pl, if_pos]
    unfold alB
    rw [hn]
    simp only [List.all_eq_true, List.mem_range, beq_iff_eq]
    exact fun i hi => (at' i hi).1
  refine ⟨e, ?_⟩
  unfold alL
  rw [if_pos e, hn]
  refine List.ext_getElem (by simp) fun i h1 h2 => ?_
  rw [List.getElem_map, List.getElem_range]
  exact (at' i h2).2
end Go.Proofs.YtdplailaolfpkaaDoor.Pring
