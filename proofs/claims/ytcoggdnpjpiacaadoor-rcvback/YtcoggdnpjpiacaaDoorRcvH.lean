/- An endpoint told by itself and the list of its events: what Make, Put, Tell, More and Less make of it (RcvCounts, RcvBack in plain words). No program is named here. -/
import Derived.Test.YtcoggdnpjpiacaaDoorRcvG
namespace Go.Proofs.YtcoggdnpjpiacaaDoor.Prcv
open Go.Proofs.YtcoggdnpjpiacaaDoor.Pbase Go.Proofs.YtcoggdnpjpiacaaDoor.Pfield Go.Proofs.YtcoggdnpjpiacaaDoor.Play Go.Proofs.YtcoggdnpjpiacaaDoor.Pmem Go.Proofs.YtcoggdnpjpiacaaDoor.Pring
open Go.RowKit M
set_option linter.unusedVariables false

/-- Words ahead of the ring laid over: the ring stays. -/
theorem rg_lay {N : Nat} {M : Nat → Nat → Int} {f : Int} {L : List Ev} {l : List Int} (h : Rg N M f L) (hl : l.length ≤ 8) (hv : ∀ v ∈ l, 0 ≤ v ∧ v ≤ 18446744073709551615) : Rg N (layF N M f l) f L := by
  have k : ∀ g b, 12 ≤ b → layF N M f l g b = M g b := fun g b hb => lay_out (.inr (.inr (by omega)))
  have e1 : bgI (layF N M f l) f = bgI M f := k _ _ (by omega)
  have e2 : cnI (layF N M f l) f = cnI M f := k _ _ (by omega)
  obtain ⟨h1, _, h3, h4⟩ := pl_yes h.fit h.pl
  refine ⟨fit_lay h.fit N f hv, pl_of (by rw [is_lay]; exact h1) (by rw [e1]; omega) (by rw [e2]; omega), by rw [e2]; exact h.cn, fun i x hx => ?_⟩
  have e3 : rwI (layF N M f l) f (i : Int) = rwI M f (i : Int) := by
    unfold rwI plN
    rw [e1]
    exact k _ _ (by omega)
  rw [e3]
  exact h.ws i x hx
theorem rv_words {M M' : Nat → Nat → Int} {f : Int} (h : ∀ j, 4 ≤ j → j < 12 → M' f.toNat j = M f.toNat j) : rvOf M' f = rvOf M f ∧ rvB M' f = rvB M f := by
  have e : rvOf M' f = rvOf M f := by
    unfold rvOf
    rw [h 4 (by omega) (by omega), h 5 (by omega) (by omega), h 6 (by omega) (by omega), h 7 (by omega) (by omega), h 8 (by omega) (by omega)]
  refine ⟨e, ?_⟩
  unfold rvB
  rw [e, h 7 (by omega) (by omega), h 9 (by omega) (by omega), h 10 (by omega) (by omega), h 11 (by omega) (by omega)]
/-- An event put behind leaves the endpoint's own words. -/
theorem vg_put {N : Nat} {M : Nat → Nat → Int} {f : Int} {e : Ev} (hF : Fit M) (h : Pring.puE N M f e = 0) : vgE N (Pring.puM N M f e) f = vgE N M f ∧ rvOf (Pring.puM N M f e) f = rvOf M f := by
  obtain ⟨h1, h2, h3⟩ := pu_yes hF h
  obtain ⟨i1, i2, i3, i4⟩ := pl_yes hF h2
  have em : Pring.puM N M f e = stW N (stW N M f (14 + (bgI M f + cnI M f) % 8) (ewd e)) f 13 (cnI M f + 1) := by unfold Pring.puM; rw [if_pos h]
  rw [em]
  have k := fun b => st_two (M := M) (v := ewd e) (u := cnI M f + 1) i2 (show 0 ≤ 14 + (bgI M f + cnI M f) % 8 ∧ 14 + (bgI M f + cnI M f) % 8 < 36 by omega) (show (0 : Int) ≤ 13 ∧ (13 : Int) < 36 by omega) b
  have i := is_two (M := M) (v := ewd e) (u := cnI M f + 1) i2 (show 4 ≤ 14 + (bgI M f + cnI M f) % 8 ∧ 14 + (bgI M f + cnI M f) % 8 < 36 by omega) (show (4 : Int) ≤ 13 ∧ (13 : Int) < 36 by omega) 6
  obtain ⟨r1, r2⟩ := rv_words (M := M) (M' := stW N (stW N M f (14 + (bgI M f + cnI M f) % 8) (ewd e)) f 13 (cnI M f + 1)) (f := f) (fun j h4 h12 => by rw [k, if_neg (by omega), if_neg (by omega)])
  exact ⟨by unfold vgE; rw [i, r2], r1⟩
/-- What is laid is what Get reads. -/
theorem vg_laid {N : Nat} {M : Nat → Nat → Int} {f : Int} {x : Rv} (hi : Phead.isE N M f 6 = 0) (hx : Vo x) : vgE N (layF N M f x.ws) f = 0 ∧ rvOf (layF N M f x.ws) f = x := by
  have hf := isE_ok hi
  obtain ⟨h0, h1⟩ := okF_yes hf
  obtain ⟨c, rfl⟩ := Int.eq_ofNat_of_zero_le h0
  have hc : c < N := by simpa using h1
  have e : ∀ i, i < 8 → layF N M (c : Int) x.ws c (4 + i) = x.ws[i]?.getD 0 := fun i hi => lay_own hc (by rw [vs_len]; exact hi)
  have e4 : layF N M (c : Int) x.ws c 4 = x.th := e 0 (by omega)
  have e5 : layF N M (c : Int) x.ws c 5 = x.pa := e 1 (by omega)
  have e6 : layF N M (c : Int) x.ws c 6 = x.co := e 2 (by omega)
  have e7 : layF N M (c : Int) x.ws c 7 = vz x.wa := e 3 (by omega)
  have e8 : layF N M (c : Int) x.ws c 8 = x.lo := e 4 (by omega)
  have e9 : layF N M (c : Int) x.ws c 9 = 0 := e 5 (by omega)
  have eA : layF N M (c : Int) x.ws c 10 = 0 := e 6 (by omega)
  have eB : layF N M (c : Int) x.ws c 11 = 0 := e 7 (by omega)
  have er : rvOf (layF N M (c : Int) x.ws) (c : Int) = x := by
    unfold rvOf
    rw [Int.toNat_natCast, e4, e5, e6, e7, e8, vz_one]
  refine ⟨?_, er⟩
  unfold vgE
  rw [is_lay, if_pos hi, if_pos]
  rw [rvB_iff, er, Int.toNat_natCast, e7, e9, eA, eB]
  exact ⟨⟨(vz_bd x.wa).2, rfl, rfl, rfl⟩, hx⟩
/-- Frame f holds the endpoint r, whose ring has the events L. -/
structure Ep (N : Nat) (M : Nat → Nat → Int) (f : Int) (r : Rv) (L : List Ev) : Prop where
  gt : vgE N M f = 0
  rv : rvOf M f = r
  rg : Rg N M f L
section
variable {N : Nat} {M : Nat → Nat → Int} {f : Int} {r : Rv} {L : List Ev}
theorem Ep.vo (h : Ep N M f r L) : Vo r := by
  have := (vg_yes h.gt).2.2.1
  rwa [h.rv] at this
theorem Ep.is (h : Ep N M f r L) : Phead.isE N M f 6 = 0 := (vg_yes h.gt).1
theorem Ep.get (h : Ep N M f r L) : vgX N M f = r := by rw [(vg_yes h.gt).2.2.2, h.rv]
theorem Ep.lay (h : Ep N M f r L) {s : Rv} (hs : Vo s) : Ep N (layF N M f s.ws) f s L := by
  obtain ⟨e1, e2⟩ := vg_laid h.is hs
  exact ⟨e1, e2, rg_lay h.rg (by rw [vs_len]; omega) hs.fit⟩
theorem ep_put (h : Ep N M f r L) {s : Rv} (hs : Vo s) : vpE N M f s = 0 ∧ Ep N (vpM N M f s) f s L := by
  obtain ⟨e1, e2⟩ := vp_ok h.is hs
  rw [e2]
  exact ⟨e1, h.lay hs⟩
theorem ep_tell (h : Ep N M f r L) {e : Ev} (he : Eo e) (hl : L.length < 8) : tlE N M f e = 0 ∧ Ep N (tlM N M f e) f r (L ++ [e]) := by
  obtain ⟨e1, e2⟩ := rg_put h.rg he hl
  obtain ⟨t1, t2⟩ := tl_put he h.gt (by rw [e1]; decide)
  obtain ⟨v1, v2⟩ := vg_put h.rg.fit e1
  rw [t1, t2]
  exact ⟨e1, by rw [v1]; exact h.gt, by rw [v2]; exact h.rv, e2⟩
theorem ep_lost (h : Ep N M f r L) {e : Ev} (he : Eo e) (hl : L.length = 8) : tlE N M f e = 0 ∧ Ep N (tlM N M f e) f (lostX r) L := by
  have hp : Pring.puE N M f e = 2 := by
    unfold Pring.puE
    rw [if_pos (eoB_yes he), if_pos h.rg.pl, if_pos (by rw [h.rg.cn, hl]; rfl)]
  obtain ⟨t1, t2⟩ := tl_full he h.gt hp
  rw [t2, h.rv]
  exact ⟨t1, h.lay (lost_vo h.vo)⟩
theorem ep_more (h : Ep N M f r L) : moB N M f = r.wa ∧ Ep N (moM N M f) f (moreX r) L := by
  have e1 : moB N M f = r.wa := by unfold moB; rw [if_pos h.gt, h.rv]
  have e2 : moM N M f = layF N M f (moreX r).ws := by unfold moM; rw [if_pos h.gt, h.rv]
  rw [e2]
  exact ⟨e1, h.lay (more_vo h.vo)⟩
theorem ep_less (h : Ep N M f r L) (h0 : r.co ≠ 0) : leB N M f = true ∧ Ep N (leM N M f) f (lessX r) L := by
  have e1 : leB N M f = true := by unfold leB; rw [h.gt, h.rv]; simp [h0]
  have e2 : leM N M f = layF N M f (lessX r).ws := by unfold leM; rw [if_pos e1, h.rv]
  rw [e2]
  exact ⟨e1, h.lay (less_vo h.vo h0)⟩
theorem ep_none (h : Ep N M f r L) (h0 : r.co = 0) : leB N M f = false ∧ leM N M f = M := by
  have e1 : leB N M f = false := by unfold leB; rw [h.gt, h.rv]; simp [h0]
  exact ⟨e1, by unfold leM; rw [if_neg (by rw [e1]; decide)]⟩
end
theorem ep_made {N f : Nat} {M : Nat → Nat → Int} (hf : f < N) (hF : Fit M) {r : Rv} (hr : Vo r) : vmE N (f : Int) r = 0 ∧ Ep N (vmM N M f r) f r [] := by
  have e1 : vmE N (f : Int) r = 0 := by unfold vmE errF; rw [if_pos (voB_yes hr), if_pos (okF_nat hf)]
  have e2 : vmM N M (f : Int) r = layF N (Phead.mkM N M f 6 0 false 0) f r.ws := by unfold vmM; rw [if_pos (voB_yes hr)]
  have hi := is_made (M := M) hf (show (0 : Int) ≤ 6 ∧ (6 : Int) ≤ 6 by omega)
  obtain ⟨v1, v2⟩ := vg_laid (x := r) hi hr
  rw [e2]
  exact ⟨e1, v1, v2, rg_lay (rg_made hf hF) (by rw [vs_len]; omega) hr.fit⟩
theorem vm_arg (N : Nat) (M : Nat → Nat → Int) (f : Int) {r : Rv} (hr : ¬ Vo r) : vmE N f r = 1 ∧ vmM N M f r = M := by
  unfold vmE vmM
  rw [voB_no hr]
  exact ⟨rfl, rfl⟩
end Go.Proofs.YtcoggdnpjpiacaaDoor.Prcv
