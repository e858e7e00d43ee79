/- Texts on finished packages, joined. -/
import Derived.Test.YtcoggdnpjpiacaaGreatDoorBunLay
import Derived.Test.YtcoggdnpjpiacaaGreatDoorBunField
import Derived.Test.YtcoggdnpjpiacaaGreatDoorBunBase
import Derived.Test.YtcoggdnpjpiacaaGreatDoorRows
import Derived.ProofKit
import Derived.OpenShut
import Derived.Carry
import Derived.LaidMore
import Derived.Deep.SlicePairs
import Derived.Test.YtcoggdnpjpiacaaGreatDoorBunHead
import Derived.Maps.AppendAt
import Derived.BigRegion
import Derived.Deep.RegionHeld3
import Derived.Deep.RegionWith

/- Plain words on events and rings: which are right, their words, what is answered and done. No program is named here. -/
namespace Go.Proofs.YtcoggdnpjpiacaaGreatDoor.Pring
open Go.Proofs.YtcoggdnpjpiacaaGreatDoor.Pbase Go.Proofs.YtcoggdnpjpiacaaGreatDoor.Pfield Go.Proofs.YtcoggdnpjpiacaaGreatDoor.Play Go.Proofs.YtcoggdnpjpiacaaGreatDoor.Pmem
open Go.RowKit M
set_option linter.unusedVariables false

/-! ### events -/
structure Ev where
  k : Int
  t : Int
def ev0 : Ev := ⟨0, 0⟩
def Eo (x : Ev) : Prop := (1 ≤ x.k ∧ x.k ≤ 6) ∧ (0 ≤ x.t ∧ x.t ≤ 63)
def eoB (x : Ev) : Bool := (decide (1 ≤ x.k) && decide (x.k ≤ 6)) && (decide (0 ≤ x.t) && decide (x.t ≤ 63))
theorem eoB_iff (x : Ev) : eoB x = true ↔ Eo x := by
  unfold eoB Eo
  simp
theorem eoB_yes {x : Ev} (h : Eo x) : eoB x = true := (eoB_iff x).2 h
theorem eoB_no {x : Ev} (h : ¬ Eo x) : eoB x = false := Bool.eq_false_iff.2 fun e => h ((eoB_iff x).1 e)
def Fe (x : Ev) : Prop := In64 x.k ∧ In64 x.t
theorem Eo.fe {x : Ev} (h : Eo x) : Fe x := by
  unfold Eo at h
  unfold Fe In64
  omega
/-- What Check answers. -/
def ckE (x : Ev) : Int := if eoB x = true then 0 else 1
/-! ### words -/
def ews : List Int := [4, 6]
theorem ews_length : ews.length = 2 := rfl
theorem mask4 : maskF 4 = 15 := by decide
theorem mask6 : maskF 6 = 63 := by decide
def Ev.vs (x : Ev) : List Int := [x.k, x.t]
/-- The word of one. -/
def ewd (x : Ev) : Int := packF ews x.vs
theorem eput_can {x : Ev} (h : Eo x) : (∀ j : Nat, 0 ≤ x.vs[j]?.getD 0 ∧ x.vs[j]?.getD 0 ≤ 18446744073709551615) ∧ ∀ j, j < ews.length → okP ews x.vs j = true := by
  unfold Eo at h
  constructor
  · intro j
    match j with
    | 0 | 1 => simp [Ev.vs]; omega
    | j + 2 => simp [Ev.vs]
  · intro j hj
    match j, hj with
    | 0, _ | 1, _ =>
      simp [okP, Pfield.M.inB, fitsB, mask4, mask6, sumTo, ews, Ev.vs, wrap64]
      omega
theorem ewd_bd {x : Ev} (h : Eo x) : 0 ≤ ewd x ∧ ewd x ≤ 18446744073709551615 := (pack_unpack (zs := ews) (vs := x.vs) rfl (eput_can h).1 (eput_can h).2).1
/-- What Word answers. -/
def wdW (x : Ev) : Int := if eoB x = true then ewd x else 0
/-- The j-th part of a word; the event that a word is. -/
def egN (x : Int) (j : Nat) : Int := (getsI x ews)[j]?.getD 0
def ofR (a : Int) : Ev := ⟨egN a 0, egN a 1⟩
def unB (a : Int) : Bool := (List.range ews.length).all (okU ews) && fitsB a (sumTo ews ews.length)
theorem unB_iff (a : Int) : unB a = true ↔ canU a ews := by
  unfold unB canU
  simp only [Bool.and_eq_true, List.all_eq_true, List.mem_range]
def ofB (a : Int) : Bool := unB a && eoB (ofR a)
def ofE (a : Int) : Int := if ofB a = true then 0 else 12
def ofX (a : Int) : Ev := if ofB a = true then ofR a else ev0
theorem of_yes {a : Int} (h : ofE a = 0) : canU a ews ∧ Eo (ofR a) ∧ ofX a = ofR a := by
  unfold ofX
  unfold ofE at h
  split at h
  · rename_i hb
    rw [if_pos hb]
    unfold ofB at hb
    simp only [Bool.and_eq_true] at hb
    exact ⟨(unB_iff a).1 hb.1, (eoB_iff _).1 hb.2, rfl⟩
  · exact absurd h (by decide)
theorem of_no {a : Int} (h : ofE a ≠ 0) : ofE a = 12 ∧ ofX a = ev0 := by
  unfold ofX
  unfold ofE at h ⊢
  split at h
  · exact absurd rfl h
  · rename_i hb
    rw [if_neg hb, if_neg hb]
    exact ⟨rfl, rfl⟩
theorem egN_bd {x : Int} (hx : 0 ≤ x ∧ x ≤ 18446744073709551615) (h : canU x ews) : (0 ≤ egN x 0 ∧ egN x 0 ≤ 15) ∧ (0 ≤ egN x 1 ∧ egN x 1 ≤ 63) := by
  obtain ⟨h1, h2, _⟩ := unpack_pack hx h
  have m0 := (ok_parts (h2 0 (by decide))).2
  have m1 := (ok_parts (h2 1 (by decide))).2
  rw [show ews[0]?.getD 0 = 4 from rfl, fitsB, mask4, decide_eq_true_eq] at m0
  rw [show ews[1]?.getD 0 = 6 from rfl, fitsB, mask6, decide_eq_true_eq] at m1
  exact ⟨⟨(h1 0).1, m0⟩, ⟨(h1 1).1, m1⟩⟩
/-- The parts of a word make just that word. -/
theorem ewd_back {a : Int} (ha : 0 ≤ a ∧ a ≤ 18446744073709551615) (h : canU a ews) : ewd (ofR a) = a := by
  have hl := getsI_length a ews
  have he : getsI a ews = [egN a 0, egN a 1] := by
    unfold egN
    generalize getsI a ews = l at hl
    match l, hl with
    | [v0, v1], _ => rfl
  have := (unpack_pack ha h).2.2
  rw [he] at this
  exact this
/-- What is packed is read. -/
theorem of_back {x : Ev} (h : Eo x) : ofE (ewd x) = 0 ∧ ofX (ewd x) = x := by
  obtain ⟨hb, hc, hg⟩ := pack_unpack (zs := ews) (vs := x.vs) rfl (eput_can h).1 (eput_can h).2
  change canU (ewd x) ews at hc
  change getsI (ewd x) ews = _ at hg
  have hR : ofR (ewd x) = x := by
    unfold ofR egN
    rw [hg]
    rfl
  have hB : ofB (ewd x) = true := by
    unfold ofB
    rw [(unB_iff _).2 hc, hR, eoB_yes h]
    rfl
  unfold ofE ofX
  rw [if_pos hB, if_pos hB, hR]
  exact ⟨rfl, rfl⟩
/-- Two words that are the same are the same event's. -/
theorem ewd_one {x y : Ev} (hx : Eo x) (hy : Eo y) (h : ewd x = ewd y) : x = y := by
  rw [← (of_back hx).2, h, (of_back hy).2]
/-! ### a ring -/
/-- Where it begins; how many there are; the i-th place's word. -/
def bgI (M : Nat → Nat → Int) (f : Int) : Int := M f.toNat 12
def cnI (M : Nat → Nat → Int) (f : Int) : Int := M f.toNat 13
def plN (M : Nat → Nat → Int) (f : Int) (i : Int) : Nat := ((bgI M f + i) % 8).toNat
def rwI (M : Nat → Nat → Int) (f : Int) (i : Int) : Int := M f.toNat (14 + plN M f i)
/-- What all calls but Clear ask first. -/
def plE (N : Nat) (M : Nat → Nat → Int) (f : Int) : Int := if Phead.isE N M f 6 = 0 then if bgI M f < 8 ∧ cnI M f ≤ 8 then 0 else 12 else 4
/-- Clear. -/
def crE (N : Nat) (M : Nat → Nat → Int) (f : Int) : Int := if Phead.isE N M f 6 = 0 then 0 else 4
def crM (N : Nat) (M : Nat → Nat → Int) (f : Int) : Nat → Nat → Int := if crE N M f = 0 then stW N (stW N M f 12 0) f 13 0 else M
/-- Put. -/
def puE (N : Nat) (M : Nat → Nat → Int) (f : Int) (x : Ev) : Int := if eoB x = true then if plE N M f = 0 then if cnI M f = 8 then 2 else 0 else plE N M f else 1
def puM (N : Nat) (M : Nat → Nat → Int) (f : Int) (x : Ev) : Nat → Nat → Int := if puE N M f x = 0 then stW N (stW N M f (14 + (bgI M f + cnI M f) % 8) (ewd x)) f 13 (cnI M f + 1) else M
/-- Take. -/
def tkE (N : Nat) (M : Nat → Nat → Int) (f : Int) : Int := if plE N M f = 0 then if cnI M f = 0 then 3 else ofE (rwI M f 0) else plE N M f
def tkX (N : Nat) (M : Nat → Nat → Int) (f : Int) : Ev := if tkE N M f = 0 then ofX (rwI M f 0) else ev0
def tkM (N : Nat) (M : Nat → Nat → Int) (f : Int) : Nat → Nat → Int := if tkE N M f = 0 then stW N (stW N M f 12 ((bgI M f + 1) % 8)) f 13 (cnI M f - 1) else M
/-- All. -/
def alB (M : Nat → Nat → Int) (f : Int) (n : Nat) : Bool := (List.range n).all fun i => ofE (rwI M f i) == 0
def alE (N : Nat) (M : Nat → Nat → Int) (f : Int) : Int := if plE N M f = 0 then if alB M f (cnI M f).toNat = true then 0 else 12 else plE N M f
def alL (N : Nat) (M : Nat → Nat → Int) (f : Int) : List Ev := if alE N M f = 0 then (List.range (cnI M f).toNat).map fun (i : Nat) => ofX (rwI M f (i : Int)) else []
/-! ### small facts -/
theorem isE_ok {N : Nat} {M : Nat → Nat → Int} {f : Int} {q : Int} (h : Phead.isE N M f q = 0) : okF N f = true := by
  cases hf : okF N f
  · exact absurd h (is_bad hf q)
  · rfl
theorem pl_yes {N : Nat} {M : Nat → Nat → Int} {f : Int} (hF : Fit M) (h : plE N M f = 0) : Phead.isE N M f 6 = 0 ∧ okF N f = true ∧ (0 ≤ bgI M f ∧ bgI M f < 8) ∧ (0 ≤ cnI M f ∧ cnI M f ≤ 8) := by
  unfold plE at h
  split at h
  · rename_i h1
    split at h
    · rename_i h2
      exact ⟨h1, isE_ok h1, ⟨(hF _ _).1, h2.1⟩, ⟨(hF _ _).1, h2.2⟩⟩
    · exact absurd h (by decide)
  · exact absurd h (by decide)
theorem okW_ring {N : Nat} {f : Int} (h : okF N f = true) {i : Int} (h0 : 0 ≤ i) (h1 : i < 36) : okW N f i = true := by
  unfold okW
  rw [h]
  simp
  omega
theorem pu_yes {N : Nat} {M : Nat → Nat → Int} {f : Int} {x : Ev} (hF : Fit M) (h : puE N M f x = 0) : Eo x ∧ plE N M f = 0 ∧ cnI M f < 8 := by
  unfold puE at h
  split at h
  · rename_i h1
    split at h
    · rename_i h2
      split at h
      · exact absurd h (by decide)
      · rename_i h3
        have := (pl_yes hF h2).2.2.2
        exact ⟨(eoB_iff x).1 h1, h2, by omega⟩
    · rename_i h2
      exact absurd h h2
  · exact absurd h (by decide)
theorem tk_yes {N : Nat} {M : Nat → Nat → Int} {f : Int} (hF : Fit M) (h : tkE N M f = 0) : plE N M f = 0 ∧ 1 ≤ cnI M f ∧ ofE (rwI M f 0) = 0 := by
  unfold tkE at h
  split at h
  · rename_i h2
    split at h
    · exact absurd h (by decide)
    · rename_i h3
      have := (pl_yes hF h2).2.2.2
      exact ⟨h2, by omega, h⟩
  · rename_i h2
    exact absurd h h2
theorem fit_cr {M : Nat → Nat → Int} (h : Fit M) (N : Nat) (f : Int) : Fit (crM N M f) := by
  unfold crM
  split
  · exact (h.st N f 12 0 (by omega)).st N f 13 0 (by omega)
  · exact h
theorem fit_pu {M : Nat → Nat → Int} (h : Fit M) (N : Nat) (f : Int) (x : Ev) : Fit (puM N M f x) := by
  unfold puM
  split
  · rename_i hp
    obtain ⟨h1, h2, h3⟩ := pu_yes h hp
    have := (pl_yes h h2).2.2.2
    exact (h.st N f _ _ (ewd_bd h1)).st N f 13 _ (by omega)
  · exact h
theorem fit_tk {M : Nat → Nat → Int} (h : Fit M) (N : Nat) (f : Int) : Fit (tkM N M f) := by
  unfold tkM
  split
  · rename_i hp
    obtain ⟨h1, h2, h3⟩ := tk_yes h hp
    have := (pl_yes h h1).2.2
    exact (h.st N f 12 _ (by omega)).st N f 13 _ (by omega)
  · exact h
end Go.Proofs.YtcoggdnpjpiacaaGreatDoor.Pring

/- A ring told by the list of its events: what Put, Take and All make of it (RingOrder in plain words). No program is named here. -/
namespace Go.Proofs.YtcoggdnpjpiacaaGreatDoor.Pring
open Go.Proofs.YtcoggdnpjpiacaaGreatDoor.Pbase Go.Proofs.YtcoggdnpjpiacaaGreatDoor.Pfield Go.Proofs.YtcoggdnpjpiacaaGreatDoor.Play Go.Proofs.YtcoggdnpjpiacaaGreatDoor.Pmem
open Go.RowKit M
set_option linter.unusedVariables false

theorem st_at {N : Nat} {M : Nat → Nat → Int} {f a v : Int} (h : okW N f a = true) (g b : Nat) : stW N M f a v g b = if g = f.toNat ∧ b = a.toNat then v else M g b := by
  unfold stW
  rw [if_pos h]
theorem st_two {N : Nat} {M : Nat → Nat → Int} {f a c v u : Int} (h : okF N f = true) (ha : 0 ≤ a ∧ a < 36) (hc : 0 ≤ c ∧ c < 36) (b : Nat) : stW N (stW N M f a v) f c u f.toNat b = if b = c.toNat then u else if b = a.toNat then v else M f.toNat b := by
  rw [st_at (okW_ring h hc.1 hc.2), st_at (okW_ring h ha.1 ha.2)]
  simp
/-- The frame f holds the ring of the events L. -/
structure Rg (N : Nat) (M : Nat → Nat → Int) (f : Int) (L : List Ev) : Prop where
  fit : Fit M
  pl : plE N M f = 0
  cn : cnI M f = (L.length : Int)
  ws : ∀ (i : Nat) (x : Ev), L[i]? = some x → rwI M f (i : Int) = ewd x ∧ Eo x
theorem pl_of {N : Nat} {M : Nat → Nat → Int} {f : Int} (h : Phead.isE N M f 6 = 0) (hb : bgI M f < 8) (hc : cnI M f ≤ 8) : plE N M f = 0 := by
  unfold plE
  rw [if_pos h, if_pos ⟨hb, hc⟩]
theorem is_two {N : Nat} {M : Nat → Nat → Int} {f a c v u : Int} (h : okF N f = true) (ha : 4 ≤ a ∧ a < 36) (hc : 4 ≤ c ∧ c < 36) (q : Int) : Phead.isE N (stW N (stW N M f a v) f c u) f q = Phead.isE N M f q :=
  is_words (fun j hj => by rw [st_two h (by omega) (by omega), if_neg (by omega), if_neg (by omega)]) q
theorem rg_made {N f : Nat} {M : Nat → Nat → Int} (hf : f < N) (hF : Fit M) : Rg N (Phead.mkM N M f 6 0 false 0) f [] := by
  have w : ∀ j, 4 ≤ j → Phead.mkM N M f 6 0 false 0 f j = 0 := fun j hj => made_word hf (by omega) hj
  have b0 : bgI (Phead.mkM N M f 6 0 false 0) f = 0 := by unfold bgI; rw [Int.toNat_natCast]; exact w 12 (by omega)
  have c0 : cnI (Phead.mkM N M f 6 0 false 0) f = 0 := by unfold cnI; rw [Int.toNat_natCast]; exact w 13 (by omega)
  exact ⟨Phead.fit_mk hF N f 6 0 false 0, pl_of (is_made hf (by omega)) (by omega) (by omega), c0, fun i x h => by simp at h⟩
theorem rg_bad {N : Nat} {M : Nat → Nat → Int} {f : Int} {L : List Ev} (h : Rg N M f L) {x : Ev} (hx : ¬ (Eo x ∧ L.length < 8)) : puE N M f x ≠ 0 ∧ puM N M f x = M := by
  have h8 := (pl_yes h.fit h.pl).2.2.2
  have e : puE N M f x ≠ 0 := fun h0 => by
    obtain ⟨h1, _, h3⟩ := pu_yes h.fit h0
    rw [h.cn] at h3
    exact hx ⟨h1, by omega⟩
  exact ⟨e, by unfold puM; rw [if_neg e]⟩
theorem rg_put {N : Nat} {M : Nat → Nat → Int} {f : Int} {L : List Ev} (h : Rg N M f L) {x : Ev} (hx : Eo x) (hl : L.length < 8) : puE N M f x = 0 ∧ Rg N (puM N M f x) f (L ++ [x]) := by
  obtain ⟨h1, h2, hb, hc⟩ := pl_yes h.fit h.pl
  have hcn := h.cn
  have e : puE N M f x = 0 := by
    unfold puE
    rw [if_pos (eoB_yes hx), if_pos h.pl, if_neg (by omega)]
  have em : puM N M f x = stW N (stW N M f (14 + (bgI M f + cnI M f) % 8) (ewd x)) f 13 (cnI M f + 1) := by unfold puM; rw [if_pos e]
  have hF := fit_pu h.fit N f x
  refine ⟨e, ?_⟩
  rw [em] at hF ⊢
  generalize hA : (bgI M f + cnI M f) % 8 = A at hF ⊢
  have hA8 : 0 ≤ A ∧ A < 8 := by omega
  have k := fun b => st_two (M := M) (v := ewd x) (u := cnI M f + 1) h2 (show 0 ≤ 14 + A ∧ 14 + A < 36 by omega) (show (0 : Int) ≤ 13 ∧ (13 : Int) < 36 by omega) b
  have i2 := is_two (M := M) (v := ewd x) (u := cnI M f + 1) h2 (show 4 ≤ 14 + A ∧ 14 + A < 36 by omega) (show (4 : Int) ≤ 13 ∧ (13 : Int) < 36 by omega) 6
  generalize stW N (stW N M f (14 + A) (ewd x)) f 13 (cnI M f + 1) = M' at hF k i2 ⊢
  have b' : bgI M' f = bgI M f := by
    unfold bgI
    rw [k, if_neg (by omega), if_neg (by omega)]
  have c' : cnI M' f = cnI M f + 1 := by
    show M' f.toNat 13 = _
    rw [k, if_pos (by omega)]
  refine ⟨hF, pl_of (i2.trans h1) (by omega) (by omega), by rw [c', hcn]; simp, fun i y hy => ?_⟩
  unfold rwI plN
  rw [b', k, if_neg (by omega)]
  by_cases hi : i < L.length
  · rw [List.getElem?_append_left hi] at hy
    rw [if_neg (by omega)]
    exact h.ws i y hy
  · rw [List.getElem?_append_right (by omega)] at hy
    obtain rfl : i = L.length := by
      have := (List.getElem?_eq_some_iff.1 hy).1
      simp at this
      omega
    simp at hy
    subst hy
    rw [if_pos (by omega)]
    exact ⟨rfl, hx⟩
theorem rg_none {N : Nat} {M : Nat → Nat → Int} {f : Int} (h : Rg N M f []) : tkE N M f = 3 ∧ tkM N M f = M := by
  have e : tkE N M f = 3 := by
    unfold tkE
    rw [if_pos h.pl, if_pos (by rw [h.cn]; rfl)]
  exact ⟨e, by unfold tkM; rw [if_neg (by rw [e]; decide)]⟩
theorem rg_take {N : Nat} {M : Nat → Nat → Int} {f : Int} {x : Ev} {L : List Ev} (h : Rg N M f (x :: L)) : tkE N M f = 0 ∧ tkX N M f = x ∧ Rg N (tkM N M f) f L := by
  obtain ⟨h1, h2, hb, hc⟩ := pl_yes h.fit h.pl
  have hcn := h.cn
  rw [List.length_cons] at hcn
  obtain ⟨w0, hx⟩ := h.ws 0 x rfl
  obtain ⟨o1, o2⟩ := of_back hx
  have w0' : rwI M f 0 = ewd x := w0
  have e : tkE N M f = 0 := by
    unfold tkE
    rw [if_pos h.pl, if_neg (by omega), w0', o1]
  have eX : tkX N M f = x := by unfold tkX; rw [if_pos e, w0', o2]
  have em : tkM N M f = stW N (stW N M f 12 ((bgI M f + 1) % 8)) f 13 (cnI M f - 1) := by unfold tkM; rw [if_pos e]
  have hF := fit_tk h.fit N f
  refine ⟨e, eX, ?_⟩
  rw [em] at hF ⊢
  generalize hA : (bgI M f + 1) % 8 = A at hF ⊢
  have k := fun b => st_two (M := M) (v := A) (u := cnI M f - 1) h2 (show (0 : Int) ≤ 12 ∧ (12 : Int) < 36 by omega) (show (0 : Int) ≤ 13 ∧ (13 : Int) < 36 by omega) b
  have i2 := is_two (M := M) (v := A) (u := cnI M f - 1) h2 (show (4 : Int) ≤ 12 ∧ (12 : Int) < 36 by omega) (show (4 : Int) ≤ 13 ∧ (13 : Int) < 36 by omega) 6
  generalize stW N (stW N M f 12 A) f 13 (cnI M f - 1) = M' at hF k i2 ⊢
  have b' : bgI M' f = A := by
    show M' f.toNat 12 = _
    rw [k, if_neg (by omega), if_pos (by omega)]
  have c' : cnI M' f = cnI M f - 1 := by
    show M' f.toNat 13 = _
    rw [k, if_pos (by omega)]
  refine ⟨hF, pl_of (i2.trans h1) (by omega) (by omega), by rw [c', hcn]; push_cast; omega, fun i y hy => ?_⟩
  have hw := h.ws (i + 1) y (by simpa using hy)
  unfold rwI plN at hw ⊢
  rw [b', k, if_neg (by omega), if_neg (by omega), show ((A + (i : Int)) % 8).toNat = ((bgI M f + ((i + 1 : Nat) : Int)) % 8).toNat by push_cast; omega]
  exact hw
theorem rg_all {N : Nat} {M : Nat → Nat → Int} {f : Int} {L : List Ev} (h : Rg N M f L) : alE N M f = 0 ∧ alL N M f = L := by
  have hn : (cnI M f).toNat = L.length := by rw [h.cn]; simp
  have at' : ∀ i (hi : i < L.length), ofE (rwI M f (i : Int)) = 0 ∧ ofX (rwI M f (i : Int)) = L[i] := fun i hi => by
    obtain ⟨w0, hx⟩ := h.ws i L[i] (List.getElem?_eq_getElem hi)
    rw [w0]
    exact of_back hx
  have e : alE N M f = 0 := by
    unfold alE
    rw [if_pos h.pl, if_pos]
    unfold alB
    rw [hn]
    simp only [List.all_eq_true, List.mem_range, beq_iff_eq]
    exact fun i hi => (at' i hi).1
  refine ⟨e, ?_⟩
  unfold alL
  rw [if_pos e, hn]
  refine List.ext_getElem (by simp) fun i h1 h2 => ?_
  rw [List.getElem_map, List.getElem_range]
  exact (at' i h2).2
end Go.Proofs.YtcoggdnpjpiacaaGreatDoor.Pring

/- Events that came in, and lists of them: as a walk asks them. (written by mk_came.py) -/
namespace Go.Proofs.YtcoggdnpjpiacaaGreatDoor.Pring
open Go.Proofs.YtcoggdnpjpiacaaGreatDoor.Pbase Go.Proofs.YtcoggdnpjpiacaaGreatDoor.Play Go.Proofs.YtcoggdnpjpiacaaGreatDoor.Pmem
open Go.RowKit Go.ChangeShapes Go.WideShapes Go.Deep
set_option linter.unusedVariables false

section
variable {H : Type} {enc : TypeId × Value → H} {w : World} {base : Nat} {spare : Nat → Bool} {held : Bool}
set_option maxRecDepth 100000 in
theorem ev_cells {fuel : Nat} {cs : List Value} {x : DataW H × List MemPlace} (h : DataW.trod enc Tryz.prog w base spare held fuel 35 cs = some x) : ∃ x : Ev, cs = [.int .i64 x.k, .int .i64 x.t] ∧ Fe x := by
  obtain ⟨xs, n, _, _, hl, hx, hf⟩ := DataW.trod_struct Tryz.underlying35 h
  have hc : Tryz.prog.cellsOf 35 = 2 := by kernel_rfl
  have hi : Tryz.prog.cellsOf 3 = 1 := by kernel_rfl
  rw [hc] at hl
  match cs, hl, xs, hx with
  | [v0, v1], _, [y0, y1], _ =>
    have g0 := hf 0 _ rfl
    have g1 := hf 1 _ rfl
    simp [hi] at g0 g1
    obtain ⟨a0, e0, _, f0⟩ := DataW.trod_int Tryz.underlying3 g0
    obtain ⟨a1, e1, _, f1⟩ := DataW.trod_int Tryz.underlying3 g1
    simp at e0 e1
    exact ⟨⟨a0, a1⟩, by rw [e0, e1], in64_wf f0, in64_wf f1⟩
set_option maxRecDepth 100000 in
theorem ev_val {r : Reach} {b0 : Nat} {v : Value} {d : DataW H} {p : List MemPlace} (hv : Value.okWide Tryz.prog w r b0 35 v) (h : DataW.Trod enc Tryz.prog w base spare held 35 v d p) : ∃ x : Ev, v = .agg #[.int .i64 x.k, .int .i64 x.t] ∧ Fe x := by
  obtain ⟨cs, rfl, _⟩ := WideShapes.okWide_struct Tryz.underlying35 hv
  obtain ⟨fuel, hf⟩ := h
  obtain ⟨x, hk, hf⟩ := ev_cells hf
  exact ⟨x, by simp only [Value.cells] at hk; rw [← Array.toArray_toList (xs := cs), hk], hf⟩
end

/-- The cells from off on of block b are those numbers. -/
def AtE (W : World) (b off : Nat) (p : Ev) : Prop :=
  W.cell? ⟨b, off, none⟩ = some (.int .i64 p.k) ∧ W.cell? ⟨b, off + 1, none⟩ = some (.int .i64 p.t)
/-- A slice of len of them lies at a, in blocks below n₀ of W. -/
def CameE (n₀ : Nat) (W : World) (a : Option Addr) (len : Nat) : Prop :=
  len = 0 ∨ ∃ b off, a = some ⟨b, off, none⟩ ∧ b < n₀ ∧ ∀ j, j < len → ∃ p : Ev, Fe p ∧ AtE W b (off + j * 2) p
set_option maxRecDepth 100000 in
theorem cameE_of {H : Type} {enc : TypeId × Value → H} {W : World} {spare : Nat → Bool} {held : Bool} {fuel len cap : Nat} {a : Option Addr} {x : DataW H × List MemPlace}
    (h : DataW.trod enc Tryz.prog W 0 spare held fuel 26 [.slice a len cap] = some x) : CameE W.heap.size W a len ∧ len ≤ 9223372036854775807 := by
  rcases open_slice Tryz.underlying26 h with ⟨hcs, _⟩ | ⟨a', len', cap', m, n, D, Pl, hcs, hb, hl, hm, hmm, _, hx⟩
  · simp at hcs
    obtain ⟨rfl, rfl, rfl⟩ := hcs
    exact ⟨.inl rfl, by omega⟩
  · simp at hcs
    obtain ⟨rfl, rfl, rfl⟩ := hcs
    refine ⟨?_, by unfold maxLen at hm; omega⟩
    by_cases h0 : len = 0
    · exact .inl h0
    have hlm : len ≤ m := by rw [hmm]; split <;> omega
    have hc : Tryz.prog.cellsOf 35 = 2 := by kernel_rfl
    have each : ∀ j, j < len → ∃ p : Ev, Fe p ∧ W.cell? (a'.add (j * 2)) = some (.int .i64 p.k) ∧ W.cell? (a'.add (j * 2 + 1)) = some (.int .i64 p.t) := by
      intro j hj
      obtain ⟨cs', h1, h2⟩ := hx j (by omega)
      rw [hc] at h1
      obtain ⟨_, hlen, hcell⟩ := World.cells?_some h1
      obtain ⟨k, rfl, hk⟩ := ev_cells h2
      have e0 := hcell 0 (by omega)
      have e1 := hcell 1 (by omega)
      rw [add_add] at e0 e1
      exact ⟨k, hk, by simpa using e0, by simpa using e1⟩
    obtain ⟨k0, _, e0, _⟩ := each 0 (by omega)
    rw [Nat.zero_mul, Addr.add_zero'] at e0
    obtain ⟨b, off, rfl⟩ := addr_plain e0
    refine .inr ⟨b, off, rfl, World.block_lt_of_cell? W _ e0, fun j hj => ?_⟩
    obtain ⟨k, hk, h1, h2⟩ := each j hj
    rw [Addr.add_lit] at h1 h2
    exact ⟨k, hk, h1, h2⟩
/-- The one at j, as any later world has it. -/
theorem CameE.at {n₀ : Nat} {W : World} {a : Option Addr} {len : Nat} (h : CameE n₀ W a len) {j : Nat} (hj : j < len) :
    ∃ (b off : Nat) (k : Ev), a = some ⟨b, off, none⟩ ∧ Fe k ∧ Hid (∀ W', Below n₀ W W' → AtE W' b (off + j * 2) k) := by
  rcases h with h | ⟨b, off, e, hb, hc⟩
  · omega
  · obtain ⟨q, hq, h1, h2⟩ := hc j hj
    exact ⟨b, off, q, e, hq, fun W' hB => ⟨(hB.cell (p := ⟨b, _, none⟩) hb).trans h1, (hB.cell (p := ⟨b, _, none⟩) hb).trans h2⟩⟩
theorem CameE.on {w w' : World} {a : Option Addr} {len : Nat} (h : CameE w.heap.size w a len) (hB : Below w.heap.size w w') : CameE w'.heap.size w' a len := by
  rcases h with h | ⟨b, off, e, hb, hc⟩
  · exact .inl h
  · refine .inr ⟨b, off, e, Nat.lt_of_lt_of_le hb hB.size, fun j hj => ?_⟩
    obtain ⟨q, hq, h1, h2⟩ := hc j hj
    exact ⟨q, hq, (hB.cell (p := ⟨b, _, none⟩) hb).trans h1, (hB.cell (p := ⟨b, _, none⟩) hb).trans h2⟩
/-- One held against itself. -/
theorem eqE (x : Ev) (w : World) : (Op.equalIn 10000 35 (.agg #[.int .i64 x.k, .int .i64 x.t]) (.agg #[.int .i64 x.k, .int .i64 x.t])).run Tryz.prog w = .ok true w := by
  show (Op.equalIn (9998 + 1 + 1) 35 (.agg #[.int .i64 x.k, .int .i64 x.t]) (.agg #[.int .i64 x.k, .int .i64 x.t])).run _ _ = _
  rw [run_equalIn_agg (P := Tryz.prog) w _ _ _ _ (by kernel_rfl) (by kernel_rfl)]
  have hf : (Tryz.prog.fieldsOf 35).toList = [⟨ "K", 3, 0, false, "", "", 0⟩, ⟨ "T", 3, 1, false, "", "", 8⟩] := by kernel_rfl
  rw [hf]
  have p0 : (part 3 #[.int .i64 x.k, .int .i64 x.t] 0).run Tryz.prog w = .ok (.int .i64 x.k) w := by kernel_rfl
  have p1 : (part 3 #[.int .i64 x.k, .int .i64 x.t] 1).run Tryz.prog w = .ok (.int .i64 x.t) w := by kernel_rfl
  have q : ∀ (x : Int), (Op.equalIn (9998 + 1) 3 (.int .i64 x) (.int .i64 x)).run Tryz.prog w = .ok true w := fun x => by
    rw [run_equalIn_int w 9998 3 .i64 .i64 x x Tryz.underlying3]
    simp
  simp only [Op.eqFields, Sem.run_bind, Sem.run_ite, p0, p1, q, Result.andThen_ok, Sem.run_pure]
  simp
theorem eqlE (x : Ev) (w : World) : (binOp .eql 35 (.agg #[.int .i64 x.k, .int .i64 x.t]) (.agg #[.int .i64 x.k, .int .i64 x.t])).run Tryz.prog w = .ok (.bool true) w := by
  rw [run_eql_struct, eqE]
  simp
theorem neqE (x : Ev) (w : World) : (binOp .neq 35 (.agg #[.int .i64 x.k, .int .i64 x.t]) (.agg #[.int .i64 x.k, .int .i64 x.t])).run Tryz.prog w = .ok (.bool false) w := by
  rw [run_neq_struct, eqE]
  simp
end Go.Proofs.YtcoggdnpjpiacaaGreatDoor.Pring

/- Events and rings in blocks; the table of widths of package ring; a memory and both tables. -/
namespace Go.Proofs.YtcoggdnpjpiacaaGreatDoor.Pring
open Go.Proofs.YtcoggdnpjpiacaaGreatDoor.Pbase Go.Proofs.YtcoggdnpjpiacaaGreatDoor.Pfield Go.Proofs.YtcoggdnpjpiacaaGreatDoor.Play Go.Proofs.YtcoggdnpjpiacaaGreatDoor.Pmem
open Go.RowKit M
set_option linter.unusedVariables false

/-- An event in a block. -/
structure RowE (w : World) (B : Nat) (x : Ev) : Prop where
  row : w.heap[B]? = some (.cells #[.int .i64 x.k, .int .i64 x.t] 35 (0, 0))
section
variable {w w' : World} {B : Nat} {x : Ev}
theorem RowE.lt (h : RowE w B x) : B < w.heap.size := (Array.getElem?_eq_some_iff.1 h.row).1
theorem RowE.c0 (h : RowE w B x) : w.cell? ⟨B, 0, none⟩ = some (.int .i64 x.k) := (cell_of_row _ _ _ _ _ _ h.row).trans rfl
theorem RowE.c1 (h : RowE w B x) : w.cell? ⟨B, 1, none⟩ = some (.int .i64 x.t) := (cell_of_row _ _ _ _ _ _ h.row).trans rfl
theorem RowE.fz (h : RowE w B x) (j : Nat) : w.frozen? ⟨B, j, none⟩ = false := frozen_of_row _ _ _ _ _ h.row
theorem RowE.on (h : RowE w B x) (hB : Below w.heap.size w w') : RowE w' B x := ⟨(hB.block B h.lt).trans h.row⟩
theorem RowE.but {b : Nat} (h : RowE w B x) (hB : But b w w') (hn : B ≠ b) : RowE w' B x := ⟨(hB.block B h.lt hn).trans h.row⟩
theorem RowE.keep (h : RowE w B x) (k : KeepT w w') : RowE w' B x := ⟨k _ _ _ (by decide) h.row⟩
theorem RowE.put (h : RowE w B x) (y : Ev) : RowE ((w.setCell ⟨B, 0, none⟩ (.int .i64 y.k)).setCell ⟨B, 1, none⟩ (.int .i64 y.t)) B y := by
  refine ⟨?_⟩
  rw [heap_setCell_same _ _ _ _ _ _ (heap_setCell_same _ _ _ _ _ _ h.row)]
  simp
theorem rowE_new (w : World) (x : Ev) : RowE (w.alloc (.cells #[.int .i64 x.k, .int .i64 x.t] 35)) w.heap.size x := ⟨heap_alloc_new w _⟩
end
/-- A ring in a block. -/
structure RowN (w : World) (B p : Nat) (f a n : Int) : Prop where
  row : w.heap[B]? = some (.cells #[.pointer (some ⟨p, 0, none⟩), .int .i64 f, .int .u64 a, .int .u64 n] 116 (0, 0))
section
variable {w w' : World} {B p : Nat} {f a n : Int}
theorem RowN.lt (h : RowN w B p f a n) : B < w.heap.size := (Array.getElem?_eq_some_iff.1 h.row).1
theorem RowN.c0 (h : RowN w B p f a n) : w.cell? ⟨B, 0, none⟩ = some (.pointer (some ⟨p, 0, none⟩)) := (cell_of_row _ _ _ _ _ _ h.row).trans rfl
theorem RowN.c1 (h : RowN w B p f a n) : w.cell? ⟨B, 1, none⟩ = some (.int .i64 f) := (cell_of_row _ _ _ _ _ _ h.row).trans rfl
theorem RowN.c2 (h : RowN w B p f a n) : w.cell? ⟨B, 2, none⟩ = some (.int .u64 a) := (cell_of_row _ _ _ _ _ _ h.row).trans rfl
theorem RowN.c3 (h : RowN w B p f a n) : w.cell? ⟨B, 3, none⟩ = some (.int .u64 n) := (cell_of_row _ _ _ _ _ _ h.row).trans rfl
theorem RowN.fz (h : RowN w B p f a n) (j : Nat) : w.frozen? ⟨B, j, none⟩ = false := frozen_of_row _ _ _ _ _ h.row
theorem RowN.on (h : RowN w B p f a n) (hB : Below w.heap.size w w') : RowN w' B p f a n := ⟨(hB.block B h.lt).trans h.row⟩
theorem RowN.but {b : Nat} (h : RowN w B p f a n) (hB : But b w w') (hn : B ≠ b) : RowN w' B p f a n := ⟨(hB.block B h.lt hn).trans h.row⟩
theorem rowN_new (w : World) (p : Nat) (f a n : Int) : RowN (w.alloc (.cells #[.pointer (some ⟨p, 0, none⟩), .int .i64 f, .int .u64 a, .int .u64 n] 116)) w.heap.size p f a n := ⟨heap_alloc_new w _⟩
end
/-! ### the table of widths -/
structure TabR (w : World) : Prop where
  lt : 1 < w.heap.size
  row : ∃ t fr, w.heap[(1 : Nat)]? = some (.cells #[.int .i64 4, .int .i64 6] t fr)
theorem TabR.on {w w' : World} (h : TabR w) (hB : Below w.heap.size w w') : TabR w' :=
  ⟨Nat.lt_of_lt_of_le h.lt hB.size, by obtain ⟨t, fr, hr⟩ := h.row; exact ⟨t, fr, (hB.block 1 h.lt).trans hr⟩⟩
theorem TabR.but {w w' : World} {b : Nat} (h : TabR w) (hB : But b w w') (hn : 1 ≠ b) : TabR w' :=
  ⟨Nat.lt_of_lt_of_le h.lt hB.size, by obtain ⟨t, fr, hr⟩ := h.row; exact ⟨t, fr, (hB.block 1 h.lt hn).trans hr⟩⟩
theorem tabR_ne {w : World} {p b N : Nat} {M : Nat → Nat → Int} (hM : MemIs w p b N M) (hN : 1 ≤ N) (hW : TabR w) : 1 ≠ b := by
  intro e
  obtain ⟨t, fr, hr⟩ := hW.row
  rw [e, hM.row] at hr
  simp only [Option.some.injEq, Obj.cells.injEq] at hr
  have := congrArg Array.size hr.1
  rw [cellsM_size] at this
  simp at this
  omega
theorem TabR.cells {w : World} (h : TabR w) : w.cell? ⟨1, 0, none⟩ = some (.int .i64 4) ∧ w.cell? ⟨1, 1, none⟩ = some (.int .i64 6) := by
  obtain ⟨t, fr, hr⟩ := h.row
  exact ⟨(cell_of_row _ _ 0 _ _ _ hr).trans rfl, (cell_of_row _ _ 1 _ _ _ hr).trans rfl⟩
/-- Both tables. -/
structure Ts (w : World) : Prop where
  hd : Phead.TabW w
  wd : TabR w
theorem Ts.on {w w' : World} (h : Ts w) (hB : Below w.heap.size w w') : Ts w' := ⟨h.hd.on hB, h.wd.on hB⟩
/-- A memory and the tables. -/
structure Mx (w : World) (p b N : Nat) (M : Nat → Nat → Int) : Prop where
  mem : MemIs w p b N M
  hd : Phead.TabW w
  wd : TabR w
  fit : Fit M
  n1 : 1 ≤ N
  n64 : N ≤ 64
theorem Mx.on {w w' : World} {p b N : Nat} {M : Nat → Nat → Int} (h : Mx w p b N M) (hB : Below w.heap.size w w') : Mx w' p b N M := ⟨h.mem.grown hB, h.hd.on hB, h.wd.on hB, h.fit, h.n1, h.n64⟩
theorem Mx.but {w w' : World} {p b N : Nat} {M M' : Nat → Nat → Int} (h : Mx w p b N M) (hM : MemIs w' p b N M') (hF : Fit M') (hB : But b w w') : Mx w' p b N M' :=
  ⟨hM, h.hd.but hB (Phead.tab_ne h.mem h.hd), h.wd.but hB (tabR_ne h.mem h.n1 h.wd), hF, h.n1, h.n64⟩
theorem Mx.ltb {w : World} {p b N : Nat} {M : Nat → Nat → Int} (h : Mx w p b N M) : b < w.heap.size := h.mem.lt.2
theorem mx_of {w W : World} {p b N : Nat} {M : Nat → Nat → Int} (hT : Ts w) (hB : Below w.heap.size w W) (hM : MemIs W p b N M) (hF : Fit M) (h1 : 1 ≤ N) (h2 : N ≤ 64) : Mx W p b N M := ⟨hM, hT.hd.on hB, hT.wd.on hB, hF, h1, h2⟩
/-! ### widths and parts in blocks -/
theorem ints_ews (w : World) (ty : TypeId) : Ints .i64 (w.alloc (.cells #[.int .i64 4, .int .i64 6] ty)).heap.size (w.alloc (.cells #[.int .i64 4, .int .i64 6] ty)) (.slice (some ⟨w.heap.size, 0, none⟩) 2 2) ews := by
  refine .inr ⟨w.heap.size, 0, 2, rfl, by simp, fun j hj => ?_⟩
  rw [Nat.zero_add, cell_of_row _ _ j _ _ _ (heap_alloc_new w _)]
  match j, hj with
  | 0, _ | 1, _ => rfl
theorem ints_vs (w : World) (x : Ev) (ty : TypeId) : Ints .u64 (w.alloc (.cells #[.int .u64 x.k, .int .u64 x.t] ty)).heap.size (w.alloc (.cells #[.int .u64 x.k, .int .u64 x.t] ty)) (.slice (some ⟨w.heap.size, 0, none⟩) 2 2) x.vs := by
  refine .inr ⟨w.heap.size, 0, 2, rfl, by simp, fun j hj => ?_⟩
  rw [Nat.zero_add, cell_of_row _ _ j _ _ _ (heap_alloc_new w _)]
  match j, hj with
  | 0, _ | 1, _ => rfl
/-- The two parts of a word in a block. -/
structure Two (w : World) (b o : Nat) (a : Int) : Prop where
  lt : b < w.heap.size
  c0 : w.cell? ⟨b, o, none⟩ = some (.int .u64 (egN a 0))
  c1 : w.cell? ⟨b, o + 1, none⟩ = some (.int .u64 (egN a 1))
theorem Two.on {w w' : World} {b o : Nat} {a : Int} (h : Two w b o a) (hB : Below w.heap.size w w') : Two w' b o a :=
  ⟨Nat.lt_of_lt_of_le h.lt hB.size, (World.cell?_of_block (hB.block b h.lt)).trans h.c0, (World.cell?_of_block (hB.block b h.lt)).trans h.c1⟩
theorem two_of {w : World} {a : Option Addr} {c : Nat} {x : Int} (h : Ints .u64 w.heap.size w (.slice a ews.length c) (getsI x ews)) : ∃ b o, a = some ⟨b, o, none⟩ ∧ Two w b o x := by
  have hl := getsI_length x ews
  rcases h with ⟨_, _, e1, e2⟩ | ⟨b, o, cap, e1, hb, hc⟩
  · rw [e2, ews_length] at hl; cases hl
  · cases e1
    rw [hl, ews_length] at hc
    exact ⟨b, o, rfl, hb, hc 0 (by omega), hc 1 (by omega)⟩
theorem two_ne {w : World} {b o B : Nat} {a : Int} {x : Ev} (h : Two w b o a) (k : RowE w B x) : b ≠ B := by
  rintro rfl
  have hc := h.c0
  rw [cell_of_row _ _ _ _ _ _ k.row] at hc
  match o, hc with
  | 0, hc | 1, hc => simp at hc
  | o + 2, hc => simp at hc
end Go.Proofs.YtcoggdnpjpiacaaGreatDoor.Pring

/- Lists of events of the call's own, and as a reader asks them. -/
namespace Go.Proofs.YtcoggdnpjpiacaaGreatDoor.Pring
open Go.Proofs.YtcoggdnpjpiacaaGreatDoor.Pbase Go.Proofs.YtcoggdnpjpiacaaGreatDoor.Pfield Go.Proofs.YtcoggdnpjpiacaaGreatDoor.Play Go.Proofs.YtcoggdnpjpiacaaGreatDoor.Pmem
open Go.RowKit M
set_option linter.unusedVariables false

theorem infoEv : (Tryz.prog.info? 35).map (fun i => (i.zero, i.size, i.bytes)) = some (some (.agg #[.int .i64 0, .int .i64 0]), 2, 16) := by kernel_rfl
theorem grown_none {W W' : World} (h : Below W.heap.size W W') : W.grownBy W' none := ⟨h.os, h.tape, h.output, h.size, fun k hk _ => h.block k hk⟩
def twoL (x : Ev) : List Value := [.int .i64 x.k, .int .i64 x.t]
def cellsL (L : List Ev) : List Value := L.flatMap twoL
theorem cellsL_snoc (L : List Ev) (x : Ev) : cellsL (L ++ [x]) = cellsL L ++ twoL x := by simp [cellsL]
theorem cellsL_len (L : List Ev) : (cellsL L).length = L.length * 2 := by
  induction L with
  | nil => rfl
  | cons x L ih => rw [show cellsL (x :: L) = twoL x ++ cellsL L from rfl, List.length_append, ih]; simp [twoL]; omega
theorem cellsL_at : ∀ (L : List Ev) (i j : Nat) (x : Ev), L[i]? = some x → j < 2 → (cellsL L)[i * 2 + j]? = (twoL x)[j]?
  | [], i, j, x, hi, _ => by simp at hi
  | y :: L, 0, j, x, hi, hj => by
    simp at hi
    subst hi
    rw [show cellsL (y :: L) = twoL y ++ cellsL L from rfl, List.getElem?_append_left (by simp [twoL]; omega)]
    simp
  | y :: L, i + 1, j, x, hi, hj => by
    rw [List.getElem?_cons_succ] at hi
    rw [show cellsL (y :: L) = twoL y ++ cellsL L from rfl, List.getElem?_append_right (by simp [twoL]; omega), show (i + 1) * 2 + j - (twoL y).length = i * 2 + j by simp [twoL]; omega]
    exact cellsL_at L i j x hi hj
theorem twoL_one (x : Ev) : ∀ u ∈ twoL x, u.oneCell' = true := by
  intro u hu
  simp only [twoL, List.mem_cons, List.not_mem_nil, or_false] at hu
  rcases hu with rfl | rfl <;> rfl
theorem two_new (w : World) (a b : Value) (t : TypeId) : ∀ j u, [a, b][j]? = some u → (w.alloc (.cells #[a, b] t)).cell? ((⟨w.heap.size, 0, none⟩ : Addr).add j) = some u := by
  intro j u hj
  rw [Addr.add_lit, Nat.zero_add, cell_of_row _ _ j _ _ _ (heap_alloc_new w _)]
  match j, hj with
  | 0, hj | 1, hj => exact hj
  | j + 2, hj => simp at hj
theorem own_ge {w : World} {base : Nat} {e : TypeId} {v : Value} {n : Nat} {xs : List Value} (h : w.ownsRow base e 2 v n xs) : ∀ k, v.ownBlock = some k → base ≤ k := fun k hk => (h.lt k hk).1
theorem own_succ {w : World} {base : Nat} {e : TypeId} {size : Nat} {v : Value} {n : Nat} {xs : List Value} (h : w.ownsRow base e size v (n + 1) xs) : ∃ g cap, v = .slice (some ⟨g, 0, none⟩) (n + 1) cap := by
  rcases h.2 with ⟨_, e⟩ | ⟨g, cap, _, e, _⟩
  · cases e
  · exact ⟨g, cap, e⟩
/-- A block of another type is no row of events. -/
theorem own_ne {w : World} {base D : Nat} {v : Value} {n : Nat} {xs : List Value} (h : w.ownsRow base 35 2 v n xs) {cs : Array Value} {t : TypeId} {fr : Nat × Nat} (hr : w.heap[D]? = some (.cells cs t fr)) (ht : t ≠ 35) : v.ownBlock ≠ some D := by
  intro e
  rcases h.2 with ⟨rfl, _⟩ | ⟨g, cap, cur, rfl, hb, hg, _⟩
  · cases e
  · obtain rfl : g = D := Option.some.inj e
    rw [hg] at hr
    simp only [Option.some.injEq, Obj.cells.injEq] at hr
    exact ht hr.2.1.symm
theorem own_on {w w' : World} {base : Nat} {v : Value} {n : Nat} {xs : List Value} (h : w.ownsRow base 35 2 v n xs) (hB : Below w.heap.size w w') : w'.ownsRow base 35 2 v n xs := h.kept (grown_none hB) (by cases hv : v.ownBlock <;> simp)
theorem own_off {W W' : World} {base : Nat} {v : Value} {n : Nat} {xs : List Value} (h : W.ownsRow base 35 2 v n xs) (hk : ∀ g, v.ownBlock = some g → W'.heap[g]? = W.heap[g]?) : W'.ownsRow base 35 2 v n xs := by
  refine ⟨h.1, ?_⟩
  rcases h.2 with h2 | ⟨g, cap, cur, rfl, hb1, hg, rest⟩
  · exact .inl h2
  · exact .inr ⟨g, cap, cur, rfl, hb1, (hk g rfl).trans hg, rest⟩
/-- The slice v holds the events of L, in a block from base on. -/
def Evs (w : World) (base : Nat) (v : Value) (L : List Ev) : Prop :=
  ∃ a cap, v = .slice a L.length cap ∧ (L.length = 0 ∨ ∃ g, a = some ⟨g, 0, none⟩ ∧ base ≤ g ∧ g < w.heap.size ∧ ∀ i x, L[i]? = some x → AtE w g (i * 2) x)
theorem atE_of {w w' : World} {g o : Nat} {x : Ev} (h : AtE w g o x) (hk : w'.heap[g]? = w.heap[g]?) : AtE w' g o x := by
  obtain ⟨c0, c1⟩ := h
  have k : ∀ j, w'.cell? ⟨g, j, none⟩ = w.cell? ⟨g, j, none⟩ := fun j => World.cell?_of_block hk
  exact ⟨(k _).trans c0, (k _).trans c1⟩
theorem Evs.on {w w' : World} {base : Nat} {v : Value} {L : List Ev} (h : Evs w base v L) (hB : Below w.heap.size w w') : Evs w' base v L := by
  obtain ⟨a, cap, e, h⟩ := h
  refine ⟨a, cap, e, ?_⟩
  rcases h with h | ⟨g, e1, h1, h2, h3⟩
  · exact .inl h
  · exact .inr ⟨g, e1, h1, Nat.lt_of_lt_of_le h2 hB.size, fun i x hi => atE_of (h3 i x hi) (hB.block g h2)⟩
theorem Evs.downTo {w : World} {base base' : Nat} {v : Value} {L : List Ev} (h : Evs w base v L) (hb : base' ≤ base) : Evs w base' v L := by
  obtain ⟨a, cap, e, h⟩ := h
  refine ⟨a, cap, e, ?_⟩
  rcases h with h | ⟨g, e1, h1, h2, h3⟩
  · exact .inl h
  · exact .inr ⟨g, e1, Nat.le_trans hb h1, h2, h3⟩
theorem Evs.slice {w : World} {base : Nat} {v : Value} {L : List Ev} (h : Evs w base v L) : ∃ a cap, v = .slice a L.length cap := by
  obtain ⟨a, cap, e, _⟩ := h
  exact ⟨a, cap, e⟩
theorem Evs.at {w : World} {base : Nat} {a : Option Addr} {n cap : Nat} {L : List Ev} (h : Evs w base (.slice a n cap) L) {i : Nat} {x : Ev} (hi : L[i]? = some x) : ∃ g, a = some ⟨g, 0, none⟩ ∧ base ≤ g ∧ g < w.heap.size ∧ AtE w g (i * 2) x := by
  obtain ⟨a', cap', e, h⟩ := h
  cases e
  rcases h with h | ⟨g, e1, h1, h2, h3⟩
  · have := (List.getElem?_eq_some_iff.1 hi).1
    omega
  · exact ⟨g, e1, h1, h2, h3 i x hi⟩
theorem evs_nil (w : World) (base : Nat) : Evs w base (.slice none 0 0) [] := ⟨none, 0, rfl, .inl rfl⟩
theorem evs_of {w : World} {base : Nat} {v : Value} {L : List Ev} (h : w.ownsRow base 35 2 v L.length (cellsL L)) : Evs w base v L := by
  rcases h.2 with ⟨e, e0⟩ | ⟨g, cap, cur, rfl, hb, hg, _, _, _, ht⟩
  · exact ⟨none, 0, by rw [e0]; exact e, .inl e0⟩
  · refine ⟨some ⟨g, 0, none⟩, cap, rfl, .inr ⟨g, rfl, hb, (Array.getElem?_eq_some_iff.1 hg).1, fun i x hi => ?_⟩⟩
    have hid : i < L.length := (List.getElem?_eq_some_iff.1 hi).1
    have key : ∀ j, j < 2 → w.cell? ⟨g, i * 2 + j, none⟩ = (twoL x)[j]? := fun j hj => by
      have := cellsL_at L i j x hi hj
      rw [← ht, List.getElem?_take, if_pos (by omega), Array.getElem?_toList] at this
      rw [cell_of_row _ _ _ _ _ _ hg, this]
    exact ⟨key 0 (by omega), key 1 (by omega)⟩
/-! ### the events that All answers -/
/-- The first k of them. -/
def allK (M : Nat → Nat → Int) (f : Int) (k : Nat) : List Ev := (List.range k).map fun (i : Nat) => ofX (rwI M f (i : Int))
theorem allK_len (M : Nat → Nat → Int) (f : Int) (k : Nat) : (allK M f k).length = k := by simp [allK]
theorem allK_succ (M : Nat → Nat → Int) (f : Int) (k : Nat) : allK M f (k + 1) = allK M f k ++ [ofX (rwI M f (k : Int))] := by simp [allK, List.range_succ]
theorem al_yes {N : Nat} {M : Nat → Nat → Int} {f : Int} (hp : plE N M f = 0) (h : ∀ j : Nat, j < (cnI M f).toNat → ofE (rwI M f (j : Int)) = 0) : alE N M f = 0 ∧ alL N M f = allK M f (cnI M f).toNat := by
  have hb : alB M f (cnI M f).toNat = true := by
    unfold alB
    simp only [List.all_eq_true, List.mem_range, beq_iff_eq]
    exact h
  have e : alE N M f = 0 := by unfold alE; rw [if_pos hp, if_pos hb]
  exact ⟨e, by unfold alL; rw [if_pos e]; rfl⟩
theorem al_no {N : Nat} {M : Nat → Nat → Int} {f : Int} (hp : plE N M f = 0) {x : Nat} (hx : x < (cnI M f).toNat) (h : ofE (rwI M f (x : Int)) ≠ 0) : alE N M f = 12 ∧ alL N M f = [] := by
  have hb : ¬ alB M f (cnI M f).toNat = true := by
    unfold alB
    simp only [List.all_eq_true, List.mem_range, beq_iff_eq]
    exact fun hh => h (hh x hx)
  have e : alE N M f = 12 := by unfold alE; rw [if_pos hp, if_neg hb]
  exact ⟨e, by unfold alL; rw [if_neg (by rw [e]; decide)]⟩
theorem al_err {N : Nat} {M : Nat → Nat → Int} {f : Int} (hp : plE N M f ≠ 0) : alE N M f = plE N M f ∧ alL N M f = [] := by
  have e : alE N M f = plE N M f := by unfold alE; rw [if_neg hp]
  exact ⟨e, by unfold alL; rw [if_neg (by rw [e]; exact hp)]⟩
/-- The word of the i-th place, by its number in the frame. -/
theorem rw_at {N : Nat} {M : Nat → Nat → Int} {f : Int} (hF : Fit M) (hp : plE N M f = 0) (i : Nat) : M f.toNat (14 + ((bgI M f + (i : Int)) % 8)).toNat = rwI M f (i : Int) := by
  have := (pl_yes hF hp).2.2.1
  unfold rwI plN
  congr 1
  omega
theorem rw_zero {N : Nat} {M : Nat → Nat → Int} {f : Int} (hF : Fit M) (hp : plE N M f = 0) : M f.toNat (14 + (bgI M f).toNat) = rwI M f 0 := by
  have := (pl_yes hF hp).2.2.1
  unfold rwI plN
  congr 1
  omega
/-! ### Put, Take: which way -/
theorem pu_arg (N : Nat) (M : Nat → Nat → Int) (f : Int) {x : Ev} (h : ¬ Eo x) : puE N M f x = 1 ∧ puM N M f x = M := by
  have e : puE N M f x = 1 := by unfold puE; rw [eoB_no h]; rfl
  exact ⟨e, by unfold puM; rw [if_neg (by rw [e]; decide)]⟩
theorem pu_pl {N : Nat} {M : Nat → Nat → Int} {f : Int} {x : Ev} (h : Eo x) (hp : plE N M f ≠ 0) : puE N M f x = plE N M f ∧ puM N M f x = M := by
  have e : puE N M f x = plE N M f := by unfold puE; rw [if_pos (eoB_yes h), if_neg hp]
  exact ⟨e, by unfold puM; rw [if_neg (by rw [e]; exact hp)]⟩
theorem pu_full {N : Nat} {M : Nat → Nat → Int} {f : Int} {x : Ev} (h : Eo x) (hp : plE N M f = 0) (hc : cnI M f = 8) : puE N M f x = 2 ∧ puM N M f x = M := by
  have e : puE N M f x = 2 := by unfold puE; rw [if_pos (eoB_yes h), if_pos hp, if_pos hc]
  exact ⟨e, by unfold puM; rw [if_neg (by rw [e]; decide)]⟩
theorem pu_ok {N : Nat} {M : Nat → Nat → Int} {f : Int} {x : Ev} (h : Eo x) (hp : plE N M f = 0) (hc : cnI M f ≠ 8) : puE N M f x = 0 ∧ puM N M f x = stW N (stW N M f (14 + (bgI M f + cnI M f) % 8) (ewd x)) f 13 (cnI M f + 1) := by
  have e : puE N M f x = 0 := by unfold puE; rw [if_pos (eoB_yes h), if_pos hp, if_neg hc]
  exact ⟨e, by unfold puM; rw [if_pos e]⟩
theorem tk_pl {N : Nat} {M : Nat → Nat → Int} {f : Int} (hp : plE N M f ≠ 0) : tkE N M f = plE N M f ∧ tkX N M f = ev0 ∧ tkM N M f = M := by
  have e : tkE N M f = plE N M f := by unfold tkE; rw [if_neg hp]
  exact ⟨e, by unfold tkX; rw [if_neg (by rw [e]; exact hp)], by unfold tkM; rw [if_neg (by rw [e]; exact hp)]⟩
theorem tk_none {N : Nat} {M : Nat → Nat → Int} {f : Int} (hp : plE N M f = 0) (hc : cnI M f = 0) : tkE N M f = 3 ∧ tkX N M f = ev0 ∧ tkM N M f = M := by
  have e : tkE N M f = 3 := by unfold tkE; rw [if_pos hp, if_pos hc]
  exact ⟨e, by unfold tkX; rw [if_neg (by rw [e]; decide)], by unfold tkM; rw [if_neg (by rw [e]; decide)]⟩
theorem tk_form {N : Nat} {M : Nat → Nat → Int} {f : Int} (hp : plE N M f = 0) (hc : cnI M f ≠ 0) (ho : ofE (rwI M f 0) ≠ 0) : tkE N M f = 12 ∧ tkX N M f = ev0 ∧ tkM N M f = M := by
  have e : tkE N M f = 12 := by unfold tkE; rw [if_pos hp, if_neg hc]; exact (of_no ho).1
  exact ⟨e, by unfold tkX; rw [if_neg (by rw [e]; decide)], by unfold tkM; rw [if_neg (by rw [e]; decide)]⟩
theorem tk_ok {N : Nat} {M : Nat → Nat → Int} {f : Int} (hp : plE N M f = 0) (hc : cnI M f ≠ 0) (ho : ofE (rwI M f 0) = 0) : tkE N M f = 0 ∧ tkX N M f = ofX (rwI M f 0) ∧ tkM N M f = stW N (stW N M f 12 ((bgI M f + 1) % 8)) f 13 (cnI M f - 1) := by
  have e : tkE N M f = 0 := by unfold tkE; rw [if_pos hp, if_neg hc]; exact ho
  exact ⟨e, by unfold tkX; rw [if_pos e], by unfold tkM; rw [if_pos e]⟩
end Go.Proofs.YtcoggdnpjpiacaaGreatDoor.Pring

/- The table of widths of package ring, out of what a row's condition says of it; lists of bools that came in. -/
namespace Go.Proofs.YtcoggdnpjpiacaaGreatDoor.Pring
open Go.Proofs.YtcoggdnpjpiacaaGreatDoor.Pbase Go.Proofs.YtcoggdnpjpiacaaGreatDoor.Pfield Go.Proofs.YtcoggdnpjpiacaaGreatDoor.Play Go.Proofs.YtcoggdnpjpiacaaGreatDoor.Pmem
open Go.RowKit Go.ChangeShapes Go.WideShapes Go.Deep
set_option linter.unusedVariables false

theorem gTr : (Tryz.prog.globals[(1 : Nat)]?).map (·.type) = some 141 := by kernel_rfl
theorem cellsWideR : Tryz.prog.cellsOf 141 = 2 := by kernel_rfl
theorem r_datum : /- 1 -/ (Rows.laid_palanquin_ring_widths : DataW Unit) = .agg (ews.map fun z => .lit (.int .i64 z)) := rfl
theorem tabR_of {W : World} {g : Nat} {t : TypeId} {cs : Array Value} {fuel : Nat} {p : List MemPlace} {n : String} (hn : Tryz.prog.globalNamed n = some 1) (hg : Tryz.prog.globalNamed n = some g) (ht : (Tryz.prog.globals[g]?).map (·.type) = some t) (hv : W.var? Tryz.prog n = some cs)
    (hd : DataW.trod (fun _ => ()) Tryz.prog W 0 (fun _ => true) false fuel t cs.toList = some (Rows.laid_palanquin_ring_widths, p)) : TabR W := by
  obtain rfl := Option.some.inj (hn.symm.trans hg)
  obtain rfl := Option.some.inj (gTr.symm.trans ht)
  obtain ⟨t1, fr, hb⟩ := var_block hg hv
  refine ⟨block_lt hb, t1, fr, ?_⟩
  rw [r_datum] at hd
  obtain ⟨_, hl, hc⟩ := array_ints Tryz.underlying141 cellsWideR hd
  obtain ⟨cl⟩ := cs
  simp only at hl hc hb
  match cl, hl with
  | [v0, v1], _ =>
    have g0 := hc 0 (by omega)
    have g1 := hc 1 (by omega)
    simp [ews] at g0 g1
    rw [hb, g0, g1]
/-- The slice of len bools at a lies in blocks below n₀ of W. -/
def CameO (n₀ : Nat) (W : World) (a : Option Addr) (len : Nat) : Prop :=
  len = 0 ∨ ∃ b off, a = some ⟨b, off, none⟩ ∧ b < n₀ ∧ ∀ j, j < len → ∃ z : Bool, W.cell? ⟨b, off + j, none⟩ = some (.bool z)
theorem CameO.at {n₀ : Nat} {W : World} {a : Option Addr} {len : Nat} (h : CameO n₀ W a len) {j : Nat} (hj : j < len) :
    ∃ b off z, a = some ⟨b, off, none⟩ ∧ Hid (∀ W', Below n₀ W W' → W'.cell? ⟨b, off + j, none⟩ = some (.bool z)) := by
  rcases h with h | ⟨b, off, e, hb, hc⟩
  · omega
  · obtain ⟨z, h1⟩ := hc j hj
    exact ⟨b, off, z, e, fun W' hB => (hB.cell (p := ⟨b, off + j, none⟩) hb).trans h1⟩
end Go.Proofs.YtcoggdnpjpiacaaGreatDoor.Pring

/- What the document's Check, Word, Of, places and Clear of layer 21 answer and do. -/
namespace Go.Proofs.YtcoggdnpjpiacaaGreatDoor.Pring
open Go.Proofs.YtcoggdnpjpiacaaGreatDoor.Pbase Go.Proofs.YtcoggdnpjpiacaaGreatDoor.Pfield Go.Proofs.YtcoggdnpjpiacaaGreatDoor.Play Go.Proofs.YtcoggdnpjpiacaaGreatDoor.Pmem
open Go.RowKit M
set_option linter.unusedVariables false

/-! ### Check -/
theorem ck_yes {x : Ev} (h : Eo x) : ckE x = 0 := by unfold ckE; rw [if_pos (eoB_yes h)]
theorem ck_no {x : Ev} (h : ¬ Eo x) : ckE x = 1 := by unfold ckE; rw [eoB_no h]; rfl
theorem wd_yes {x : Ev} (h : Eo x) : wdW x = ewd x := by unfold wdW; rw [if_pos (eoB_yes h)]
theorem wd_no {x : Ev} (h : ¬ Eo x) : wdW x = 0 := by unfold wdW; rw [eoB_no h]; rfl
set_option maxRecDepth 100000 in
theorem rcheck_any (x : Ev) (w : World) : Calls Tryz.prog 49 #[.agg #[.int .i64 x.k, .int .i64 x.t]] w fun e w' => e = .returned (.int .i64 (ckE x)) ∧ Below w.heap.size w w' := by
  obtain ⟨k, t⟩ := x
  dsimp only
  by_cases h1 : k < 1
  · rw [ck_no (by unfold Eo; dsimp only; omega)]
    go_enter Tryz.func49, Tryz.ntmps49
    go_wp2
    go_ret
    exact ⟨rfl, bal (Below.refl _ _) _⟩
  by_cases h2 : 6 < k
  · rw [ck_no (by unfold Eo; dsimp only; omega)]
    go_enter Tryz.func49, Tryz.ntmps49
    go_wp2
    go_ret
    exact ⟨rfl, bal (Below.refl _ _) _⟩
  by_cases h3 : t < 0
  · rw [ck_no (by unfold Eo; dsimp only; omega)]
    go_enter Tryz.func49, Tryz.ntmps49
    go_wp2
    go_ret
    exact ⟨rfl, bal (Below.refl _ _) _⟩
  by_cases h4 : 64 ≤ t
  · rw [ck_no (by unfold Eo; dsimp only; omega)]
    go_enter Tryz.func49, Tryz.ntmps49
    go_wp2
    go_ret
    exact ⟨rfl, bal (Below.refl _ _) _⟩
  rw [ck_yes (by unfold Eo; dsimp only; omega)]
  go_enter Tryz.func49, Tryz.ntmps49
  go_wp2
  go_ret
  exact ⟨rfl, bal (Below.refl _ _) _⟩
/-! ### Word -/
/-- An event that was handed in, in a block. -/
structure Wq (w W : World) (x : Ev) : Prop where
  box : RowE W w.heap.size x
  below : Below w.heap.size w W
theorem wq_new (w : World) (x : Ev) : Wq w (w.alloc (.cells #[.int .i64 x.k, .int .i64 x.t] 35)) x := ⟨rowE_new w x, bal (Below.refl _ _) _⟩
theorem Wq.on {w W W' : World} {x : Ev} (h : Wq w W x) (hB : Below W.heap.size W W') : Wq w W' x := ⟨h.box.on hB, h.below.trans (hB.mono h.below.size)⟩
/-- Packing behind the building of the widths and the parts. -/
theorem rpack_two {x : Ev} (h : Eo x) (wc : World) :
    Calls Tryz.prog 82 #[.slice (some ⟨wc.heap.size, 0, none⟩) 2 2, .slice (some ⟨wc.heap.size + 1, 0, none⟩) 2 2] ((wc.alloc (.cells #[.int .i64 4, .int .i64 6] 3)).alloc (.cells #[.int .u64 x.k, .int .u64 x.t] 51)) fun e w' => e = .returned (.tuple #[.int .u64 (ewd x), .int .i64 0]) ∧ Below wc.heap.size wc w' := by
  have h1 := (ints_ews wc 3).on (bal (Below.refl _ _) (.cells #[.int .u64 x.k, .int .u64 x.t] 51))
  have h2 := ints_vs (wc.alloc (.cells #[.int .i64 4, .int .i64 6] 3)) x 51
  have e : (wc.alloc (.cells #[.int .i64 4, .int .i64 6] 3)).heap.size = wc.heap.size + 1 := by simp
  rw [e] at h2
  exact (rpack_ok (some ⟨wc.heap.size, 0, none⟩) (some ⟨wc.heap.size + 1, 0, none⟩) 2 2 ews x.vs _ (by decide) rfl (eput_can h).1 h1 h2 (eput_can h).2).mono fun e w' ⟨q1, q2⟩ => ⟨q1, (bal (bal (Below.refl _ _) _) _).trans (q2.mono (by simp; omega))⟩
set_option maxRecDepth 100000 in
set_option maxHeartbeats 1000000 in
theorem rword_any (x : Ev) (w : World) : Calls Tryz.prog 72 #[.agg #[.int .i64 x.k, .int .i64 x.t]] w fun e w' => e = .returned (.tuple #[.int .u64 (wdW x), .int .i64 (ckE x)]) ∧ Below w.heap.size w w' := by
  have H0 := rhide (wq_new w x)
  have HC : Hid (∀ wc, Calls Tryz.prog 49 #[.agg #[.int .i64 x.k, .int .i64 x.t]] wc fun e w' => e = .returned (.int .i64 (ckE x)) ∧ Below wc.heap.size wc w') := fun wc => rcheck_any x wc
  by_cases hx : Eo x
  · rw [wd_yes hx, ck_yes hx]
    rw [ck_yes hx] at HC
    have HK := rhide (rpack_two hx)
    have d0 : IntKind.u64.wrap x.k = x.k := by unfold Eo at hx; exact wrapu_small (by omega) (by omega)
    have d1 : IntKind.u64.wrap x.t = x.t := by unfold Eo at hx; exact wrapu_small (by omega) (by omega)
    generalize ewd x = z at HK ⊢
    clear hx
    go_enter Tryz.func72, Tryz.ntmps72
    go_wp2_with (first
      | (go_at_call 49; refine (HC.out _).mono ?_; rintro e1 w1 ⟨rfl, hb⟩; have H1 := rhide (H0.out.on hb); clear hb H0 HC; have x0 := H1.out.box.c0; have x1 := H1.out.box.c1; have xl := H1.out.box.lt)
      | (go_at_call 82; refine (HK.out w1).mono ?_; rintro e2 w2 ⟨rfl, hb⟩; have H2 := rhide (H1.out.on hb); clear hb H1 HK)
      | fail)
    go_ret2
    exact ⟨rfl, H2.out.below⟩
  · rw [wd_no hx, ck_no hx]
    rw [ck_no hx] at HC
    clear hx
    go_enter Tryz.func72, Tryz.ntmps72
    go_wp2_with (first
      | (go_at_call 49; refine (HC.out _).mono ?_; rintro e1 w1 ⟨rfl, hb⟩; have H1 := rhide (H0.out.on hb); clear hb H0 HC)
      | fail)
    go_ret2
    exact ⟨rfl, H1.out.below⟩
/-! ### Of -/
/-- Unpacking behind the building of the widths. -/
theorem runpack_two {a : Int} (ha : 0 ≤ a ∧ a ≤ 18446744073709551615) (hA : canU a ews) (wc : World) :
    Calls Tryz.prog 76 #[.slice (some ⟨wc.heap.size, 0, none⟩) 2 2, .int .u64 a] (wc.alloc (.cells #[.int .i64 4, .int .i64 6] 3)) fun e' W' => ∃ b o c, e' = .returned (.tuple #[.slice (some ⟨b, o, none⟩) 2 c, .int .i64 0]) ∧ Two W' b o a ∧ Below wc.heap.size wc W' :=
  (runpack_ok (some ⟨wc.heap.size, 0, none⟩) 2 ews a _ (by decide) ha (ints_ews wc 3) hA).mono fun e' W' ⟨a, c, he, hi, hB⟩ => by
    obtain ⟨b, o, rfl, h5⟩ := two_of hi
    exact ⟨b, o, c, he, h5, (bal (Below.refl _ _) _).trans (hB.mono (by simp))⟩
theorem runpack_none {a : Int} (ha : 0 ≤ a ∧ a ≤ 18446744073709551615) (hA : ¬ canU a ews) (wc : World) :
    Calls Tryz.prog 76 #[.slice (some ⟨wc.heap.size, 0, none⟩) 2 2, .int .u64 a] (wc.alloc (.cells #[.int .i64 4, .int .i64 6] 3)) fun e' W' => e' = .returned (.tuple #[.slice none 0 0, .int .i64 1]) ∧ Below wc.heap.size wc W' :=
  (runpack_bad (some ⟨wc.heap.size, 0, none⟩) 2 ews a _ (by decide) ha (ints_ews wc 3) hA).mono fun e' W' ⟨he, hB⟩ => ⟨he, (bal (Below.refl _ _) _).trans (hB.mono (by simp))⟩
/-- What is not unpacked is no event's word. -/
theorem of_bad {a : Int} (h : ¬ canU a ews) : ofE a = 12 ∧ ofX a = ev0 := by
  have e : ofB a = false := by
    unfold ofB
    cases hb : unB a
    · rfl
    · exact absurd ((unB_iff a).1 hb) h
  unfold ofE ofX
  rw [e]
  exact ⟨rfl, rfl⟩
theorem of_eo {a : Int} (h : canU a ews) (he : Eo (ofR a)) : ofE a = 0 ∧ ofX a = ofR a := by
  have e : ofB a = true := by
    unfold ofB
    rw [(unB_iff a).2 h, eoB_yes he]
    rfl
  unfold ofE ofX
  rw [e]
  exact ⟨rfl, rfl⟩
theorem of_neo {a : Int} (he : ¬ Eo (ofR a)) : ofE a = 12 ∧ ofX a = ev0 := by
  have e : ofB a = false := by
    unfold ofB
    rw [eoB_no he, Bool.and_false]
  unfold ofE ofX
  rw [e]
  exact ⟨rfl, rfl⟩
/-- An event that is answered, and one that was read. -/
structure Oq (w W : World) (D : Nat) (x : Ev) : Prop where
  res : RowE W w.heap.size ev0
  box : RowE W D x
  below : Below w.heap.size w W
theorem Wq.read {w W : World} (h : Wq w W ev0) (x : Ev) : Oq w (W.alloc (.cells #[.int .i64 x.k, .int .i64 x.t] 35)) W.heap.size x := ⟨h.box.on (bal (Below.refl _ _) _), rowE_new W x, bal h.below _⟩
theorem Oq.on {w W W' : World} {D : Nat} {x : Ev} (h : Oq w W D x) (hB : Below W.heap.size W W') : Oq w W' D x := ⟨h.res.on hB, h.box.on hB, h.below.trans (hB.mono h.below.size)⟩
theorem two_below {w W : World} (h : Below w.heap.size w W) (u v : Value) : Below w.heap.size w ((W.setCell ⟨w.heap.size, 0, none⟩ u).setCell ⟨w.heap.size, 1, none⟩ v) := bst (bst h (Nat.le_refl _) _ _) (Nat.le_refl _) _ _
/-! ### places -/
def zif (E v : Int) : Int := if E = 0 then v else 0
theorem zif_yes (v : Int) : zif 0 v = v := rfl
theorem zif_no {E : Int} (h : E ≠ 0) (v : Int) : zif E v = 0 := by unfold zif; rw [if_neg h]
theorem rld_at (base q N : Nat) (f : Int) (M : Nat → Nat → Int) (hf : okF N f = true) (i : Nat) (hi : i < 36) (wc : World) (h : Rx wc base q N M) : Calls Tryz.prog 57 #[.pointer (some ⟨q, 0, none⟩), .int .i64 f, .int .i64 (i : Int)] wc fun e w' => e = .returned (.tuple #[.int .u64 (M f.toNat i), .int .i64 0]) ∧ w' = wc := by
  have := Pmem.rload_any base q N f (i : Int) M wc h.n1 h.n64 h.ref
  have o := okW_ring hf (i := (i : Int)) (by omega) (by omega)
  rwa [show errW N f (i : Int) = 0 by unfold errW; rw [o]; rfl, show ldM N M f (i : Int) = M f.toNat i by unfold ldM; rw [o]; rfl] at this
set_option maxRecDepth 100000 in
set_option maxHeartbeats 1000000 in
theorem rplaces_any (base q N : Nat) (f : Int) (M : Nat → Nat → Int) (w : World) (h : Rx w base q N M) : Calls Tryz.prog 73 #[.pointer (some ⟨q, 0, none⟩), .int .i64 f] w fun e w' => e = .returned (.tuple #[.int .i64 (zif (plE N M f) (bgI M f)), .int .i64 (zif (plE N M f) (cnI M f)), .int .i64 (plE N M f)]) ∧ Below w.heap.size w w' := by
  have HI : Hid (Calls Tryz.prog 31 #[.pointer (some ⟨q, 0, none⟩), .int .i64 f, .int .i64 6] w fun e w' => e = .returned (.int .i64 (Phead.isE N M f 6)) ∧ Below w.heap.size w w') := Phead.hris_any base q N f 6 M w h.n1 h.n64 h.ref h.fit
  by_cases hi : Phead.isE N M f 6 = 0
  · have hf := isE_ok hi
    have HL0 : Hid (∀ wc, Rx wc base q N M → Calls Tryz.prog 57 #[.pointer (some ⟨q, 0, none⟩), .int .i64 f, .int .i64 12] wc fun e w' => e = .returned (.tuple #[.int .u64 (bgI M f), .int .i64 0]) ∧ w' = wc) := fun wc hx => rld_at base q N f M hf 12 (by omega) wc hx
    have HL1 : Hid (∀ wc, Rx wc base q N M → Calls Tryz.prog 57 #[.pointer (some ⟨q, 0, none⟩), .int .i64 f, .int .i64 13] wc fun e w' => e = .returned (.tuple #[.int .u64 (cnI M f), .int .i64 0]) ∧ w' = wc) := fun wc hx => rld_at base q N f M hf 13 (by omega) wc hx
    have hb : 0 ≤ bgI M f ∧ bgI M f ≤ 18446744073709551615 := h.fit _ _
    have hn : 0 ≤ cnI M f ∧ cnI M f ≤ 18446744073709551615 := h.fit _ _
    have HR := rhide h
    rw [hi] at HI
    by_cases hp : bgI M f < 8 ∧ cnI M f ≤ 8
    · have e : plE N M f = 0 := by unfold plE; rw [if_pos hi, if_pos hp]
      rw [e, zif_yes, zif_yes]
      generalize bgI M f = a at HL0 hb hp ⊢
      generalize cnI M f = n at HL1 hn hp ⊢
      have g1 : ¬ 8 ≤ a := by omega
      have g2 : ¬ 8 < n := by omega
      have d0 : IntKind.i64.wrap a = a := wrapi_small (by omega) (by omega)
      have d1 : IntKind.i64.wrap n = n := wrapi_small (by omega) (by omega)
      clear e hp hb hn hi hf h
      go_enter Tryz.func73, Tryz.ntmps73
      go_wp2_with (first
        | (go_at_call 31; refine HI.out.mono ?_; rintro e1 w1 ⟨rfl, hb⟩; have H1 := rhide (HR.out.grown hb); have HB := rhide hb; clear hb HI HR)
        | (go_at_call 57; refine (HL0.out _ H1.out).mono ?_; rintro e2 w2 ⟨rfl, hw⟩; subst w2; clear HL0)
        | (go_at_call 57; refine (HL1.out _ H1.out).mono ?_; rintro e3 w3 ⟨rfl, hw⟩; subst w3; clear HL1)
        | fail)
      refine bodyPost_ret (v := .tuple #[.int .i64 a, .int .i64 n, .int .i64 0]) (by simp [results, Tryz.results73, go_sem]) rfl ⟨rfl, HB.out⟩
    · have e : plE N M f = 12 := by unfold plE; rw [if_pos hi, if_neg hp]
      rw [e, zif_no (by decide), zif_no (by decide)]
      generalize bgI M f = a at HL0 hb hp
      generalize cnI M f = n at HL1 hn hp
      by_cases g1 : 8 ≤ a
      · clear e hp hb hn hi hf h
        go_enter Tryz.func73, Tryz.ntmps73
        go_wp2_with (first
          | (go_at_call 31; refine HI.out.mono ?_; rintro e1 w1 ⟨rfl, hb⟩; have H1 := rhide (HR.out.grown hb); have HB := rhide hb; clear hb HI HR)
          | (go_at_call 57; refine (HL0.out _ H1.out).mono ?_; rintro e2 w2 ⟨rfl, hw⟩; subst w2; clear HL0)
          | (go_at_call 57; refine (HL1.out _ H1.out).mono ?_; rintro e3 w3 ⟨rfl, hw⟩; subst w3; clear HL1)
          | fail)
        refine bodyPost_ret (v := .tuple #[.int .i64 0, .int .i64 0, .int .i64 12]) (by simp [results, Tryz.results73, go_sem]) rfl ⟨rfl, HB.out⟩
      · have g2 : 8 < n := by omega
        clear e hp hb hn hi hf h
        go_enter Tryz.func73, Tryz.ntmps73
        go_wp2_with (first
          | (go_at_call 31; refine HI.out.mono ?_; rintro e1 w1 ⟨rfl, hb⟩; have H1 := rhide (HR.out.grown hb); have HB := rhide hb; clear hb HI HR)
          | (go_at_call 57; refine (HL0.out _ H1.out).mono ?_; rintro e2 w2 ⟨rfl, hw⟩; subst w2; clear HL0)
          | (go_at_call 57; refine (HL1.out _ H1.out).mono ?_; rintro e3 w3 ⟨rfl, hw⟩; subst w3; clear HL1)
          | fail)
        refine bodyPost_ret (v := .tuple #[.int .i64 0, .int .i64 0, .int .i64 12]) (by simp [results, Tryz.results73, go_sem]) rfl ⟨rfl, HB.out⟩
  · have e : plE N M f = 4 := by unfold plE; rw [if_neg hi]
    rw [e, zif_no (by decide), zif_no (by decide)]
    generalize Phead.isE N M f 6 = E at HI hi
    have hE : (E != 0) = true := by simp [hi]
    clear e h hi
    go_enter Tryz.func73, Tryz.ntmps73
    go_wp2_with (first
      | (go_at_call 31; refine HI.out.mono ?_; rintro e1 w1 ⟨rfl, hb⟩; have HB := rhide hb; clear hb HI)
      | fail)
    refine bodyPost_ret (v := .tuple #[.int .i64 0, .int .i64 0, .int .i64 4]) (by simp [results, Tryz.results73, go_sem]) rfl ⟨rfl, HB.out⟩
/-! ### Clear -/
theorem rst_at (w : World) (base q N : Nat) (f : Int) (M : Nat → Nat → Int) (hf : okF N f = true) (a : Int) (h0 : 0 ≤ a ∧ a < 36) (v : Int) (hv : 0 ≤ v ∧ v ≤ 18446744073709551615) (wc : World) (h : Dh w wc base q N M) : Calls Tryz.prog 15 #[.pointer (some ⟨q, 0, none⟩), .int .i64 f, .int .i64 a, .int .u64 v] wc fun e w' => e = .returned (.int .i64 0) ∧ Dh w w' base q N (stW N M f a v) ∧ KeepX q wc w' := by
  have := ystore_any base q N f a v M wc h.rx.n1 h.rx.n64 h.rx.ref
  rw [show errW N f a = 0 by unfold errW; rw [okW_ring hf h0.1 h0.2]; rfl] at this
  exact this.mono fun e w' ⟨q1, q2, q3, q4⟩ => ⟨q1, h.turn q2 (h.rx.fit.st N f a v hv) q3 q4, q4⟩
end Go.Proofs.YtcoggdnpjpiacaaGreatDoor.Pring

/- What Check, Word and Of of package ring answer (written by mk_a.py). -/
namespace Go.Proofs.YtcoggdnpjpiacaaGreatDoor.Pring
open Go.Proofs.YtcoggdnpjpiacaaGreatDoor.Pbase Go.Proofs.YtcoggdnpjpiacaaGreatDoor.Pfield Go.Proofs.YtcoggdnpjpiacaaGreatDoor.Play Go.Proofs.YtcoggdnpjpiacaaGreatDoor.Pmem
open Go.RowKit M
set_option linter.unusedVariables false

/-! ### Check -/
set_option maxRecDepth 100000 in
theorem check_any (x : Ev) (w : World) : Calls Tryz.prog 44 #[.agg #[.int .i64 x.k, .int .i64 x.t]] w fun e w' => e = .returned (.int .i64 (ckE x)) ∧ Below w.heap.size w w' := by
  obtain ⟨k, t⟩ := x
  dsimp only
  by_cases h1 : k < 1
  · rw [ck_no (by unfold Eo; dsimp only; omega)]
    go_enter Tryz.func44, Tryz.ntmps44
    go_wp2
    go_ret
    exact ⟨rfl, bal (Below.refl _ _) _⟩
  by_cases h2 : 6 < k
  · rw [ck_no (by unfold Eo; dsimp only; omega)]
    go_enter Tryz.func44, Tryz.ntmps44
    go_wp2
    go_ret
    exact ⟨rfl, bal (Below.refl _ _) _⟩
  by_cases h3 : t < 0
  · rw [ck_no (by unfold Eo; dsimp only; omega)]
    go_enter Tryz.func44, Tryz.ntmps44
    go_wp2
    go_ret
    exact ⟨rfl, bal (Below.refl _ _) _⟩
  by_cases h4 : 64 ≤ t
  · rw [ck_no (by unfold Eo; dsimp only; omega)]
    go_enter Tryz.func44, Tryz.ntmps44
    go_wp2
    go_ret
    exact ⟨rfl, bal (Below.refl _ _) _⟩
  rw [ck_yes (by unfold Eo; dsimp only; omega)]
  go_enter Tryz.func44, Tryz.ntmps44
  go_wp2
  go_ret
  exact ⟨rfl, bal (Below.refl _ _) _⟩
/-! ### Word -/
theorem pack_two {x : Ev} (h : Eo x) (D : Nat) (wc wd : World) (hi : Ints .i64 wc.heap.size wc (.slice (some ⟨D, 0, none⟩) 2 2) ews) (hd : Below (wc.alloc (.cells #[.int .u64 x.k, .int .u64 x.t] 51)).heap.size (wc.alloc (.cells #[.int .u64 x.k, .int .u64 x.t] 51)) wd) :
    Calls Tryz.prog 83 #[.slice (some ⟨D, 0, none⟩) 2 2, .slice (some ⟨wc.heap.size, 0, none⟩) 2 2] wd fun e w' => e = .returned (.tuple #[.int .u64 (ewd x), .int .i64 0]) ∧ Below wc.heap.size wc w' :=
  (pack_ok (some ⟨D, 0, none⟩) (some ⟨wc.heap.size, 0, none⟩) 2 2 ews x.vs _ (by decide) rfl (eput_can h).1 ((hi.on (bal (Below.refl _ _) _)).on hd) ((ints_vs wc x 51).on hd) (eput_can h).2).mono fun e w' ⟨q1, q2⟩ => ⟨q1, ((bal (Below.refl wc.heap.size wc) _).trans (hd.mono (by simp))).trans (q2.mono (by have := hd.size; simp at this; omega))⟩
set_option maxRecDepth 100000 in
set_option maxHeartbeats 2000000 in
theorem word_any (x : Ev) (w : World) (hT : TabR w) : Calls Tryz.prog 66 #[.agg #[.int .i64 x.k, .int .i64 x.t]] w fun e w' => e = .returned (.tuple #[.int .u64 (wdW x), .int .i64 (ckE x)]) ∧ Below w.heap.size w w' := by
  have H0 := rhide (wq_new w x)
  have HT := rhide hT
  have HC : Hid (∀ wc, Calls Tryz.prog 44 #[.agg #[.int .i64 x.k, .int .i64 x.t]] wc fun e w' => e = .returned (.int .i64 (ckE x)) ∧ Below wc.heap.size wc w') := fun wc => check_any x wc
  clear hT
  by_cases hx : Eo x
  · rw [wd_yes hx, ck_yes hx]
    rw [ck_yes hx] at HC
    have HK : Hid (∀ D wc wd, Ints .i64 wc.heap.size wc (.slice (some ⟨D, 0, none⟩) 2 2) ews → Below (wc.alloc (.cells #[.int .u64 x.k, .int .u64 x.t] 51)).heap.size (wc.alloc (.cells #[.int .u64 x.k, .int .u64 x.t] 51)) wd → Calls Tryz.prog 83 #[.slice (some ⟨D, 0, none⟩) 2 2, .slice (some ⟨wc.heap.size, 0, none⟩) 2 2] wd fun e w' => e = .returned (.tuple #[.int .u64 (ewd x), .int .i64 0]) ∧ Below wc.heap.size wc w') := fun D wc wd h hd => pack_two hx D wc wd h hd
    have d0 : IntKind.u64.wrap x.k = x.k := by unfold Eo at hx; exact wrapu_small (by omega) (by omega)
    have d1 : IntKind.u64.wrap x.t = x.t := by unfold Eo at hx; exact wrapu_small (by omega) (by omega)
    generalize ewd x = z at HK ⊢
    clear hx
    go_enter Tryz.func66, Tryz.ntmps66
    go_upto_region 5 with (first
      | (go_at_call 44; refine (HC.out _).mono ?_; rintro e1 w1 ⟨rfl, hb⟩; have H1 := rhide (H0.out.on hb); clear hb H0 HC; obtain ⟨t0, t1⟩ := (HT.out.on H1.out.below).cells; have tl := (HT.out.on H1.out.below).lt)
      | fail)
    have H2 := rhide (H1.out.on (bal (Below.refl w1.heap.size w1) (.cells #[.int .i64 4, .int .i64 6] 141)))
    have HJ : Hid (Ints .i64 _ _ (.slice (some ⟨w1.heap.size, 0, none⟩) 2 2) ews) := ints_ews w1 141
    clear t0 t1 tl H1
    generalize w1.alloc _ = v1 at H2 HJ ⊢
    generalize w1.heap.size = D at HJ ⊢
    have x0 := H2.out.box.c0
    have x1 := H2.out.box.c1
    go_region_held3 (fun w' => w'.cell? ⟨w.heap.size, 0, none⟩ = some (.int .i64 x.k) ∧ w'.cell? ⟨w.heap.size, 1, none⟩ = some (.int .i64 x.t)) (first | (refine ⟨?_, ?_⟩ <;> with_reducible assumption) | go_keep)
    (first
      | (go_at_call 83; refine (HK.out D v1 _ HJ.out (by first | exact Below.refl _ _ | exact (Below.refl _ _).drew)).mono ?_; rintro e2 w2 ⟨rfl, hb⟩; have H3 := rhide (H2.out.on (by first | exact hb | exact (Below.refl _ _).drew.trans hb)); clear hb H2 HJ HK x0 x1; have x0 := H3.out.box.c0; have x1 := H3.out.box.c1)
      | fail)
    all_goals
      go_wp2
      go_ret2
      first | exact ⟨rfl, H3.out.below⟩ | exact ⟨rfl, H3.out.below.drew⟩
  · rw [wd_no hx, ck_no hx]
    rw [ck_no hx] at HC
    clear hx
    go_enter Tryz.func66, Tryz.ntmps66
    go_wp2_with (first
      | (go_at_call 44; refine (HC.out _).mono ?_; rintro e1 w1 ⟨rfl, hb⟩; have H1 := rhide (H0.out.on hb); clear hb H0 HC)
      | fail)
    go_ret2
    exact ⟨rfl, H1.out.below⟩
/-! ### Of -/
theorem unpack_two {a : Int} (ha : 0 ≤ a ∧ a ≤ 18446744073709551615) (hA : canU a ews) (wc : World) :
    Calls Tryz.prog 96 #[.slice (some ⟨wc.heap.size, 0, none⟩) 2 2, .int .u64 a] (wc.alloc (.cells #[.int .i64 4, .int .i64 6] 141)) fun e' W' => ∃ b o c, e' = .returned (.tuple #[.slice (some ⟨b, o, none⟩) 2 c, .int .i64 0]) ∧ Two W' b o a ∧ Below wc.heap.size wc W' :=
  (unpack_ok (some ⟨wc.heap.size, 0, none⟩) 2 ews a _ (by decide) ha (ints_ews wc 141) hA).mono fun e' W' ⟨a, c, he, hi, hB⟩ => by
    obtain ⟨b, o, rfl, h5⟩ := two_of hi
    exact ⟨b, o, c, he, h5, (bal (Below.refl _ _) _).trans (hB.mono (by simp))⟩
theorem unpack_none {a : Int} (ha : 0 ≤ a ∧ a ≤ 18446744073709551615) (hA : ¬ canU a ews) (wc : World) :
    Calls Tryz.prog 96 #[.slice (some ⟨wc.heap.size, 0, none⟩) 2 2, .int .u64 a] (wc.alloc (.cells #[.int .i64 4, .int .i64 6] 141)) fun e' W' => e' = .returned (.tuple #[.slice none 0 0, .int .i64 1]) ∧ Below wc.heap.size wc W' :=
  (unpack_bad (some ⟨wc.heap.size, 0, none⟩) 2 ews a _ (by decide) ha (ints_ews wc 141) hA).mono fun e' W' ⟨he, hB⟩ => ⟨he, (bal (Below.refl _ _) _).trans (hB.mono (by simp))⟩
/-! ### awake -/
end Go.Proofs.YtcoggdnpjpiacaaGreatDoor.Pring

/- What isEndpoint, place, load, store, reach, find, Clear and Put of package ring answer and do. -/
namespace Go.Proofs.YtcoggdnpjpiacaaGreatDoor.Pring
open Go.Proofs.YtcoggdnpjpiacaaGreatDoor.Pbase Go.Proofs.YtcoggdnpjpiacaaGreatDoor.Pfield Go.Proofs.YtcoggdnpjpiacaaGreatDoor.Play Go.Proofs.YtcoggdnpjpiacaaGreatDoor.Pmem
open Go.RowKit M
set_option linter.unusedVariables false

theorem wmod8 {a : Int} (h : 0 ≤ a) : a.tmod 8 = a % 8 := Int.tmod_eq_emod_of_nonneg h
/-! ### isEndpoint -/
set_option maxRecDepth 100000 in
theorem isEnd_any (p b N : Nat) (f : Int) (M : Nat → Nat → Int) (w : World) (hM : Mx w p b N M) : Calls Tryz.prog 84 #[.pointer (some ⟨p, 0, none⟩), .int .i64 f] w fun e w' => e = .returned (.bool (Phead.isE N M f 6 == 0)) ∧ Below w.heap.size w w' := by
  have HI : Hid (Calls Tryz.prog 54 #[.pointer (some ⟨p, 0, none⟩), .int .i64 f, .int .i64 6] w fun e w' => e = .returned (.int .i64 (Phead.isE N M f 6)) ∧ Below w.heap.size w w') := Phead.his_any p b N f 6 M w hM.n1 hM.n64 hM.mem hM.hd hM.fit
  clear hM
  generalize Phead.isE N M f 6 = E at HI ⊢
  go_enter Tryz.func84, Tryz.ntmps84
  go_wp2_with (first
    | (go_at_call 54; refine HI.out.mono ?_; rintro e1 w1 ⟨rfl, hb⟩; have H1 := rhide hb; clear hb HI)
    | fail)
  go_ret
  exact ⟨rfl, H1.out⟩
/-! ### place -/
set_option maxRecDepth 100000 in
theorem plU_any (a n : Int) (ha : 0 ≤ a ∧ a < 8) (hn : 0 ≤ n ∧ n ≤ 8) (w : World) : Calls Tryz.prog 69 #[.int .u64 a, .int .u64 n] w fun e w' => e = .returned (.int .i64 ((a + n) % 8)) ∧ w' = w := by
  have d1 : IntKind.u64.wrap (a + n) = a + n := wrapu_small (by omega) (by omega)
  have d2 : (a + n).tmod 8 = (a + n) % 8 := wmod8 (by omega)
  have d3 : IntKind.i64.wrap ((a + n) % 8) = (a + n) % 8 := wrapi_small (by omega) (by omega)
  go_enter Tryz.func69, Tryz.ntmps69
  go_wp2
  go_ret
  exact ⟨rfl, rfl⟩
/-! ### load, store -/
set_option maxRecDepth 100000 in
theorem ld_any (p b N : Nat) (f a n i : Int) (M : Nat → Nat → Int) (w : World) (hM : Mx w p b N M) (hf : okF N f = true) (hi : 0 ≤ i ∧ i < 24) : Calls Tryz.prog 85 #[.agg #[.pointer (some ⟨p, 0, none⟩), .int .i64 f, .int .u64 a, .int .u64 n], .int .i64 i] w fun e w' => e = .returned (.tuple #[.int .u64 (M f.toNat (12 + i).toNat), .int .i64 0]) ∧ Below w.heap.size w w' := by
  have o := okW_ring hf (i := 12 + i) (by omega) (by omega)
  have HL : Hid (∀ wc, Mx wc p b N M → Calls Tryz.prog 55 #[.pointer (some ⟨p, 0, none⟩), .int .i64 f, .int .i64 (12 + i)] wc fun e w' => e = .returned (.tuple #[.int .u64 (M f.toNat (12 + i).toNat), .int .i64 0]) ∧ w' = wc) := fun wc h => by
    have := Pmem.load_any p b N f (12 + i) M wc h.n1 h.n64 h.mem
    rwa [show errW N f (12 + i) = 0 by unfold errW; rw [o]; rfl, show ldM N M f (12 + i) = M f.toNat (12 + i).toNat by unfold ldM; rw [o]; rfl] at this
  have HM : Hid (Mx (w.alloc (.cells #[.pointer (some ⟨p, 0, none⟩), .int .i64 f, .int .u64 a, .int .u64 n] 116)) p b N M) := hM.on (bal (Below.refl _ _) _)
  have d : wrap64 (12 + i) = 12 + i := by unfold wrap64; omega
  generalize M f.toNat (12 + i).toNat = v at HL ⊢
  clear o hM hf hi
  go_enter Tryz.func85, Tryz.ntmps85
  go_wp2_with (first
    | (go_at_call 55; refine (HL.out _ HM.out).mono ?_; rintro e1 w1 ⟨rfl, hw⟩; subst w1; clear HL)
    | fail)
  go_ret2
  exact ⟨rfl, bal (Below.refl _ _) _⟩
set_option maxRecDepth 100000 in
theorem st_any (p b N : Nat) (f a n i v : Int) (M : Nat → Nat → Int) (w : World) (hM : Mx w p b N M) (hf : okF N f = true) (hi : 0 ≤ i ∧ i < 24) (hv : 0 ≤ v ∧ v ≤ 18446744073709551615) : Calls Tryz.prog 68 #[.agg #[.pointer (some ⟨p, 0, none⟩), .int .i64 f, .int .u64 a, .int .u64 n], .int .i64 i, .int .u64 v] w fun e w' => e = .returned (.int .i64 0) ∧ Mx w' p b N (stW N M f (12 + i) v) ∧ But b w w' := by
  have o := okW_ring hf (i := 12 + i) (by omega) (by omega)
  have HM : Hid (Mx (w.alloc (.cells #[.pointer (some ⟨p, 0, none⟩), .int .i64 f, .int .u64 a, .int .u64 n] 116)) p b N M) := hM.on (bal (Below.refl _ _) _)
  have HB : Hid (But b w (w.alloc (.cells #[.pointer (some ⟨p, 0, none⟩), .int .i64 f, .int .u64 a, .int .u64 n] 116))) := But.of_below b (bal (Below.refl _ _) _)
  have HL : Hid (∀ wc, Mx wc p b N M → Calls Tryz.prog 14 #[.pointer (some ⟨p, 0, none⟩), .int .i64 f, .int .i64 (12 + i), .int .u64 v] wc fun e w' => e = .returned (.int .i64 0) ∧ Mx w' p b N (stW N M f (12 + i) v) ∧ But b wc w') := fun wc h => by
    have := store_any p b N f (12 + i) v M wc h.n1 h.n64 h.mem
    rw [show errW N f (12 + i) = 0 by unfold errW; rw [o]; rfl] at this
    exact this.mono fun e w' ⟨q1, q2⟩ => ⟨q1, by rw [q2]; exact h.but (h.mem.set _) (h.fit.st N f _ v hv) ((But.refl b wc).setRow _), by rw [q2]; exact (But.refl b wc).setRow _⟩
  have d : wrap64 (12 + i) = 12 + i := by unfold wrap64; omega
  generalize stW N M f (12 + i) v = M1 at HL ⊢
  clear o hM hf hi
  go_enter Tryz.func68, Tryz.ntmps68
  go_wp2_with (first
    | (go_at_call 14; refine (HL.out _ HM.out).mono ?_; rintro e1 w1 ⟨rfl, hm, hb⟩; have H1 := rhide (And.intro hm (HB.out.trans hb)); clear hm hb HL)
    | fail)
  go_ret
  exact ⟨rfl, H1.out.1, H1.out.2⟩
/-! ### reach -/
/-- A memory and a ring that was handed in. -/
structure Rr (w W : World) (p b N : Nat) (M : Nat → Nat → Int) (E : Nat) (f a n : Int) : Prop where
  mx : Mx W p b N M
  rc : RowN W E p f a n
  el : w.heap.size ≤ E
  but : But b w W
section
variable {w W W' : World} {p b N : Nat} {M M' : Nat → Nat → Int} {E : Nat} {f a n : Int}
theorem Rr.on (h : Rr w W p b N M E f a n) (hB : Below W.heap.size W W') : Rr w W' p b N M E f a n := ⟨h.mx.on hB, h.rc.on hB, h.el, h.but.trans (But.of_below b hB)⟩
theorem Rr.turn (h : Rr w W p b N M E f a n) (hl : b < w.heap.size) (hX : Mx W' p b N M') (hB : But b W W') : Rr w W' p b N M' E f a n := ⟨hX, h.rc.but hB (by have := h.el; omega), h.el, h.but.trans hB⟩
theorem rr_new (h : Mx W p b N M) (hB : Below w.heap.size w W) (f a n : Int) : Rr w (W.alloc (.cells #[.pointer (some ⟨p, 0, none⟩), .int .i64 f, .int .u64 a, .int .u64 n] 116)) p b N M W.heap.size f a n := ⟨h.on (bal (Below.refl _ _) _), rowN_new W p f a n, hB.size, But.of_below b (bal hB _)⟩
end
set_option maxRecDepth 100000 in
set_option maxHeartbeats 1000000 in
theorem reach_any (p b N : Nat) (f a n u v : Int) (M : Nat → Nat → Int) (w : World) (hM : Mx w p b N M) (hf : okF N f = true) (hu : 0 ≤ u ∧ u ≤ 18446744073709551615) (hv : 0 ≤ v ∧ v ≤ 18446744073709551615) : Calls Tryz.prog 70 #[.agg #[.pointer (some ⟨p, 0, none⟩), .int .i64 f, .int .u64 a, .int .u64 n], .int .u64 u, .int .u64 v] w fun e w' => e = .returned (.int .i64 0) ∧ Mx w' p b N (stW N (stW N M f 12 u) f 13 v) ∧ But b w w' := by
  have hlb := hM.ltb
  have H0 := rhide (rr_new hM (Below.refl _ _) f a n)
  have HS0 : Hid (∀ wc, Rr w wc p b N M w.heap.size f a n → Calls Tryz.prog 68 #[.agg #[.pointer (some ⟨p, 0, none⟩), .int .i64 f, .int .u64 a, .int .u64 n], .int .i64 0, .int .u64 u] wc fun e w' => e = .returned (.int .i64 0) ∧ Rr w w' p b N (stW N M f 12 u) w.heap.size f a n) := fun wc h => (st_any p b N f a n 0 u M wc h.mx hf (by omega) hu).mono fun e w' ⟨q1, q2, q3⟩ => ⟨q1, h.turn hlb q2 q3⟩
  have HS1 : Hid (∀ wc, Rr w wc p b N (stW N M f 12 u) w.heap.size f a n → Calls Tryz.prog 68 #[.agg #[.pointer (some ⟨p, 0, none⟩), .int .i64 f, .int .u64 a, .int .u64 n], .int .i64 1, .int .u64 v] wc fun e w' => e = .returned (.int .i64 0) ∧ Rr w w' p b N (stW N (stW N M f 12 u) f 13 v) w.heap.size f a n) := fun wc h => (st_any p b N f a n 1 v _ wc h.mx hf (by omega) hv).mono fun e w' ⟨q1, q2, q3⟩ => ⟨q1, h.turn hlb q2 q3⟩
  generalize stW N (stW N M f 12 u) f 13 v = M2 at HS1 ⊢
  generalize stW N M f 12 u = M1 at HS0 HS1
  clear hM hf hu hv hlb
  go_enter Tryz.func70, Tryz.ntmps70
  go_wp2_with (first
    | (go_at_call 68; refine (HS0.out _ H0.out).mono ?_; rintro e1 w1 ⟨rfl, hw⟩; have H1 := rhide hw; clear hw HS0 H0; have x0 := H1.out.rc.c0; have x1 := H1.out.rc.c1; have x2 := H1.out.rc.c2; have x3 := H1.out.rc.c3)
    | (go_at_call 68; refine (HS1.out _ H1.out).mono ?_; rintro e2 w2 ⟨rfl, hw⟩; have H2 := rhide hw; clear hw HS1 H1)
    | fail)
  go_ret
  exact ⟨rfl, H2.out.mx, H2.out.but⟩
/-! ### find -/
def pzr (E : Int) (p : Nat) : Option Addr := if E = 0 then some ⟨p, 0, none⟩ else none
theorem pzr_yes (p : Nat) : pzr 0 p = some ⟨p, 0, none⟩ := rfl
theorem pzr_no {E : Int} (h : E ≠ 0) (p : Nat) : pzr E p = none := by unfold pzr; rw [if_neg h]
/-- The zero ring; a ring. -/
def z4 : List Value := [.pointer none, .int .i64 0, .int .u64 0, .int .u64 0]
def r4 (p : Nat) (f a n : Int) : List Value := [.pointer (some ⟨p, 0, none⟩), .int .i64 f, .int .u64 a, .int .u64 n]
structure Fi (w W : World) (p b N : Nat) (M : Nat → Nat → Int) : Prop where
  m0 : Mx w p b N M
  res : RowV W w.heap.size z4
  below : Below w.heap.size w W
structure Fj (w W : World) (p b N : Nat) (M : Nat → Nat → Int) (D : Nat) (f a n : Int) : Prop where
  fi : Fi w W p b N M
  r : RowV W D (r4 p f a n)
  ne : w.heap.size < D
section
variable {w W W' : World} {p b N : Nat} {M : Nat → Nat → Int} {D : Nat} {f a n : Int}
theorem fi_new (h : Mx w p b N M) : Fi w (w.alloc (.cells #[.pointer none, .int .i64 0, .int .u64 0, .int .u64 0] 116)) p b N M := ⟨h, rowV_new w z4 116, bal (Below.refl _ _) _⟩
theorem Fi.on (h : Fi w W p b N M) (hB : Below W.heap.size W W') : Fi w W' p b N M := ⟨h.m0, h.res.on hB, h.below.trans (hB.mono h.below.size)⟩
theorem Fi.mx (h : Fi w W p b N M) : Mx W p b N M := h.m0.on h.below
theorem Fi.more (h : Fi w W p b N M) (f : Int) : Fj w (W.alloc (.cells #[.pointer (some ⟨p, 0, none⟩), .int .i64 f, .int .u64 0, .int .u64 0] 116)) p b N M W.heap.size f 0 0 := ⟨h.on (bal (Below.refl _ _) _), rowV_new W (r4 p f 0 0) 116, h.res.lt⟩
theorem Fj.on (h : Fj w W p b N M D f a n) (hB : Below W.heap.size W W') : Fj w W' p b N M D f a n := ⟨h.fi.on hB, h.r.on hB, h.ne⟩
theorem Fj.seta (h : Fj w W p b N M D f a n) (u : Int) : Fj w (W.setCell ⟨D, 2, none⟩ (.int .u64 u)) p b N M D f u n := ⟨⟨h.fi.m0, h.fi.res.other (Nat.ne_of_lt h.ne) _ _, bst h.fi.below (Nat.le_of_lt h.ne) _ _⟩, h.r.set 2 (.int .u64 u), h.ne⟩
theorem Fj.setn (h : Fj w W p b N M D f a n) (u : Int) : Fj w (W.setCell ⟨D, 3, none⟩ (.int .u64 u)) p b N M D f a u := ⟨⟨h.fi.m0, h.fi.res.other (Nat.ne_of_lt h.ne) _ _, bst h.fi.below (Nat.le_of_lt h.ne) _ _⟩, h.r.set 3 (.int .u64 u), h.ne⟩
theorem z4_cells (h : RowV W D z4) : W.cell? ⟨D, 0, none⟩ = some (.pointer none) ∧ W.cell? ⟨D, 1, none⟩ = some (.int .i64 0) ∧ W.cell? ⟨D, 2, none⟩ = some (.int .u64 0) ∧ W.cell? ⟨D, 3, none⟩ = some (.int .u64 0) := ⟨h.cell 0, h.cell 1, h.cell 2, h.cell 3⟩
theorem r4_cells (h : RowV W D (r4 p f a n)) : W.cell? ⟨D, 0, none⟩ = some (.pointer (some ⟨p, 0, none⟩)) ∧ W.cell? ⟨D, 1, none⟩ = some (.int .i64 f) ∧ W.cell? ⟨D, 2, none⟩ = some (.int .u64 a) ∧ W.cell? ⟨D, 3, none⟩ = some (.int .u64 n) := ⟨h.cell 0, h.cell 1, h.cell 2, h.cell 3⟩
theorem four_below (h : Below w.heap.size w W) (s t u v : Value) : Below w.heap.size w ((((W.setCell ⟨w.heap.size, 0, none⟩ s).setCell ⟨w.heap.size, 1, none⟩ t).setCell ⟨w.heap.size, 2, none⟩ u).setCell ⟨w.heap.size, 3, none⟩ v) := bst (bst (bst (bst h (Nat.le_refl _) _ _) (Nat.le_refl _) _ _) (Nat.le_refl _) _ _) (Nat.le_refl _) _ _
end
set_option maxRecDepth 100000 in
set_option maxHeartbeats 1000000 in
theorem find_type (p b N : Nat) (f : Int) (M : Nat → Nat → Int) (w : World) (hM : Mx w p b N M) (hi : Phead.isE N M f 6 ≠ 0) : Calls Tryz.prog 67 #[.pointer (some ⟨p, 0, none⟩), .int .i64 f] w fun e w' => e = .returned (.tuple #[.agg #[.pointer none, .int .i64 0, .int .u64 0, .int .u64 0], .int .i64 4]) ∧ Below w.heap.size w w' := by
  have H0 := rhide (fi_new hM)
  have HI : Hid (∀ wc, Fi w wc p b N M → Calls Tryz.prog 84 #[.pointer (some ⟨p, 0, none⟩), .int .i64 f] wc fun e w' => e = .returned (.bool false) ∧ Below wc.heap.size wc w') := fun wc h => by
    have := isEnd_any p b N f M wc h.mx
    rwa [show (Phead.isE N M f 6 == 0) = false by simp [hi]] at this
  clear hM hi
  go_enter Tryz.func67, Tryz.ntmps67
  go_wp2_with (first
    | (go_at_call 84; refine (HI.out _ H0.out).mono ?_; rintro e1 w1 ⟨rfl, hb⟩; have H1 := rhide (H0.out.on hb); clear hb HI H0; obtain ⟨x0, x1, x2, x3⟩ := z4_cells H1.out.res; have z := H1.out.res.fz)
    | fail)
  refine bodyPost_ret (v := .tuple #[.agg #[.pointer none, .int .i64 0, .int .u64 0, .int .u64 0], .int .i64 4]) (by simp [results, Tryz.results67, go_sem, x0, x1, x2, x3]) rfl ⟨rfl, ?_⟩
  exact four_below H1.out.below _ _ _ _
set_option maxRecDepth 100000 in
set_option maxHeartbeats 2000000 in
theorem find_in (p b N : Nat) (f : Int) (M : Nat → Nat → Int) (w : World) (hM : Mx w p b N M) (hi : Phead.isE N M f 6 = 0) : Calls Tryz.prog 67 #[.pointer (some ⟨p, 0, none⟩), .int .i64 f] w fun e w' => e = .returned (.tuple #[.agg #[.pointer (pzr (plE N M f) p), .int .i64 (zif (plE N M f) f), .int .u64 (zif (plE N M f) (bgI M f)), .int .u64 (zif (plE N M f) (cnI M f))], .int .i64 (plE N M f)]) ∧ Below w.heap.size w w' := by
  have H0 := rhide (fi_new hM)
  have hf := isE_ok hi
  have HI : Hid (∀ wc, Fi w wc p b N M → Calls Tryz.prog 84 #[.pointer (some ⟨p, 0, none⟩), .int .i64 f] wc fun e w' => e = .returned (.bool true) ∧ Below wc.heap.size wc w') := fun wc h => by
    have := isEnd_any p b N f M wc h.mx
    rwa [show (Phead.isE N M f 6 == 0) = true by simp [hi]] at this
  have HL0 : Hid (∀ D wc, Fj w wc p b N M D f 0 0 → Calls Tryz.prog 85 #[.agg #[.pointer (some ⟨p, 0, none⟩), .int .i64 f, .int .u64 0, .int .u64 0], .int .i64 0] wc fun e w' => e = .returned (.tuple #[.int .u64 (bgI M f), .int .i64 0]) ∧ Below wc.heap.size wc w') := fun D wc h => ld_any p b N f 0 0 0 M wc h.fi.mx hf (by omega)
  have HL1 : Hid (∀ D wc, Fj w wc p b N M D f (bgI M f) 0 → Calls Tryz.prog 85 #[.agg #[.pointer (some ⟨p, 0, none⟩), .int .i64 f, .int .u64 (bgI M f), .int .u64 0], .int .i64 1] wc fun e w' => e = .returned (.tuple #[.int .u64 (cnI M f), .int .i64 0]) ∧ Below wc.heap.size wc w') := fun D wc h => ld_any p b N f (bgI M f) 0 1 M wc h.fi.mx hf (by omega)
  by_cases hp : bgI M f < 8 ∧ cnI M f ≤ 8
  · have e : plE N M f = 0 := by unfold plE; rw [if_pos hi, if_pos hp]
    rw [e, zif_yes, zif_yes, zif_yes, pzr_yes]
    generalize bgI M f = a at HL0 HL1 hp ⊢
    generalize cnI M f = n at HL1 hp ⊢
    have g1 : ¬ 8 ≤ a := by omega
    have g2 : ¬ 8 < n := by omega
    clear e hp hi hf hM
    go_enter Tryz.func67, Tryz.ntmps67
    go_upto_region 5 with (first
      | (go_at_call 84; refine (HI.out _ H0.out).mono ?_; rintro e1 w1 ⟨rfl, hb⟩; have H1 := rhide ((H0.out.on hb).more f); clear hb HI H0)
      | fail)
    generalize w1.alloc _ = v1 at H1 ⊢
    generalize w1.heap.size = D at H1 ⊢
    obtain ⟨x0, x1, x2, x3⟩ := r4_cells H1.out.r
    go_upto_region 6 with (first
      | (go_at_call 85; refine (HL0.out _ _ H1.out).mono ?_; rintro e2 w2 ⟨rfl, hb⟩; have H2 := rhide (H1.out.on hb); clear hb HL0 H1 x0 x1 x2 x3; obtain ⟨x0, x1, x2, x3⟩ := r4_cells H2.out.r; have z2 := H2.out.r.fz 2)
      | fail)
    have H3 := rhide (H2.out.seta a)
    clear H2 x0 x1 x2 x3 z2
    generalize w2.setCell _ _ = v2 at H3 ⊢
    obtain ⟨x0, x1, x2, x3⟩ := r4_cells H3.out.r
    go_upto_region 9 with (first
      | (go_at_call 85; refine (HL1.out _ _ H3.out).mono ?_; rintro e4 w4 ⟨rfl, hb⟩; have H4 := rhide (H3.out.on hb); clear hb HL1 H3 x0 x1 x2 x3; obtain ⟨x0, x1, x2, x3⟩ := r4_cells H4.out.r; have z3 := H4.out.r.fz 3)
      | fail)
    have H5 := rhide (H4.out.setn n)
    clear H4 x0 x1 x2 x3 z3
    generalize w4.setCell _ _ = v4 at H5 ⊢
    obtain ⟨x0, x1, x2, x3⟩ := r4_cells H5.out.r
    obtain ⟨y0, y1, y2, y3⟩ := z4_cells H5.out.fi.res
    have z := H5.out.fi.res.fz
    go_wp2
    refine bodyPost_ret (v := .tuple #[.agg #[.pointer (some ⟨p, 0, none⟩), .int .i64 f, .int .u64 a, .int .u64 n], .int .i64 0]) (by simp [results, Tryz.results67, go_sem, y0, y1, y2, y3]) rfl ⟨rfl, ?_⟩
    exact four_below H5.out.fi.below _ _ _ _
  · have e : plE N M f = 12 := by unfold plE; rw [if_pos hi, if_neg hp]
    rw [e, zif_no (by decide), zif_no (by decide), zif_no (by decide), pzr_no (by decide)]
    generalize bgI M f = a at HL0 HL1 hp
    generalize cnI M f = n at HL1 hp
    have g : 8 ≤ a ∨ (¬ 8 ≤ a ∧ 8 < n) := by omega
    clear e hp hi hf hM
    go_enter Tryz.func67, Tryz.ntmps67
    go_upto_region 5 with (first
      | (go_at_call 84; refine (HI.out _ H0.out).mono ?_; rintro e1 w1 ⟨rfl, hb⟩; have H1 := rhide ((H0.out.on hb).more f); clear hb HI H0)
      | fail)
    generalize w1.alloc _ = v1 at H1 ⊢
    generalize w1.heap.size = D at H1 ⊢
    obtain ⟨x0, x1, x2, x3⟩ := r4_cells H1.out.r
    go_upto_region 6 with (first
      | (go_at_call 85; refine (HL0.out _ _ H1.out).mono ?_; rintro e2 w2 ⟨rfl, hb⟩; have H2 := rhide (H1.out.on hb); clear hb HL0 H1 x0 x1 x2 x3; obtain ⟨x0, x1, x2, x3⟩ := r4_cells H2.out.r; have z2 := H2.out.r.fz 2)
      | fail)
    have H3 := rhide (H2.out.seta a)
    clear H2 x0 x1 x2 x3 z2
    generalize w2.setCell _ _ = v2 at H3 ⊢
    obtain ⟨x0, x1, x2, x3⟩ := r4_cells H3.out.r
    go_upto_region 9 with (first
      | (go_at_call 85; refine (HL1.out _ _ H3.out).mono ?_; rintro e4 w4 ⟨rfl, hb⟩; have H4 := rhide (H3.out.on hb); clear hb HL1 H3 x0 x1 x2 x3; obtain ⟨x0, x1, x2, x3⟩ := r4_cells H4.out.r; have z3 := H4.out.r.fz 3)
      | fail)
    have H5 := rhide (H4.out.setn n)
    clear H4 x0 x1 x2 x3 z3
    generalize w4.setCell _ _ = v4 at H5 ⊢
    obtain ⟨x0, x1, x2, x3⟩ := r4_cells H5.out.r
    obtain ⟨y0, y1, y2, y3⟩ := z4_cells H5.out.fi.res
    have z := H5.out.fi.res.fz
    rcases g with g | ⟨g, g'⟩
    all_goals
      go_wp2
      refine bodyPost_ret (v := .tuple #[.agg #[.pointer none, .int .i64 0, .int .u64 0, .int .u64 0], .int .i64 12]) (by simp [results, Tryz.results67, go_sem, y0, y1, y2, y3]) rfl ⟨rfl, ?_⟩
      exact four_below H5.out.fi.below _ _ _ _
theorem find_any (p b N : Nat) (f : Int) (M : Nat → Nat → Int) (w : World) (hM : Mx w p b N M) : Calls Tryz.prog 67 #[.pointer (some ⟨p, 0, none⟩), .int .i64 f] w fun e w' => e = .returned (.tuple #[.agg #[.pointer (pzr (plE N M f) p), .int .i64 (zif (plE N M f) f), .int .u64 (zif (plE N M f) (bgI M f)), .int .u64 (zif (plE N M f) (cnI M f))], .int .i64 (plE N M f)]) ∧ Below w.heap.size w w' := by
  by_cases hi : Phead.isE N M f 6 = 0
  · exact find_in p b N f M w hM hi
  · have e : plE N M f = 4 := by unfold plE; rw [if_neg hi]
    rw [e, zif_no (by decide), zif_no (by decide), zif_no (by decide), pzr_no (by decide)]
    exact find_type p b N f M w hM hi
theorem find_yes (p b N : Nat) (f : Int) (M : Nat → Nat → Int) (w : World) (hM : Mx w p b N M) (hp : plE N M f = 0) : Calls Tryz.prog 67 #[.pointer (some ⟨p, 0, none⟩), .int .i64 f] w fun e w' => e = .returned (.tuple #[.agg #[.pointer (some ⟨p, 0, none⟩), .int .i64 f, .int .u64 (bgI M f), .int .u64 (cnI M f)], .int .i64 0]) ∧ Below w.heap.size w w' := by
  have := find_any p b N f M w hM
  rwa [hp, pzr_yes, zif_yes, zif_yes, zif_yes] at this
theorem find_no (p b N : Nat) (f : Int) (M : Nat → Nat → Int) (w : World) (hM : Mx w p b N M) (hp : plE N M f ≠ 0) : Calls Tryz.prog 67 #[.pointer (some ⟨p, 0, none⟩), .int .i64 f] w fun e w' => e = .returned (.tuple #[.agg #[.pointer none, .int .i64 0, .int .u64 0, .int .u64 0], .int .i64 (plE N M f)]) ∧ Below w.heap.size w w' := by
  have := find_any p b N f M w hM
  rwa [pzr_no hp, zif_no hp, zif_no hp, zif_no hp] at this
/-! ### Clear -/
/-! ### Put -/
set_option maxRecDepth 100000 in
set_option maxHeartbeats 2000000 in
theorem put_any (p b N : Nat) (f : Int) (x : Ev) (M : Nat → Nat → Int) (w : World) (hM : Mx w p b N M) : Calls Tryz.prog 45 #[.pointer (some ⟨p, 0, none⟩), .int .i64 f, .agg #[.int .i64 x.k, .int .i64 x.t]] w fun e w' => e = .returned (.int .i64 (puE N M f x)) ∧ Mx w' p b N (puM N M f x) ∧ But b w w' := by
  have hlb := hM.ltb
  have H0 : Hid (Mx (w.alloc (.cells #[.int .i64 x.k, .int .i64 x.t] 35)) p b N M ∧ Below w.heap.size w (w.alloc (.cells #[.int .i64 x.k, .int .i64 x.t] 35))) := ⟨hM.on (bal (Below.refl _ _) _), bal (Below.refl _ _) _⟩
  have HW : Hid (∀ wc, Mx wc p b N M → Calls Tryz.prog 66 #[.agg #[.int .i64 x.k, .int .i64 x.t]] wc fun e w' => e = .returned (.tuple #[.int .u64 (wdW x), .int .i64 (ckE x)]) ∧ Below wc.heap.size wc w') := fun wc h => word_any x wc h.wd
  have hF := hM.fit
  clear hM
  by_cases hx : Eo x
  case neg =>
    obtain ⟨e1, e2⟩ := pu_arg N M f hx
    rw [e1, e2]
    rw [wd_no hx, ck_no hx] at HW
    clear e1 e2 hx hF hlb
    go_enter Tryz.func45, Tryz.ntmps45
    go_wp2_with (first
      | (go_at_call 66; refine (HW.out _ H0.out.1).mono ?_; rintro e1 w1 ⟨rfl, hb⟩; have H1 : Hid (Mx w1 p b N M ∧ Below w.heap.size w w1) := ⟨H0.out.1.on hb, H0.out.2.trans (hb.mono H0.out.2.size)⟩; clear hb HW H0)
      | fail)
    go_ret
    exact ⟨rfl, H1.out.1, But.of_below b H1.out.2⟩
  case pos =>
  rw [wd_yes hx, ck_yes hx] at HW
  by_cases hp : plE N M f = 0
  case neg =>
    obtain ⟨e1, e2⟩ := pu_pl hx hp
    rw [e1, e2]
    have HP : Hid (∀ wc, Mx wc p b N M → Calls Tryz.prog 67 #[.pointer (some ⟨p, 0, none⟩), .int .i64 f] wc fun e w' => e = .returned (.tuple #[.agg #[.pointer none, .int .i64 0, .int .u64 0, .int .u64 0], .int .i64 (plE N M f)]) ∧ Below wc.heap.size wc w') := fun wc h => find_no p b N f M wc h hp
    generalize plE N M f = E at HP hp ⊢
    generalize ewd x = z at HW
    have hE : (E != 0) = true := by simp [hp]
    clear e1 e2 hx hF hp hlb
    go_enter Tryz.func45, Tryz.ntmps45
    go_wp2_with (first
      | (go_at_call 66; refine (HW.out _ H0.out.1).mono ?_; rintro e1 w1 ⟨rfl, hb⟩; have H1 : Hid (Mx w1 p b N M ∧ Below w.heap.size w w1) := ⟨H0.out.1.on hb, H0.out.2.trans (hb.mono H0.out.2.size)⟩; clear hb HW H0)
      | (go_at_call 67; refine (HP.out _ H1.out.1).mono ?_; rintro e2 w2 ⟨rfl, hb⟩; have H2 : Hid (Mx (w2.alloc (.cells #[.pointer none, .int .i64 0, .int .u64 0, .int .u64 0] 116)) p b N M ∧ Below w.heap.size w (w2.alloc (.cells #[.pointer none, .int .i64 0, .int .u64 0, .int .u64 0] 116))) := ⟨(H1.out.1.on hb).on (bal (Below.refl _ _) _), bal (H1.out.2.trans (hb.mono H1.out.2.size)) _⟩; clear hb HP H1)
      | fail)
    go_ret
    exact ⟨rfl, H2.out.1, But.of_below b H2.out.2⟩
  case pos =>
  obtain ⟨_, hf, ha, hn⟩ := pl_yes hF hp
  have HP : Hid (∀ wc, Mx wc p b N M → Calls Tryz.prog 67 #[.pointer (some ⟨p, 0, none⟩), .int .i64 f] wc fun e w' => e = .returned (.tuple #[.agg #[.pointer (some ⟨p, 0, none⟩), .int .i64 f, .int .u64 (bgI M f), .int .u64 (cnI M f)], .int .i64 0]) ∧ Below wc.heap.size wc w') := fun wc h => find_yes p b N f M wc h hp
  by_cases hc : cnI M f = 8
  · obtain ⟨e1, e2⟩ := pu_full hx hp hc
    rw [e1, e2]
    rw [hc] at HP
    generalize bgI M f = a at HP
    generalize ewd x = z at HW
    clear e1 e2 hx hF hp hc ha hn hf hlb
    go_enter Tryz.func45, Tryz.ntmps45
    go_wp2_with (first
      | (go_at_call 66; refine (HW.out _ H0.out.1).mono ?_; rintro e1 w1 ⟨rfl, hb⟩; have H1 : Hid (Mx w1 p b N M ∧ Below w.heap.size w w1) := ⟨H0.out.1.on hb, H0.out.2.trans (hb.mono H0.out.2.size)⟩; clear hb HW H0)
      | (go_at_call 67; refine (HP.out _ H1.out.1).mono ?_; rintro e2 w2 ⟨rfl, hb⟩; have H2 := rhide (rr_new (w := w) (H1.out.1.on hb) (H1.out.2.trans (hb.mono H1.out.2.size)) f a 8); clear hb HP H1)
      | fail)
    go_ret
    exact ⟨rfl, H2.out.mx, H2.out.but⟩
  · obtain ⟨e1, e2⟩ := pu_ok hx hp hc
    rw [e1, e2]
    have HPl : Hid (∀ wc, Calls Tryz.prog 69 #[.int .u64 (bgI M f), .int .u64 (cnI M f)] wc fun e w' => e = .returned (.int .i64 ((bgI M f + cnI M f) % 8)) ∧ w' = wc) := fun wc => plU_any _ _ ha hn wc
    have HS : Hid (∀ E wc, Rr w wc p b N M E f (bgI M f) (cnI M f) → Calls Tryz.prog 68 #[.agg #[.pointer (some ⟨p, 0, none⟩), .int .i64 f, .int .u64 (bgI M f), .int .u64 (cnI M f)], .int .i64 (2 + (bgI M f + cnI M f) % 8), .int .u64 (ewd x)] wc fun e w' => e = .returned (.int .i64 0) ∧ Rr w w' p b N (stW N M f (14 + (bgI M f + cnI M f) % 8) (ewd x)) E f (bgI M f) (cnI M f)) := fun E wc h => by
      have := st_any p b N f (bgI M f) (cnI M f) (2 + (bgI M f + cnI M f) % 8) (ewd x) M wc h.mx hf (by omega) (ewd_bd hx)
      rw [show 12 + (2 + (bgI M f + cnI M f) % 8) = 14 + (bgI M f + cnI M f) % 8 by omega] at this
      exact this.mono fun e w' ⟨q1, q2, q3⟩ => ⟨q1, h.turn hlb q2 q3⟩
    have hkeep : stW N (stW N (stW N M f (14 + (bgI M f + cnI M f) % 8) (ewd x)) f 12 (bgI M f)) f 13 (cnI M f + 1) = stW N (stW N M f (14 + (bgI M f + cnI M f) % 8) (ewd x)) f 13 (cnI M f + 1) := by
      congr 1
      have hk := okW_ring hf (i := 12) (by omega) (by omega)
      have hk2 := okW_ring hf (i := 14 + (bgI M f + cnI M f) % 8) (by omega) (by omega)
      funext g c
      unfold stW
      rw [if_pos hk, if_pos hk2]
      split
      · rename_i h12
        rw [h12.1, h12.2, if_neg (by rintro ⟨_, h⟩; omega)]
        rfl
      · rfl
    have HR : Hid (∀ E wc, Rr w wc p b N (stW N M f (14 + (bgI M f + cnI M f) % 8) (ewd x)) E f (bgI M f) (cnI M f) → Calls Tryz.prog 70 #[.agg #[.pointer (some ⟨p, 0, none⟩), .int .i64 f, .int .u64 (bgI M f), .int .u64 (cnI M f)], .int .u64 (bgI M f), .int .u64 (cnI M f + 1)] wc fun e w' => e = .returned (.int .i64 0) ∧ Mx w' p b N (stW N (stW N M f (14 + (bgI M f + cnI M f) % 8) (ewd x)) f 13 (cnI M f + 1)) ∧ But b w w') := fun E wc h => by
      have := reach_any p b N f (bgI M f) (cnI M f) (bgI M f) (cnI M f + 1) _ wc h.mx hf (by omega) (by omega)
      rw [hkeep] at this
      exact this.mono fun e w' ⟨q1, q2, q3⟩ => ⟨q1, q2, h.but.trans q3⟩
    generalize stW N (stW N M f (14 + (bgI M f + cnI M f) % 8) (ewd x)) f 13 (cnI M f + 1) = M2 at HR ⊢
    generalize stW N M f (14 + (bgI M f + cnI M f) % 8) (ewd x) = M1 at HS HR
    generalize ewd x = z at HW HS
    clear hkeep
    generalize bgI M f = a at HP HPl HS HR ha
    generalize cnI M f = n at HP HPl HS HR hn hc
    have d1 : IntKind.i64.wrap (2 + (a + n) % 8) = 2 + (a + n) % 8 := wrapi_small (by omega) (by omega)
    have d1' : wrap64 (2 + (a + n) % 8) = 2 + (a + n) % 8 := by unfold wrap64; omega
    have d2 : IntKind.u64.wrap (n + 1) = n + 1 := wrapu_small (by omega) (by omega)
    have h8 : (n == 8) = false := by simp [hc]
    clear e1 e2 hx hF hp hc ha hn hf hlb
    go_enter Tryz.func45, Tryz.ntmps45
    go_upto_region 5 with (first
      | (go_at_call 66; refine (HW.out _ H0.out.1).mono ?_; rintro e1 w1 ⟨rfl, hb⟩; have H1 : Hid (Mx w1 p b N M ∧ Below w.heap.size w w1) := ⟨H0.out.1.on hb, H0.out.2.trans (hb.mono H0.out.2.size)⟩; clear hb HW H0)
      | (go_at_call 67; refine (HP.out _ H1.out.1).mono ?_; rintro e2 w2 ⟨rfl, hb⟩; have H2 := rhide (rr_new (w := w) (H1.out.1.on hb) (H1.out.2.trans (hb.mono H1.out.2.size)) f a n); clear hb HP H1)
      | fail)
    generalize w2.alloc _ = v2 at H2 ⊢
    generalize w2.heap.size = D at H2 ⊢
    have x0 := H2.out.rc.c0
    have x1 := H2.out.rc.c1
    have x2 := H2.out.rc.c2
    have x3 := H2.out.rc.c3
    go_upto_region 9 with fail
    go_region_held3 (fun w' => w'.cell? ⟨D, 0, none⟩ = some (.pointer (some ⟨p, 0, none⟩)) ∧ w'.cell? ⟨D, 1, none⟩ = some (.int .i64 f) ∧ w'.cell? ⟨D, 2, none⟩ = some (.int .u64 a) ∧ w'.cell? ⟨D, 3, none⟩ = some (.int .u64 n)) (first | (refine ⟨?_, ?_, ?_, ?_⟩ <;> with_reducible assumption) | go_keep)
    (first
      | (go_at_call 69; refine (HPl.out _).mono ?_; rintro e3 w3 ⟨rfl, hw⟩; subst w3)
      | (go_at_call 68; refine (HS.out _ _ (by first | exact H2.out | exact H2.out.on (Below.refl _ _).drew)).mono ?_; rintro e4 w4 ⟨rfl, hw⟩; have H4 := rhide hw; clear hw HS H2 x0 x1 x2 x3; have x0 := H4.out.rc.c0; have x1 := H4.out.rc.c1; have x2 := H4.out.rc.c2; have x3 := H4.out.rc.c3)
      | fail)
    all_goals
      go_wp2_with (first
        | (go_at_call 70; refine (HR.out _ _ (by first | exact H4.out | exact H4.out.on (Below.refl _ _).drew)).mono ?_; rintro e5 w5 ⟨rfl, hw⟩; have H5 := rhide hw; clear hw HR H4)
        | fail)
      go_ret
      exact ⟨rfl, H5.out.1, H5.out.2⟩
end Go.Proofs.YtcoggdnpjpiacaaGreatDoor.Pring

/- The closures that Take hands to hand; hand with it; what Take of package ring answers and does (written by mk_c.py). -/
namespace Go.Proofs.YtcoggdnpjpiacaaGreatDoor.Pring
open Go.Proofs.YtcoggdnpjpiacaaGreatDoor.Pbase Go.Proofs.YtcoggdnpjpiacaaGreatDoor.Pfield Go.Proofs.YtcoggdnpjpiacaaGreatDoor.Play Go.Proofs.YtcoggdnpjpiacaaGreatDoor.Pmem
open Go.RowKit M
set_option linter.unusedVariables false

/-! ### the closure of Take -/
theorem but_set {b : Nat} (w : World) (j : Nat) (v : Value) : But b w (w.setCell ⟨b, j, none⟩ v) := by
  have h := (Below.refl b w).setCell (p := ⟨b, j, none⟩) (Nat.le_refl _) v
  exact ⟨h.os, h.tape, h.output, h.size, fun i _ hn => heap_setCell_other _ _ _ _ hn⟩
/-! ### hand -/
/-! ### Take -/
/-- A result, a ring in a block, the first event and a memory. -/
structure Ti (w W : World) (p b N : Nat) (M : Nat → Nat → Int) (D F : Nat) (f a c : Int) (x : Ev) : Prop where
  m0 : Mx w p b N M
  res : RowE W w.heap.size ev0
  r : RowN W D p f a c
  fst : RowE W F x
  below : Below w.heap.size w W
  n1 : w.heap.size < D
  n2 : w.heap.size < F
structure Tj (w W : World) (p b N : Nat) (M : Nat → Nat → Int) : Prop where
  m0 : Mx w p b N M
  res : RowE W w.heap.size ev0
  below : Below w.heap.size w W
section
variable {w W W' : World} {p b N : Nat} {M M' : Nat → Nat → Int} {D F : Nat} {f a c : Int} {x y : Ev}
theorem tj_new (h : Mx w p b N M) : Tj w (w.alloc (.cells #[.int .i64 0, .int .i64 0] 35)) p b N M := ⟨h, rowE_new w ev0, bal (Below.refl _ _) _⟩
theorem Tj.on (h : Tj w W p b N M) (hB : Below W.heap.size W W') : Tj w W' p b N M := ⟨h.m0, h.res.on hB, h.below.trans (hB.mono h.below.size)⟩
theorem Tj.mx (h : Tj w W p b N M) : Mx W p b N M := h.m0.on h.below
theorem Tj.more (h : Tj w W p b N M) (f a c : Int) : Ti w ((W.alloc (.cells #[.pointer (some ⟨p, 0, none⟩), .int .i64 f, .int .u64 a, .int .u64 c] 116)).alloc (.cells #[.int .i64 0, .int .i64 0] 35)) p b N M W.heap.size (W.heap.size + 1) f a c ev0 := by
  have b1 := bal (Below.refl W.heap.size W) (.cells #[.pointer (some ⟨p, 0, none⟩), .int .i64 f, .int .u64 a, .int .u64 c] 116)
  have b2 := bal (Below.refl (W.alloc (.cells #[.pointer (some ⟨p, 0, none⟩), .int .i64 f, .int .u64 a, .int .u64 c] 116)).heap.size (W.alloc (.cells #[.pointer (some ⟨p, 0, none⟩), .int .i64 f, .int .u64 a, .int .u64 c] 116))) (.cells #[.int .i64 0, .int .i64 0] 35)
  have r2 := rowE_new (W.alloc (.cells #[.pointer (some ⟨p, 0, none⟩), .int .i64 f, .int .u64 a, .int .u64 c] 116)) ev0
  rw [World.size_alloc] at r2
  have hl := h.res.lt
  exact ⟨h.m0, ((h.on b1).on b2).res, (rowN_new W p f a c).on b2, r2, ((h.on b1).on b2).below, hl, by omega⟩
theorem Ti.on (h : Ti w W p b N M D F f a c x) (hB : Below W.heap.size W W') : Ti w W' p b N M D F f a c x := ⟨h.m0, h.res.on hB, h.r.on hB, h.fst.on hB, h.below.trans (hB.mono h.below.size), h.n1, h.n2⟩
theorem Ti.mx (h : Ti w W p b N M D F f a c x) : Mx W p b N M := h.m0.on h.below
theorem rowN_ne {B p : Nat} (h : RowN W B p f a c) (k : RowE W F x) : B ≠ F := by
  rintro rfl
  have e := h.row
  rw [k.row] at e
  simp at e
theorem Ti.turn (h : Ti w W p b N M D F f a c x) (hx : RowE W' F y) (hB : But F W W') : Ti w W' p b N M D F f a c y :=
  ⟨h.m0, h.res.but hB (Nat.ne_of_lt h.n2), h.r.but hB (rowN_ne h.r h.fst), hx, h.below.trans (hB.below (Nat.le_of_lt h.n2) h.below.size), h.n1, h.n2⟩
theorem tk_but (h : Ti w W p b N M D F f a c x) (hB : But b W W') : W'.cell? ⟨F, 0, none⟩ = some (.int .i64 x.k) ∧ W'.cell? ⟨F, 1, none⟩ = some (.int .i64 x.t) ∧ W'.cell? ⟨D, 0, none⟩ = some (.pointer (some ⟨p, 0, none⟩)) ∧ W'.cell? ⟨D, 1, none⟩ = some (.int .i64 f) ∧ W'.cell? ⟨D, 2, none⟩ = some (.int .u64 a) ∧ W'.cell? ⟨D, 3, none⟩ = some (.int .u64 c) := by
  have hb := h.m0.ltb
  have r1 := h.fst.but hB (by have := h.n2; omega)
  have r2 := h.r.but hB (by have := h.n1; omega)
  exact ⟨r1.c0, r1.c1, r2.c0, r2.c1, r2.c2, r2.c3⟩
theorem set2_other (w : World) (q : Nat) (u v : Value) (B : Nat) (h : B ≠ q) : ((w.setCell ⟨q, 0, none⟩ u).setCell ⟨q, 1, none⟩ v).heap[B]? = w.heap[B]? :=
  (heap_setCell_other _ _ _ _ h).trans (heap_setCell_other _ _ _ _ h)
theorem tk_put2 (h : Ti w W p b N M D F f a c x) (hB : But b W W') (u v : Value) : ((W'.setCell ⟨w.heap.size, 0, none⟩ u).setCell ⟨w.heap.size, 1, none⟩ v).cell? ⟨F, 0, none⟩ = some (.int .i64 x.k) ∧ ((W'.setCell ⟨w.heap.size, 0, none⟩ u).setCell ⟨w.heap.size, 1, none⟩ v).cell? ⟨F, 1, none⟩ = some (.int .i64 x.t) ∧ ((W'.setCell ⟨w.heap.size, 0, none⟩ u).setCell ⟨w.heap.size, 1, none⟩ v).cell? ⟨D, 0, none⟩ = some (.pointer (some ⟨p, 0, none⟩)) ∧ ((W'.setCell ⟨w.heap.size, 0, none⟩ u).setCell ⟨w.heap.size, 1, none⟩ v).cell? ⟨D, 1, none⟩ = some (.int .i64 f) ∧ ((W'.setCell ⟨w.heap.size, 0, none⟩ u).setCell ⟨w.heap.size, 1, none⟩ v).cell? ⟨D, 2, none⟩ = some (.int .u64 a) ∧ ((W'.setCell ⟨w.heap.size, 0, none⟩ u).setCell ⟨w.heap.size, 1, none⟩ v).cell? ⟨D, 3, none⟩ = some (.int .u64 c) := by
  have h1 := set2_other W' w.heap.size u v F (Nat.ne_of_gt h.n2)
  have h2 := set2_other W' w.heap.size u v D (Nat.ne_of_gt h.n1)
  obtain ⟨k0, k1, k2, k3, k4, k5⟩ := tk_but h hB
  generalize (W'.setCell ⟨w.heap.size, 0, none⟩ u).setCell ⟨w.heap.size, 1, none⟩ v = W2 at h1 h2 ⊢
  have e1 : ∀ j, W2.cell? ⟨F, j, none⟩ = W'.cell? ⟨F, j, none⟩ := fun j => World.cell?_of_block (w := W') h1
  have e2 : ∀ j, W2.cell? ⟨D, j, none⟩ = W'.cell? ⟨D, j, none⟩ := fun j => World.cell?_of_block (w := W') h2
  exact ⟨(e1 _).trans k0, (e1 _).trans k1, (e2 _).trans k2, (e2 _).trans k3, (e2 _).trans k4, (e2 _).trans k5⟩
theorem but_on {b : Nat} {w W W' : World} (h : But b w W) (k : Below w.heap.size W W') : But b w W' :=
  ⟨k.os.trans h.os, k.tape.trans h.tape, k.output.trans h.output, Nat.le_trans h.size k.size, fun i hi hn => (k.block i hi).trans (h.block i hi hn)⟩
/-- The result's block is no part of the memory. -/
theorem tk_end (h0 : Mx w p b N M) (hm : Mx W p b N M') (hB : But b w W) (u v : Value) : Mx ((W.setCell ⟨w.heap.size, 0, none⟩ u).setCell ⟨w.heap.size, 1, none⟩ v) p b N M' ∧ But b w ((W.setCell ⟨w.heap.size, 0, none⟩ u).setCell ⟨w.heap.size, 1, none⟩ v) := by
  have ho := set2_other W w.heap.size u v
  have l1 := h0.mem.lt.1
  have l2 := h0.mem.lt.2
  have hb := but_on hB (((Below.refl w.heap.size W).setCell (p := ⟨w.heap.size, 0, none⟩) (Nat.le_refl _) u).setCell (p := ⟨w.heap.size, 1, none⟩) (Nat.le_refl _) v)
  exact ⟨h0.but (hm.mem.on (ho p (by omega)) (ho b (by omega))) hm.fit hb, hb⟩
end
end Go.Proofs.YtcoggdnpjpiacaaGreatDoor.Pring

/- The closure that All hands to hand; hand with it; what All of package ring answers (written by mk_c.py). -/
namespace Go.Proofs.YtcoggdnpjpiacaaGreatDoor.Pring
open Go.Proofs.YtcoggdnpjpiacaaGreatDoor.Pbase Go.Proofs.YtcoggdnpjpiacaaGreatDoor.Pfield Go.Proofs.YtcoggdnpjpiacaaGreatDoor.Play Go.Proofs.YtcoggdnpjpiacaaGreatDoor.Pmem
open Go.RowKit M
set_option linter.unusedVariables false

/-! ### the closure of All -/
/-- A list of events in a variable. -/
structure BoxS (W : World) (F : Nat) (v : Value) : Prop where
  row : W.heap[F]? = some (.cells #[v] 26 (0, 0))
section
variable {W W' : World} {F : Nat} {v : Value}
theorem BoxS.lt (h : BoxS W F v) : F < W.heap.size := (Array.getElem?_eq_some_iff.1 h.row).1
theorem BoxS.c0 (h : BoxS W F v) : W.cell? ⟨F, 0, none⟩ = some v := (cell_of_row _ _ _ _ _ _ h.row).trans rfl
theorem BoxS.fz (h : BoxS W F v) : W.frozen? ⟨F, 0, none⟩ = false := frozen_of_row _ _ _ _ _ h.row
theorem BoxS.on (h : BoxS W F v) (hB : Below W.heap.size W W') : BoxS W' F v := ⟨(hB.block F h.lt).trans h.row⟩
theorem BoxS.set (h : BoxS W F v) (u : Value) : BoxS (W.setCell ⟨F, 0, none⟩ u) F u := by
  refine ⟨?_⟩
  rw [heap_setCell_same _ _ _ _ _ _ h.row]
  simp
theorem boxS_new (W : World) (v : Value) : BoxS (W.alloc (.cells #[v] 26)) W.heap.size v := ⟨heap_alloc_new W _⟩
theorem rowN_neS {B p : Nat} {f a c : Int} (h : RowN W B p f a c) (k : BoxS W F v) : B ≠ F := by
  rintro rfl
  have e := h.row
  rw [k.row] at e
  simp at e
end
/-- What the closure leaves. -/
theorem all1_end {W v0 w1 : World} {base F k : Nat} {v v' : Value} {xs ys : List Value} {o : Obj} (hb : Below W.heap.size W v0) (hF : BoxS W F v) (hbF : base ≤ F) (hbW : base ≤ W.heap.size) (hr : v0.ownsRow base 35 2 v k xs) (hown : w1.ownsRow base 35 2 v' (k + 1) ys) (hg : (v0.alloc o).grownBy w1 v.ownBlock) :
    BoxS w1 F v ∧ BoxS (w1.setCell ⟨F, 0, none⟩ v') F v' ∧ (w1.setCell ⟨F, 0, none⟩ v').ownsRow base 35 2 v' (k + 1) ys ∧ Below base W (w1.setCell ⟨F, 0, none⟩ v') ∧ ∀ B p f a c, RowN W B p f a c → RowN (w1.setCell ⟨F, 0, none⟩ v') B p f a c := by
  have hv := hF.on hb
  have hva : BoxS (v0.alloc o) F v := hv.on (bal (Below.refl _ _) _)
  have h1 : BoxS w1 F v := ⟨(hg.block F hva.lt (fun e => own_ne hr hv.row (by decide) e.symm)).trans hva.row⟩
  have hB : Below base W w1 := ((hb.mono hbW).alloc (Nat.le_trans hbW hb.size) o).grown hg (by have := hb.size; simp; omega) (own_ge hr)
  refine ⟨h1, h1.set v', own_off hown (fun g e => heap_setCell_other _ _ _ _ (by rintro rfl; exact own_ne hown h1.row (by decide) e)), hB.setCell (p := ⟨F, 0, none⟩) hbF v', fun B p f a c hn => ?_⟩
  have hn0 := (hn.on hb)
  have hna := hn0.on (bal (Below.refl _ _) o)
  refine ⟨?_⟩
  rw [heap_setCell_other _ _ _ _ (rowN_neS hn hF)]
  exact (hg.block B hna.lt (fun e => own_ne hr hn0.row (by decide) e.symm)).trans hna.row
/-! ### hand -/
/-! ### All -/
/-- A ring in a block, the list that grows and a memory. -/
structure Ai (w W : World) (p b N : Nat) (M : Nat → Nat → Int) (D F : Nat) (f a c : Int) (k : Nat) : Prop where
  m0 : Mx w p b N M
  r : RowN W D p f a c
  lst : ∃ v, BoxS W F v ∧ W.ownsRow w.heap.size 35 2 v k (cellsL (allK M f k))
  below : Below w.heap.size w W
  n2 : w.heap.size ≤ F
section
variable {w W W' : World} {p b N : Nat} {M : Nat → Nat → Int} {D F : Nat} {f a c : Int} {k : Nat}
theorem Ai.mx (h : Ai w W p b N M D F f a c k) : Mx W p b N M := h.m0.on h.below
theorem Ai.on (h : Ai w W p b N M D F f a c k) (hB : Below W.heap.size W W') : Ai w W' p b N M D F f a c k := by
  obtain ⟨v, h1, h2⟩ := h.lst
  exact ⟨h.m0, h.r.on hB, ⟨v, h1.on hB, own_on h2 hB⟩, h.below.trans (hB.mono h.below.size), h.n2⟩
theorem ai_new (h : Mx w p b N M) (hB : Below w.heap.size w W) (f a c : Int) : Ai w ((W.alloc (.cells #[.pointer (some ⟨p, 0, none⟩), .int .i64 f, .int .u64 a, .int .u64 c] 116)).alloc (.cells #[.slice none 0 0] 26)) p b N M W.heap.size (W.heap.size + 1) f a c 0 := by
  have b1 := bal (Below.refl W.heap.size W) (.cells #[.pointer (some ⟨p, 0, none⟩), .int .i64 f, .int .u64 a, .int .u64 c] 116)
  have b2 := bal (Below.refl (W.alloc (.cells #[.pointer (some ⟨p, 0, none⟩), .int .i64 f, .int .u64 a, .int .u64 c] 116)).heap.size (W.alloc (.cells #[.pointer (some ⟨p, 0, none⟩), .int .i64 f, .int .u64 a, .int .u64 c] 116))) (.cells #[.slice none 0 0] 26)
  have r2 := boxS_new (W.alloc (.cells #[.pointer (some ⟨p, 0, none⟩), .int .i64 f, .int .u64 a, .int .u64 c] 116)) (.slice none 0 0)
  rw [World.size_alloc] at r2
  have hs := hB.size
  exact ⟨h, (rowN_new W p f a c).on b2, ⟨_, r2, World.ownsRow_nil _ _ _ _⟩, bal (bal hB _) _, by omega⟩
end
end Go.Proofs.YtcoggdnpjpiacaaGreatDoor.Pring

/- What the document's Put, Take and All of layer 21 answer and do, over its own memory. -/
namespace Go.Proofs.YtcoggdnpjpiacaaGreatDoor.Pring
open Go.Proofs.YtcoggdnpjpiacaaGreatDoor.Pbase Go.Proofs.YtcoggdnpjpiacaaGreatDoor.Pfield Go.Proofs.YtcoggdnpjpiacaaGreatDoor.Play Go.Proofs.YtcoggdnpjpiacaaGreatDoor.Pmem
open Go.RowKit M
set_option linter.unusedVariables false

theorem tmod8 {a : Int} (h : 0 ≤ a) : a.tmod 8 = a % 8 := Int.tmod_eq_emod_of_nonneg h
/-! ### Put -/
set_option maxRecDepth 100000 in
set_option maxHeartbeats 2000000 in
theorem rput_any (base q N : Nat) (f : Int) (x : Ev) (M : Nat → Nat → Int) (w : World) (h : Rx w base q N M) : Calls Tryz.prog 50 #[.pointer (some ⟨q, 0, none⟩), .int .i64 f, .agg #[.int .i64 x.k, .int .i64 x.t]] w fun e w' => e = .returned (.int .i64 (puE N M f x)) ∧ Dh w w' base q N (puM N M f x) := by
  have H0 : Hid (Dh w (w.alloc (.cells #[.int .i64 x.k, .int .i64 x.t] 35)) base q N M) := (dh_self h).on (bal (Below.refl _ _) _)
  have HW : Hid (∀ wc, Calls Tryz.prog 72 #[.agg #[.int .i64 x.k, .int .i64 x.t]] wc fun e w' => e = .returned (.tuple #[.int .u64 (wdW x), .int .i64 (ckE x)]) ∧ Below wc.heap.size wc w') := fun wc => rword_any x wc
  have HP : Hid (∀ wc, Dh w wc base q N M → Calls Tryz.prog 73 #[.pointer (some ⟨q, 0, none⟩), .int .i64 f] wc fun e w' => e = .returned (.tuple #[.int .i64 (zif (plE N M f) (bgI M f)), .int .i64 (zif (plE N M f) (cnI M f)), .int .i64 (plE N M f)]) ∧ Below wc.heap.size wc w') := fun wc hd => rplaces_any base q N f M wc hd.rx
  have hF := h.fit
  clear h
  by_cases hx : Eo x
  case neg =>
    obtain ⟨e1, e2⟩ := pu_arg N M f hx
    rw [e1, e2]
    rw [wd_no hx, ck_no hx] at HW
    clear e1 e2 hx hF HP
    go_enter Tryz.func50, Tryz.ntmps50
    go_wp2_with (first
      | (go_at_call 72; refine (HW.out _).mono ?_; rintro e1 w1 ⟨rfl, hb⟩; have H1 := rhide (H0.out.on hb); clear hb HW H0)
      | fail)
    go_ret
    exact ⟨rfl, H1.out⟩
  case pos =>
  rw [wd_yes hx, ck_yes hx] at HW
  by_cases hp : plE N M f = 0
  case neg =>
    obtain ⟨e1, e2⟩ := pu_pl hx hp
    rw [e1, e2]
    rw [zif_no hp, zif_no hp] at HP
    generalize plE N M f = E at HP hp ⊢
    generalize ewd x = z at HW
    have hE : (E != 0) = true := by simp [hp]
    clear e1 e2 hx hF hp
    go_enter Tryz.func50, Tryz.ntmps50
    go_wp2_with (first
      | (go_at_call 72; refine (HW.out _).mono ?_; rintro e1 w1 ⟨rfl, hb⟩; have H1 := rhide (H0.out.on hb); clear hb HW H0)
      | (go_at_call 73; refine (HP.out _ H1.out).mono ?_; rintro e2 w2 ⟨rfl, hb⟩; have H2 := rhide (H1.out.on hb); clear hb HP H1)
      | fail)
    go_ret
    exact ⟨rfl, H2.out⟩
  case pos =>
  obtain ⟨_, hf, ha, hn⟩ := pl_yes hF hp
  rw [hp, zif_yes, zif_yes] at HP
  by_cases hc : cnI M f = 8
  · obtain ⟨e1, e2⟩ := pu_full hx hp hc
    rw [e1, e2]
    rw [hc] at HP
    generalize bgI M f = a at HP
    generalize ewd x = z at HW
    clear e1 e2 hx hF hp hc ha hn hf
    go_enter Tryz.func50, Tryz.ntmps50
    go_wp2_with (first
      | (go_at_call 72; refine (HW.out _).mono ?_; rintro e1 w1 ⟨rfl, hb⟩; have H1 := rhide (H0.out.on hb); clear hb HW H0)
      | (go_at_call 73; refine (HP.out _ H1.out).mono ?_; rintro e2 w2 ⟨rfl, hb⟩; have H2 := rhide (H1.out.on hb); clear hb HP H1)
      | fail)
    go_ret
    exact ⟨rfl, H2.out⟩
  · obtain ⟨e1, e2⟩ := pu_ok hx hp hc
    rw [e1, e2]
    have HS0 : Hid (∀ wc, Dh w wc base q N M → Calls Tryz.prog 15 #[.pointer (some ⟨q, 0, none⟩), .int .i64 f, .int .i64 (14 + (bgI M f + cnI M f) % 8), .int .u64 (ewd x)] wc fun e w' => e = .returned (.int .i64 0) ∧ Dh w w' base q N (stW N M f (14 + (bgI M f + cnI M f) % 8) (ewd x))) := fun wc hd => (rst_at w base q N f M hf _ (by omega) _ (ewd_bd hx) wc hd).mono fun e w' ⟨q1, q2, _⟩ => ⟨q1, q2⟩
    have HS1 : Hid (∀ wc M1, Dh w wc base q N M1 → Calls Tryz.prog 15 #[.pointer (some ⟨q, 0, none⟩), .int .i64 f, .int .i64 13, .int .u64 (cnI M f + 1)] wc fun e w' => e = .returned (.int .i64 0) ∧ Dh w w' base q N (stW N M1 f 13 (cnI M f + 1))) := fun wc M1 hd => (rst_at w base q N f M1 hf 13 (by omega) _ (by omega) wc hd).mono fun e w' ⟨q1, q2, _⟩ => ⟨q1, q2⟩
    generalize bgI M f = a at HP HS0 ha ⊢
    generalize cnI M f = n at HP HS0 HS1 hn hc ⊢
    generalize ewd x = z at HW HS0 ⊢
    have d1 : wrap64 (a + n) = a + n := by unfold wrap64; omega
    have d2 : (a + n).tmod 8 = (a + n) % 8 := tmod8 (by omega)
    have d3 : wrap64 (14 + (a + n) % 8) = 14 + (a + n) % 8 := by unfold wrap64; omega
    have d4 : wrap64 (n + 1) = n + 1 := by unfold wrap64; omega
    have d5 : IntKind.u64.wrap (n + 1) = n + 1 := wrapu_small (by omega) (by omega)
    have h8 : (n == 8) = false := by simp [hc]
    clear e1 e2 hx hF hp hc ha hn hf
    go_enter Tryz.func50, Tryz.ntmps50
    go_wp2_with (first
      | (go_at_call 72; refine (HW.out _).mono ?_; rintro e1 w1 ⟨rfl, hb⟩; have H1 := rhide (H0.out.on hb); clear hb HW H0)
      | (go_at_call 73; refine (HP.out _ H1.out).mono ?_; rintro e2 w2 ⟨rfl, hb⟩; have H2 := rhide (H1.out.on hb); clear hb HP H1)
      | (go_at_call 15; refine (HS0.out _ H2.out).mono ?_; rintro e3 w3 ⟨rfl, hd⟩; have H3 := rhide hd; clear hd HS0 H2)
      | (go_at_call 15; refine (HS1.out _ _ H3.out).mono ?_; rintro e4 w4 ⟨rfl, hd⟩; have H4 := rhide hd; clear hd HS1 H3)
      | fail)
    go_ret
    exact ⟨rfl, H4.out⟩
/-! ### Take -/
/-- The document's memory and the event that is answered. -/
structure Dt (w W : World) (base q N : Nat) (M : Nat → Nat → Int) : Prop where
  dh : Dh w W base q N M
  res : RowE W w.heap.size ev0
theorem dt_new {w : World} {base q N : Nat} {M : Nat → Nat → Int} (h : Rx w base q N M) : Dt w (w.alloc (.cells #[.int .i64 0, .int .i64 0] 35)) base q N M := ⟨(dh_self h).on (bal (Below.refl _ _) _), rowE_new w ev0⟩
theorem Dt.on {w W W' : World} {base q N : Nat} {M : Nat → Nat → Int} (h : Dt w W base q N M) (hB : Below W.heap.size W W') : Dt w W' base q N M := ⟨h.dh.on hB, h.res.on hB⟩
theorem Dt.put {w W : World} {base q N : Nat} {M : Nat → Nat → Int} (h : Dt w W base q N M) (hb : base ≤ w.heap.size) (x : Ev) : Dh w ((W.setCell ⟨w.heap.size, 0, none⟩ (.int .i64 x.k)).setCell ⟨w.heap.size, 1, none⟩ (.int .i64 x.t)) base q N M := by
  have h1 := h.dh.set h.res.c0 (Nat.le_refl _) hb 0 (.int .i64 x.k)
  have c : (W.setCell ⟨w.heap.size, 0, none⟩ (.int .i64 x.k)).cell? ⟨w.heap.size, 0, none⟩ = some (.int .i64 x.k) := by
    rw [cell_of_row _ _ _ _ _ _ (heap_setCell_same _ _ _ _ _ _ h.res.row)]
    rfl
  exact h1.set c (Nat.le_refl _) hb 1 _
/-- And an event that was read. -/
structure Du (w W : World) (base q N : Nat) (M : Nat → Nat → Int) (D : Nat) (x : Ev) : Prop where
  dt : Dt w W base q N M
  box : RowE W D x
theorem Dt.read {w W : World} {base q N : Nat} {M : Nat → Nat → Int} (h : Dt w W base q N M) (x : Ev) : Du w (W.alloc (.cells #[.int .i64 x.k, .int .i64 x.t] 35)) base q N M W.heap.size x := ⟨h.on (bal (Below.refl _ _) _), rowE_new W x⟩
theorem Du.on {w W W' : World} {base q N : Nat} {M : Nat → Nat → Int} {D : Nat} {x : Ev} (h : Du w W base q N M D x) (hB : Below W.heap.size W W') : Du w W' base q N M D x := ⟨h.dt.on hB, h.box.on hB⟩
theorem Du.turn {w W W' : World} {base q N : Nat} {M M' : Nat → Nat → Int} {D : Nat} {x : Ev} (h : Du w W base q N M D x) (hD : Dh w W' base q N M') (hK : KeepX q W W') : Du w W' base q N M' D x := ⟨⟨hD, h.dt.res.keep hK.t⟩, h.box.keep hK.t⟩
/-! ### All -/
/-- The document's memory and the list that grows. -/
structure Ra (w0 w : World) (base q N : Nat) (M : Nat → Nat → Int) (f : Int) (v : Value) (k : Nat) : Prop where
  rx : Rx w base q N M
  below : Below w0.heap.size w0 w
  row : w.ownsRow w0.heap.size 35 2 v k (cellsL (allK M f k))
theorem Ra.on {w0 w w' : World} {base q N : Nat} {M : Nat → Nat → Int} {f : Int} {v : Value} {k : Nat} (h : Ra w0 w base q N M f v k) (hB : Below w.heap.size w w') : Ra w0 w' base q N M f v k :=
  ⟨h.rx.grown hB, h.below.trans (hB.mono h.below.size), own_on h.row hB⟩
theorem Ra.step {w0 w w1 : World} {base q N : Nat} {M : Nat → Nat → Int} {f : Int} {v v' : Value} {k : Nat} {o : Obj} (h0 : Rx w0 base q N M) (h : Ra w0 w base q N M f v k) (hown : w1.ownsRow w0.heap.size 35 2 v' (k + 1) (cellsL (allK M f k) ++ twoL (ofX (rwI M f (k : Int))))) (hg : (w.alloc o).grownBy w1 v.ownBlock) : Ra w0 w1 base q N M f v' (k + 1) := by
  have hB : Below w0.heap.size w0 w1 := (bal h.below o).grown hg (by have := h.below.size; simp; omega) (own_ge h.row)
  exact ⟨h0.grown hB, hB, by rw [allK_succ, cellsL_snoc]; exact hown⟩
end Go.Proofs.YtcoggdnpjpiacaaGreatDoor.Pring
