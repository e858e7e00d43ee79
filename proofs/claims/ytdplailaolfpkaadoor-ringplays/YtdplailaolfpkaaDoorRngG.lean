/- Plain words on events and rings: which are right, their words, what is answered and done. No program is named here. -/
import Derived.Test.YtdplailaolfpkaaDoorBunLay
import Derived.Test.YtdplailaolfpkaaDoorBunField
namespace Go.Proofs.YtdplailaolfpkaaDoor.Pring
open Go.Proofs.YtdplailaolfpkaaDoor.Pbase Go.Proofs.YtdplailaolfpkaaDoor.Pfield Go.Proofs.YtdplailaolfpkaaDoor.Play Go.Proofs.YtdplailaolfpkaaDoor.Pmem
open Go.RowKit M
set_option linter.unusedVariables false

/-! ### events -/
structure Ev where
  k : Int
  t : Int
def ev0 : Ev := ⟨0, 0⟩
def Eo (x : Ev) : Prop := (1 ≤ x.k ∧ x.k ≤ 6) ∧ (0 ≤ x.t ∧ x.t ≤ 63)
def eoB (x : Ev) : Bool := (decide (1 ≤ x.k) && decide (x.k ≤ 6)) && (decide (0 ≤ x.t) && decide (x.t ≤ 63))
theorem eoB_iff (x : Ev) : eoB x = true ↔ Eo x := by
  unfold eoB Eo
  simp
theorem eoB_yes {x : Ev} (h : Eo x) : eoB x = true := (eoB_iff x).2 h
theorem eoB_no {x : Ev} (h : ¬ Eo x) : eoB x = false := Bool.eq_false_iff.2 fun e => h ((eoB_iff x).1 e)
def Fe (x : Ev) : Prop := In64 x.k ∧ In64 x.t
theorem Eo.fe {x : Ev} (h : Eo x) : Fe x := by
  unfold Eo at h
  unfold Fe In64
  omega
/-- What Check answers. -/
def ckE (x : Ev) : Int := if eoB x = true then 0 else 1
/-! ### words -/
def ews : List Int := [4, 6]
theorem ews_length : ews.length = 2 := rfl
theorem mask4 : maskF 4 = 15 := by decide
theorem mask6 : maskF 6 = 63 := by decide
def Ev.vs (x : Ev) : List Int := [x.k, x.t]
/-- The word of one. -/
def ewd (x : Ev) : Int := packF ews x.vs
theorem eput_can {x : Ev} (h : Eo x) : (∀ j : Nat, 0 ≤ x.vs[j]?.getD 0 ∧ x.vs[j]?.getD 0 ≤ 18446744073709551615) ∧ ∀ j, j < ews.length → okP ews x.vs j = true := by
  unfold Eo at h
  constructor
  · intro j
    match j with
    | 0 | 1 => simp [Ev.vs]; omega
    | j + 2 => simp [Ev.vs]
  · intro j hj
    match j, hj with
    | 0, _ | 1, _ =>
      simp [okP, Pfield.M.inB, fitsB, mask4, mask6, sumTo, ews, Ev.vs, wrap64]
      omega
theorem ewd_bd {x : Ev} (h : Eo x) : 0 ≤ ewd x ∧ ewd x ≤ 18446744073709551615 := (pack_unpack (zs := ews) (vs := x.vs) rfl (eput_can h).1 (eput_can h).2).1
/-- What Word answers. -/
def wdW (x : Ev) : Int := if eoB x = true then ewd x else 0
/-- The j-th part of a word; the event that a word is. -/
def egN (x : Int) (j : Nat) : Int := (getsI x ews)[j]?.getD 0
def ofR (a : Int) : Ev := ⟨egN a 0, egN a 1⟩
def unB (a : Int) : Bool := (List.range ews.length).all (okU ews) && fitsB a (sumTo ews ews.length)
theorem unB_iff (a : Int) : unB a = true ↔ canU a ews := by
  unfold unB canU
  simp only [Bool.and_eq_true, List.all_eq_true, List.mem_range]
def ofB (a : Int) : Bool := unB a && eoB (ofR a)
def ofE (a : Int) : Int := if ofB a = true then 0 else 12
def ofX (a : Int) : Ev := if ofB a = true then ofR a else ev0
theorem of_yes {a : Int} (h : ofE a = 0) : canU a ews ∧ Eo (ofR a) ∧ ofX a = ofR a := by
  unfold ofX
  unfold ofE at h
  split at h
  · rename_i hb
    rw [if_pos hb]
    unfold ofB at hb
    simp only [Bool.and_eq_true] at hb
    exact ⟨(unB_iff a).1 hb.1, (eoB_iff _).1 hb.2, rfl⟩
  · exact absurd h (by decide)
theorem of_no {a : Int} (h : ofE a ≠ 0) : ofE a = 12 ∧ ofX a = ev0 := by
  unfold ofX
  unfold ofE at h ⊢
  split at h
  · exact absurd rfl h
  · rename_i hb
    rw [if_neg hb, if_neg hb]
    exact ⟨rfl, rfl⟩
theorem egN_bd {x : Int} (hx : 0 ≤ x ∧ x ≤ 18446744073709551615) (h : canU x ews) : (0 ≤ egN x 0 ∧ egN x 0 ≤ 15) ∧ (0 ≤ egN x 1 ∧ egN x 1 ≤ 63) := by
  obtain ⟨h1, h2, _⟩ := unpack_pack hx h
  have m0 := (ok_parts (h2 0 (by decide))).2
  have m1 := (ok_parts (h2 1 (by decide))).2
  rw [show ews[0]?.getD 0 = 4 from rfl, fitsB, mask4, decide_eq_true_eq] at m0
  rw [show ews[1]?.getD 0 = 6 from rfl, fitsB, mask6, decide_eq_true_eq] at m1
  exact ⟨⟨(h1 0).1, m0⟩, ⟨(h1 1).1, m1⟩⟩
/-- The parts of a word make just that word. -/
theorem ewd_back {a : Int} (ha : 0 ≤ a ∧ a ≤ 18446744073709551615) (h : canU a ews) : ewd (ofR a) = a := by
  have hl := getsI_length a ews
  have he : getsI a ews = [egN a 0, egN a 1] := by
    unfold egN
    generalize getsI a ews = l at hl
    match l, hl with
    | [v0, v1], _ => rfl
  have := (unpack_pack ha h).2.2
  rw [he] at this
  exact this
/-- What is packed is read. -/
theorem of_back {x : Ev} (h : Eo x) : ofE (ewd x) = 0 ∧ ofX (ewd x) = x := by
  obtain ⟨hb, hc, hg⟩ := pack_unpack (zs := ews) (vs := x.vs) rfl (eput_can h).1 (eput_can h).2
  change canU (ewd x) ews at hc
  change getsI (ewd x) ews = _ at hg
  have hR : ofR (ewd x) = x := by
    unfold ofR egN
    rw [hg]
    rfl
  have hB : ofB (ewd x) = true := by
    unfold ofB
    rw [(unB_iff _).2 hc, hR, eoB_yes h]
    rfl
  unfold ofE ofX
  rw [if_pos hB, if_pos hB, hR]
  exact ⟨rfl, rfl⟩
/-- Two words that are the same are the same event's. -/
theorem ewd_one {x y : Ev} (hx : Eo x) (hy : Eo y) (h : ewd x = ewd y) : x = y := by
  rw [← (of_back hx).2, h, (of_back hy).2]
/-! ### a ring -/
/-- Where it begins; how many there are; the i-th place's word. -/
def bgI (M : Nat → Nat → Int) (f : Int) : Int := M f.toNat 12
def cnI (M : Nat → Nat → Int) (f : Int) : Int := M f.toNat 13
def plN (M : Nat → Nat → Int) (f : Int) (i : Int) : Nat := ((bgI M f + i) % 8).toNat
def rwI (M : Nat → Nat → Int) (f : Int) (i : Int) : Int := M f.toNat (14 + plN M f i)
/-- What all calls but Clear ask first. -/
def plE (N : Nat) (M : Nat → Nat → Int) (f : Int) : Int := if Phead.isE N M f 6 = 0 then if bgI M f < 8 ∧ cnI M f ≤ 8 then 0 else 12 else 4
/-- Clear. -/
def crE (N : Nat) (M : Nat → Nat → Int) (f : Int) : Int := if Phead.isE N M f 6 = 0 then 0 else 4
def crM (N : Nat) (M : Nat → Nat → Int) (f : Int) : Nat → Nat → Int := if crE N M f = 0 then stW N (stW N M f 12 0) f 13 0 else M
/-- Put. -/
def puE (N : Nat) (M : Nat → Nat → Int) (f : Int) (x : Ev) : Int := if eoB x = true then if plE N M f = 0 then if cnI M f = 8 then 2 else 0 else plE N M f else 1
def puM (N : Nat) (M : Nat → Nat → Int) (f : Int) (x : Ev) : Nat → Nat → Int := if puE N M f x = 0 then stW N (stW N M f (14 + (bgI M f + cnI M f) % 8) (ewd x)) f 13 (cnI M f + 1) else M
/-- Take. -/
def tkE (N : Nat) (M : Nat → Nat → Int) (f : Int) : Int := if plE N M f = 0 then if cnI M f = 0 then 3 else ofE (rwI M f 0) else plE N M f
def tkX (N : Nat) (M : Nat → Nat → Int) (f : Int) : Ev := if tkE N M f = 0 then ofX (rwI M f 0) else ev0
def tkM (N : Nat) (M : Nat → Nat → Int) (f : Int) : Nat → Nat → Int := if tkE N M f = 0 then stW N (stW N M f 12 ((bgI M f + 1) % 8)) f 13 (cnI M f - 1) else M
/-- All. -/
def alB (M : Nat → Nat → Int) (f : Int) (n : Nat) : Bool := (List.range n).all fun i => ofE (rwI M f i) == 0
def alE (N : Nat) (M : Nat → Nat → Int) (f : Int) : Int := if plE N M f = 0 then if alB M f (cnI M f).toNat = true then 0 else 12 else plE N M f
def alL (N : Nat) (M : Nat → Nat → Int) (f : Int) : List Ev := if alE N M f = 0 then (List.range (cnI M f).toNat).map fun (i : Nat) => ofX (rwI M f (i : Int)) else []
/-! ### small facts -/
theorem isE_ok {N : Nat} {M : Nat → Nat → Int} {f : Int} {q : Int} (h : Phead.isE N M f q = 0) : okF N f = true := by
  cases hf : okF N f
  · exact absurd h (is_bad hf q)
  · rfl
theorem pl_yes {N : Nat} {M : Nat → Nat → Int} {f : Int} (hF : Fit M) (h : plE N M f = 0) : Phead.isE N M f 6 = 0 ∧ okF N f = true ∧ (0 ≤ bgI M f ∧ bgI M f < 8) ∧ (0 ≤ cnI M f ∧ cnI M f ≤ 8) := by
  unfold plE at h
  split at h
  · rename_i h1
    split at h
    · rename_i h2
      exact ⟨h1, isE_ok h1, ⟨(hF _ _).1, h2.1⟩, ⟨(hF _ _).1, h2.2⟩⟩
    · exact absurd h (by decide)
  · exact absurd h (by decide)
theorem okW_ring {N : Nat} {f : Int} (h : okF N f = true) {i : Int} (h0 : 0 ≤ i) (h1 : i < 36) : okW N f i = true := by
  unfold okW
  rw [h]
  simp
  omega
theorem pu_yes {N : Nat} {M : Nat → Nat → Int} {f : Int} {x : Ev} (hF : Fit M) (h : puE N M f x = 0) : Eo x ∧ plE N M f = 0 ∧ cnI M f < 8 := by
  unfold puE at h
  split at h
  · rename_i h1
    split at h
    · rename_i h2
      split at h
      · exact absurd h (by decide)
      · rename_i h3
        have := (pl_yes hF h2).2.2.2
        exact ⟨(eoB_iff x).1 h1, h2, by omega⟩
    · rename_i h2
      exact absurd h h2
  · exact absurd h (by decide)
theorem tk_yes {N : Nat} {M : Nat → Nat → Int} {f : Int} (hF : Fit M) (h : tkE N M f = 0) : plE N M f = 0 ∧ 1 ≤ cnI M f ∧ ofE (rwI M f 0) = 0 := by
  unfold tkE at h
  split at h
  · rename_i h2
    split at h
    · exact absurd h (by decide)
    · rename_i h3
      have := (pl_yes hF h2).2.2.2
      exact ⟨h2, by omega, h⟩
  · rename_i h2
    exact absurd h h2
theorem fit_cr {M : Nat → Nat → Int} (h : Fit M) (N : Nat) (f : Int) : Fit (crM N M f) := by
  unfold crM
  split
  · exact (h.st N f 12 0 (by omega)).st N f 13 0 (by omega)
  · exact h
theorem fit_pu {M : Nat → Nat → Int} (h : Fit M) (N : Nat) (f : Int) (x : Ev) : Fit (puM N M f x) := by
  unfold puM
  split
  · rename_i hp
    obtain ⟨h1, h2, h3⟩ := pu_yes h hp
    have := (pl_yes h h2).2.2.2
    exact (h.st N f _ _ (ewd_bd h1)).st N f 13 _ (by omega)
  · exact h
theorem fit_tk {M : Nat → Nat → Int} (h : Fit M) (N : Nat) (f : Int) : Fit (tkM N M f) := by
  unfold tkM
  split
  · rename_i hp
    obtain ⟨h1, h2, h3⟩ := tk_yes h hp
    have := (pl_yes h h1).2.2
    exact (h.st N f 12 _ (by omega)).st N f 13 _ (by omega)
  · exact h
end Go.Proofs.YtdplailaolfpkaaDoor.Pring
