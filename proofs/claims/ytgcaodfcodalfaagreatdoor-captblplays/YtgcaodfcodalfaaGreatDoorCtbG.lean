/- Tables of capabilities in the words of frames: plain words on what is made, put, looked up, dropped, hung in and frozen. No program is named here. -/
import Derived.Test.YtgcaodfcodalfaaGreatDoorBunSlot
import Derived.Test.YtgcaodfcodalfaaGreatDoorBunHead
import Derived.Test.YtgcaodfcodalfaaGreatDoorBunRadix
namespace Go.Proofs.YtgcaodfcodalfaaGreatDoor.Pcaptbl
open Go.Proofs.YtgcaodfcodalfaaGreatDoor.Pbase Go.Proofs.YtgcaodfcodalfaaGreatDoor.Pmem Go.Proofs.YtgcaodfcodalfaaGreatDoor.Pradix Go.Proofs.YtgcaodfcodalfaaGreatDoor.Pslot
open Go.RowKit
set_option linter.unusedVariables false

/-! ### what is answered, and what is done -/
/-- Is a frame a table's, of this level? Can it be a time? Is a capability quiet for a floor? Is it right, and above a quiet one? -/
def tbB (N : Nat) (M : Nat → Nat → Int) (f l : Int) : Bool := decide (Phead.ghE N M f = 0) && decide (Phead.ghK N M f = 1) && decide (Phead.ghL N M f = l)
def tiB (now : Int) : Bool := decide (1 ≤ now) && decide (now ≤ 1073741824)
def quB (k a floor : Int) : Bool := decide (k = 0) || (decide (k = 1) && decide (a < floor))
def upB (k r t l e a : Int) : Bool := Pcap.rtB k r t l e a && decide (1 < k)
/-- The leaf of an address: the error; its frame, the slot, is it frozen. -/
def lfE (N : Nat) (M : Nat → Nat → Int) (root a : Int) : Int :=
  if slE a = 0 then if tbB N M root 0 = true then if sE N M root (slH a) = 0 ∧ sC N M root (slH a) 0 = 3 then if tbB N M (sC N M root (slH a) 2) 1 = true then 0 else 4 else 3 else 4 else slE a
def lfF (N : Nat) (M : Nat → Nat → Int) (root a : Int) : Int := if lfE N M root a = 0 then sC N M root (slH a) 2 else 0
def lfI (N : Nat) (M : Nat → Nat → Int) (root a : Int) : Int := if lfE N M root a = 0 then slL a else 0
def lfZ (N : Nat) (M : Nat → Nat → Int) (root a : Int) : Bool := decide (lfE N M root a = 0) && Phead.ghZ N M (lfF N M root a)
/-- Room. -/
def roE (N : Nat) (M : Nat → Nat → Int) (root a floor : Int) : Int :=
  if lfE N M root a = 0 then if lfZ N M root a = true then 6 else if sE N M (lfF N M root a) (lfI N M root a) = 0 then if 1 < sC N M (lfF N M root a) (lfI N M root a) 0 then 10 else
    if quB (sC N M (lfF N M root a) (lfI N M root a) 0) (sC N M (lfF N M root a) (lfI N M root a) 5) floor = true then 0 else 6 else sE N M (lfF N M root a) (lfI N M root a) else lfE N M root a
/-- Put. -/
def ptE (N : Nat) (M : Nat → Nat → Int) (root adr k r t l e a floor : Int) : Int := if upB k r t l e a = true then roE N M root adr floor else 1
def ptM (N : Nat) (M : Nat → Nat → Int) (root adr k r t l e a floor : Int) : Nat → Nat → Int := if ptE N M root adr k r t l e a floor = 0 then pM N M (lfF N M root adr) (lfI N M root adr) k r t l e a else M
/-- Look. -/
def lkE (N : Nat) (M : Nat → Nat → Int) (root a : Int) : Int :=
  if lfE N M root a = 0 then if sE N M (lfF N M root a) (lfI N M root a) = 0 then if 1 < sC N M (lfF N M root a) (lfI N M root a) 0 then 0 else 3 else sE N M (lfF N M root a) (lfI N M root a) else lfE N M root a
def lkC (N : Nat) (M : Nat → Nat → Int) (root a : Int) (j : Nat) : Int := if lkE N M root a = 0 then sC N M (lfF N M root a) (lfI N M root a) j else 0
/-- Drop. -/
def drE (N : Nat) (M : Nat → Nat → Int) (root a now : Int) : Int := if tiB now = true then if lkE N M root a = 0 then if lfZ N M root a = true then 6 else 0 else lkE N M root a else 1
def drC (N : Nat) (M : Nat → Nat → Int) (root a now : Int) (j : Nat) : Int := if drE N M root a now = 0 then lkC N M root a j else 0
def drM (N : Nat) (M : Nat → Nat → Int) (root a now : Int) : Nat → Nat → Int := if drE N M root a now = 0 then pM N M (lfF N M root a) (lfI N M root a) 1 0 0 0 0 now else M
/-- Cons. -/
def coE (N : Nat) (M : Nat → Nat → Int) (root high f floor : Int) : Int :=
  if okS high = true then if tbB N M root 0 = true ∧ tbB N M f 1 = true then if Phead.ghZ N M root = true ∨ Phead.ghZ N M f = true then 6 else if sE N M root high = 0 then if 1 < sC N M root high 0 then 10 else
    if quB (sC N M root high 0) (sC N M root high 5) floor = true then 0 else 6 else sE N M root high else 4 else 1
def coM (N : Nat) (M : Nat → Nat → Int) (root high f floor : Int) : Nat → Nat → Int := if coE N M root high f floor = 0 then pM N M root high 3 31 f 0 0 0 else M
/-- Decons. -/
def deE (N : Nat) (M : Nat → Nat → Int) (root high now floor : Int) : Int :=
  if okS high = true ∧ tiB now = true then if tbB N M root 0 = true then if sE N M root high = 0 then if sC N M root high 0 = 3 then
    if Phead.ghE N M (sC N M root high 2) = 0 ∧ Phead.ghK N M (sC N M root high 2) = 1 ∧ Phead.ghZ N M (sC N M root high 2) = true ∧ Phead.ghT N M (sC N M root high 2) < floor then 0 else 6 else 3 else sE N M root high else 4 else 1
def deF (N : Nat) (M : Nat → Nat → Int) (root high now floor : Int) : Int := if deE N M root high now floor = 0 then sC N M root high 2 else 0
def deM (N : Nat) (M : Nat → Nat → Int) (root high now floor : Int) : Nat → Nat → Int := if deE N M root high now floor = 0 then pM N M root high 1 0 0 0 0 now else M
/-- Freeze. -/
def frE (N : Nat) (M : Nat → Nat → Int) (f now : Int) : Int := if tiB now = true then if Phead.ghE N M f = 0 ∧ Phead.ghK N M f = 1 then if Phead.ghZ N M f = true then 10 else 0 else 4 else 1
def frM (N : Nat) (M : Nat → Nat → Int) (f now : Int) : Nat → Nat → Int := if frE N M f now = 0 then Phead.putM N M f 1 (Phead.ghL N M f) true now else M

/-! ### what a slot's Put leaves of the heads, and a head's Put of the slots -/
theorem gh_words {N : Nat} {M M' : Nat → Nat → Int} {g : Int} (h : ∀ j, j < 4 → M' g.toNat j = M g.toNat j) :
    Phead.ghK N M' g = Phead.ghK N M g ∧ Phead.ghL N M' g = Phead.ghL N M g ∧ Phead.ghZ N M' g = Phead.ghZ N M g ∧ Phead.ghT N M' g = Phead.ghT N M g ∧ Phead.ghE N M' g = Phead.ghE N M g := by
  unfold Phead.ghK Phead.ghL Phead.ghZ Phead.ghT Phead.ghE
  rw [h 0 (by omega), h 1 (by omega), h 2 (by omega), h 3 (by omega)]
  exact ⟨rfl, rfl, rfl, rfl, rfl⟩
theorem slot_words {N : Nat} {M M' : Nat → Nat → Int} {g i : Int} (h : ∀ j, 4 ≤ j → M' g.toNat j = M g.toNat j) :
    sE N M' g i = sE N M g i ∧ ∀ j, sC N M' g i j = sC N M g i j := by
  have e1 : w1 M' g i = w1 M g i := h _ (by omega)
  have e2 : w2 M' g i = w2 M g i := h _ (by omega)
  exact ⟨by unfold sE; rw [e1, e2], fun j => by unfold sC; rw [e1, e2]⟩
theorem gh_pM (N : Nat) (M : Nat → Nat → Int) (f i k r t l e a g : Int) :
    Phead.ghK N (pM N M f i k r t l e a) g = Phead.ghK N M g ∧ Phead.ghL N (pM N M f i k r t l e a) g = Phead.ghL N M g ∧ Phead.ghZ N (pM N M f i k r t l e a) g = Phead.ghZ N M g ∧ Phead.ghT N (pM N M f i k r t l e a) g = Phead.ghT N M g ∧ Phead.ghE N (pM N M f i k r t l e a) g = Phead.ghE N M g := by
  by_cases h : pE N f i k r t l e a = 0
  · have hi := okS_yes (pE_zero h).1
    exact gh_words fun j hj => pM_other (.inr ⟨by omega, by omega⟩)
  · rw [pM_no h]
    exact ⟨rfl, rfl, rfl, rfl, rfl⟩
/-- Slots of other frames. -/
theorem put_frame {N : Nat} {M : Nat → Nat → Int} {f i k r t l e a g m : Int} (h0 : 0 ≤ g) (h : g ≠ f) :
    sE N (pM N M f i k r t l e a) g m = sE N M g m ∧ ∀ j, sC N (pM N M f i k r t l e a) g m j = sC N M g m j :=
  slot_words fun j _ => pM_other (.inl (by omega))
theorem okF_of_sE {N : Nat} {M : Nat → Nat → Int} {f i : Int} (h : sE N M f i = 0) : okS i = true ∧ okF N f = true := by
  unfold sE at h
  cases h1 : okS i <;> cases h2 : okF N f <;> simp [h1, h2] at h ⊢
theorem rt_quiet {now : Int} (h : tiB now = true) : Pcap.Rt 1 0 0 0 0 now := by
  simp only [tiB, Bool.and_eq_true, decide_eq_true_eq] at h
  unfold Pcap.Rt
  omega
theorem rt_table {f : Int} (h0 : 0 ≤ f) (h1 : f ≤ 63) : Pcap.Rt 3 31 f 0 0 0 := by
  unfold Pcap.Rt
  omega
theorem pE_yes {N : Nat} {f i k r t l e a : Int} (hi : okS i = true) (hr : Pcap.Rt k r t l e a) (hf : okF N f = true) : pE N f i k r t l e a = 0 := by
  simp [pE, hi, hf, Pcap.rtB_yes hr]
/-- Where Room has none to refuse, the slot's Put has none either. -/
theorem ro_put {N : Nat} {M : Nat → Nat → Int} {root adr k r t l e a floor : Int} (hr : Pcap.Rt k r t l e a) (h : roE N M root adr floor = 0) : pE N (lfF N M root adr) (lfI N M root adr) k r t l e a = 0 := by
  unfold roE at h
  by_cases h1 : lfE N M root adr = 0
  · rw [if_pos h1] at h
    by_cases h2 : lfZ N M root adr = true
    · rw [if_pos h2] at h; cases h
    · rw [if_neg h2] at h
      by_cases h3 : sE N M (lfF N M root adr) (lfI N M root adr) = 0
      · exact pE_yes (okF_of_sE h3).1 hr (okF_of_sE h3).2
      · rw [if_neg h3] at h; exact absurd h h3
  · rw [if_neg h1] at h; exact absurd h h1
theorem lk_put {N : Nat} {M : Nat → Nat → Int} {root adr k r t l e a : Int} (hr : Pcap.Rt k r t l e a) (h : lkE N M root adr = 0) : pE N (lfF N M root adr) (lfI N M root adr) k r t l e a = 0 := by
  unfold lkE at h
  by_cases h1 : lfE N M root adr = 0
  · rw [if_pos h1] at h
    by_cases h3 : sE N M (lfF N M root adr) (lfI N M root adr) = 0
    · exact pE_yes (okF_of_sE h3).1 hr (okF_of_sE h3).2
    · rw [if_neg h3] at h; exact absurd h h3
  · rw [if_neg h1] at h; exact absurd h h1

/-! ### a root, frame 0, and one leaf, frame 1 -/
structure Tree (N : Nat) (M : Nat → Nat → Int) (high : Nat) (z : Bool) (tm : Int) : Prop where
  hN : 2 ≤ N
  hh : high < 16
  rE : Phead.ghE N M 0 = 0
  rK : Phead.ghK N M 0 = 1
  rL : Phead.ghL N M 0 = 0
  rZ : Phead.ghZ N M 0 = false
  eE : Phead.ghE N M 1 = 0
  eK : Phead.ghK N M 1 = 1
  eL : Phead.ghL N M 1 = 1
  eZ : Phead.ghZ N M 1 = z
  eT : Phead.ghT N M 1 = tm
  link : sE N M 0 high = 0 ∧ sC N M 0 high 0 = 3 ∧ sC N M 0 high 2 = 1
  other : ∀ m : Nat, m < 16 → m ≠ high → sE N M 0 m = 0 ∧ sC N M 0 m 0 = 0
theorem Tree.root {N : Nat} {M : Nat → Nat → Int} {high : Nat} {z : Bool} {tm : Int} (h : Tree N M high z tm) : tbB N M 0 0 = true := by simp [tbB, h.rE, h.rK, h.rL]
theorem Tree.leaf {N : Nat} {M : Nat → Nat → Int} {high : Nat} {z : Bool} {tm : Int} (h : Tree N M high z tm) : tbB N M 1 1 = true := by simp [tbB, h.eE, h.eK, h.eL]
/-- Whatever is put into the leaf's slots. -/
theorem Tree.put {N : Nat} {M : Nat → Nat → Int} {high : Nat} {z : Bool} {tm : Int} (h : Tree N M high z tm) (i k r t l e a : Int) : Tree N (pM N M 1 i k r t l e a) high z tm := by
  obtain ⟨a1, a2, a3, a4, a5⟩ := gh_pM N M 1 i k r t l e a 0
  obtain ⟨b1, b2, b3, b4, b5⟩ := gh_pM N M 1 i k r t l e a 1
  have s : ∀ m : Int, sE N (pM N M 1 i k r t l e a) 0 m = sE N M 0 m ∧ ∀ j, sC N (pM N M 1 i k r t l e a) 0 m j = sC N M 0 m j := fun m => put_frame (by omega) (by omega)
  exact ⟨h.hN, h.hh, a5.trans h.rE, a1.trans h.rK, a2.trans h.rL, a3.trans h.rZ, b5.trans h.eE, b1.trans h.eK, b2.trans h.eL, b3.trans h.eZ, b4.trans h.eT,
    ⟨(s _).1.trans h.link.1, ((s _).2 0).trans h.link.2.1, ((s _).2 2).trans h.link.2.2⟩, fun m hm hn => ⟨(s _).1.trans (h.other m hm hn).1, ((s _).2 0).trans (h.other m hm hn).2⟩⟩
theorem sl_parts {a : Int} (h : slE a = 0) : (0 ≤ a ∧ a ≤ 255) ∧ slH a = a / 16 ∧ slL a = a % 16 ∧ (0 ≤ slH a ∧ slH a ≤ 15) ∧ 0 ≤ slL a ∧ slL a ≤ 15 := by
  by_cases hc : 0 ≤ a ∧ a ≤ 255
  · obtain ⟨_, e1, e2⟩ := sl_yes hc
    exact ⟨hc, e1, e2, by omega, by omega⟩
  · rw [(sl_no hc).1] at h; cases h
/-- The leaf of an address. -/
theorem Tree.at {N : Nat} {M : Nat → Nat → Int} {high : Nat} {z : Bool} {tm : Int} (h : Tree N M high z tm) {a : Int} (h1 : slE a = 0) (h2 : slH a = high) : lfE N M 0 a = 0 ∧ lfF N M 0 a = 1 ∧ lfI N M 0 a = slL a ∧ lfZ N M 0 a = z := by
  have e0 : lfE N M 0 a = 0 := by
    unfold lfE
    rw [if_pos h1, if_pos h.root, h2, if_pos ⟨h.link.1, h.link.2.1⟩, h.link.2.2, if_pos h.leaf]
  have e1 : lfF N M 0 a = 1 := by unfold lfF; rw [if_pos e0, h2, h.link.2.2]
  exact ⟨e0, e1, by unfold lfI; rw [if_pos e0], by unfold lfZ; rw [e0, e1, h.eZ]; rfl⟩
theorem Tree.off {N : Nat} {M : Nat → Nat → Int} {high : Nat} {z : Bool} {tm : Int} (h : Tree N M high z tm) {a : Int} (h2 : ¬ (slE a = 0 ∧ slH a = high)) : lfE N M 0 a ≠ 0 := by
  unfold lfE
  by_cases h1 : slE a = 0
  · obtain ⟨_, _, _, h3, _⟩ := sl_parts h1
    have hn : (slH a).toNat ≠ high := fun e => h2 ⟨h1, by omega⟩
    have ho := h.other (slH a).toNat (by omega) hn
    rw [show ((slH a).toNat : Int) = slH a by omega] at ho
    rw [if_pos h1, if_pos h.root, if_neg (fun k => by rw [ho.2] at k; cases k.2)]
    decide
  · rw [if_neg h1]
    exact h1
/-- What comes of each call there, by what the slot has. -/
theorem Tree.room {N : Nat} {M : Nat → Nat → Int} {high : Nat} {z : Bool} {tm : Int} (h : Tree N M high z tm) {a : Int} (h1 : slE a = 0) (h2 : slH a = high) (floor : Int) :
    roE N M 0 a floor = if z = true then 6 else if sE N M 1 (slL a) = 0 then if 1 < sC N M 1 (slL a) 0 then 10 else if quB (sC N M 1 (slL a) 0) (sC N M 1 (slL a) 5) floor = true then 0 else 6 else sE N M 1 (slL a) := by
  obtain ⟨e1, e2, e3, e4⟩ := h.at h1 h2
  unfold roE
  rw [if_pos e1, e2, e3, e4]
theorem Tree.look {N : Nat} {M : Nat → Nat → Int} {high : Nat} {z : Bool} {tm : Int} (h : Tree N M high z tm) {a : Int} (h1 : slE a = 0) (h2 : slH a = high) :
    (lkE N M 0 a = if sE N M 1 (slL a) = 0 then if 1 < sC N M 1 (slL a) 0 then 0 else 3 else sE N M 1 (slL a)) ∧ ∀ j, lkC N M 0 a j = if lkE N M 0 a = 0 then sC N M 1 (slL a) j else 0 := by
  obtain ⟨e1, e2, e3, e4⟩ := h.at h1 h2
  refine ⟨?_, fun j => ?_⟩
  · unfold lkE
    rw [if_pos e1, e2, e3]
  · unfold lkC
    rw [e2, e3]
/-- Where Put takes one. -/
theorem Tree.took {N : Nat} {M : Nat → Nat → Int} {high : Nat} {z : Bool} {tm : Int} (h : Tree N M high z tm) {adr k r t l e a floor : Int} (hp : ptE N M 0 adr k r t l e a floor = 0) :
    slE adr = 0 ∧ slH adr = high ∧ Pcap.Rt k r t l e a ∧ 1 < k ∧ pE N 1 (slL adr) k r t l e a = 0 ∧ ptM N M 0 adr k r t l e a floor = pM N M 1 (slL adr) k r t l e a := by
  unfold ptM
  rw [if_pos hp]
  unfold ptE at hp
  by_cases hu : upB k r t l e a = true
  · rw [if_pos hu] at hp
    simp only [upB, Bool.and_eq_true, decide_eq_true_eq] at hu
    have hr := (Pcap.rtB_iff k r t l e a).1 hu.1
    by_cases hl : slE adr = 0 ∧ slH adr = high
    · obtain ⟨e1, e2, e3, e4⟩ := h.at hl.1 hl.2
      have := ro_put hr hp
      rw [e2, e3] at this
      rw [e2, e3]
      exact ⟨hl.1, hl.2, hr, hu.2, this, rfl⟩
    · have := h.off hl
      unfold roE at hp
      rw [if_neg this] at hp
      exact absurd hp this
  · rw [if_neg hu] at hp; cases hp
/-- What is put is looked up; no other comes to its place; it is dropped in its time alone. -/
theorem Tree.held {N : Nat} {M : Nat → Nat → Int} {high : Nat} {z : Bool} {tm : Int} (h : Tree N M high z tm) {adr k r t l e a : Int} (h1 : slE adr = 0) (h2 : slH adr = high) (hp : pE N 1 (slL adr) k r t l e a = 0) (hk : 1 < k) :
    lkE N (pM N M 1 (slL adr) k r t l e a) 0 adr = 0 ∧ (∀ j, j < 6 → lkC N (pM N M 1 (slL adr) k r t l e a) 0 adr j = [k, r, t, l, e, a][j]?.getD 0) ∧
    (∀ k' r' t' l' e' a' floor, ptE N (pM N M 1 (slL adr) k r t l e a) 0 adr k' r' t' l' e' a' floor ≠ 0) := by
  obtain ⟨g0, g1, g2, g3, g4, g5, g6⟩ := put_got (M := M) hp
  have ht := h.put (slL adr) k r t l e a
  obtain ⟨e1, e2⟩ := ht.look h1 h2
  have e3 : lkE N (pM N M 1 (slL adr) k r t l e a) 0 adr = 0 := by rw [e1, if_pos g0, if_pos (by rw [g1]; exact hk)]
  refine ⟨e3, fun j hj => ?_, fun k' r' t' l' e' a' floor => ?_⟩
  · rw [e2, if_pos e3]
    match j, hj with
    | 0, _ => exact g1
    | 1, _ => exact g2
    | 2, _ => exact g3
    | 3, _ => exact g4
    | 4, _ => exact g5
    | 5, _ => exact g6
  · unfold ptE
    split
    · rw [ht.room h1 h2, if_pos g0, g1, if_pos hk]
      split <;> decide
    · decide
end Go.Proofs.YtgcaodfcodalfaaGreatDoor.Pcaptbl
