/- Texts on finished packages, joined. -/
import Derived.Test.YtggggfhgfnbjnaaGreatDoorBunSlot
import Derived.Test.YtggggfhgfnbjnaaGreatDoorBunHead
import Derived.Test.YtggggfhgfnbjnaaGreatDoorBunRadix
import Derived.BigQuiet
import Derived.BigRegion
import Derived.Deep.RegionHeld3
import Derived.Deep.CutBlock

/- Tables of capabilities in the words of frames: plain words on what is made, put, looked up, dropped, hung in and frozen. No program is named here. -/
namespace Go.Proofs.YtggggfhgfnbjnaaGreatDoor.Pcaptbl
open Go.Proofs.YtggggfhgfnbjnaaGreatDoor.Pbase Go.Proofs.YtggggfhgfnbjnaaGreatDoor.Pmem Go.Proofs.YtggggfhgfnbjnaaGreatDoor.Pradix Go.Proofs.YtggggfhgfnbjnaaGreatDoor.Pslot
open Go.RowKit
set_option linter.unusedVariables false

/-! ### what is answered, and what is done -/
/-- Is a frame a table's, of this level? Can it be a time? Is a capability quiet for a floor? Is it right, and above a quiet one? -/
def tbB (N : Nat) (M : Nat → Nat → Int) (f l : Int) : Bool := decide (Phead.ghE N M f = 0) && decide (Phead.ghK N M f = 1) && decide (Phead.ghL N M f = l)
def tiB (now : Int) : Bool := decide (1 ≤ now) && decide (now ≤ 1073741824)
def quB (k a floor : Int) : Bool := decide (k = 0) || (decide (k = 1) && decide (a < floor))
def upB (k r t l e a : Int) : Bool := Pcap.rtB k r t l e a && decide (1 < k)
/-- The leaf of an address: the error; its frame, the slot, is it frozen. -/
def lfE (N : Nat) (M : Nat → Nat → Int) (root a : Int) : Int :=
  if slE a = 0 then if tbB N M root 0 = true then if sE N M root (slH a) = 0 ∧ sC N M root (slH a) 0 = 3 then if tbB N M (sC N M root (slH a) 2) 1 = true then 0 else 4 else 3 else 4 else slE a
def lfF (N : Nat) (M : Nat → Nat → Int) (root a : Int) : Int := if lfE N M root a = 0 then sC N M root (slH a) 2 else 0
def lfI (N : Nat) (M : Nat → Nat → Int) (root a : Int) : Int := if lfE N M root a = 0 then slL a else 0
def lfZ (N : Nat) (M : Nat → Nat → Int) (root a : Int) : Bool := decide (lfE N M root a = 0) && Phead.ghZ N M (lfF N M root a)
/-- Room. -/
def roE (N : Nat) (M : Nat → Nat → Int) (root a floor : Int) : Int :=
  if lfE N M root a = 0 then if lfZ N M root a = true then 6 else if sE N M (lfF N M root a) (lfI N M root a) = 0 then if 1 < sC N M (lfF N M root a) (lfI N M root a) 0 then 10 else
    if quB (sC N M (lfF N M root a) (lfI N M root a) 0) (sC N M (lfF N M root a) (lfI N M root a) 5) floor = true then 0 else 6 else sE N M (lfF N M root a) (lfI N M root a) else lfE N M root a
/-- Put. -/
def ptE (N : Nat) (M : Nat → Nat → Int) (root adr k r t l e a floor : Int) : Int := if upB k r t l e a = true then roE N M root adr floor else 1
def ptM (N : Nat) (M : Nat → Nat → Int) (root adr k r t l e a floor : Int) : Nat → Nat → Int := if ptE N M root adr k r t l e a floor = 0 then pM N M (lfF N M root adr) (lfI N M root adr) k r t l e a else M
/-- Look. -/
def lkE (N : Nat) (M : Nat → Nat → Int) (root a : Int) : Int :=
  if lfE N M root a = 0 then if sE N M (lfF N M root a) (lfI N M root a) = 0 then if 1 < sC N M (lfF N M root a) (lfI N M root a) 0 then 0 else 3 else sE N M (lfF N M root a) (lfI N M root a) else lfE N M root a
def lkC (N : Nat) (M : Nat → Nat → Int) (root a : Int) (j : Nat) : Int := if lkE N M root a = 0 then sC N M (lfF N M root a) (lfI N M root a) j else 0
/-- Drop. -/
def drE (N : Nat) (M : Nat → Nat → Int) (root a now : Int) : Int := if tiB now = true then if lkE N M root a = 0 then if lfZ N M root a = true then 6 else 0 else lkE N M root a else 1
def drC (N : Nat) (M : Nat → Nat → Int) (root a now : Int) (j : Nat) : Int := if drE N M root a now = 0 then lkC N M root a j else 0
def drM (N : Nat) (M : Nat → Nat → Int) (root a now : Int) : Nat → Nat → Int := if drE N M root a now = 0 then pM N M (lfF N M root a) (lfI N M root a) 1 0 0 0 0 now else M
/-- Cons. -/
def coE (N : Nat) (M : Nat → Nat → Int) (root high f floor : Int) : Int :=
  if okS high = true then if tbB N M root 0 = true ∧ tbB N M f 1 = true then if Phead.ghZ N M root = true ∨ Phead.ghZ N M f = true then 6 else if sE N M root high = 0 then if 1 < sC N M root high 0 then 10 else
    if quB (sC N M root high 0) (sC N M root high 5) floor = true then 0 else 6 else sE N M root high else 4 else 1
def coM (N : Nat) (M : Nat → Nat → Int) (root high f floor : Int) : Nat → Nat → Int := if coE N M root high f floor = 0 then pM N M root high 3 31 f 0 0 0 else M
/-- Decons. -/
def deE (N : Nat) (M : Nat → Nat → Int) (root high now floor : Int) : Int :=
  if okS high = true ∧ tiB now = true then if tbB N M root 0 = true then if sE N M root high = 0 then if sC N M root high 0 = 3 then
    if Phead.ghE N M (sC N M root high 2) = 0 ∧ Phead.ghK N M (sC N M root high 2) = 1 ∧ Phead.ghZ N M (sC N M root high 2) = true ∧ Phead.ghT N M (sC N M root high 2) < floor then 0 else 6 else 3 else sE N M root high else 4 else 1
def deF (N : Nat) (M : Nat → Nat → Int) (root high now floor : Int) : Int := if deE N M root high now floor = 0 then sC N M root high 2 else 0
def deM (N : Nat) (M : Nat → Nat → Int) (root high now floor : Int) : Nat → Nat → Int := if deE N M root high now floor = 0 then pM N M root high 1 0 0 0 0 now else M
/-- Freeze. -/
def frE (N : Nat) (M : Nat → Nat → Int) (f now : Int) : Int := if tiB now = true then if Phead.ghE N M f = 0 ∧ Phead.ghK N M f = 1 then if Phead.ghZ N M f = true then 10 else 0 else 4 else 1
def frM (N : Nat) (M : Nat → Nat → Int) (f now : Int) : Nat → Nat → Int := if frE N M f now = 0 then Phead.putM N M f 1 (Phead.ghL N M f) true now else M

/-! ### what a slot's Put leaves of the heads, and a head's Put of the slots -/
theorem gh_words {N : Nat} {M M' : Nat → Nat → Int} {g : Int} (h : ∀ j, j < 4 → M' g.toNat j = M g.toNat j) :
    Phead.ghK N M' g = Phead.ghK N M g ∧ Phead.ghL N M' g = Phead.ghL N M g ∧ Phead.ghZ N M' g = Phead.ghZ N M g ∧ Phead.ghT N M' g = Phead.ghT N M g ∧ Phead.ghE N M' g = Phead.ghE N M g := by
  unfold Phead.ghK Phead.ghL Phead.ghZ Phead.ghT Phead.ghE
  rw [h 0 (by omega), h 1 (by omega), h 2 (by omega), h 3 (by omega)]
  exact ⟨rfl, rfl, rfl, rfl, rfl⟩
theorem slot_words {N : Nat} {M M' : Nat → Nat → Int} {g i : Int} (h : ∀ j, 4 ≤ j → M' g.toNat j = M g.toNat j) :
    sE N M' g i = sE N M g i ∧ ∀ j, sC N M' g i j = sC N M g i j := by
  have e1 : w1 M' g i = w1 M g i := h _ (by omega)
  have e2 : w2 M' g i = w2 M g i := h _ (by omega)
  exact ⟨by unfold sE; rw [e1, e2], fun j => by unfold sC; rw [e1, e2]⟩
theorem gh_pM (N : Nat) (M : Nat → Nat → Int) (f i k r t l e a g : Int) :
    Phead.ghK N (pM N M f i k r t l e a) g = Phead.ghK N M g ∧ Phead.ghL N (pM N M f i k r t l e a) g = Phead.ghL N M g ∧ Phead.ghZ N (pM N M f i k r t l e a) g = Phead.ghZ N M g ∧ Phead.ghT N (pM N M f i k r t l e a) g = Phead.ghT N M g ∧ Phead.ghE N (pM N M f i k r t l e a) g = Phead.ghE N M g := by
  by_cases h : pE N f i k r t l e a = 0
  · have hi := okS_yes (pE_zero h).1
    exact gh_words fun j hj => pM_other (.inr ⟨by omega, by omega⟩)
  · rw [pM_no h]
    exact ⟨rfl, rfl, rfl, rfl, rfl⟩
/-- Slots of other frames. -/
theorem put_frame {N : Nat} {M : Nat → Nat → Int} {f i k r t l e a g m : Int} (h0 : 0 ≤ g) (h : g ≠ f) :
    sE N (pM N M f i k r t l e a) g m = sE N M g m ∧ ∀ j, sC N (pM N M f i k r t l e a) g m j = sC N M g m j :=
  slot_words fun j _ => pM_other (.inl (by omega))
theorem okF_of_sE {N : Nat} {M : Nat → Nat → Int} {f i : Int} (h : sE N M f i = 0) : okS i = true ∧ okF N f = true := by
  unfold sE at h
  cases h1 : okS i <;> cases h2 : okF N f <;> simp [h1, h2] at h ⊢
theorem rt_quiet {now : Int} (h : tiB now = true) : Pcap.Rt 1 0 0 0 0 now := by
  simp only [tiB, Bool.and_eq_true, decide_eq_true_eq] at h
  unfold Pcap.Rt
  omega
theorem rt_table {f : Int} (h0 : 0 ≤ f) (h1 : f ≤ 63) : Pcap.Rt 3 31 f 0 0 0 := by
  unfold Pcap.Rt
  omega
theorem pE_yes {N : Nat} {f i k r t l e a : Int} (hi : okS i = true) (hr : Pcap.Rt k r t l e a) (hf : okF N f = true) : pE N f i k r t l e a = 0 := by
  simp [pE, hi, hf, Pcap.rtB_yes hr]
/-- Where Room has none to refuse, the slot's Put has none either. -/
theorem ro_put {N : Nat} {M : Nat → Nat → Int} {root adr k r t l e a floor : Int} (hr : Pcap.Rt k r t l e a) (h : roE N M root adr floor = 0) : pE N (lfF N M root adr) (lfI N M root adr) k r t l e a = 0 := by
  unfold roE at h
  by_cases h1 : lfE N M root adr = 0
  · rw [if_pos h1] at h
    by_cases h2 : lfZ N M root adr = true
    · rw [if_pos h2] at h; cases h
    · rw [if_neg h2] at h
      by_cases h3 : sE N M (lfF N M root adr) (lfI N M root adr) = 0
      · exact pE_yes (okF_of_sE h3).1 hr (okF_of_sE h3).2
      · rw [if_neg h3] at h; exact absurd h h3
  · rw [if_neg h1] at h; exact absurd h h1
theorem lk_put {N : Nat} {M : Nat → Nat → Int} {root adr k r t l e a : Int} (hr : Pcap.Rt k r t l e a) (h : lkE N M root adr = 0) : pE N (lfF N M root adr) (lfI N M root adr) k r t l e a = 0 := by
  unfold lkE at h
  by_cases h1 : lfE N M root adr = 0
  · rw [if_pos h1] at h
    by_cases h3 : sE N M (lfF N M root adr) (lfI N M root adr) = 0
    · exact pE_yes (okF_of_sE h3).1 hr (okF_of_sE h3).2
    · rw [if_neg h3] at h; exact absurd h h3
  · rw [if_neg h1] at h; exact absurd h h1

/-! ### a root, frame 0, and one leaf, frame 1 -/
structure Tree (N : Nat) (M : Nat → Nat → Int) (high : Nat) (z : Bool) (tm : Int) : Prop where
  hN : 2 ≤ N
  hh : high < 16
  rE : Phead.ghE N M 0 = 0
  rK : Phead.ghK N M 0 = 1
  rL : Phead.ghL N M 0 = 0
  rZ : Phead.ghZ N M 0 = false
  eE : Phead.ghE N M 1 = 0
  eK : Phead.ghK N M 1 = 1
  eL : Phead.ghL N M 1 = 1
  eZ : Phead.ghZ N M 1 = z
  eT : Phead.ghT N M 1 = tm
  link : sE N M 0 high = 0 ∧ sC N M 0 high 0 = 3 ∧ sC N M 0 high 2 = 1
  other : ∀ m : Nat, m < 16 → m ≠ high → sE N M 0 m = 0 ∧ sC N M 0 m 0 = 0
theorem Tree.root {N : Nat} {M : Nat → Nat → Int} {high : Nat} {z : Bool} {tm : Int} (h : Tree N M high z tm) : tbB N M 0 0 = true := by simp [tbB, h.rE, h.rK, h.rL]
theorem Tree.leaf {N : Nat} {M : Nat → Nat → Int} {high : Nat} {z : Bool} {tm : Int} (h : Tree N M high z tm) : tbB N M 1 1 = true := by simp [tbB, h.eE, h.eK, h.eL]
/-- Whatever is put into the leaf's slots. -/
theorem Tree.put {N : Nat} {M : Nat → Nat → Int} {high : Nat} {z : Bool} {tm : Int} (h : Tree N M high z tm) (i k r t l e a : Int) : Tree N (pM N M 1 i k r t l e a) high z tm := by
  obtain ⟨a1, a2, a3, a4, a5⟩ := gh_pM N M 1 i k r t l e a 0
  obtain ⟨b1, b2, b3, b4, b5⟩ := gh_pM N M 1 i k r t l e a 1
  have s : ∀ m : Int, sE N (pM N M 1 i k r t l e a) 0 m = sE N M 0 m ∧ ∀ j, sC N (pM N M 1 i k r t l e a) 0 m j = sC N M 0 m j := fun m => put_frame (by omega) (by omega)
  exact ⟨h.hN, h.hh, a5.trans h.rE, a1.trans h.rK, a2.trans h.rL, a3.trans h.rZ, b5.trans h.eE, b1.trans h.eK, b2.trans h.eL, b3.trans h.eZ, b4.trans h.eT,
    ⟨(s _).1.trans h.link.1, ((s _).2 0).trans h.link.2.1, ((s _).2 2).trans h.link.2.2⟩, fun m hm hn => ⟨(s _).1.trans (h.other m hm hn).1, ((s _).2 0).trans (h.other m hm hn).2⟩⟩
theorem sl_parts {a : Int} (h : slE a = 0) : (0 ≤ a ∧ a ≤ 255) ∧ slH a = a / 16 ∧ slL a = a % 16 ∧ (0 ≤ slH a ∧ slH a ≤ 15) ∧ 0 ≤ slL a ∧ slL a ≤ 15 := by
  by_cases hc : 0 ≤ a ∧ a ≤ 255
  · obtain ⟨_, e1, e2⟩ := sl_yes hc
    exact ⟨hc, e1, e2, by omega, by omega⟩
  · rw [(sl_no hc).1] at h; cases h
/-- The leaf of an address. -/
theorem Tree.at {N : Nat} {M : Nat → Nat → Int} {high : Nat} {z : Bool} {tm : Int} (h : Tree N M high z tm) {a : Int} (h1 : slE a = 0) (h2 : slH a = high) : lfE N M 0 a = 0 ∧ lfF N M 0 a = 1 ∧ lfI N M 0 a = slL a ∧ lfZ N M 0 a = z := by
  have e0 : lfE N M 0 a = 0 := by
    unfold lfE
    rw [if_pos h1, if_pos h.root, h2, if_pos ⟨h.link.1, h.link.2.1⟩, h.link.2.2, if_pos h.leaf]
  have e1 : lfF N M 0 a = 1 := by unfold lfF; rw [if_pos e0, h2, h.link.2.2]
  exact ⟨e0, e1, by unfold lfI; rw [if_pos e0], by unfold lfZ; rw [e0, e1, h.eZ]; rfl⟩
theorem Tree.off {N : Nat} {M : Nat → Nat → Int} {high : Nat} {z : Bool} {tm : Int} (h : Tree N M high z tm) {a : Int} (h2 : ¬ (slE a = 0 ∧ slH a = high)) : lfE N M 0 a ≠ 0 := by
  unfold lfE
  by_cases h1 : slE a = 0
  · obtain ⟨_, _, _, h3, _⟩ := sl_parts h1
    have hn : (slH a).toNat ≠ high := fun e => h2 ⟨h1, by omega⟩
    have ho := h.other (slH a).toNat (by omega) hn
    rw [show ((slH a).toNat : Int) = slH a by omega] at ho
    rw [if_pos h1, if_pos h.root, if_neg (fun k => by rw [ho.2] at k; cases k.2)]
    decide
  · rw [if_neg h1]
    exact h1
/-- What comes of each call there, by what the slot has. -/
theorem Tree.room {N : Nat} {M : Nat → Nat → Int} {high : Nat} {z : Bool} {tm : Int} (h : Tree N M high z tm) {a : Int} (h1 : slE a = 0) (h2 : slH a = high) (floor : Int) :
    roE N M 0 a floor = if z = true then 6 else if sE N M 1 (slL a) = 0 then if 1 < sC N M 1 (slL a) 0 then 10 else if quB (sC N M 1 (slL a) 0) (sC N M 1 (slL a) 5) floor = true then 0 else 6 else sE N M 1 (slL a) := by
  obtain ⟨e1, e2, e3, e4⟩ := h.at h1 h2
  unfold roE
  rw [if_pos e1, e2, e3, e4]
theorem Tree.look {N : Nat} {M : Nat → Nat → Int} {high : Nat} {z : Bool} {tm : Int} (h : Tree N M high z tm) {a : Int} (h1 : slE a = 0) (h2 : slH a = high) :
    (lkE N M 0 a = if sE N M 1 (slL a) = 0 then if 1 < sC N M 1 (slL a) 0 then 0 else 3 else sE N M 1 (slL a)) ∧ ∀ j, lkC N M 0 a j = if lkE N M 0 a = 0 then sC N M 1 (slL a) j else 0 := by
  obtain ⟨e1, e2, e3, e4⟩ := h.at h1 h2
  refine ⟨?_, fun j => ?_⟩
  · unfold lkE
    rw [if_pos e1, e2, e3]
  · unfold lkC
    rw [e2, e3]
/-- Where Put takes one. -/
theorem Tree.took {N : Nat} {M : Nat → Nat → Int} {high : Nat} {z : Bool} {tm : Int} (h : Tree N M high z tm) {adr k r t l e a floor : Int} (hp : ptE N M 0 adr k r t l e a floor = 0) :
    slE adr = 0 ∧ slH adr = high ∧ Pcap.Rt k r t l e a ∧ 1 < k ∧ pE N 1 (slL adr) k r t l e a = 0 ∧ ptM N M 0 adr k r t l e a floor = pM N M 1 (slL adr) k r t l e a := by
  unfold ptM
  rw [if_pos hp]
  unfold ptE at hp
  by_cases hu : upB k r t l e a = true
  · rw [if_pos hu] at hp
    simp only [upB, Bool.and_eq_true, decide_eq_true_eq] at hu
    have hr := (Pcap.rtB_iff k r t l e a).1 hu.1
    by_cases hl : slE adr = 0 ∧ slH adr = high
    · obtain ⟨e1, e2, e3, e4⟩ := h.at hl.1 hl.2
      have := ro_put hr hp
      rw [e2, e3] at this
      rw [e2, e3]
      exact ⟨hl.1, hl.2, hr, hu.2, this, rfl⟩
    · have := h.off hl
      unfold roE at hp
      rw [if_neg this] at hp
      exact absurd hp this
  · rw [if_neg hu] at hp; cases hp
/-- What is put is looked up; no other comes to its place; it is dropped in its time alone. -/
theorem Tree.held {N : Nat} {M : Nat → Nat → Int} {high : Nat} {z : Bool} {tm : Int} (h : Tree N M high z tm) {adr k r t l e a : Int} (h1 : slE adr = 0) (h2 : slH adr = high) (hp : pE N 1 (slL adr) k r t l e a = 0) (hk : 1 < k) :
    lkE N (pM N M 1 (slL adr) k r t l e a) 0 adr = 0 ∧ (∀ j, j < 6 → lkC N (pM N M 1 (slL adr) k r t l e a) 0 adr j = [k, r, t, l, e, a][j]?.getD 0) ∧
    (∀ k' r' t' l' e' a' floor, ptE N (pM N M 1 (slL adr) k r t l e a) 0 adr k' r' t' l' e' a' floor ≠ 0) := by
  obtain ⟨g0, g1, g2, g3, g4, g5, g6⟩ := put_got (M := M) hp
  have ht := h.put (slL adr) k r t l e a
  obtain ⟨e1, e2⟩ := ht.look h1 h2
  have e3 : lkE N (pM N M 1 (slL adr) k r t l e a) 0 adr = 0 := by rw [e1, if_pos g0, if_pos (by rw [g1]; exact hk)]
  refine ⟨e3, fun j hj => ?_, fun k' r' t' l' e' a' floor => ?_⟩
  · rw [e2, if_pos e3]
    match j, hj with
    | 0, _ => exact g1
    | 1, _ => exact g2
    | 2, _ => exact g3
    | 3, _ => exact g4
    | 4, _ => exact g5
    | 5, _ => exact g6
  · unfold ptE
    split
    · rw [ht.room h1 h2, if_pos g0, g1, if_pos hk]
      split <;> decide
    · decide
end Go.Proofs.YtggggfhgfnbjnaaGreatDoor.Pcaptbl

/- A walk through a table: where it lies, and what each of its steps answers and does; a row of steps, up to the first that is refused. -/
namespace Go.Proofs.YtggggfhgfnbjnaaGreatDoor.Pcaptbl
open Go.Proofs.YtggggfhgfnbjnaaGreatDoor.Pbase Go.Proofs.YtggggfhgfnbjnaaGreatDoor.Pmem Go.Proofs.YtggggfhgfnbjnaaGreatDoor.Pradix Go.Proofs.YtggggfhgfnbjnaaGreatDoor.Pslot
open Go.RowKit
set_option linter.unusedVariables false

/-! ### a memory and the four tables -/
theorem ws_ne {w : World} {p b N : Nat} {M : Nat → Nat → Int} (hM : MemIs w p b N M) (h : Ws w) : 4 ≠ b := by
  intro e
  obtain ⟨t, fr, hr⟩ := h.s
  rw [e, hM.row] at hr
  simp only [Option.some.injEq, Obj.cells.injEq] at hr
  have := congrArg Array.size hr.1
  rw [cellsM_size] at this
  simp at this
  omega
theorem ws_but {w w' : World} {b : Nat} (h : Ws w) (hB : But b w w') (hn : 4 ≠ b) : Ws w' :=
  ⟨Nat.lt_of_lt_of_le h.ls hB.size, by obtain ⟨t, fr, hr⟩ := h.s; exact ⟨t, fr, (hB.block 4 h.ls hn).trans hr⟩⟩
structure Mx (w : World) (p b N : Nat) (M : Nat → Nat → Int) : Prop where
  mt : Mt w p b N M
  th : Phead.TabW w
  ts : Ws w
theorem Mx.on {w w' : World} {p b N : Nat} {M : Nat → Nat → Int} (h : Mx w p b N M) (hB : Below w.heap.size w w') : Mx w' p b N M :=
  ⟨h.mt.on hB, h.th.on hB, h.ts.on hB⟩
theorem Mx.but {w w' : World} {p b N : Nat} {M M' : Nat → Nat → Int} (h : Mx w p b N M) (hM : MemIs w' p b N M') (hF : Fit M') (hB : But b w w') : Mx w' p b N M' :=
  ⟨h.mt.but hM hF hB, h.th.but hB (Phead.tab_ne h.mt.mem h.th), ws_but h.ts hB (ws_ne h.mt.mem h.ts)⟩
theorem but_on {b : Nat} {a w w' : World} (h : But b a w) (hB : Below a.heap.size w w') : But b a w' :=
  ⟨hB.os.trans h.os, hB.tape.trans h.tape, hB.output.trans h.output, Nat.le_trans h.size hB.size, fun i hi hn => (hB.block i hi).trans (h.block i hi hn)⟩
theorem but_new {b : Nat} {a w : World} (h : But b a w) {q : Nat} (hq : a.heap.size ≤ q) (j : Nat) (v : Value) : But b a (w.setCell ⟨q, j, none⟩ v) :=
  but_on h ((Below.refl a.heap.size w).setCell (p := ⟨q, j, none⟩) hq v)
theorem but_own {b : Nat} {a w : World} (h : But b a w) (j : Nat) (v : Value) : But b a (w.setCell ⟨b, j, none⟩ v) := by
  have hB := (Below.refl 0 w).setCell (p := ⟨b, j, none⟩) (Nat.zero_le _) v
  exact ⟨hB.os.trans h.os, hB.tape.trans h.tape, hB.output.trans h.output, Nat.le_trans h.size hB.size, fun i hi hn => (heap_setCell_other _ _ _ _ hn).trans (h.block i hi hn)⟩

/-! ### where a walk stands, and what it saw there last -/
structure Wk where
  a : Int
  fl : Int
  fr : Int
  at_ : Int
  lo : Int
  hk : Int
  hl : Int
  hz : Bool
  ht : Int
  k : Int
  r : Int
  t : Int
  l : Int
  e : Int
  x : Int
def Wk.cells (v : Wk) (p : Nat) : Array Value := #[.pointer (some ⟨p, 0, none⟩), .int .i64 v.a, .int .i64 v.fl, .int .i64 v.fr, .int .i64 v.at_, .int .i64 v.lo, .int .i64 v.hk, .int .i64 v.hl, .bool v.hz, .int .i64 v.ht, .int .i64 v.k, .int .i64 v.r, .int .i64 v.t, .int .i64 v.l, .int .i64 v.e, .int .i64 v.x]
structure Wi (w0 w : World) (p b N : Nat) (M : Nat → Nat → Int) (B : Nat) (v : Wk) : Prop where
  mx0 : Mx w0 p b N M
  below : Below w0.heap.size w0 w
  lo : w0.heap.size ≤ B
  row : w.heap[B]? = some (.cells (v.cells p) 131 (0, 0))
  ba : -9223372036854775808 ≤ v.a ∧ v.a ≤ 9223372036854775807
section
variable {w0 w w' : World} {p b N : Nat} {M : Nat → Nat → Int} {B : Nat} {v : Wk}
theorem Wi.mx (h : Wi w0 w p b N M B v) : Mx w p b N M := h.mx0.on h.below
theorem Wi.lt (h : Wi w0 w p b N M B v) : B < w.heap.size := (Array.getElem?_eq_some_iff.1 h.row).1
theorem Wi.on (h : Wi w0 w p b N M B v) (hB : Below w.heap.size w w') : Wi w0 w' p b N M B v :=
  ⟨h.mx0, h.below.trans (hB.mono h.below.size), h.lo, (hB.block B h.lt).trans h.row, h.ba⟩
theorem Wi.but (h : Wi w0 w p b N M B v) {q : Nat} (hB : But q w w') (hq : w0.heap.size ≤ q) (hn : B ≠ q) : Wi w0 w' p b N M B v :=
  ⟨h.mx0, h.below.trans (hB.below hq h.below.size), h.lo, (hB.block B h.lt hn).trans h.row, h.ba⟩
theorem Wi.fz (h : Wi w0 w p b N M B v) (j : Nat) : w.frozen? ⟨B, j, none⟩ = false := frozen_of_row _ _ _ _ _ h.row
theorem Wi.c0 (h : Wi w0 w p b N M B v) : w.cell? ⟨B, 0, none⟩ = some (.pointer (some ⟨p, 0, none⟩)) := (cell_of_row _ _ _ _ _ _ h.row).trans rfl
theorem Wi.c1 (h : Wi w0 w p b N M B v) : w.cell? ⟨B, 1, none⟩ = some (.int .i64 v.a) := (cell_of_row _ _ _ _ _ _ h.row).trans rfl
theorem Wi.c2 (h : Wi w0 w p b N M B v) : w.cell? ⟨B, 2, none⟩ = some (.int .i64 v.fl) := (cell_of_row _ _ _ _ _ _ h.row).trans rfl
theorem Wi.c3 (h : Wi w0 w p b N M B v) : w.cell? ⟨B, 3, none⟩ = some (.int .i64 v.fr) := (cell_of_row _ _ _ _ _ _ h.row).trans rfl
theorem Wi.c4 (h : Wi w0 w p b N M B v) : w.cell? ⟨B, 4, none⟩ = some (.int .i64 v.at_) := (cell_of_row _ _ _ _ _ _ h.row).trans rfl
theorem Wi.c5 (h : Wi w0 w p b N M B v) : w.cell? ⟨B, 5, none⟩ = some (.int .i64 v.lo) := (cell_of_row _ _ _ _ _ _ h.row).trans rfl
theorem Wi.c6 (h : Wi w0 w p b N M B v) : w.cell? ⟨B, 6, none⟩ = some (.int .i64 v.hk) := (cell_of_row _ _ _ _ _ _ h.row).trans rfl
theorem Wi.c7 (h : Wi w0 w p b N M B v) : w.cell? ⟨B, 7, none⟩ = some (.int .i64 v.hl) := (cell_of_row _ _ _ _ _ _ h.row).trans rfl
theorem Wi.c9 (h : Wi w0 w p b N M B v) : w.cell? ⟨B, 9, none⟩ = some (.int .i64 v.ht) := (cell_of_row _ _ _ _ _ _ h.row).trans rfl
theorem Wi.c8 (h : Wi w0 w p b N M B v) : w.cell? ⟨B, 8, none⟩ = some (.bool v.hz) := (cell_of_row _ _ _ _ _ _ h.row).trans rfl
theorem Wi.c10 (h : Wi w0 w p b N M B v) : w.cell? ⟨B, 10, none⟩ = some (.int .i64 v.k) := (cell_of_row _ _ _ _ _ _ h.row).trans rfl
theorem Wi.c11 (h : Wi w0 w p b N M B v) : w.cell? ⟨B, 11, none⟩ = some (.int .i64 v.r) := (cell_of_row _ _ _ _ _ _ h.row).trans rfl
theorem Wi.c12 (h : Wi w0 w p b N M B v) : w.cell? ⟨B, 12, none⟩ = some (.int .i64 v.t) := (cell_of_row _ _ _ _ _ _ h.row).trans rfl
theorem Wi.c13 (h : Wi w0 w p b N M B v) : w.cell? ⟨B, 13, none⟩ = some (.int .i64 v.l) := (cell_of_row _ _ _ _ _ _ h.row).trans rfl
theorem Wi.c14 (h : Wi w0 w p b N M B v) : w.cell? ⟨B, 14, none⟩ = some (.int .i64 v.e) := (cell_of_row _ _ _ _ _ _ h.row).trans rfl
theorem Wi.c15 (h : Wi w0 w p b N M B v) : w.cell? ⟨B, 15, none⟩ = some (.int .i64 v.x) := (cell_of_row _ _ _ _ _ _ h.row).trans rfl
/-- A cell of it is written. -/
theorem Wi.set (h : Wi w0 w p b N M B v) (v' : Wk) (j : Nat) (x : Value) (hc : (v.cells p).setIfInBounds j x = v'.cells p) (ha : v'.a = v.a) : Wi w0 (w.setCell ⟨B, j, none⟩ x) p b N M B v' :=
  ⟨h.mx0, bst h.below h.lo _ _, h.lo, by rw [← hc]; exact heap_setCell_same _ _ _ _ _ _ h.row, by rw [ha]; exact h.ba⟩
end

/-! ### a row of steps -/
/-- Steps in their order, up to the first that is refused: what they leave, and the error. -/
abbrev Stp (σ : Type) := Nat × Value × (σ → σ × Int)
def chain {σ : Type} : List (Stp σ) → σ → σ × Int
  | [], s => (s, 0)
  | c :: r, s => if (c.2.2 s).2 = 0 then chain r (c.2.2 s).1 else c.2.2 s
theorem chain_nil {σ : Type} (s : σ) : chain [] s = (s, 0) := rfl
theorem chain_cons {σ : Type} (c : Stp σ) (r : List (Stp σ)) (s : σ) : chain (c :: r) s = if (c.2.2 s).2 = 0 then chain r (c.2.2 s).1 else c.2.2 s := rfl
set_option maxRecDepth 100000 in
theorem follow_any {σ : Type} (P : σ → World → Prop) (D n : Nat) (fs : List (Stp σ)) (w : World) (s : σ) (hn : n = fs.length) (hn16 : n ≤ 16) (h0 : P s w)
    (hE : ∀ (j : Nat) (c : Stp σ), fs[j]? = some c → ∀ (ar : Array Value) (w : World), (callFunc c.1 ar).run Tryz.prog w = .ok (.enter c.1 ar) w)
    (hD : ∀ (j : Nat) (c : Stp σ) (s : σ) (w : World), fs[j]? = some c → P s w → w.cell? ⟨D, j, none⟩ = some (.func (.func c.1) #[c.2.1] #[]))
    (hs : ∀ (j : Nat) (c : Stp σ) (s : σ) (w : World), fs[j]? = some c → P s w → Calls Tryz.prog c.1 #[c.2.1] w fun x w' => x = .returned (.int .i64 (c.2.2 s).2) ∧ P (c.2.2 s).1 w') :
    Calls Tryz.prog 55 #[.slice (some ⟨D, 0, none⟩) n n] w fun x w' => x = .returned (.int .i64 (chain fs s).2) ∧ P (chain fs s).1 w' := by
  have HN : Hid (n = fs.length) := hn
  have HE : Hid (∀ (j : Nat) (c : Stp σ), fs[j]? = some c → ∀ (ar : Array Value) (w : World), (callFunc c.1 ar).run Tryz.prog w = .ok (.enter c.1 ar) w) := hE
  obtain ⟨R, hR⟩ : ∃ R, chain fs s = R := ⟨_, rfl⟩
  rw [hR]
  have HR : Hid (chain fs s = R) := hR
  have HD : Hid (∀ (j : Nat) (c : Stp σ) (s : σ) (w : World), fs[j]? = some c → P s w → w.cell? ⟨D, j, none⟩ = some (.func (.func c.1) #[c.2.1] #[])) := hD
  have HS : Hid (∀ (j : Nat) (c : Stp σ) (s : σ) (w : World), fs[j]? = some c → P s w → Calls Tryz.prog c.1 #[c.2.1] w fun x w' => x = .returned (.int .i64 (c.2.2 s).2) ∧ P (c.2.2 s).1 w') := hs
  have H0 : Hid (P s w) := h0
  clear hn hD hs h0 hE hR
  go_enter Tryz.func55, Tryz.ntmps55
  go_wp2
  go_loopw [8] (fun i wr => ∃ k : Nat, k ≤ n ∧ i = .int .i64 k ∧ ∃ s', P s' wr ∧ chain (fs.drop k) s' = R) (fun i _ => n - (intOf i).toNat)
  case atStart => exact ⟨0, by omega, rfl, s, H0.out, HR.out⟩
  case round =>
    obtain ⟨k, hk, rfl, s', hP, hc⟩ := hrel
    rcases Nat.lt_or_ge k n with hlt | hge
    · have hki : (k : Int) < (n : Int) := by omega
      have hw : wrap64 ((k : Int) + 1) = (k : Int) + 1 := by unfold wrap64; omega
      have hkl : k < fs.length := by have := HN.out; omega
      obtain ⟨c, hcv⟩ : ∃ c, fs[k]? = some c := ⟨_, List.getElem?_eq_getElem hkl⟩
      have hdrop : fs.drop k = c :: fs.drop (k + 1) := by
        rw [List.drop_eq_getElem_cons hkl]
        rw [List.getElem?_eq_getElem hkl] at hcv
        rw [Option.some.inj hcv]
      rw [hdrop] at hc
      rw [chain_cons] at hc
      have hrun := HE.out k c hcv
      have hcell := HD.out k c s' wr hcv hP
      have HC : Hid (Calls Tryz.prog c.1 #[c.2.1] wr fun x w' => x = .returned (.int .i64 (c.2.2 s').2) ∧ P (c.2.2 s').1 w') := HS.out k c s' wr hcv hP
      clear hP hcv hdrop HD HS
      generalize c.1 = fn at hcell HC hrun
      generalize c.2.1 = rc at hcell HC
      generalize c.2.2 s' = res at hc HC
      obtain ⟨s2, e⟩ := res
      simp only at hc HC
      by_cases he : e = 0
      · subst he
        rw [if_pos rfl] at hc
        have HX : Hid (chain (fs.drop (k + 1)) s2 = R) := hc
        clear hc
        go_wp2_with (first
          | (refine HC.out.mono ?_; rintro x1 w1 ⟨rfl, hp1⟩; have H1 : Hid (P s2 w1) := hp1; clear hp1 HC)
          | fail)
        go_roundw
        case rel => exact ⟨k + 1, by omega, by go_num, s2, H1.out, HX.out⟩
        case measure => simp [intOf]; omega
      · rw [if_neg he] at hc
        have he' : (e != 0) = true := by simp [he]
        have HX : Hid ((s2, e) = R) := hc
        clear hc he
        go_wp2_with (first
          | (refine HC.out.mono ?_; rintro x1 w1 ⟨rfl, hp1⟩; have H1 : Hid (P s2 w1) := hp1; clear hp1 HC)
          | fail)
        go_ret
        obtain rfl := HX.out
        exact ⟨rfl, H1.out⟩
    · obtain rfl : k = n := by omega
      have hd : fs.drop k = [] := List.drop_eq_nil_of_le (by have := HN.out; omega)
      rw [hd] at hc
      rw [chain_nil] at hc
      have HX : Hid ((s', 0) = R) := hc
      have HP : Hid (P s' wr) := hP
      clear hP hc hd
      go_wp2
      go_ret
      obtain rfl := HX.out
      exact ⟨rfl, HP.out⟩
end Go.Proofs.YtggggfhgfnbjnaaGreatDoor.Pcaptbl

/- What each step of a walk answers and does. -/
namespace Go.Proofs.YtggggfhgfnbjnaaGreatDoor.Pcaptbl
open Go.Proofs.YtggggfhgfnbjnaaGreatDoor.Pbase Go.Proofs.YtggggfhgfnbjnaaGreatDoor.Pmem Go.Proofs.YtggggfhgfnbjnaaGreatDoor.Pradix Go.Proofs.YtggggfhgfnbjnaaGreatDoor.Pslot
open Go.RowKit
set_option linter.unusedVariables false

/-! ### the steps in plain words -/
def stCut (v : Wk) : Wk × Int := ({ v with at_ := slH v.a, lo := slL v.a }, slE v.a)
def stIn (N : Nat) (M : Nat → Nat → Int) (l : Int) (v : Wk) : Wk × Int :=
  if tbB N M v.fr l = true then ({ v with hk := Phead.ghK N M v.fr, hl := Phead.ghL N M v.fr, hz := Phead.ghZ N M v.fr, ht := Phead.ghT N M v.fr }, 0) else (v, 4)
def stSee (N : Nat) (M : Nat → Nat → Int) (v : Wk) : Wk := { v with k := sC N M v.fr v.at_ 0, r := sC N M v.fr v.at_ 1, t := sC N M v.fr v.at_ 2, l := sC N M v.fr v.at_ 3, e := sC N M v.fr v.at_ 4, x := sC N M v.fr v.at_ 5 }
def stRead (N : Nat) (M : Nat → Nat → Int) (v : Wk) : Wk × Int := (stSee N M v, sE N M v.fr v.at_)
def stLeaf (v : Wk) : Wk × Int := (v, if v.k = 3 then 0 else 3)
def stDesc (N : Nat) (M : Nat → Nat → Int) (v : Wk) : Wk × Int :=
  if sE N M v.fr v.at_ = 0 ∧ sC N M v.fr v.at_ 0 = 3 then ({ stSee N M v with fr := sC N M v.fr v.at_ 2, at_ := v.lo }, 0) else (stSee N M v, 3)
def stThaw (v : Wk) : Wk × Int := (v, if v.hz = true then 6 else 0)
def stTaken (v : Wk) : Wk × Int := (v, if 1 < v.k then 0 else 3)
def stFree (v : Wk) : Wk × Int := (v, if v.k = 1 then (if v.fl ≤ v.x then 6 else 0) else if v.k = 0 then 0 else 10)

section
variable {w0 w : World} {p b N : Nat} {M : Nat → Nat → Int} {B : Nat} {v : Wk}
theorem cut_any (h : Wi w0 w p b N M B v) : Calls Tryz.prog 162 #[.pointer (some ⟨B, 0, none⟩)] w fun x w' => x = .returned (.int .i64 (stCut v).2) ∧ Wi w0 w' p b N M B (stCut v).1 ∧ But B w w' := by
  have HI : Hid (Wi w0 w p b N M B v) := h
  have c1 := h.c1
  have z4 := h.fz 4
  have z5 := h.fz 5
  clear h
  go_enter Tryz.func162, Tryz.ntmps162
  go_wp2_with (first
    | (go_at_call 205; refine (slot_ws v.a _ HI.out.ba HI.out.mx.ts).mono ?_; rintro e1 w1 ⟨rfl, hb⟩; have H1 : Hid (Wi w0 w1 p b N M B v) := HI.out.on hb; have HB : Hid (But B w w1) := But.of_below B hb; clear hb c1 z4 z5; have z4 := H1.out.fz 4; have z5 := H1.out.fz 5; have c4 := H1.out.c4; have c5 := H1.out.c5)
    | fail)
  go_ret
  exact ⟨rfl, (H1.out.set { v with at_ := slH v.a } 4 _ rfl rfl).set _ 5 _ rfl rfl, but_own (but_own HB.out _ _) _ _⟩
theorem thawed_any (h : Wi w0 w p b N M B v) : Calls Tryz.prog 58 #[.pointer (some ⟨B, 0, none⟩)] w fun x w' => x = .returned (.int .i64 (stThaw v).2) ∧ Wi w0 w' p b N M B (stThaw v).1 ∧ But B w w' := by
  have HI : Hid (Wi w0 w p b N M B v) := h
  have c8 := h.c8
  clear h
  unfold stThaw
  cases hz : v.hz
  · rw [hz] at c8
    go_enter Tryz.func58, Tryz.ntmps58
    go_wp2
    go_ret
    exact ⟨rfl, HI.out, But.refl _ _⟩
  · rw [hz] at c8
    go_enter Tryz.func58, Tryz.ntmps58
    go_wp2
    go_ret
    exact ⟨rfl, HI.out, But.refl _ _⟩
theorem hasLeaf_any (h : Wi w0 w p b N M B v) : Calls Tryz.prog 206 #[.pointer (some ⟨B, 0, none⟩)] w fun x w' => x = .returned (.int .i64 (stLeaf v).2) ∧ Wi w0 w' p b N M B (stLeaf v).1 ∧ w' = w := by
  have HI : Hid (Wi w0 w p b N M B v) := h
  have c10 := h.c10
  clear h
  unfold stLeaf
  by_cases hk : v.k = 3
  · rw [if_pos hk]
    rw [hk] at c10
    go_enter Tryz.func206, Tryz.ntmps206
    go_wp2
    go_ret
    exact ⟨rfl, HI.out, rfl⟩
  · rw [if_neg hk]
    have hk' : (v.k != 3) = true := by simp [hk]
    go_enter Tryz.func206, Tryz.ntmps206
    go_wp2
    go_ret
    exact ⟨rfl, HI.out, rfl⟩
theorem above_any (k r t l e a : Int) (w : World) : Calls Tryz.prog 68 #[.agg #[.int .i64 k, .int .i64 r, .int .i64 t, .int .i64 l, .int .i64 e, .int .i64 a]] w fun x w' => x = .returned (.bool (decide (1 < k))) ∧ Below w.heap.size w w' := by
  by_cases hk : 1 < k
  · simp only [hk, decide_true]
    go_enter Tryz.func68, Tryz.ntmps68
    go_wp2
    go_ret
    exact ⟨rfl, bal (Below.refl _ _) _⟩
  · simp only [hk, decide_false]
    go_enter Tryz.func68, Tryz.ntmps68
    go_wp2
    go_ret
    exact ⟨rfl, bal (Below.refl _ _) _⟩
theorem taken_any (h : Wi w0 w p b N M B v) : Calls Tryz.prog 210 #[.pointer (some ⟨B, 0, none⟩)] w fun x w' => x = .returned (.int .i64 (stTaken v).2) ∧ Wi w0 w' p b N M B (stTaken v).1 ∧ But B w w' := by
  have HI : Hid (Wi w0 w p b N M B v) := h
  have c10 := h.c10
  have c11 := h.c11
  have c12 := h.c12
  have c13 := h.c13
  have c14 := h.c14
  have c15 := h.c15
  clear h
  unfold stTaken
  by_cases hk : 1 < v.k
  · rw [if_pos hk]
    have hd : decide (1 < v.k) = true := decide_eq_true hk
    clear hk
    go_enter Tryz.func210, Tryz.ntmps210
    go_wp2_with (first
      | (go_at_call 68; refine (above_any _ _ _ _ _ _ _).mono ?_; rintro e1 w1 ⟨rfl, hb⟩; rw [hd]; have H1 : Hid (Wi w0 w1 p b N M B v) := HI.out.on hb; have HB : Hid (But B w w1) := But.of_below B hb; clear hb c10 c11 c12 c13 c14 c15)
      | fail)
    go_ret
    exact ⟨rfl, H1.out, HB.out⟩
  · rw [if_neg hk]
    have hd : decide (1 < v.k) = false := decide_eq_false hk
    clear hk
    go_enter Tryz.func210, Tryz.ntmps210
    go_wp2_with (first
      | (go_at_call 68; refine (above_any _ _ _ _ _ _ _).mono ?_; rintro e1 w1 ⟨rfl, hb⟩; rw [hd]; have H1 : Hid (Wi w0 w1 p b N M B v) := HI.out.on hb; have HB : Hid (But B w w1) := But.of_below B hb; clear hb c10 c11 c12 c13 c14 c15)
      | fail)
    go_ret
    exact ⟨rfl, H1.out, HB.out⟩
theorem free_any (h : Wi w0 w p b N M B v) : Calls Tryz.prog 60 #[.pointer (some ⟨B, 0, none⟩)] w fun x w' => x = .returned (.int .i64 (stFree v).2) ∧ Wi w0 w' p b N M B (stFree v).1 ∧ But B w w' := by
  have HI : Hid (Wi w0 w p b N M B v) := h
  have c10 := h.c10
  have c15 := h.c15
  have c2 := h.c2
  clear h
  unfold stFree
  by_cases h1 : v.k = 1
  · rw [if_pos h1]
    rw [h1] at c10
    clear h1
    by_cases h2 : v.fl ≤ v.x
    · rw [if_pos h2]
      go_enter Tryz.func60, Tryz.ntmps60
      go_upto_region 4 with fail
      go_quiet (fail)
      go_wp2
      go_ret
      exact ⟨rfl, HI.out.on (below_drew' _ _ _), But.of_below _ (below_drew' _ _ _)⟩
    · rw [if_neg h2]
      go_enter Tryz.func60, Tryz.ntmps60
      go_upto_region 4 with fail
      go_quiet (fail)
      go_wp2
      go_ret
      exact ⟨rfl, HI.out.on (below_drew' _ _ _), But.of_below _ (below_drew' _ _ _)⟩
  · rw [if_neg h1]
    have h1' : (v.k == 1) = false := by simp [h1]
    by_cases h0 : v.k = 0
    · rw [if_pos h0]
      rw [h0] at c10
      clear h1 h1' h0
      go_enter Tryz.func60, Tryz.ntmps60
      go_wp2
      go_ret
      exact ⟨rfl, HI.out, But.refl _ _⟩
    · rw [if_neg h0]
      have h0' : (v.k == 0) = false := by simp [h0]
      go_enter Tryz.func60, Tryz.ntmps60
      go_wp2
      go_ret
      exact ⟨rfl, HI.out, But.refl _ _⟩
end
end Go.Proofs.YtggggfhgfnbjnaaGreatDoor.Pcaptbl

/- What the steps of a walk that call others answer and do. -/
namespace Go.Proofs.YtggggfhgfnbjnaaGreatDoor.Pcaptbl
open Go.Proofs.YtggggfhgfnbjnaaGreatDoor.Pbase Go.Proofs.YtggggfhgfnbjnaaGreatDoor.Pmem Go.Proofs.YtggggfhgfnbjnaaGreatDoor.Pradix Go.Proofs.YtggggfhgfnbjnaaGreatDoor.Pslot
open Go.RowKit
set_option linter.unusedVariables false

section
variable {w0 w : World} {p b N : Nat} {M : Nat → Nat → Int} {B : Nat} {v : Wk}
theorem drew3 {w : World} {p0 p1 p2 : Addr} {a b c : Option Value} (h0 : w.cell? p0 = a) (h1 : w.cell? p1 = b) (h2 : w.cell? p2 = c) : w.drew.cell? p0 = a ∧ w.drew.cell? p1 = b ∧ w.drew.cell? p2 = c := ⟨h0, h1, h2⟩
theorem drew2 {w : World} {p0 p1 : Addr} {a b : Option Value} (h0 : w.cell? p0 = a) (h1 : w.cell? p1 = b) : w.drew.cell? p0 = a ∧ w.drew.cell? p1 = b := ⟨h0, h1⟩
/-- What the slot has, what the frame begins with, are written into it. -/
theorem wi_have (h : Wi w0 w p b N M B v) (k r t l e x : Int) : Wi w0 ((((((w.setCell ⟨B, 10, none⟩ (.int .i64 k)).setCell ⟨B, 11, none⟩ (.int .i64 r)).setCell ⟨B, 12, none⟩ (.int .i64 t)).setCell ⟨B, 13, none⟩ (.int .i64 l)).setCell ⟨B, 14, none⟩ (.int .i64 e)).setCell ⟨B, 15, none⟩ (.int .i64 x)) p b N M B { v with k := k, r := r, t := t, l := l, e := e, x := x } :=
  (((((h.set { v with k := k } 10 _ rfl rfl).set { v with k := k, r := r } 11 _ rfl rfl).set { v with k := k, r := r, t := t } 12 _ rfl rfl).set { v with k := k, r := r, t := t, l := l } 13 _ rfl rfl).set { v with k := k, r := r, t := t, l := l, e := e } 14 _ rfl rfl).set { v with k := k, r := r, t := t, l := l, e := e, x := x } 15 _ rfl rfl
theorem wi_is (h : Wi w0 w p b N M B v) (k l : Int) (z : Bool) (t : Int) : Wi w0 ((((w.setCell ⟨B, 6, none⟩ (.int .i64 k)).setCell ⟨B, 7, none⟩ (.int .i64 l)).setCell ⟨B, 8, none⟩ (.bool z)).setCell ⟨B, 9, none⟩ (.int .i64 t)) p b N M B { v with hk := k, hl := l, hz := z, ht := t } :=
  (((h.set { v with hk := k } 6 _ rfl rfl).set { v with hk := k, hl := l } 7 _ rfl rfl).set { v with hk := k, hl := l, hz := z } 8 _ rfl rfl).set { v with hk := k, hl := l, hz := z, ht := t } 9 _ rfl rfl
theorem wi_have3 (h : Wi w0 w p b N M B v) (k r t l e x : Int) : (((((((w.setCell ⟨B, 10, none⟩ (.int .i64 k)).setCell ⟨B, 11, none⟩ (.int .i64 r)).setCell ⟨B, 12, none⟩ (.int .i64 t)).setCell ⟨B, 13, none⟩ (.int .i64 l)).setCell ⟨B, 14, none⟩ (.int .i64 e)).setCell ⟨B, 15, none⟩ (.int .i64 x)).cell? ⟨B, 0, none⟩ = some (.pointer (some ⟨p, 0, none⟩)) ∧ ((((((w.setCell ⟨B, 10, none⟩ (.int .i64 k)).setCell ⟨B, 11, none⟩ (.int .i64 r)).setCell ⟨B, 12, none⟩ (.int .i64 t)).setCell ⟨B, 13, none⟩ (.int .i64 l)).setCell ⟨B, 14, none⟩ (.int .i64 e)).setCell ⟨B, 15, none⟩ (.int .i64 x)).cell? ⟨B, 3, none⟩ = some (.int .i64 v.fr) ∧ ((((((w.setCell ⟨B, 10, none⟩ (.int .i64 k)).setCell ⟨B, 11, none⟩ (.int .i64 r)).setCell ⟨B, 12, none⟩ (.int .i64 t)).setCell ⟨B, 13, none⟩ (.int .i64 l)).setCell ⟨B, 14, none⟩ (.int .i64 e)).setCell ⟨B, 15, none⟩ (.int .i64 x)).cell? ⟨B, 4, none⟩ = some (.int .i64 v.at_)) :=
  ⟨(wi_have h k r t l e x).c0, (wi_have h k r t l e x).c3, (wi_have h k r t l e x).c4⟩
theorem but6 {w1 : World} (h : But B w w1) (a0 a1 a2 a3 a4 a5 : Nat) (x0 x1 x2 x3 x4 x5 : Value) : But B w ((((((w1.setCell ⟨B, a0, none⟩ x0).setCell ⟨B, a1, none⟩ x1).setCell ⟨B, a2, none⟩ x2).setCell ⟨B, a3, none⟩ x3).setCell ⟨B, a4, none⟩ x4).setCell ⟨B, a5, none⟩ x5) :=
  but_own (but_own (but_own (but_own (but_own (but_own h _ _) _ _) _ _) _ _) _ _) _ _
set_option maxRecDepth 100000 in
set_option maxHeartbeats 1000000 in
theorem read_any (h : Wi w0 w p b N M B v) : Calls Tryz.prog 59 #[.pointer (some ⟨B, 0, none⟩)] w fun x w' => x = .returned (.int .i64 (stRead N M v).2) ∧ Wi w0 w' p b N M B (stRead N M v).1 ∧ But B w w' := by
  have HI : Hid (Wi w0 w p b N M B v) := h
  have c0 := h.c0
  have c3 := h.c3
  have c4 := h.c4
  clear h
  unfold stRead stSee
  have HG : Hid (∀ wc, Below w.heap.size w wc → Calls Tryz.prog 152 #[.pointer (some ⟨p, 0, none⟩), .int .i64 v.fr, .int .i64 v.at_] wc fun x w' => x = .returned (.tuple #[.agg #[.int .i64 (sC N M v.fr v.at_ 0), .int .i64 (sC N M v.fr v.at_ 1), .int .i64 (sC N M v.fr v.at_ 2), .int .i64 (sC N M v.fr v.at_ 3), .int .i64 (sC N M v.fr v.at_ 4), .int .i64 (sC N M v.fr v.at_ 5)], .int .i64 (sE N M v.fr v.at_)]) ∧ Below wc.heap.size wc w') := fun wc hb => sget_any p b N v.fr v.at_ M wc (HI.out.on hb).mx.mt
  generalize sC N M v.fr v.at_ 0 = C0 at HG ⊢
  generalize sC N M v.fr v.at_ 1 = C1 at HG ⊢
  generalize sC N M v.fr v.at_ 2 = C2 at HG ⊢
  generalize sC N M v.fr v.at_ 3 = C3 at HG ⊢
  generalize sC N M v.fr v.at_ 4 = C4 at HG ⊢
  generalize sC N M v.fr v.at_ 5 = C5 at HG ⊢
  generalize sE N M v.fr v.at_ = E at HG ⊢
  go_enter Tryz.func59, Tryz.ntmps59
  go_upto_region 2 with fail
  go_region_held3 (fun w' => w'.cell? ⟨B, 0, none⟩ = some (.pointer (some ⟨p, 0, none⟩)) ∧ w'.cell? ⟨B, 3, none⟩ = some (.int .i64 v.fr) ∧ w'.cell? ⟨B, 4, none⟩ = some (.int .i64 v.at_)) (first | with_reducible exact ⟨by assumption, by assumption, by assumption⟩ | with_reducible exact drew3 c0 c3 c4 | with_reducible exact wi_have3 H1.out C0 C1 C2 C3 C4 C5)
  (first
    | (go_at_call 152; refine (HG.out _ (by first | exact Below.refl _ _ | exact (Below.refl _ _).drew)).mono ?_; rintro e1 w1 ⟨rfl, hb⟩; have hb1 : Below w.heap.size w w1 := (by first | exact hb | exact (Below.refl _ _).drew.trans hb); have H1 : Hid (Wi w0 w1 p b N M B v) := HI.out.on hb1; have HB : Hid (But B w w1) := But.of_below B hb1; clear hb hb1 c0 c3 c4; have c0 := H1.out.c0; have c3 := H1.out.c3; have c4 := H1.out.c4; have z0 := H1.out.fz 10; have z1 := H1.out.fz 11; have z2 := H1.out.fz 12; have z3 := H1.out.fz 13; have z4 := H1.out.fz 14; have z5 := H1.out.fz 15; have y0 := H1.out.c10; have y1 := H1.out.c11; have y2 := H1.out.c12; have y3 := H1.out.c13; have y4 := H1.out.c14; have y5 := H1.out.c15)
    | fail)
  go_wp2
  go_ret
  exact ⟨rfl, wi_have H1.out _ _ _ _ _ _, but6 HB.out _ _ _ _ _ _ _ _ _ _ _ _⟩
/-! ### the frame's level -/
theorem wi_al2 (h : Wi w0 w p b N M B v) (o : Obj) : (w.alloc o).cell? ⟨B, 0, none⟩ = some (.pointer (some ⟨p, 0, none⟩)) ∧ (w.alloc o).cell? ⟨B, 3, none⟩ = some (.int .i64 v.fr) :=
  ⟨(h.on (bal (Below.refl _ _) o)).c0, (h.on (bal (Below.refl _ _) o)).c3⟩
theorem in_laid {w1 : World} (h : Wi w0 w1 p b N M B v) (hB : But B w w1) (k l : Int) (z : Bool) (t : Int) : Wi w0 (w1.alloc (.cells #[.int .i64 k, .int .i64 l, .bool z, .int .i64 t] 127)) p b N M B v ∧ Phead.Box4 (w1.alloc (.cells #[.int .i64 k, .int .i64 l, .bool z, .int .i64 t] 127)) w1.heap.size k l z t ∧ But B w (w1.alloc (.cells #[.int .i64 k, .int .i64 l, .bool z, .int .i64 t] 127)) :=
  ⟨h.on (bal (Below.refl _ _) _), Phead.box4_new w1 k l z t 127, hB.trans (But.of_below B (bal (Below.refl _ _) _))⟩
theorem box4_row {w : World} {D : Nat} {k l t : Int} {z : Bool} (h : w.heap[D]? = some (.cells #[.int .i64 k, .int .i64 l, .bool z, .int .i64 t] 127 (0, 0))) : Phead.Box4 w D k l z t :=
  ⟨(Array.getElem?_eq_some_iff.1 h).1, (cell_of_row _ _ _ _ _ _ h).trans rfl, (cell_of_row _ _ _ _ _ _ h).trans rfl, (cell_of_row _ _ _ _ _ _ h).trans rfl, (cell_of_row _ _ _ _ _ _ h).trans rfl, fun j => frozen_of_row _ _ _ _ _ h⟩
/-- The head's variable may be laid ahead of the call. -/
theorem in_first {w1 : World} (h : Wi w0 w1 p b N M B v) (hI : Wi w0 w p b N M B v) (hB : But B w w1) (hx : w1.heap[w.heap.size]? = some (.cells #[.int .i64 0, .int .i64 0, .bool false, .int .i64 0] 127 (0, 0))) (k l : Int) (z : Bool) (t : Int) :
    Wi w0 ((((w1.setCell ⟨w.heap.size, 0, none⟩ (.int .i64 k)).setCell ⟨w.heap.size, 1, none⟩ (.int .i64 l)).setCell ⟨w.heap.size, 2, none⟩ (.bool z)).setCell ⟨w.heap.size, 3, none⟩ (.int .i64 t)) p b N M B v ∧ Phead.Box4 ((((w1.setCell ⟨w.heap.size, 0, none⟩ (.int .i64 k)).setCell ⟨w.heap.size, 1, none⟩ (.int .i64 l)).setCell ⟨w.heap.size, 2, none⟩ (.bool z)).setCell ⟨w.heap.size, 3, none⟩ (.int .i64 t)) w.heap.size k l z t ∧ But B w ((((w1.setCell ⟨w.heap.size, 0, none⟩ (.int .i64 k)).setCell ⟨w.heap.size, 1, none⟩ (.int .i64 l)).setCell ⟨w.heap.size, 2, none⟩ (.bool z)).setCell ⟨w.heap.size, 3, none⟩ (.int .i64 t)) := by
  have hq : But w.heap.size w1 ((((w1.setCell ⟨w.heap.size, 0, none⟩ (.int .i64 k)).setCell ⟨w.heap.size, 1, none⟩ (.int .i64 l)).setCell ⟨w.heap.size, 2, none⟩ (.bool z)).setCell ⟨w.heap.size, 3, none⟩ (.int .i64 t)) := but_own (but_own (but_own (but_own (But.refl _ _) _ _) _ _) _ _) _ _
  refine ⟨h.but hq hI.below.size (Nat.ne_of_lt hI.lt), box4_row ((heap_setCell_same _ _ _ _ _ _ (heap_setCell_same _ _ _ _ _ _ (heap_setCell_same _ _ _ _ _ _ (heap_setCell_same _ _ _ _ _ _ hx)))).trans rfl), but_new (but_new (but_new (but_new hB (Nat.le_refl _) _ _) (Nat.le_refl _) _ _) (Nat.le_refl _) _ _) (Nat.le_refl _) _ _⟩
set_option maxRecDepth 100000 in
set_option maxHeartbeats 1000000 in
theorem in_any (l : Int) (h : Wi w0 w p b N M B v) : Calls Tryz.prog 151 #[.pointer (some ⟨B, 0, none⟩), .int .i64 l] w fun x w' => x = .returned (.int .i64 (stIn N M l v).2) ∧ Wi w0 w' p b N M B (stIn N M l v).1 ∧ But B w w' := by
  have HI : Hid (Wi w0 w p b N M B v) := h
  have c0 := h.c0
  have c3 := h.c3
  clear h
  unfold stIn tbB
  have HG : Hid (∀ wc, Below w.heap.size w wc → Calls Tryz.prog 176 #[.pointer (some ⟨p, 0, none⟩), .int .i64 v.fr] wc fun x w' => x = .returned (.tuple #[.agg #[.int .i64 (Phead.ghK N M v.fr), .int .i64 (Phead.ghL N M v.fr), .bool (Phead.ghZ N M v.fr), .int .i64 (Phead.ghT N M v.fr)], .int .i64 (Phead.ghE N M v.fr)]) ∧ Below wc.heap.size wc w') := fun wc hb => Phead.hget_any p b N v.fr M wc (HI.out.on hb).mx.mt.n1 (HI.out.on hb).mx.mt.n64 (HI.out.on hb).mx.mt.mem (HI.out.on hb).mx.th (HI.out.on hb).mx.mt.fit
  generalize Phead.ghK N M v.fr = K at HG ⊢
  generalize Phead.ghL N M v.fr = L at HG ⊢
  generalize Phead.ghZ N M v.fr = Z at HG ⊢
  generalize Phead.ghT N M v.fr = T at HG ⊢
  generalize Phead.ghE N M v.fr = E at HG ⊢
  obtain ⟨R, hR⟩ : ∃ R, (if (decide (E = 0) && decide (K = 1) && decide (L = l)) = true then ({ v with hk := K, hl := L, hz := Z, ht := T }, (0 : Int)) else (v, 4)) = R := ⟨_, rfl⟩
  rw [hR]
  have HR : Hid ((if (decide (E = 0) && decide (K = 1) && decide (L = l)) = true then ({ v with hk := K, hl := L, hz := Z, ht := T }, (0 : Int)) else (v, 4)) = R) := hR
  clear hR
  go_enter Tryz.func151, Tryz.ntmps151
  go_upto_region 1 with fail
  go_region_held3 (fun w' => w'.cell? ⟨B, 0, none⟩ = some (.pointer (some ⟨p, 0, none⟩)) ∧ w'.cell? ⟨B, 3, none⟩ = some (.int .i64 v.fr)) (first | with_reducible exact ⟨by assumption, by assumption⟩ | with_reducible exact drew2 c0 c3 | with_reducible exact wi_al2 H1.out _ | with_reducible exact drew2 (wi_al2 HI.out _).1 (wi_al2 HI.out _).2 | with_reducible exact ⟨(in_first H1.out HI.out HB.out HX.out K L Z T).1.c0, (in_first H1.out HI.out HB.out HX.out K L Z T).1.c3⟩)
  (first
    | (go_at_call 176; refine (HG.out _ (by first | exact Below.refl _ _ | exact (Below.refl _ _).drew | exact (bal (Below.refl _ _) _).drew)).mono ?_; rintro e1 w1 ⟨rfl, hb⟩; have hb1 : Below w.heap.size w w1 := (by first | exact hb | exact (Below.refl _ _).drew.trans hb | exact (bal (Below.refl _ _) _).drew.trans (hb.mono (by simp))); (first | (have HX : Hid (w1.heap[w.heap.size]? = some (.cells #[.int .i64 0, .int .i64 0, .bool false, .int .i64 0] 127 (0, 0))) := (hb.block w.heap.size (by simp)).trans (heap_alloc_new w _); have q0 := (box4_row HX.out).c0; have q1 := (box4_row HX.out).c1; have q2 := (box4_row HX.out).c2; have q3 := (box4_row HX.out).c3; have f0 := (box4_row HX.out).fz 0; have f1 := (box4_row HX.out).fz 1; have f2 := (box4_row HX.out).fz 2; have f3 := (box4_row HX.out).fz 3) | skip); have H1 : Hid (Wi w0 w1 p b N M B v) := HI.out.on hb1; have HB : Hid (But B w w1) := But.of_below B hb1; clear hb hb1 c0 c3; have c0 := H1.out.c0; have c3 := H1.out.c3)
    | fail)
  all_goals (first
    | (have HL := in_first H1.out HI.out HB.out HX.out K L Z T; clear HX q0 q1 q2 q3 f0 f1 f2 f3; generalize World.setCell _ _ _ = w2 at HL ⊢; obtain ⟨D, hD⟩ : ∃ D, D = w.heap.size := ⟨_, rfl⟩; rw [← hD] at HL ⊢; clear hD)
    | (have HL := in_laid H1.out HB.out K L Z T; generalize w1.alloc _ = w2 at HL ⊢; generalize w1.heap.size = D at HL ⊢))
  all_goals (
    have H2 : Hid (Wi w0 w2 p b N M B v) := HL.1
    have HB2 : Hid (But B w w2) := HL.2.2
    have x0 := HL.2.1.c0
    have x1 := HL.2.1.c1
    have x2 := HL.2.1.c2
    have x3 := HL.2.1.c3
    clear HL c0 c3 H1 HB HG
    by_cases hE : E = 0
    · subst hE
      by_cases hK : K = 1
      · subst hK
        by_cases hl : L = l
        · subst hl
          have c6 := H2.out.c6
          have c7 := H2.out.c7
          have c8 := H2.out.c8
          have c9 := H2.out.c9
          have z6 := H2.out.fz 6
          have z7 := H2.out.fz 7
          have z8 := H2.out.fz 8
          have z9 := H2.out.fz 9
          go_wp2
          go_ret
          have hr := HR.out; rw [if_pos (by simp)] at hr; subst hr; exact ⟨rfl, wi_is H2.out _ _ _ _, but_own (but_own (but_own (but_own HB2.out _ _) _ _) _ _) _ _⟩
        · have hl' : (L != l) = true := by simp [hl]
          go_wp2
          go_ret
          have hr := HR.out; rw [if_neg (by simp [hl])] at hr; subst hr
          exact ⟨rfl, H2.out, HB2.out⟩
      · have hK' : (K != 1) = true := by simp [hK]
        go_wp2
        go_ret
        have hr := HR.out; rw [if_neg (by simp [hK])] at hr; subst hr
        exact ⟨rfl, H2.out, HB2.out⟩
    · have hE' : (E != 0) = true := by simp [hE]
      go_wp2
      go_ret
      have hr := HR.out; rw [if_neg (by simp [hE])] at hr; subst hr
      exact ⟨rfl, H2.out, HB2.out⟩)
theorem inRoot_any (h : Wi w0 w p b N M B v) : Calls Tryz.prog 56 #[.pointer (some ⟨B, 0, none⟩)] w fun x w' => x = .returned (.int .i64 (stIn N M 0 v).2) ∧ Wi w0 w' p b N M B (stIn N M 0 v).1 ∧ But B w w' := by
  have HI : Hid (Wi w0 w p b N M B v) := h
  clear h
  generalize hs : stIn N M 0 v = s
  have HS : Hid (stIn N M 0 v = s) := hs
  clear hs
  go_enter Tryz.func56, Tryz.ntmps56
  go_wp2_with (first
    | (go_at_call 151; refine (in_any 0 HI.out).mono ?_; rintro e1 w1 ⟨rfl, hb⟩; rw [HS.out] at hb; rw [HS.out]; have H1 : Hid (Wi w0 w1 p b N M B s.1 ∧ But B w w1) := hb; clear hb)
    | fail)
  go_ret
  exact ⟨rfl, H1.out⟩
theorem inLeaf_any (h : Wi w0 w p b N M B v) : Calls Tryz.prog 57 #[.pointer (some ⟨B, 0, none⟩)] w fun x w' => x = .returned (.int .i64 (stIn N M 1 v).2) ∧ Wi w0 w' p b N M B (stIn N M 1 v).1 ∧ But B w w' := by
  have HI : Hid (Wi w0 w p b N M B v) := h
  clear h
  generalize hs : stIn N M 1 v = s
  have HS : Hid (stIn N M 1 v = s) := hs
  clear hs
  go_enter Tryz.func57, Tryz.ntmps57
  go_wp2_with (first
    | (go_at_call 151; refine (in_any 1 HI.out).mono ?_; rintro e1 w1 ⟨rfl, hb⟩; rw [HS.out] at hb; rw [HS.out]; have H1 : Hid (Wi w0 w1 p b N M B s.1 ∧ But B w w1) := hb; clear hb)
    | fail)
  go_ret
  exact ⟨rfl, H1.out⟩
/-! ### from the root's slot to the leaf -/
theorem keep_fr (h : Wi w0 w p b N M B v) (x : Int) : (w.setCell ⟨B, 3, none⟩ (.int .i64 x)).cell? ⟨B, 12, none⟩ = some (.int .i64 v.t) ∧ (w.setCell ⟨B, 3, none⟩ (.int .i64 x)).cell? ⟨B, 5, none⟩ = some (.int .i64 v.lo) :=
  ⟨(h.set { v with fr := x } 3 _ rfl rfl).c12, (h.set { v with fr := x } 3 _ rfl rfl).c5⟩
theorem wi_fr_at (h : Wi w0 w p b N M B v) (x y : Int) : Wi w0 ((w.setCell ⟨B, 3, none⟩ (.int .i64 x)).setCell ⟨B, 4, none⟩ (.int .i64 y)) p b N M B { v with fr := x, at_ := y } :=
  (h.set { v with fr := x } 3 _ rfl rfl).set { v with fr := x, at_ := y } 4 _ rfl rfl
theorem keep_fr_at (h : Wi w0 w p b N M B v) (x y : Int) : ((w.setCell ⟨B, 3, none⟩ (.int .i64 x)).setCell ⟨B, 4, none⟩ (.int .i64 y)).cell? ⟨B, 12, none⟩ = some (.int .i64 v.t) ∧ ((w.setCell ⟨B, 3, none⟩ (.int .i64 x)).setCell ⟨B, 4, none⟩ (.int .i64 y)).cell? ⟨B, 5, none⟩ = some (.int .i64 v.lo) :=
  ⟨(wi_fr_at h x y).c12, (wi_fr_at h x y).c5⟩
set_option maxRecDepth 100000 in
set_option maxHeartbeats 1000000 in
theorem descend_any (h : Wi w0 w p b N M B v) : Calls Tryz.prog 163 #[.pointer (some ⟨B, 0, none⟩)] w fun x w' => x = .returned (.int .i64 (stDesc N M v).2) ∧ Wi w0 w' p b N M B (stDesc N M v).1 ∧ But B w w' := by
  have HR : Hid (Calls Tryz.prog 59 #[.pointer (some ⟨B, 0, none⟩)] w fun x w' => x = .returned (.int .i64 (sE N M v.fr v.at_)) ∧ Wi w0 w' p b N M B (stSee N M v) ∧ But B w w') := read_any h
  clear h
  unfold stDesc
  by_cases hE : sE N M v.fr v.at_ = 0
  · by_cases hK : sC N M v.fr v.at_ 0 = 3
    · rw [if_pos ⟨hE, hK⟩]
      rw [hE] at HR
      have hk : (stSee N M v).k = 3 := hK
      have ht : sC N M v.fr v.at_ 2 = (stSee N M v).t := rfl
      have hlo : v.lo = (stSee N M v).lo := rfl
      rw [ht, hlo]
      clear ht hlo hE hK
      generalize stSee N M v = u at HR hk ⊢
      have hl : (stLeaf u).2 = 0 := by simp [stLeaf, hk]
      go_enter Tryz.func163, Tryz.ntmps163
      go_upto_region 3 with (first
        | (go_at_call 59; refine HR.out.mono ?_; rintro e1 w1 ⟨rfl, hb⟩; have H1 : Hid (Wi w0 w1 p b N M B u ∧ But B w w1) := hb; clear hb HR)
        | (go_at_call 206; refine (hasLeaf_any H1.out.1).mono ?_; rintro e2 w2 ⟨rfl, _, hw2⟩; subst w2; rw [hl])
        | fail)
      have c12 := H1.out.1.c12
      have c5 := H1.out.1.c5
      have c3 := H1.out.1.c3
      have c4 := H1.out.1.c4
      have z3 := H1.out.1.fz 3
      have z4 := H1.out.1.fz 4
      go_region_held3 (fun w' => w'.cell? ⟨B, 12, none⟩ = some (.int .i64 u.t) ∧ w'.cell? ⟨B, 5, none⟩ = some (.int .i64 u.lo)) (first | with_reducible exact ⟨by assumption, by assumption⟩ | with_reducible exact drew2 c12 c5 | with_reducible exact drew2 (keep_fr H1.out.1 u.t).1 (keep_fr H1.out.1 u.t).2 | with_reducible exact drew2 (keep_fr_at H1.out.1 u.t u.lo).1 (keep_fr_at H1.out.1 u.t u.lo).2)
      (fail)
      go_wp2
      go_ret
      exact ⟨rfl, (wi_fr_at H1.out.1 _ _).on (Below.refl _ _).drew, (but_own (but_own H1.out.2 _ _) _ _).drew⟩
    · rw [if_neg (fun h => hK h.2)]
      rw [hE] at HR
      have hk : ¬ (stSee N M v).k = 3 := hK
      clear hE hK
      generalize stSee N M v = u at HR hk ⊢
      have hl : (stLeaf u).2 = 3 := by simp [stLeaf, hk]
      go_enter Tryz.func163, Tryz.ntmps163
      go_wp2_with (first
        | (go_at_call 59; refine HR.out.mono ?_; rintro e1 w1 ⟨rfl, hb⟩; have H1 : Hid (Wi w0 w1 p b N M B u ∧ But B w w1) := hb; clear hb HR)
        | (go_at_call 206; refine (hasLeaf_any H1.out.1).mono ?_; rintro e2 w2 ⟨rfl, _, hw2⟩; subst w2; rw [hl])
        | fail)
      go_ret
      exact ⟨rfl, H1.out⟩
  · rw [if_neg (fun h => hE h.1)]
    generalize stSee N M v = u at HR ⊢
    generalize sE N M v.fr v.at_ = E at HR hE
    have hE' : (E != 0) = true := by simp [hE]
    go_enter Tryz.func163, Tryz.ntmps163
    go_wp2_with (first
      | (go_at_call 59; refine HR.out.mono ?_; rintro e1 w1 ⟨rfl, hb⟩; have H1 : Hid (Wi w0 w1 p b N M B u ∧ But B w w1) := hb; clear hb HR)
      | fail)
    go_ret
    exact ⟨rfl, H1.out⟩
end
end Go.Proofs.YtggggfhgfnbjnaaGreatDoor.Pcaptbl

/- Rows of steps over walks, from the root to what is at an address; what is put there; times, slots, frames that are settled. -/
namespace Go.Proofs.YtggggfhgfnbjnaaGreatDoor.Pcaptbl
open Go.Proofs.YtggggfhgfnbjnaaGreatDoor.Pbase Go.Proofs.YtggggfhgfnbjnaaGreatDoor.Pmem Go.Proofs.YtggggfhgfnbjnaaGreatDoor.Pradix Go.Proofs.YtggggfhgfnbjnaaGreatDoor.Pslot
open Go.RowKit
set_option linter.unusedVariables false

/-! ### rows of steps -/
/-- A step that can be taken: a function with a body; what it answers and leaves, and that the row of steps stays. -/
def Good {σ : Type} (J : σ → World → Prop) (D : Nat) (c : Stp σ) : Prop :=
  (∀ (ar : Array Value) (w : World), (callFunc c.1 ar).run Tryz.prog w = .ok (.enter c.1 ar) w) ∧
  ∀ (s : σ) (w : World), J s w → D < w.heap.size → Calls Tryz.prog c.1 #[c.2.1] w fun x w' => x = .returned (.int .i64 (c.2.2 s).2) ∧ J (c.2.2 s).1 w' ∧ w'.heap[D]? = w.heap[D]?
def Goods {σ : Type} (J : σ → World → Prop) (D : Nat) : List (Stp σ) → Prop
  | [] => True
  | c :: r => Good J D c ∧ Goods J D r
theorem Goods.at {σ : Type} {J : σ → World → Prop} {D : Nat} : ∀ {fs : List (Stp σ)}, Goods J D fs → ∀ (j : Nat) (c : Stp σ), fs[j]? = some c → Good J D c
  | [], _, j, c, h => by simp at h
  | a :: r, hg, 0, c, h => by simp at h; subst h; exact hg.1
  | a :: r, hg, j + 1, c, h => Goods.at hg.2 j c (by simpa using h)
theorem follow_gen {σ : Type} (J : σ → World → Prop) (w : World) (s : σ) (fs : List (Stp σ)) (n : Nat) (ty : TypeId) (cs : Array Value) (hn : n = fs.length) (hn16 : n ≤ 16) (hcs : cs = (fs.map fun c => Value.func (.func c.1) #[c.2.1] #[]).toArray)
    (hJ : ∀ o, J s (w.alloc o)) (hg : Goods J w.heap.size fs) :
    Calls Tryz.prog 55 #[.slice (some ⟨w.heap.size, 0, none⟩) n n] (w.alloc (.cells cs ty)) fun x w' => x = .returned (.int .i64 (chain fs s).2) ∧ J (chain fs s).1 w' := by
  refine (follow_any (fun s w' => J s w' ∧ w'.heap[w.heap.size]? = some (.cells cs ty (0, 0))) w.heap.size n fs _ s hn hn16 ⟨hJ _, heap_alloc_new w _⟩ (fun j c hc => (hg.at j c hc).1) (fun j c s' w' hc hP => ?_) (fun j c s' w' hc hP => ?_)).mono ?_
  · rw [cell_of_row _ _ _ _ _ _ hP.2, hcs]
    simp [hc]
  · refine ((hg.at j c hc).2 s' w' hP.1 (Array.getElem?_eq_some_iff.1 hP.2).1).mono ?_
    rintro x w'' ⟨rfl, h1, h2⟩
    exact ⟨rfl, h1, h2.trans hP.2⟩
  · rintro x w' ⟨rfl, h1, h2⟩
    exact ⟨rfl, h1⟩

/-! ### from the root to what is at an address -/
def stLook (N : Nat) (M : Nat → Nat → Int) (v : Wk) : Wk × Int := chain [(0, undef, stCut), (0, undef, stIn N M 0), (0, undef, stDesc N M), (0, undef, stIn N M 1), (0, undef, stRead N M), (0, undef, stTaken)] v
def stRoom (N : Nat) (M : Nat → Nat → Int) (v : Wk) : Wk × Int := chain [(0, undef, stCut), (0, undef, stIn N M 0), (0, undef, stDesc N M), (0, undef, stIn N M 1), (0, undef, stThaw), (0, undef, stRead N M), (0, undef, stFree)] v
def stTake (N : Nat) (M : Nat → Nat → Int) (v : Wk) : Wk × Int := chain [(0, undef, stIn N M 0), (0, undef, stRead N M), (0, undef, stLeaf)] v
theorem look_run (N : Nat) (M : Nat → Nat → Int) (v : Wk) : (stLook N M v).2 = lkE N M v.fr v.a ∧ (lkE N M v.fr v.a = 0 → ((stLook N M v).1.k = lkC N M v.fr v.a 0 ∧ (stLook N M v).1.r = lkC N M v.fr v.a 1 ∧ (stLook N M v).1.t = lkC N M v.fr v.a 2 ∧ (stLook N M v).1.l = lkC N M v.fr v.a 3 ∧ (stLook N M v).1.e = lkC N M v.fr v.a 4 ∧ (stLook N M v).1.x = lkC N M v.fr v.a 5) ∧ (stLook N M v).1.fr = lfF N M v.fr v.a ∧ (stLook N M v).1.at_ = lfI N M v.fr v.a ∧ (stLook N M v).1.hz = lfZ N M v.fr v.a) := by
  by_cases h1 : slE v.a = 0
  case neg => simp [stLook, chain, stCut, lkE, lfE, h1]
  by_cases h2 : tbB N M v.fr 0 = true
  case neg => simp [stLook, chain, stCut, stIn, lkE, lfE, h1, h2]
  by_cases h3 : sE N M v.fr (slH v.a) = 0 ∧ sC N M v.fr (slH v.a) 0 = 3
  case neg => simp [stLook, chain, stCut, stIn, stDesc, lkE, lfE, h1, h2, h3]
  by_cases h4 : tbB N M (sC N M v.fr (slH v.a) 2) 1 = true
  case neg => simp [stLook, chain, stCut, stIn, stDesc, stSee, lkE, lfE, h1, h2, h3, h4]
  have e0 : lfE N M v.fr v.a = 0 := by simp [lfE, h1, h2, h3, h4]
  have e1 : lfF N M v.fr v.a = sC N M v.fr (slH v.a) 2 := by simp [lfF, e0]
  have e2 : lfI N M v.fr v.a = slL v.a := by simp [lfI, e0]
  have e3 : lfZ N M v.fr v.a = Phead.ghZ N M (sC N M v.fr (slH v.a) 2) := by simp [lfZ, e0, e1]
  by_cases h5 : sE N M (sC N M v.fr (slH v.a) 2) (slL v.a) = 0
  case neg => simp [stLook, chain, stCut, stIn, stDesc, stSee, stRead, lkE, e0, e1, e2, h1, h2, h3, h4, h5]
  by_cases h6 : 1 < sC N M (sC N M v.fr (slH v.a) 2) (slL v.a) 0
  case neg => simp [stLook, chain, stCut, stIn, stDesc, stSee, stRead, stTaken, lkE, e0, e1, e2, h1, h2, h3, h4, h5, h6]
  simp [stLook, chain, stCut, stIn, stDesc, stSee, stRead, stTaken, lkE, lkC, e0, e1, e2, e3, h1, h2, h3, h4, h5, h6]
theorem sC_low {N : Nat} {M : Nat → Nat → Int} {f i : Int} : 0 ≤ sC N M f i 0 := by
  unfold sC
  split
  · by_cases h : Pcap.Got (w1 M f i) (w2 M f i)
    · rw [(Pcap.getC_yes h).1]
      exact h.2.2.1
    · rw [Pcap.getC_no h]
      exact Int.le_refl _
  · exact Int.le_refl _
theorem room_run (N : Nat) (M : Nat → Nat → Int) (v : Wk) : (stRoom N M v).2 = roE N M v.fr v.a v.fl ∧ (roE N M v.fr v.a v.fl = 0 → (stRoom N M v).1.fr = lfF N M v.fr v.a ∧ (stRoom N M v).1.at_ = lfI N M v.fr v.a) := by
  by_cases h1 : slE v.a = 0
  case neg => simp [stRoom, chain, stCut, roE, lfE, h1]
  by_cases h2 : tbB N M v.fr 0 = true
  case neg => simp [stRoom, chain, stCut, stIn, roE, lfE, h1, h2]
  by_cases h3 : sE N M v.fr (slH v.a) = 0 ∧ sC N M v.fr (slH v.a) 0 = 3
  case neg => simp [stRoom, chain, stCut, stIn, stDesc, roE, lfE, h1, h2, h3]
  by_cases h4 : tbB N M (sC N M v.fr (slH v.a) 2) 1 = true
  case neg => simp [stRoom, chain, stCut, stIn, stDesc, stSee, roE, lfE, h1, h2, h3, h4]
  have e0 : lfE N M v.fr v.a = 0 := by simp [lfE, h1, h2, h3, h4]
  have e1 : lfF N M v.fr v.a = sC N M v.fr (slH v.a) 2 := by simp [lfF, e0]
  have e2 : lfI N M v.fr v.a = slL v.a := by simp [lfI, e0]
  have e3 : lfZ N M v.fr v.a = Phead.ghZ N M (sC N M v.fr (slH v.a) 2) := by simp [lfZ, e0, e1]
  by_cases h7 : Phead.ghZ N M (sC N M v.fr (slH v.a) 2) = true
  case pos => simp [stRoom, chain, stCut, stIn, stDesc, stSee, stThaw, roE, e0, e1, e2, e3, h1, h2, h3, h4, h7]
  by_cases h5 : sE N M (sC N M v.fr (slH v.a) 2) (slL v.a) = 0
  case neg => simp [stRoom, chain, stCut, stIn, stDesc, stSee, stThaw, stRead, roE, e0, e1, e2, e3, h1, h2, h3, h4, h5, h7]
  have hk0 := sC_low (N := N) (M := M) (f := sC N M v.fr (slH v.a) 2) (i := slL v.a)
  by_cases h6 : sC N M (sC N M v.fr (slH v.a) 2) (slL v.a) 0 = 1
  · by_cases h8 : v.fl ≤ sC N M (sC N M v.fr (slH v.a) 2) (slL v.a) 5
    · simp [stRoom, chain, stCut, stIn, stDesc, stSee, stThaw, stRead, stFree, roE, quB, e0, e1, e2, e3, h1, h2, h3, h4, h5, h7, h6, h8]
    · simp [stRoom, chain, stCut, stIn, stDesc, stSee, stThaw, stRead, stFree, roE, quB, e0, e1, e2, e3, h1, h2, h3, h4, h5, h7, h6, h8]
  · by_cases h9 : sC N M (sC N M v.fr (slH v.a) 2) (slL v.a) 0 = 0
    · simp [stRoom, chain, stCut, stIn, stDesc, stSee, stThaw, stRead, stFree, roE, quB, e0, e1, e2, e3, h1, h2, h3, h4, h5, h7, h9]
    · have h10 : 1 < sC N M (sC N M v.fr (slH v.a) 2) (slL v.a) 0 := by omega
      simp [stRoom, chain, stCut, stIn, stDesc, stSee, stThaw, stRead, stFree, roE, e0, e1, e2, e3, h1, h2, h3, h4, h5, h7, h6, h9, h10]
section
variable {w0 w : World} {p b N : Nat} {M : Nat → Nat → Int} {B : Nat} {v : Wk}
/-- A step of one walk. -/
theorem good_one {f : Nat} {st : Wk → Wk × Int} (h : Wi w0 w p b N M B v) (he : ∀ (ar : Array Value) (w : World), (callFunc f ar).run Tryz.prog w = .ok (.enter f ar) w)
    (hs : ∀ (u : Wk) (w : World), Wi w0 w p b N M B u → Calls Tryz.prog f #[.pointer (some ⟨B, 0, none⟩)] w fun x w' => x = .returned (.int .i64 (st u).2) ∧ Wi w0 w' p b N M B (st u).1 ∧ But B w w') :
    Good (fun s w' => Wi w0 w' p b N M B s ∧ But B w w') w.heap.size (f, .pointer (some ⟨B, 0, none⟩), st) := by
  refine ⟨he, fun s w' hJ hD => (hs s w' hJ.1).mono ?_⟩
  rintro x w'' ⟨rfl, h1, h2⟩
  exact ⟨rfl, ⟨h1, hJ.2.trans h2⟩, h2.block _ hD (Nat.ne_of_gt h.lt)⟩
set_option maxRecDepth 100000 in
theorem look_any (h : Wi w0 w p b N M B v) : Calls Tryz.prog 170 #[.pointer (some ⟨B, 0, none⟩)] w fun x w' => x = .returned (.int .i64 (stLook N M v).2) ∧ Wi w0 w' p b N M B (stLook N M v).1 ∧ But B w w' := by
  have HF : Hid (∀ ty, Calls Tryz.prog 55 #[.slice (some ⟨w.heap.size, 0, none⟩) 6 6] (w.alloc (.cells #[.func (.func 162) #[.pointer (some ⟨B, 0, none⟩)] #[], .func (.func 56) #[.pointer (some ⟨B, 0, none⟩)] #[], .func (.func 163) #[.pointer (some ⟨B, 0, none⟩)] #[], .func (.func 57) #[.pointer (some ⟨B, 0, none⟩)] #[], .func (.func 59) #[.pointer (some ⟨B, 0, none⟩)] #[], .func (.func 210) #[.pointer (some ⟨B, 0, none⟩)] #[]] ty)) fun x w' => x = .returned (.int .i64 (stLook N M v).2) ∧ Wi w0 w' p b N M B (stLook N M v).1 ∧ But B w w') := fun ty => follow_gen (fun s w' => Wi w0 w' p b N M B s ∧ But B w w') w v [(162, .pointer (some ⟨B, 0, none⟩), stCut), (56, .pointer (some ⟨B, 0, none⟩), stIn N M 0), (163, .pointer (some ⟨B, 0, none⟩), stDesc N M), (57, .pointer (some ⟨B, 0, none⟩), stIn N M 1), (59, .pointer (some ⟨B, 0, none⟩), stRead N M), (210, .pointer (some ⟨B, 0, none⟩), stTaken)] 6 ty _ rfl (by decide) rfl (fun o => ⟨h.on (bal (Below.refl _ _) o), But.of_below _ (bal (Below.refl _ _) o)⟩) ⟨good_one h (fun _ _ => by kernel_rfl) fun _ _ hw => cut_any hw, good_one h (fun _ _ => by kernel_rfl) fun _ _ hw => inRoot_any hw, good_one h (fun _ _ => by kernel_rfl) fun _ _ hw => descend_any hw, good_one h (fun _ _ => by kernel_rfl) fun _ _ hw => inLeaf_any hw, good_one h (fun _ _ => by kernel_rfl) fun _ _ hw => read_any hw, good_one h (fun _ _ => by kernel_rfl) fun _ _ hw => taken_any hw, trivial⟩
  have hmf : ∀ (fn : Fn) (first cap : Array Value) (w : World), (Instr.makeFunc fn first cap).run Tryz.prog w = .ok (.func fn first cap) w := fun _ _ _ _ => rfl
  clear h
  go_enter Tryz.func170, Tryz.ntmps170
  go_wp2_with (first
    | (go_at_call 55; refine (HF.out _).mono ?_; rintro e1 w1 ⟨rfl, hb⟩; have H1 : Hid (Wi w0 w1 p b N M B (stLook N M v).1 ∧ But B w w1) := hb; clear hb)
    | fail)
  go_ret
  exact ⟨rfl, H1.out⟩
set_option maxRecDepth 100000 in
theorem room_any (h : Wi w0 w p b N M B v) : Calls Tryz.prog 69 #[.pointer (some ⟨B, 0, none⟩)] w fun x w' => x = .returned (.int .i64 (stRoom N M v).2) ∧ Wi w0 w' p b N M B (stRoom N M v).1 ∧ But B w w' := by
  have HF : Hid (∀ ty, Calls Tryz.prog 55 #[.slice (some ⟨w.heap.size, 0, none⟩) 7 7] (w.alloc (.cells #[.func (.func 162) #[.pointer (some ⟨B, 0, none⟩)] #[], .func (.func 56) #[.pointer (some ⟨B, 0, none⟩)] #[], .func (.func 163) #[.pointer (some ⟨B, 0, none⟩)] #[], .func (.func 57) #[.pointer (some ⟨B, 0, none⟩)] #[], .func (.func 58) #[.pointer (some ⟨B, 0, none⟩)] #[], .func (.func 59) #[.pointer (some ⟨B, 0, none⟩)] #[], .func (.func 60) #[.pointer (some ⟨B, 0, none⟩)] #[]] ty)) fun x w' => x = .returned (.int .i64 (stRoom N M v).2) ∧ Wi w0 w' p b N M B (stRoom N M v).1 ∧ But B w w') := fun ty => follow_gen (fun s w' => Wi w0 w' p b N M B s ∧ But B w w') w v [(162, .pointer (some ⟨B, 0, none⟩), stCut), (56, .pointer (some ⟨B, 0, none⟩), stIn N M 0), (163, .pointer (some ⟨B, 0, none⟩), stDesc N M), (57, .pointer (some ⟨B, 0, none⟩), stIn N M 1), (58, .pointer (some ⟨B, 0, none⟩), stThaw), (59, .pointer (some ⟨B, 0, none⟩), stRead N M), (60, .pointer (some ⟨B, 0, none⟩), stFree)] 7 ty _ rfl (by decide) rfl (fun o => ⟨h.on (bal (Below.refl _ _) o), But.of_below _ (bal (Below.refl _ _) o)⟩) ⟨good_one h (fun _ _ => by kernel_rfl) fun _ _ hw => cut_any hw, good_one h (fun _ _ => by kernel_rfl) fun _ _ hw => inRoot_any hw, good_one h (fun _ _ => by kernel_rfl) fun _ _ hw => descend_any hw, good_one h (fun _ _ => by kernel_rfl) fun _ _ hw => inLeaf_any hw, good_one h (fun _ _ => by kernel_rfl) fun _ _ hw => thawed_any hw, good_one h (fun _ _ => by kernel_rfl) fun _ _ hw => read_any hw, good_one h (fun _ _ => by kernel_rfl) fun _ _ hw => free_any hw, trivial⟩
  have hmf : ∀ (fn : Fn) (first cap : Array Value) (w : World), (Instr.makeFunc fn first cap).run Tryz.prog w = .ok (.func fn first cap) w := fun _ _ _ _ => rfl
  clear h
  go_enter Tryz.func69, Tryz.ntmps69
  go_wp2_with (first
    | (go_at_call 55; refine (HF.out _).mono ?_; rintro e1 w1 ⟨rfl, hb⟩; have H1 : Hid (Wi w0 w1 p b N M B (stRoom N M v).1 ∧ But B w w1) := hb; clear hb)
    | fail)
  go_ret
  exact ⟨rfl, H1.out⟩

/-! ### what is put -/
theorem wput_keep {w1 w2 : World} {D : Nat} {k r t l e a : Int} (h : Wi w0 w1 p b N M B v) (hx : Pcap.Box6 w1 D k r t l e a) (hD : D ≠ b) (hB : But b w1 w2) :
    w2.cell? ⟨B, 0, none⟩ = some (.pointer (some ⟨p, 0, none⟩)) ∧ w2.cell? ⟨B, 3, none⟩ = some (.int .i64 v.fr) ∧ w2.cell? ⟨B, 4, none⟩ = some (.int .i64 v.at_) ∧
    w2.cell? ⟨D, 0, none⟩ = some (.int .i64 k) ∧ w2.cell? ⟨D, 1, none⟩ = some (.int .i64 r) ∧ w2.cell? ⟨D, 2, none⟩ = some (.int .i64 t) ∧ w2.cell? ⟨D, 3, none⟩ = some (.int .i64 l) ∧ w2.cell? ⟨D, 4, none⟩ = some (.int .i64 e) ∧ w2.cell? ⟨D, 5, none⟩ = some (.int .i64 a) := by
  have hn : B ≠ b := Nat.ne_of_gt (Nat.lt_of_lt_of_le h.mx0.mt.mem.lt.2 h.lo)
  exact ⟨(hB.cell h.lt hn).trans h.c0, (hB.cell h.lt hn).trans h.c3, (hB.cell h.lt hn).trans h.c4, (hB.cell hx.lt hD).trans hx.c0, (hB.cell hx.lt hD).trans hx.c1, (hB.cell hx.lt hD).trans hx.c2, (hB.cell hx.lt hD).trans hx.c3, (hB.cell hx.lt hD).trans hx.c4, (hB.cell hx.lt hD).trans hx.c5⟩
theorem wput_laid (h : Wi w0 w p b N M B v) (k r t l e a : Int) : Wi w0 (w.alloc (.cells #[.int .i64 k, .int .i64 r, .int .i64 t, .int .i64 l, .int .i64 e, .int .i64 a] 55)) p b N M B v ∧ Pcap.Box6 (w.alloc (.cells #[.int .i64 k, .int .i64 r, .int .i64 t, .int .i64 l, .int .i64 e, .int .i64 a] 55)) w.heap.size k r t l e a ∧ w.heap.size ≠ b ∧ But b w (w.alloc (.cells #[.int .i64 k, .int .i64 r, .int .i64 t, .int .i64 l, .int .i64 e, .int .i64 a] 55)) :=
  ⟨h.on (bal (Below.refl _ _) _), Pcap.box6_new w k r t l e a 55, Nat.ne_of_gt h.mx.mt.mem.lt.2, But.of_below b (bal (Below.refl _ _) _)⟩
set_option maxRecDepth 100000 in
set_option maxHeartbeats 1000000 in
theorem wput_any (k r t l e a : Int) (h : Wi w0 w p b N M B v) : Calls Tryz.prog 61 #[.pointer (some ⟨B, 0, none⟩), .agg #[.int .i64 k, .int .i64 r, .int .i64 t, .int .i64 l, .int .i64 e, .int .i64 a]] w fun x w' => x = .returned (.int .i64 (pE N v.fr v.at_ k r t l e a)) ∧ Mx w' p b N (pM N M v.fr v.at_ k r t l e a) ∧ But b w w' := by
  have HL := wput_laid h k r t l e a
  clear h
  go_enter Tryz.func61, Tryz.ntmps61
  go_upto_region 1 with fail
  generalize w.alloc _ = w1 at HL ⊢
  generalize w.heap.size = D at HL ⊢
  have H1 : Hid (Wi w0 w1 p b N M B v) := HL.1
  have HX : Hid (Pcap.Box6 w1 D k r t l e a) := HL.2.1
  have HD : Hid (D ≠ b) := HL.2.2.1
  have HB : Hid (But b w w1) := HL.2.2.2
  clear HL
  go_region_held3 (fun w' => w'.cell? ⟨B, 0, none⟩ = some (.pointer (some ⟨p, 0, none⟩)) ∧ w'.cell? ⟨B, 3, none⟩ = some (.int .i64 v.fr) ∧ w'.cell? ⟨B, 4, none⟩ = some (.int .i64 v.at_) ∧ w'.cell? ⟨D, 0, none⟩ = some (.int .i64 k) ∧ w'.cell? ⟨D, 1, none⟩ = some (.int .i64 r) ∧ w'.cell? ⟨D, 2, none⟩ = some (.int .i64 t) ∧ w'.cell? ⟨D, 3, none⟩ = some (.int .i64 l) ∧ w'.cell? ⟨D, 4, none⟩ = some (.int .i64 e) ∧ w'.cell? ⟨D, 5, none⟩ = some (.int .i64 a)) (first | with_reducible exact wput_keep H1.out HX.out HD.out HB2.out | with_reducible exact wput_keep H1.out HX.out HD.out (But.of_below b (Below.refl _ _).drew))
  (first
    | (go_at_call 153; refine (sput_any p b N v.fr v.at_ k r t l e a M _ (by first | exact (H1.out.on (Below.refl _ _).drew).mx.mt | exact H1.out.mx.mt)).mono ?_; rintro e1 w2 ⟨rfl, hm, hb⟩; have HB2 : Hid (But b w1 w2) := (by first | exact hb | exact (But.of_below b (Below.refl _ _).drew).trans hb); have HM : Hid (Mx w2 p b N (pM N M v.fr v.at_ k r t l e a)) := H1.out.mx.but hm.mem hm.fit HB2.out; clear hb hm)
    | fail)
  go_wp2
  go_ret
  exact ⟨rfl, HM.out, HB.out.trans HB2.out⟩
end

/-! ### times, slots; what is left of a capability; frames that are settled -/
theorem isSlot_any (high : Int) (w : World) : Calls Tryz.prog 54 #[.int .i64 high] w fun x w' => x = .returned (.bool (okS high)) ∧ w' = w := by
  cases hs : okS high
  · rcases okS_no hs with h1 | h1
    · clear hs
      have h1' : ¬ 0 ≤ high := by omega
      go_enter Tryz.func54, Tryz.ntmps54
      go_wp2
      go_ret
      exact ⟨rfl, rfl⟩
    · clear hs
      have h0 : 0 ≤ high := by omega
      have h1' : ¬ high < 16 := by omega
      go_enter Tryz.func54, Tryz.ntmps54
      go_wp2
      go_ret
      exact ⟨rfl, rfl⟩
  · obtain ⟨h0, h1⟩ := okS_yes hs
    clear hs
    go_enter Tryz.func54, Tryz.ntmps54
    go_wp2
    go_ret
    exact ⟨rfl, rfl⟩
/-- Is a frame settled, for a floor? -/
def seE (N : Nat) (M : Nat → Nat → Int) (f floor : Int) : Int := if Phead.ghE N M f = 0 ∧ Phead.ghK N M f = 1 ∧ Phead.ghZ N M f = true ∧ Phead.ghT N M f < floor then 0 else 6
theorem frozen_kind {N : Nat} {M : Nat → Nat → Int} {f : Int} (he : Phead.ghE N M f = 0) (hz : Phead.ghZ N M f = true) : Phead.ghK N M f = 1 := by
  unfold Phead.ghE at he
  unfold Phead.ghZ at hz
  unfold Phead.ghK
  by_cases ho : okF N f = true
  · rw [if_pos ho] at he ⊢
    rw [ho, Bool.true_and] at hz
    by_cases hg : Phead.Got (M f.toNat 0) (M f.toNat 1) (M f.toNat 2) (M f.toNat 3)
    · obtain ⟨e0, _, e2, _, _⟩ := Phead.hget_yes hg
      rw [e2] at hz
      rw [e0]
      exact hg.2.2.2.2.2.2.2.2.2.1 hz
    · obtain ⟨_, _, _, _, e4⟩ := Phead.hget_no hg
      rw [e4] at he
      cases he
  · rw [if_neg ho] at he
    cases he
theorem ok_of_gh {N : Nat} {M : Nat → Nat → Int} {f : Int} (he : Phead.ghE N M f = 0) : okF N f = true := by
  unfold Phead.ghE at he
  by_cases ho : okF N f = true
  · exact ho
  · rw [if_neg ho] at he; cases he
end Go.Proofs.YtggggfhgfnbjnaaGreatDoor.Pcaptbl

/- What Make, Look, Room, Put and Freeze of package captbl answer and do, for every argument, over a memory that New made. -/
namespace Go.Proofs.YtggggfhgfnbjnaaGreatDoor.Pcaptbl
open Go.Proofs.YtggggfhgfnbjnaaGreatDoor.Pbase Go.Proofs.YtggggfhgfnbjnaaGreatDoor.Pmem Go.Proofs.YtggggfhgfnbjnaaGreatDoor.Pradix Go.Proofs.YtggggfhgfnbjnaaGreatDoor.Pslot
open Go.RowKit
set_option linter.unusedVariables false

theorem hide {q : Prop} (h : q) : Hid q := h
def wk (a fl fr at_ : Int) : Wk := ⟨a, fl, fr, at_, 0, 0, 0, false, 0, 0, 0, 0, 0, 0, 0⟩
theorem wi_new {w : World} {p b N : Nat} {M : Nat → Nat → Int} (h : Mx w p b N M) (a fl fr at_ : Int) (ha : -9223372036854775808 ≤ a ∧ a ≤ 9223372036854775807) : Wi w (w.alloc (.cells #[.pointer (some ⟨p, 0, none⟩), .int .i64 a, .int .i64 fl, .int .i64 fr, .int .i64 at_, .int .i64 0, .int .i64 0, .int .i64 0, .bool false, .int .i64 0, .int .i64 0, .int .i64 0, .int .i64 0, .int .i64 0, .int .i64 0, .int .i64 0] 131)) p b N M w.heap.size (wk a fl fr at_) :=
  ⟨h, bal (Below.refl _ _) _, Nat.le_refl _, heap_alloc_new w _, ha⟩
set_option maxRecDepth 100000 in
theorem make_any (p b N : Nat) (f l : Int) (M : Nat → Nat → Int) (w : World) (h : Mx w p b N M) : Calls Tryz.prog 13 #[.pointer (some ⟨p, 0, none⟩), .int .i64 f, .int .i64 l] w fun x w' => x = .returned (.int .i64 (Phead.errP N f 1 l false 0)) ∧ Mx w' p b N (Phead.mkM N M f 1 l false 0) ∧ But b w w' := by
  have HM : Hid (Calls Tryz.prog 53 #[.pointer (some ⟨p, 0, none⟩), .int .i64 f, .agg #[.int .i64 1, .int .i64 l, .bool false, .int .i64 0]] w fun x w' => x = .returned (.int .i64 (Phead.errP N f 1 l false 0)) ∧ Mx w' p b N (Phead.mkM N M f 1 l false 0) ∧ But b w w') := by
    refine (Phead.hmake_any p b N f 1 l false 0 M w h.mt.n1 h.mt.n64 h.mt.mem h.th).mono ?_
    rintro x w' ⟨rfl, h1, h2⟩
    exact ⟨rfl, h.but h1 (Phead.fit_mk h.mt.fit N f 1 l false 0) h2, h2⟩
  clear h
  go_enter Tryz.func13, Tryz.ntmps13
  go_wp2_with (first
    | (go_at_call 53; refine HM.out.mono ?_; rintro e1 w1 ⟨rfl, hb⟩; have H1 : Hid (Mx w1 p b N (Phead.mkM N M f 1 l false 0) ∧ But b w w1) := hb; clear hb)
    | fail)
  go_ret
  exact ⟨rfl, H1.out⟩
/-! ### Look -/
/-- A result's block, a walk's, behind the look. -/
structure LkI (w w3 : World) (p b N : Nat) (M : Nat → Nat → Int) (u : Wk) : Prop where
  wi : Wi (w.alloc (.cells #[.int .i64 0, .int .i64 0, .int .i64 0, .int .i64 0, .int .i64 0, .int .i64 0] 55)) w3 p b N M (w.heap.size + 1) u
theorem LkI.res {w w3 : World} {p b N : Nat} {M : Nat → Nat → Int} {u : Wk} (h : LkI w w3 p b N M u) : Pcap.Box6 w3 w.heap.size 0 0 0 0 0 0 := (Pcap.box6_new w 0 0 0 0 0 0 55).on h.wi.below
theorem LkI.below {w w3 : World} {p b N : Nat} {M : Nat → Nat → Int} {u : Wk} (h : LkI w w3 p b N M u) : Below w.heap.size w w3 := (bal (Below.refl _ _) _).trans (h.wi.below.mono (by simp))
theorem lk_new {w : World} {p b N : Nat} {M : Nat → Nat → Int} (h : Mx w p b N M) (a fl fr at_ : Int) (ha : -9223372036854775808 ≤ a ∧ a ≤ 9223372036854775807) : LkI w ((w.alloc (.cells #[.int .i64 0, .int .i64 0, .int .i64 0, .int .i64 0, .int .i64 0, .int .i64 0] 55)).alloc (.cells #[.pointer (some ⟨p, 0, none⟩), .int .i64 a, .int .i64 fl, .int .i64 fr, .int .i64 at_, .int .i64 0, .int .i64 0, .int .i64 0, .bool false, .int .i64 0, .int .i64 0, .int .i64 0, .int .i64 0, .int .i64 0, .int .i64 0, .int .i64 0] 131)) p b N M (wk a fl fr at_) := by
  have := wi_new (h.on (bal (Below.refl _ _) (.cells #[.int .i64 0, .int .i64 0, .int .i64 0, .int .i64 0, .int .i64 0, .int .i64 0] 55))) a fl fr at_ ha
  rw [World.size_alloc] at this
  exact ⟨this⟩
theorem look_laid {w : World} {p b N : Nat} {M : Nat → Nat → Int} {root a : Int} (h : Mx w p b N M) (ha : -9223372036854775808 ≤ a ∧ a ≤ 9223372036854775807) :
    ∃ u : Wk, (∀ wc, Below ((w.alloc (.cells #[.int .i64 0, .int .i64 0, .int .i64 0, .int .i64 0, .int .i64 0, .int .i64 0] 55)).alloc (.cells #[.pointer (some ⟨p, 0, none⟩), .int .i64 a, .int .i64 0, .int .i64 root, .int .i64 0, .int .i64 0, .int .i64 0, .int .i64 0, .bool false, .int .i64 0, .int .i64 0, .int .i64 0, .int .i64 0, .int .i64 0, .int .i64 0, .int .i64 0] 131)).heap.size ((w.alloc (.cells #[.int .i64 0, .int .i64 0, .int .i64 0, .int .i64 0, .int .i64 0, .int .i64 0] 55)).alloc (.cells #[.pointer (some ⟨p, 0, none⟩), .int .i64 a, .int .i64 0, .int .i64 root, .int .i64 0, .int .i64 0, .int .i64 0, .int .i64 0, .bool false, .int .i64 0, .int .i64 0, .int .i64 0, .int .i64 0, .int .i64 0, .int .i64 0, .int .i64 0] 131)) wc → Calls Tryz.prog 170 #[.pointer (some ⟨w.heap.size + 1, 0, none⟩)] wc fun x w' => x = .returned (.int .i64 (lkE N M root a)) ∧ LkI w w' p b N M u) ∧
      (lkE N M root a = 0 → (u.k = lkC N M root a 0 ∧ u.r = lkC N M root a 1 ∧ u.t = lkC N M root a 2 ∧ u.l = lkC N M root a 3 ∧ u.e = lkC N M root a 4 ∧ u.x = lkC N M root a 5) ∧ u.fr = lfF N M root a ∧ u.at_ = lfI N M root a ∧ u.hz = lfZ N M root a) := by
  obtain ⟨he, hok⟩ := look_run N M (wk a 0 root 0)
  refine ⟨(stLook N M (wk a 0 root 0)).1, fun wc hb => ?_, hok⟩
  have := look_any ((lk_new h a 0 root 0 ha).wi.on hb)
  rw [he] at this
  refine this.mono ?_
  rintro x w' ⟨rfl, h1, _⟩
  exact ⟨rfl, ⟨h1⟩⟩
set_option maxRecDepth 100000 in
set_option maxHeartbeats 1000000 in
theorem clook_any (p b N : Nat) (root a : Int) (M : Nat → Nat → Int) (w : World) (h : Mx w p b N M) (ha : -9223372036854775808 ≤ a ∧ a ≤ 9223372036854775807) : Calls Tryz.prog 83 #[.pointer (some ⟨p, 0, none⟩), .int .i64 root, .int .i64 a] w fun x w' => x = .returned (.tuple #[.agg #[.int .i64 (lkC N M root a 0), .int .i64 (lkC N M root a 1), .int .i64 (lkC N M root a 2), .int .i64 (lkC N M root a 3), .int .i64 (lkC N M root a 4), .int .i64 (lkC N M root a 5)], .int .i64 (lkE N M root a)]) ∧ Below w.heap.size w w' := by
  obtain ⟨u, hL, hok⟩ := look_laid (root := root) h ha
  have HL := hide (hL _ (Below.refl _ _))
  clear h ha hL
  by_cases hE : lkE N M root a = 0
  · obtain ⟨⟨h0, h1, h2, h3, h4, h5⟩, _⟩ := hok hE
    rw [← h0, ← h1, ← h2, ← h3, ← h4, ← h5]
    rw [hE] at HL ⊢
    clear hok h0 h1 h2 h3 h4 h5 hE
    go_enter Tryz.func83, Tryz.ntmps83
    go_wp2_with (first
      | (go_at_call 170; refine HL.out.mono ?_; rintro e1 w1 ⟨rfl, hb⟩; have H1 : Hid (LkI w w1 p b N M u) := hb; clear hb HL; have x0 := H1.out.res.c0; have x1 := H1.out.res.c1; have x2 := H1.out.res.c2; have x3 := H1.out.res.c3; have x4 := H1.out.res.c4; have x5 := H1.out.res.c5; have z0 := H1.out.res.fz 0; have z1 := H1.out.res.fz 1; have z2 := H1.out.res.fz 2; have z3 := H1.out.res.fz 3; have z4 := H1.out.res.fz 4; have z5 := H1.out.res.fz 5; have y0 := H1.out.wi.c10; have y1 := H1.out.wi.c11; have y2 := H1.out.wi.c12; have y3 := H1.out.wi.c13; have y4 := H1.out.wi.c14; have y5 := H1.out.wi.c15)
      | fail)
    refine bodyPost_ret (v := .tuple #[.agg #[.int .i64 u.k, .int .i64 u.r, .int .i64 u.t, .int .i64 u.l, .int .i64 u.e, .int .i64 u.x], .int .i64 0]) (by simp [results, Tryz.results83, go_sem, x0, x1, x2, x3, x4, x5]) rfl ⟨rfl, ?_⟩
    exact bst (bst (bst (bst (bst (bst H1.out.below (Nat.le_refl _) _ _) (Nat.le_refl _) _ _) (Nat.le_refl _) _ _) (Nat.le_refl _) _ _) (Nat.le_refl _) _ _) (Nat.le_refl _) _ _
  · have hz : ∀ j, lkC N M root a j = 0 := fun j => by simp [lkC, hE]
    simp only [hz]
    generalize lkE N M root a = E at HL hE ⊢
    have hE' : (E != 0) = true := by simp [hE]
    clear hok hz hE
    go_enter Tryz.func83, Tryz.ntmps83
    go_wp2_with (first
      | (go_at_call 170; refine HL.out.mono ?_; rintro e1 w1 ⟨rfl, hb⟩; have H1 : Hid (LkI w w1 p b N M u) := hb; clear hb HL; have x0 := H1.out.res.c0; have x1 := H1.out.res.c1; have x2 := H1.out.res.c2; have x3 := H1.out.res.c3; have x4 := H1.out.res.c4; have x5 := H1.out.res.c5; have z0 := H1.out.res.fz 0; have z1 := H1.out.res.fz 1; have z2 := H1.out.res.fz 2; have z3 := H1.out.res.fz 3; have z4 := H1.out.res.fz 4; have z5 := H1.out.res.fz 5)
      | fail)
    refine bodyPost_ret (v := .tuple #[.agg #[.int .i64 0, .int .i64 0, .int .i64 0, .int .i64 0, .int .i64 0, .int .i64 0], .int .i64 E]) (by simp [results, Tryz.results83, go_sem, x0, x1, x2, x3, x4, x5]) rfl ⟨rfl, ?_⟩
    exact bst (bst (bst (bst (bst (bst H1.out.below (Nat.le_refl _) _ _) (Nat.le_refl _) _ _) (Nat.le_refl _) _ _) (Nat.le_refl _) _ _) (Nat.le_refl _) _ _) (Nat.le_refl _) _ _

/-! ### Room, Put -/
theorem room_laid {w : World} {p b N : Nat} {M : Nat → Nat → Int} {root a floor : Int} (h : Mx w p b N M) (ha : -9223372036854775808 ≤ a ∧ a ≤ 9223372036854775807) :
    ∃ u : Wk, Calls Tryz.prog 69 #[.pointer (some ⟨w.heap.size, 0, none⟩)] (w.alloc (.cells #[.pointer (some ⟨p, 0, none⟩), .int .i64 a, .int .i64 floor, .int .i64 root, .int .i64 0, .int .i64 0, .int .i64 0, .int .i64 0, .bool false, .int .i64 0, .int .i64 0, .int .i64 0, .int .i64 0, .int .i64 0, .int .i64 0, .int .i64 0] 131)) (fun x w' => x = .returned (.int .i64 (roE N M root a floor)) ∧ Wi w w' p b N M w.heap.size u) ∧
      (roE N M root a floor = 0 → u.fr = lfF N M root a ∧ u.at_ = lfI N M root a) := by
  obtain ⟨he, hok⟩ := room_run N M (wk a floor root 0)
  refine ⟨(stRoom N M (wk a floor root 0)).1, ?_, hok⟩
  have := room_any (wi_new h a floor root 0 ha)
  rw [he] at this
  refine this.mono ?_
  rintro x w' ⟨rfl, h1, _⟩
  exact ⟨rfl, h1⟩
/-- A capability, a memory and the tables behind calls that leave what was. -/
structure PuI (w0 w : World) (p b N : Nat) (M : Nat → Nat → Int) (D : Nat) (k r t l e c : Int) : Prop where
  mx : Mx w p b N M
  box : Pcap.Box6 w D k r t l e c
  below : Below w0.heap.size w0 w
theorem PuI.on {w0 w w' : World} {p b N : Nat} {M : Nat → Nat → Int} {D : Nat} {k r t l e c : Int} (h : PuI w0 w p b N M D k r t l e c) (hB : Below w.heap.size w w') : PuI w0 w' p b N M D k r t l e c :=
  ⟨h.mx.on hB, h.box.on hB, h.below.trans (hB.mono h.below.size)⟩
theorem put_box {w : World} {p b N : Nat} {M : Nat → Nat → Int} (h : Mx w p b N M) (k r t l e c : Int) : PuI w (w.alloc (.cells #[.int .i64 k, .int .i64 r, .int .i64 t, .int .i64 l, .int .i64 e, .int .i64 c] 55)) p b N M w.heap.size k r t l e c :=
  ⟨h.on (bal (Below.refl _ _) _), Pcap.box6_new w k r t l e c 55, bal (Below.refl _ _) _⟩
set_option maxRecDepth 100000 in
set_option maxHeartbeats 1000000 in
theorem cput_any (p b N : Nat) (root a k r t l e c floor : Int) (M : Nat → Nat → Int) (w : World) (h : Mx w p b N M) (ha : -9223372036854775808 ≤ a ∧ a ≤ 9223372036854775807) : Calls Tryz.prog 18 #[.pointer (some ⟨p, 0, none⟩), .int .i64 root, .int .i64 a, .agg #[.int .i64 k, .int .i64 r, .int .i64 t, .int .i64 l, .int .i64 e, .int .i64 c], .int .i64 floor] w fun x w' => x = .returned (.int .i64 (ptE N M root a k r t l e c floor)) ∧ Mx w' p b N (ptM N M root a k r t l e c floor) ∧ But b w w' := by
  have HM : Hid (Mx w p b N M) := h
  have HA : Hid (-9223372036854775808 ≤ a ∧ a ≤ 9223372036854775807) := ha
  have HP := put_box h k r t l e c
  clear h ha
  by_cases hr : Pcap.Rt k r t l e c
  case neg =>
    have e1 : ptE N M root a k r t l e c floor = 1 := by simp [ptE, upB, Pcap.rtB_no hr]
    have e2 : ptM N M root a k r t l e c floor = M := by simp [ptM, e1]
    have hc : Pcap.chk k r t l e c = 1 := Pcap.chk_no hr
    rw [e1, e2]
    clear e1 e2 hr
    go_enter Tryz.func18, Tryz.ntmps18
    go_upto_region 1 with fail
    generalize w.alloc _ = w1 at HP ⊢
    generalize w.heap.size = D at HP ⊢
    have H1 : Hid (PuI w w1 p b N M D k r t l e c) := HP
    clear HP
    have x0 := H1.out.box.c0
    have x1 := H1.out.box.c1
    have x2 := H1.out.box.c2
    have x3 := H1.out.box.c3
    have x4 := H1.out.box.c4
    have x5 := H1.out.box.c5
    go_wp2_with (first
      | (go_at_call 67; refine (Pcap.check_any k r t l e c _ H1.out.mx.mt.tab).mono ?_; rintro e2 w2 ⟨rfl, hb⟩; rw [hc]; have H2 : Hid (PuI w w2 p b N M D k r t l e c) := H1.out.on hb; clear hb x0 x1 x2 x3 x4 x5; have x0 := H2.out.box.c0; have x1 := H2.out.box.c1; have x2 := H2.out.box.c2; have x3 := H2.out.box.c3; have x4 := H2.out.box.c4; have x5 := H2.out.box.c5)
      | fail)
    go_ret
    exact ⟨rfl, HM.out.on H2.out.below, But.of_below b H2.out.below⟩
  have hc : Pcap.chk k r t l e c = 0 := Pcap.chk_yes hr
  by_cases hk : 1 < k
  case neg =>
    have e1 : ptE N M root a k r t l e c floor = 1 := by simp [ptE, upB, hk]
    have e2 : ptM N M root a k r t l e c floor = M := by simp [ptM, e1]
    have hd : decide (1 < k) = false := decide_eq_false hk
    rw [e1, e2]
    clear e1 e2 hr hk
    go_enter Tryz.func18, Tryz.ntmps18
    go_upto_region 1 with fail
    generalize w.alloc _ = w1 at HP ⊢
    generalize w.heap.size = D at HP ⊢
    have H1 : Hid (PuI w w1 p b N M D k r t l e c) := HP
    clear HP
    have x0 := H1.out.box.c0
    have x1 := H1.out.box.c1
    have x2 := H1.out.box.c2
    have x3 := H1.out.box.c3
    have x4 := H1.out.box.c4
    have x5 := H1.out.box.c5
    go_wp2_with (first
      | (go_at_call 67; refine (Pcap.check_any k r t l e c _ H1.out.mx.mt.tab).mono ?_; rintro e2 w2 ⟨rfl, hb⟩; rw [hc]; have H2 : Hid (PuI w w2 p b N M D k r t l e c) := H1.out.on hb; clear hb x0 x1 x2 x3 x4 x5; have x0 := H2.out.box.c0; have x1 := H2.out.box.c1; have x2 := H2.out.box.c2; have x3 := H2.out.box.c3; have x4 := H2.out.box.c4; have x5 := H2.out.box.c5)
      | (go_at_call 68; refine (above_any _ _ _ _ _ _ _).mono ?_; rintro e3 w3 ⟨rfl, hb⟩; rw [hd]; have H3 : Hid (PuI w w3 p b N M D k r t l e c) := H2.out.on hb; clear hb x0 x1 x2 x3 x4 x5; have x0 := H3.out.box.c0; have x1 := H3.out.box.c1; have x2 := H3.out.box.c2; have x3 := H3.out.box.c3; have x4 := H3.out.box.c4; have x5 := H3.out.box.c5)
      | fail)
    go_ret
    exact ⟨rfl, HM.out.on H3.out.below, But.of_below b H3.out.below⟩
  have hd : decide (1 < k) = true := decide_eq_true hk
  have e1 : ptE N M root a k r t l e c floor = roE N M root a floor := by simp [ptE, upB, hk, Pcap.rtB_yes hr]
  have e2 : ptM N M root a k r t l e c floor = if roE N M root a floor = 0 then pM N M (lfF N M root a) (lfI N M root a) k r t l e c else M := by simp [ptM, e1]
  have e3 : roE N M root a floor = 0 → pE N (lfF N M root a) (lfI N M root a) k r t l e c = 0 := fun h => ro_put hr h
  rw [e1, e2]
  clear e1 e2 hr hk
  by_cases hE : roE N M root a floor = 0
  case neg =>
    rw [if_neg hE]
    generalize hEE : roE N M root a floor = E at hE ⊢
    have HEE : Hid (roE N M root a floor = E) := hEE
    have hE' : (E != 0) = true := by simp [hE]
    clear e3 hE hEE
    go_enter Tryz.func18, Tryz.ntmps18
    go_upto_region 1 with fail
    generalize w.alloc _ = w1 at HP ⊢
    generalize w.heap.size = D at HP ⊢
    have H1 : Hid (PuI w w1 p b N M D k r t l e c) := HP
    clear HP
    have x0 := H1.out.box.c0
    have x1 := H1.out.box.c1
    have x2 := H1.out.box.c2
    have x3 := H1.out.box.c3
    have x4 := H1.out.box.c4
    have x5 := H1.out.box.c5
    go_upto_region 4 with (first
      | (go_at_call 67; refine (Pcap.check_any k r t l e c _ H1.out.mx.mt.tab).mono ?_; rintro e2 w2 ⟨rfl, hb⟩; rw [hc]; have H2 : Hid (PuI w w2 p b N M D k r t l e c) := H1.out.on hb; clear hb x0 x1 x2 x3 x4 x5; have x0 := H2.out.box.c0; have x1 := H2.out.box.c1; have x2 := H2.out.box.c2; have x3 := H2.out.box.c3; have x4 := H2.out.box.c4; have x5 := H2.out.box.c5)
      | (go_at_call 68; refine (above_any _ _ _ _ _ _ _).mono ?_; rintro e3 w3 ⟨rfl, hb⟩; rw [hd]; have H3 : Hid (PuI w w3 p b N M D k r t l e c) := H2.out.on hb; clear hb x0 x1 x2 x3 x4 x5; have x0 := H3.out.box.c0; have x1 := H3.out.box.c1; have x2 := H3.out.box.c2; have x3 := H3.out.box.c3; have x4 := H3.out.box.c4; have x5 := H3.out.box.c5)
      | fail)
    obtain ⟨u, hL, _⟩ := room_laid (root := root) (floor := floor) H3.out.mx HA.out
    rw [HEE.out] at hL
    have HL := hide hL
    clear hL
    go_wp2_with (first
      | (go_at_call 69; refine HL.out.mono ?_; rintro e4 w4 ⟨rfl, hb⟩; have H4 : Hid (Wi w3 w4 p b N M w3.heap.size u) := hb; clear hb HL)
      | fail)
    go_ret
    have hb4 : Below w.heap.size w w4 := H3.out.below.trans (H4.out.below.mono H3.out.below.size)
    exact ⟨rfl, HM.out.on hb4, But.of_below b hb4⟩
  have e4 := e3 hE
  rw [if_pos hE, hE]
  have HEE : Hid (roE N M root a floor = 0) := hE
  have HE4 : Hid (pE N (lfF N M root a) (lfI N M root a) k r t l e c = 0) := e4
  clear e3 hE e4
  go_enter Tryz.func18, Tryz.ntmps18
  go_upto_region 1 with fail
  generalize w.alloc _ = w1 at HP ⊢
  generalize w.heap.size = D at HP ⊢
  have H1 : Hid (PuI w w1 p b N M D k r t l e c) := HP
  clear HP
  have x0 := H1.out.box.c0
  have x1 := H1.out.box.c1
  have x2 := H1.out.box.c2
  have x3 := H1.out.box.c3
  have x4 := H1.out.box.c4
  have x5 := H1.out.box.c5
  go_upto_region 4 with (first
    | (go_at_call 67; refine (Pcap.check_any k r t l e c _ H1.out.mx.mt.tab).mono ?_; rintro e2 w2 ⟨rfl, hb⟩; rw [hc]; have H2 : Hid (PuI w w2 p b N M D k r t l e c) := H1.out.on hb; clear hb x0 x1 x2 x3 x4 x5; have x0 := H2.out.box.c0; have x1 := H2.out.box.c1; have x2 := H2.out.box.c2; have x3 := H2.out.box.c3; have x4 := H2.out.box.c4; have x5 := H2.out.box.c5)
    | (go_at_call 68; refine (above_any _ _ _ _ _ _ _).mono ?_; rintro e3 w3 ⟨rfl, hb⟩; rw [hd]; have H3 : Hid (PuI w w3 p b N M D k r t l e c) := H2.out.on hb; clear hb x0 x1 x2 x3 x4 x5; have x0 := H3.out.box.c0; have x1 := H3.out.box.c1; have x2 := H3.out.box.c2; have x3 := H3.out.box.c3; have x4 := H3.out.box.c4; have x5 := H3.out.box.c5)
    | fail)
  obtain ⟨u, hL, hu⟩ := room_laid (root := root) (floor := floor) H3.out.mx HA.out
  rw [HEE.out] at hL
  have HL := hide hL
  have HU := hide (hu HEE.out)
  clear hL hu
  go_wp2_with (first
    | (go_at_call 69; refine HL.out.mono ?_; rintro e4 w4 ⟨rfl, hb⟩; have H4 : Hid (Wi w3 w4 p b N M w3.heap.size u) := hb; have HX : Hid (Pcap.Box6 w4 D k r t l e c) := H3.out.box.on hb.below; clear hb HL x0 x1 x2 x3 x4 x5; have x0 := HX.out.c0; have x1 := HX.out.c1; have x2 := HX.out.c2; have x3 := HX.out.c3; have x4 := HX.out.c4; have x5 := HX.out.c5)
    | (go_at_call 61; refine (wput_any k r t l e c H4.out).mono ?_; rintro e5 w5 ⟨rfl, hm, hb⟩; rw [HU.out.1, HU.out.2] at hm ⊢; rw [HE4.out]; have H5 : Hid (Mx w5 p b N (pM N M (lfF N M root a) (lfI N M root a) k r t l e c) ∧ But b w4 w5) := ⟨hm, hb⟩; clear hm hb)
    | fail)
  go_ret
  have hb4 : Below w.heap.size w w4 := H3.out.below.trans (H4.out.below.mono H3.out.below.size)
  exact ⟨rfl, H5.out.1, (But.of_below b hb4).trans H5.out.2⟩
end Go.Proofs.YtggggfhgfnbjnaaGreatDoor.Pcaptbl

/- What Freeze, Cons and Decons of package captbl answer and do, for every argument, over a memory that New made. -/
namespace Go.Proofs.YtggggfhgfnbjnaaGreatDoor.Pcaptbl
open Go.Proofs.YtggggfhgfnbjnaaGreatDoor.Pbase Go.Proofs.YtggggfhgfnbjnaaGreatDoor.Pmem Go.Proofs.YtggggfhgfnbjnaaGreatDoor.Pradix Go.Proofs.YtggggfhgfnbjnaaGreatDoor.Pslot
open Go.RowKit
set_option linter.unusedVariables false

/-! ### Freeze -/
theorem frozen_put {N : Nat} {M : Nat → Nat → Int} {f now : Int} (he : Phead.ghE N M f = 0) (hk : Phead.ghK N M f = 1) (ht : tiB now = true) : Phead.errP N f 1 (Phead.ghL N M f) true now = 0 := by
  have ho := ok_of_gh he
  have hr : Phead.Rt 1 (Phead.ghL N M f) true now := by
    simp only [tiB, Bool.and_eq_true, decide_eq_true_eq] at ht
    unfold Phead.ghE at he
    rw [if_pos ho] at he
    unfold Phead.ghL
    rw [if_pos ho]
    by_cases hg : Phead.Got (M f.toNat 0) (M f.toNat 1) (M f.toNat 2) (M f.toNat 3)
    · obtain ⟨_, e1, _, _, _⟩ := Phead.hget_yes hg
      rw [e1]
      have := hg.2.2.2.2
      unfold Phead.Rt at this ⊢
      simp
      omega
    · obtain ⟨_, _, _, _, e4⟩ := Phead.hget_no hg
      rw [e4] at he
      cases he
  simp [Phead.errP, Phead.rtB_yes hr, errF, ho]
theorem fr_laid {w w1 : World} {p b N : Nat} {M : Nat → Nat → Int} (h : Mx w p b N M) (hb : Below w.heap.size w w1) (k l : Int) (z : Bool) (t : Int) : Mx (w1.alloc (.cells #[.int .i64 k, .int .i64 l, .bool z, .int .i64 t] 127)) p b N M ∧ Below w.heap.size w (w1.alloc (.cells #[.int .i64 k, .int .i64 l, .bool z, .int .i64 t] 127)) :=
  ⟨h.on (bal hb _), bal hb _⟩
/-! ### Cons: two walks -/
/-- Two walks of one call. -/
def Two (w0 : World) (p b N : Nat) (M : Nat → Nat → Int) (B C : Nat) (s : Wk × Wk) (w : World) : Prop := Wi w0 w p b N M B s.1 ∧ Wi w0 w p b N M C s.2 ∧ B ≠ C
def onL (st : Wk → Wk × Int) (s : Wk × Wk) : (Wk × Wk) × Int := (((st s.1).1, s.2), (st s.1).2)
def onR (st : Wk → Wk × Int) (s : Wk × Wk) : (Wk × Wk) × Int := ((s.1, (st s.2).1), (st s.2).2)
section
variable {w0 w : World} {p b N : Nat} {M : Nat → Nat → Int} {B C D : Nat}
theorem good_l {f : Nat} {st : Wk → Wk × Int} (hD : D ≠ B) (he : ∀ (ar : Array Value) (w : World), (callFunc f ar).run Tryz.prog w = .ok (.enter f ar) w)
    (hs : ∀ (u : Wk) (w : World), Wi w0 w p b N M B u → Calls Tryz.prog f #[.pointer (some ⟨B, 0, none⟩)] w fun x w' => x = .returned (.int .i64 (st u).2) ∧ Wi w0 w' p b N M B (st u).1 ∧ But B w w') :
    Good (Two w0 p b N M B C) D (f, .pointer (some ⟨B, 0, none⟩), onL st) := by
  refine ⟨he, fun s w' hJ hlt => (hs s.1 w' hJ.1).mono ?_⟩
  rintro x w'' ⟨rfl, h1, h2⟩
  exact ⟨rfl, ⟨h1, hJ.2.1.but h2 hJ.1.lo (Ne.symm hJ.2.2), hJ.2.2⟩, h2.block _ hlt hD⟩
theorem good_r {f : Nat} {st : Wk → Wk × Int} (hD : D ≠ C) (he : ∀ (ar : Array Value) (w : World), (callFunc f ar).run Tryz.prog w = .ok (.enter f ar) w)
    (hs : ∀ (u : Wk) (w : World), Wi w0 w p b N M C u → Calls Tryz.prog f #[.pointer (some ⟨C, 0, none⟩)] w fun x w' => x = .returned (.int .i64 (st u).2) ∧ Wi w0 w' p b N M C (st u).1 ∧ But C w w') :
    Good (Two w0 p b N M B C) D (f, .pointer (some ⟨C, 0, none⟩), onR st) := by
  refine ⟨he, fun s w' hJ hlt => (hs s.2 w' hJ.2.1).mono ?_⟩
  rintro x w'' ⟨rfl, h1, h2⟩
  exact ⟨rfl, ⟨hJ.1.but h2 hJ.2.1.lo hJ.2.2, h1, hJ.2.2⟩, h2.block _ hlt hD⟩
end
def stCons (N : Nat) (M : Nat → Nat → Int) (s : Wk × Wk) : (Wk × Wk) × Int := chain [(0, undef, onL (stIn N M 0)), (0, undef, onR (stIn N M 1)), (0, undef, onL stThaw), (0, undef, onR stThaw), (0, undef, onL (stRead N M)), (0, undef, onL stFree)] s
theorem cons_run (N : Nat) (M : Nat → Nat → Int) (root high f floor : Int) (hs : okS high = true) : (stCons N M (wk 0 floor root high, wk 0 0 f 0)).2 = coE N M root high f floor ∧ (coE N M root high f floor = 0 → (stCons N M (wk 0 floor root high, wk 0 0 f 0)).1.1.fr = root ∧ (stCons N M (wk 0 floor root high, wk 0 0 f 0)).1.1.at_ = high) := by
  by_cases h1 : tbB N M root 0 = true
  case neg => simp [stCons, chain, onL, stIn, wk, coE, hs, h1]
  by_cases h2 : tbB N M f 1 = true
  case neg => simp [stCons, chain, onL, onR, stIn, wk, coE, hs, h1, h2]
  by_cases h3 : Phead.ghZ N M root = true
  case pos => simp [stCons, chain, onL, onR, stIn, stThaw, wk, coE, hs, h1, h2, h3]
  by_cases h4 : Phead.ghZ N M f = true
  case pos => simp [stCons, chain, onL, onR, stIn, stThaw, wk, coE, hs, h1, h2, h3, h4]
  by_cases h5 : sE N M root high = 0
  case neg => simp [stCons, chain, onL, onR, stIn, stThaw, stRead, wk, coE, hs, h1, h2, h3, h4, h5]
  have hk0 := sC_low (N := N) (M := M) (f := root) (i := high)
  by_cases h6 : sC N M root high 0 = 1
  · by_cases h8 : floor ≤ sC N M root high 5
    · simp [stCons, chain, onL, onR, stIn, stThaw, stRead, stSee, stFree, wk, coE, quB, hs, h1, h2, h3, h4, h5, h6, h8]
    · simp [stCons, chain, onL, onR, stIn, stThaw, stRead, stSee, stFree, wk, coE, quB, hs, h1, h2, h3, h4, h5, h6, h8]
  · by_cases h9 : sC N M root high 0 = 0
    · simp [stCons, chain, onL, onR, stIn, stThaw, stRead, stSee, stFree, wk, coE, quB, hs, h1, h2, h3, h4, h5, h9]
    · have h10 : 1 < sC N M root high 0 := by omega
      simp [stCons, chain, onL, onR, stIn, stThaw, stRead, stSee, stFree, wk, coE, hs, h1, h2, h3, h4, h5, h6, h9, h10]
/-- Where Cons has none to refuse, the slot's Put has none either. -/
theorem co_put {N : Nat} {M : Nat → Nat → Int} {root high f floor : Int} (hN : N ≤ 64) (h : coE N M root high f floor = 0) : pE N root high 3 31 f 0 0 0 = 0 := by
  unfold coE at h
  by_cases h1 : okS high = true
  · rw [if_pos h1] at h
    by_cases h2 : tbB N M root 0 = true ∧ tbB N M f 1 = true
    · rw [if_pos h2] at h
      have a := h2.1
      have c := h2.2
      simp only [tbB, Bool.and_eq_true, decide_eq_true_eq] at a c
      have hf := okF_yes (ok_of_gh c.1.1)
      exact pE_yes h1 (rt_table (by omega) (by omega)) (ok_of_gh a.1.1)
    · rw [if_neg h2] at h; cases h
  · rw [if_neg h1] at h; cases h
theorem cons_laid {w : World} {p b N : Nat} {M : Nat → Nat → Int} (h : Mx w p b N M) (root high f floor : Int) (hs : okS high = true) : ∃ u : Wk × Wk,
    (∀ ty, Calls Tryz.prog 55 #[.slice (some ⟨w.heap.size + 2, 0, none⟩) 6 6] (((w.alloc (.cells #[.pointer (some ⟨p, 0, none⟩), .int .i64 0, .int .i64 floor, .int .i64 root, .int .i64 high, .int .i64 0, .int .i64 0, .int .i64 0, .bool false, .int .i64 0, .int .i64 0, .int .i64 0, .int .i64 0, .int .i64 0, .int .i64 0, .int .i64 0] 131)).alloc (.cells #[.pointer (some ⟨p, 0, none⟩), .int .i64 0, .int .i64 0, .int .i64 f, .int .i64 0, .int .i64 0, .int .i64 0, .int .i64 0, .bool false, .int .i64 0, .int .i64 0, .int .i64 0, .int .i64 0, .int .i64 0, .int .i64 0, .int .i64 0] 131)).alloc (.cells #[.func (.func 56) #[.pointer (some ⟨w.heap.size, 0, none⟩)] #[], .func (.func 57) #[.pointer (some ⟨w.heap.size + 1, 0, none⟩)] #[], .func (.func 58) #[.pointer (some ⟨w.heap.size, 0, none⟩)] #[], .func (.func 58) #[.pointer (some ⟨w.heap.size + 1, 0, none⟩)] #[], .func (.func 59) #[.pointer (some ⟨w.heap.size, 0, none⟩)] #[], .func (.func 60) #[.pointer (some ⟨w.heap.size, 0, none⟩)] #[]] ty)) fun x w' => x = .returned (.int .i64 (coE N M root high f floor)) ∧ Wi w w' p b N M w.heap.size u.1) ∧
    (coE N M root high f floor = 0 → u.1.fr = root ∧ u.1.at_ = high) := by
  obtain ⟨he, hok⟩ := cons_run N M root high f floor hs
  refine ⟨(stCons N M (wk 0 floor root high, wk 0 0 f 0)).1, fun ty => ?_, hok⟩
  have h1 : Wi w (w.alloc (.cells #[.pointer (some ⟨p, 0, none⟩), .int .i64 0, .int .i64 floor, .int .i64 root, .int .i64 high, .int .i64 0, .int .i64 0, .int .i64 0, .bool false, .int .i64 0, .int .i64 0, .int .i64 0, .int .i64 0, .int .i64 0, .int .i64 0, .int .i64 0] 131)) p b N M w.heap.size (wk 0 floor root high) := wi_new h 0 floor root high (by omega)
  have h2 : Wi w ((w.alloc (.cells #[.pointer (some ⟨p, 0, none⟩), .int .i64 0, .int .i64 floor, .int .i64 root, .int .i64 high, .int .i64 0, .int .i64 0, .int .i64 0, .bool false, .int .i64 0, .int .i64 0, .int .i64 0, .int .i64 0, .int .i64 0, .int .i64 0, .int .i64 0] 131)).alloc (.cells #[.pointer (some ⟨p, 0, none⟩), .int .i64 0, .int .i64 0, .int .i64 f, .int .i64 0, .int .i64 0, .int .i64 0, .int .i64 0, .bool false, .int .i64 0, .int .i64 0, .int .i64 0, .int .i64 0, .int .i64 0, .int .i64 0, .int .i64 0] 131)) p b N M (w.heap.size + 1) (wk 0 0 f 0) :=
    ⟨h, bal (bal (Below.refl _ _) _) _, Nat.le_succ _, by have := heap_alloc_new (w.alloc (.cells #[.pointer (some ⟨p, 0, none⟩), .int .i64 0, .int .i64 floor, .int .i64 root, .int .i64 high, .int .i64 0, .int .i64 0, .int .i64 0, .bool false, .int .i64 0, .int .i64 0, .int .i64 0, .int .i64 0, .int .i64 0, .int .i64 0, .int .i64 0] 131)) (.cells #[.pointer (some ⟨p, 0, none⟩), .int .i64 0, .int .i64 0, .int .i64 f, .int .i64 0, .int .i64 0, .int .i64 0, .int .i64 0, .bool false, .int .i64 0, .int .i64 0, .int .i64 0, .int .i64 0, .int .i64 0, .int .i64 0, .int .i64 0] 131); rw [World.size_alloc] at this; exact this, by show (-9223372036854775808 : Int) ≤ 0 ∧ (0 : Int) ≤ 9223372036854775807; omega⟩
  have h3 := h1.on (bal (Below.refl _ _) (.cells #[.pointer (some ⟨p, 0, none⟩), .int .i64 0, .int .i64 0, .int .i64 f, .int .i64 0, .int .i64 0, .int .i64 0, .int .i64 0, .bool false, .int .i64 0, .int .i64 0, .int .i64 0, .int .i64 0, .int .i64 0, .int .i64 0, .int .i64 0] 131))
  have hz : ((w.alloc (.cells #[.pointer (some ⟨p, 0, none⟩), .int .i64 0, .int .i64 floor, .int .i64 root, .int .i64 high, .int .i64 0, .int .i64 0, .int .i64 0, .bool false, .int .i64 0, .int .i64 0, .int .i64 0, .int .i64 0, .int .i64 0, .int .i64 0, .int .i64 0] 131)).alloc (.cells #[.pointer (some ⟨p, 0, none⟩), .int .i64 0, .int .i64 0, .int .i64 f, .int .i64 0, .int .i64 0, .int .i64 0, .int .i64 0, .bool false, .int .i64 0, .int .i64 0, .int .i64 0, .int .i64 0, .int .i64 0, .int .i64 0, .int .i64 0] 131)).heap.size = w.heap.size + 2 := by simp
  have := follow_gen (Two w p b N M w.heap.size (w.heap.size + 1)) ((w.alloc (.cells #[.pointer (some ⟨p, 0, none⟩), .int .i64 0, .int .i64 floor, .int .i64 root, .int .i64 high, .int .i64 0, .int .i64 0, .int .i64 0, .bool false, .int .i64 0, .int .i64 0, .int .i64 0, .int .i64 0, .int .i64 0, .int .i64 0, .int .i64 0] 131)).alloc (.cells #[.pointer (some ⟨p, 0, none⟩), .int .i64 0, .int .i64 0, .int .i64 f, .int .i64 0, .int .i64 0, .int .i64 0, .int .i64 0, .bool false, .int .i64 0, .int .i64 0, .int .i64 0, .int .i64 0, .int .i64 0, .int .i64 0, .int .i64 0] 131)) (wk 0 floor root high, wk 0 0 f 0)
    [(56, .pointer (some ⟨w.heap.size, 0, none⟩), onL (stIn N M 0)), (57, .pointer (some ⟨w.heap.size + 1, 0, none⟩), onR (stIn N M 1)), (58, .pointer (some ⟨w.heap.size, 0, none⟩), onL stThaw), (58, .pointer (some ⟨w.heap.size + 1, 0, none⟩), onR stThaw), (59, .pointer (some ⟨w.heap.size, 0, none⟩), onL (stRead N M)), (60, .pointer (some ⟨w.heap.size, 0, none⟩), onL stFree)] 6 ty _ rfl (by decide) rfl
    (fun o => ⟨h3.on (bal (Below.refl _ _) o), h2.on (bal (Below.refl _ _) o), by omega⟩)
    ⟨good_l (by omega) (fun _ _ => by kernel_rfl) fun _ _ hw => inRoot_any hw, good_r (by omega) (fun _ _ => by kernel_rfl) fun _ _ hw => inLeaf_any hw, good_l (by omega) (fun _ _ => by kernel_rfl) fun _ _ hw => thawed_any hw, good_r (by omega) (fun _ _ => by kernel_rfl) fun _ _ hw => thawed_any hw, good_l (by omega) (fun _ _ => by kernel_rfl) fun _ _ hw => read_any hw, good_l (by omega) (fun _ _ => by kernel_rfl) fun _ _ hw => free_any hw, trivial⟩
  rw [hz] at this
  refine this.mono ?_
  rintro x w' ⟨rfl, h4⟩
  exact ⟨by rw [← he]; rfl, h4.1⟩
set_option maxRecDepth 100000 in
set_option maxHeartbeats 1000000 in
theorem cons_any (p b N : Nat) (root high f floor : Int) (M : Nat → Nat → Int) (w : World) (h : Mx w p b N M) : Calls Tryz.prog 15 #[.pointer (some ⟨p, 0, none⟩), .int .i64 root, .int .i64 high, .int .i64 f, .int .i64 floor] w fun x w' => x = .returned (.int .i64 (coE N M root high f floor)) ∧ Mx w' p b N (coM N M root high f floor) ∧ But b w w' := by
  have HM : Hid (Mx w p b N M) := h
  have hmf : ∀ (fn : Fn) (first cap : Array Value) (w : World), (Instr.makeFunc fn first cap).run Tryz.prog w = .ok (.func fn first cap) w := fun _ _ _ _ => rfl
  cases hs : okS high
  case false =>
    have e1 : coE N M root high f floor = 1 := by simp [coE, hs]
    have e2 : coM N M root high f floor = M := by simp [coM, e1]
    rw [e1, e2]
    clear h e1 e2
    go_enter Tryz.func15, Tryz.ntmps15
    go_wp2_with (first
      | (go_at_call 54; refine (isSlot_any high _).mono ?_; rintro e1 w1 ⟨rfl, hw⟩; subst w1; rw [hs])
      | fail)
    go_ret
    exact ⟨rfl, HM.out, But.refl _ _⟩
  obtain ⟨u, hL, hok⟩ := cons_laid h root high f floor hs
  have e2 : coM N M root high f floor = if coE N M root high f floor = 0 then pM N M root high 3 31 f 0 0 0 else M := rfl
  have e3 : coE N M root high f floor = 0 → pE N root high 3 31 f 0 0 0 = 0 := fun hh => co_put h.mt.n64 hh
  rw [e2]
  clear e2 h
  by_cases hE : coE N M root high f floor = 0
  case neg =>
    rw [if_neg hE]
    have HL := hide hL
    clear hL hok e3
    generalize coE N M root high f floor = E at HL hE ⊢
    have hE' : (E != 0) = true := by simp [hE]
    go_enter Tryz.func15, Tryz.ntmps15
    go_wp2_with (first
      | (go_at_call 54; refine (isSlot_any high _).mono ?_; rintro e1 w1 ⟨rfl, hw⟩; subst w1; rw [hs])
      | (go_at_call 55; refine (HL.out _).mono ?_; rintro e2 w2 ⟨rfl, hb⟩; have H2 : Hid (Wi w w2 p b N M w.heap.size u.1) := hb; clear hb HL)
      | fail)
    go_ret
    exact ⟨rfl, H2.out.mx, But.of_below b H2.out.below⟩
  rw [if_pos hE]
  rw [hE] at hL ⊢
  have HL := hide hL
  have HU := hide (hok hE)
  have HP := hide (e3 hE)
  clear hL hok e3 hE
  go_enter Tryz.func15, Tryz.ntmps15
  go_wp2_with (first
    | (go_at_call 54; refine (isSlot_any high _).mono ?_; rintro e1 w1 ⟨rfl, hw⟩; subst w1; rw [hs])
    | (go_at_call 55; refine (HL.out _).mono ?_; rintro e2 w2 ⟨rfl, hb⟩; have H2 : Hid (Wi w w2 p b N M w.heap.size u.1) := hb; clear hb HL)
    | (go_at_call 61; refine (wput_any 3 31 f 0 0 0 H2.out).mono ?_; rintro e5 w5 ⟨rfl, hm, hb⟩; rw [HU.out.1, HU.out.2] at hm ⊢; rw [HP.out]; have H5 : Hid (Mx w5 p b N (pM N M root high 3 31 f 0 0 0) ∧ But b w2 w5) := ⟨hm, hb⟩; clear hm hb)
    | fail)
  go_ret
  exact ⟨rfl, H5.out.1, (But.of_below b H2.out.below).trans H5.out.2⟩
end Go.Proofs.YtggggfhgfnbjnaaGreatDoor.Pcaptbl

/- What Decons and Drop of package captbl answer and do, for every argument, over a memory that New made. -/
namespace Go.Proofs.YtggggfhgfnbjnaaGreatDoor.Pcaptbl
open Go.Proofs.YtggggfhgfnbjnaaGreatDoor.Pbase Go.Proofs.YtggggfhgfnbjnaaGreatDoor.Pmem Go.Proofs.YtggggfhgfnbjnaaGreatDoor.Pradix Go.Proofs.YtggggfhgfnbjnaaGreatDoor.Pslot
open Go.RowKit
set_option linter.unusedVariables false

/-! ### Decons -/
/-- What is said up to the leaf: the error, and the leaf. -/
def dnE (N : Nat) (M : Nat → Nat → Int) (root high : Int) : Int := if tbB N M root 0 = true then if sE N M root high = 0 then if sC N M root high 0 = 3 then 0 else 3 else sE N M root high else 4
theorem take_run (N : Nat) (M : Nat → Nat → Int) (root high : Int) : (stTake N M (wk 0 0 root high)).2 = dnE N M root high ∧ (dnE N M root high = 0 → (stTake N M (wk 0 0 root high)).1.fr = root ∧ (stTake N M (wk 0 0 root high)).1.at_ = high ∧ (stTake N M (wk 0 0 root high)).1.t = sC N M root high 2) := by
  by_cases h1 : tbB N M root 0 = true
  case neg => simp [stTake, chain, stIn, wk, dnE, h1]
  by_cases h2 : sE N M root high = 0
  case neg => simp [stTake, chain, stIn, stRead, wk, dnE, h1, h2]
  by_cases h3 : sC N M root high 0 = 3
  · simp [stTake, chain, stIn, stRead, stSee, stLeaf, wk, dnE, h1, h2, h3]
  · simp [stTake, chain, stIn, stRead, stSee, stLeaf, wk, dnE, h1, h2, h3]
theorem hasLeaf_but {w0 w : World} {p b N : Nat} {M : Nat → Nat → Int} {B : Nat} {v : Wk} (h : Wi w0 w p b N M B v) : Calls Tryz.prog 206 #[.pointer (some ⟨B, 0, none⟩)] w fun x w' => x = .returned (.int .i64 (stLeaf v).2) ∧ Wi w0 w' p b N M B (stLeaf v).1 ∧ But B w w' := by
  refine (hasLeaf_any h).mono ?_
  rintro x w' ⟨rfl, h1, rfl⟩
  exact ⟨rfl, h1, But.refl _ _⟩
theorem take_laid {w : World} {p b N : Nat} {M : Nat → Nat → Int} (h : Mx w p b N M) (root high : Int) : ∃ u : Wk,
    (∀ ty, Calls Tryz.prog 55 #[.slice (some ⟨w.heap.size + 1, 0, none⟩) 3 3] ((w.alloc (.cells #[.pointer (some ⟨p, 0, none⟩), .int .i64 0, .int .i64 0, .int .i64 root, .int .i64 high, .int .i64 0, .int .i64 0, .int .i64 0, .bool false, .int .i64 0, .int .i64 0, .int .i64 0, .int .i64 0, .int .i64 0, .int .i64 0, .int .i64 0] 131)).alloc (.cells #[.func (.func 56) #[.pointer (some ⟨w.heap.size, 0, none⟩)] #[], .func (.func 59) #[.pointer (some ⟨w.heap.size, 0, none⟩)] #[], .func (.func 206) #[.pointer (some ⟨w.heap.size, 0, none⟩)] #[]] ty)) fun x w' => x = .returned (.int .i64 (dnE N M root high)) ∧ Wi w w' p b N M w.heap.size u) ∧
    (dnE N M root high = 0 → u.fr = root ∧ u.at_ = high ∧ u.t = sC N M root high 2) := by
  obtain ⟨he, hok⟩ := take_run N M root high
  refine ⟨(stTake N M (wk 0 0 root high)).1, fun ty => ?_, hok⟩
  have h1 : Wi w (w.alloc (.cells #[.pointer (some ⟨p, 0, none⟩), .int .i64 0, .int .i64 0, .int .i64 root, .int .i64 high, .int .i64 0, .int .i64 0, .int .i64 0, .bool false, .int .i64 0, .int .i64 0, .int .i64 0, .int .i64 0, .int .i64 0, .int .i64 0, .int .i64 0] 131)) p b N M w.heap.size (wk 0 0 root high) := wi_new h 0 0 root high (by omega)
  have hz : (w.alloc (.cells #[.pointer (some ⟨p, 0, none⟩), .int .i64 0, .int .i64 0, .int .i64 root, .int .i64 high, .int .i64 0, .int .i64 0, .int .i64 0, .bool false, .int .i64 0, .int .i64 0, .int .i64 0, .int .i64 0, .int .i64 0, .int .i64 0, .int .i64 0] 131)).heap.size = w.heap.size + 1 := by simp
  have := follow_gen (fun s w' => Wi w w' p b N M w.heap.size s ∧ But w.heap.size (w.alloc (.cells #[.pointer (some ⟨p, 0, none⟩), .int .i64 0, .int .i64 0, .int .i64 root, .int .i64 high, .int .i64 0, .int .i64 0, .int .i64 0, .bool false, .int .i64 0, .int .i64 0, .int .i64 0, .int .i64 0, .int .i64 0, .int .i64 0, .int .i64 0] 131)) w') (w.alloc (.cells #[.pointer (some ⟨p, 0, none⟩), .int .i64 0, .int .i64 0, .int .i64 root, .int .i64 high, .int .i64 0, .int .i64 0, .int .i64 0, .bool false, .int .i64 0, .int .i64 0, .int .i64 0, .int .i64 0, .int .i64 0, .int .i64 0, .int .i64 0] 131)) (wk 0 0 root high)
    [(56, .pointer (some ⟨w.heap.size, 0, none⟩), stIn N M 0), (59, .pointer (some ⟨w.heap.size, 0, none⟩), stRead N M), (206, .pointer (some ⟨w.heap.size, 0, none⟩), stLeaf)] 3 ty _ rfl (by decide) rfl
    (fun o => ⟨h1.on (bal (Below.refl _ _) o), But.of_below _ (bal (Below.refl _ _) o)⟩)
    ⟨good_one h1 (fun _ _ => by kernel_rfl) fun _ _ hw => inRoot_any hw, good_one h1 (fun _ _ => by kernel_rfl) fun _ _ hw => read_any hw, good_one h1 (fun _ _ => by kernel_rfl) fun _ _ hw => hasLeaf_but hw, trivial⟩
  rw [hz] at this
  refine this.mono ?_
  rintro x w' ⟨rfl, h4⟩
  exact ⟨by rw [← he]; rfl, h4.1⟩
theorem de_eq {N : Nat} {M : Nat → Nat → Int} {root high now floor : Int} (hs : okS high = true) (ht : tiB now = true) : deE N M root high now floor = if dnE N M root high = 0 then seE N M (sC N M root high 2) floor else dnE N M root high := by
  unfold deE dnE seE
  rw [if_pos ⟨hs, ht⟩]
  by_cases h1 : tbB N M root 0 = true
  · by_cases h2 : sE N M root high = 0
    · by_cases h3 : sC N M root high 0 = 3
      · simp [h1, h2, h3]
      · simp [h1, h2, h3]
    · simp [h1, h2]
  · simp [h1]
theorem de_put {N : Nat} {M : Nat → Nat → Int} {root high now : Int} (ht : tiB now = true) (h : dnE N M root high = 0) : pE N root high 1 0 0 0 0 now = 0 := by
  unfold dnE at h
  by_cases h1 : tbB N M root 0 = true
  · rw [if_pos h1] at h
    by_cases h2 : sE N M root high = 0
    · exact pE_yes (okF_of_sE h2).1 (rt_quiet ht) (okF_of_sE h2).2
    · rw [if_neg h2] at h; exact absurd h h2
  · rw [if_neg h1] at h; cases h
/-! ### Drop -/
def dgE (N : Nat) (M : Nat → Nat → Int) (root a : Int) : Int := if lkE N M root a = 0 then if lfZ N M root a = true then 6 else 0 else lkE N M root a
theorem drop_laid {w : World} {p b N : Nat} {M : Nat → Nat → Int} {root a : Int} (h : Mx w p b N M) (ha : -9223372036854775808 ≤ a ∧ a ≤ 9223372036854775807) :
    ∃ u : Wk, (∀ ty, Calls Tryz.prog 55 #[.slice (some ⟨w.heap.size + 2, 0, none⟩) 2 2] (((w.alloc (.cells #[.int .i64 0, .int .i64 0, .int .i64 0, .int .i64 0, .int .i64 0, .int .i64 0] 55)).alloc (.cells #[.pointer (some ⟨p, 0, none⟩), .int .i64 a, .int .i64 0, .int .i64 root, .int .i64 0, .int .i64 0, .int .i64 0, .int .i64 0, .bool false, .int .i64 0, .int .i64 0, .int .i64 0, .int .i64 0, .int .i64 0, .int .i64 0, .int .i64 0] 131)).alloc (.cells #[.func (.func 170) #[.pointer (some ⟨w.heap.size + 1, 0, none⟩)] #[], .func (.func 58) #[.pointer (some ⟨w.heap.size + 1, 0, none⟩)] #[]] ty)) fun x w' => x = .returned (.int .i64 (dgE N M root a)) ∧ LkI w w' p b N M u) ∧
      (dgE N M root a = 0 → (u.k = lkC N M root a 0 ∧ u.r = lkC N M root a 1 ∧ u.t = lkC N M root a 2 ∧ u.l = lkC N M root a 3 ∧ u.e = lkC N M root a 4 ∧ u.x = lkC N M root a 5) ∧ u.fr = lfF N M root a ∧ u.at_ = lfI N M root a) := by
  obtain ⟨he, hok⟩ := look_run N M (wk a 0 root 0)
  have hrun : (chain [(0, undef, stLook N M), (0, undef, stThaw)] (wk a 0 root 0)).2 = dgE N M root a ∧ (dgE N M root a = 0 → lkE N M root a = 0 ∧ (chain [(0, undef, stLook N M), (0, undef, stThaw)] (wk a 0 root 0)).1 = (stLook N M (wk a 0 root 0)).1) := by
    have he' : (stLook N M (wk a 0 root 0)).2 = lkE N M root a := he
    unfold dgE
    by_cases h0 : lkE N M root a = 0
    · have hz : (stLook N M (wk a 0 root 0)).1.hz = lfZ N M root a := (hok h0).2.2.2
      rw [if_pos h0]
      simp only [chain]
      rw [he', h0]
      simp only [if_true, stThaw, hz]
      cases lfZ N M root a <;> simp
    · rw [if_neg h0]
      simp only [chain]
      rw [he', if_neg h0]
      exact ⟨he', fun h => absurd h h0⟩
  refine ⟨(chain [(0, undef, stLook N M), (0, undef, stThaw)] (wk a 0 root 0)).1, fun ty => ?_, fun hd => ?_⟩
  · have h1 := (lk_new h a 0 root 0 ha).wi
    have hz : ((w.alloc (.cells #[.int .i64 0, .int .i64 0, .int .i64 0, .int .i64 0, .int .i64 0, .int .i64 0] 55)).alloc (.cells #[.pointer (some ⟨p, 0, none⟩), .int .i64 a, .int .i64 0, .int .i64 root, .int .i64 0, .int .i64 0, .int .i64 0, .int .i64 0, .bool false, .int .i64 0, .int .i64 0, .int .i64 0, .int .i64 0, .int .i64 0, .int .i64 0, .int .i64 0] 131)).heap.size = w.heap.size + 2 := by simp
    have := follow_gen (fun s w' => Wi (w.alloc (.cells #[.int .i64 0, .int .i64 0, .int .i64 0, .int .i64 0, .int .i64 0, .int .i64 0] 55)) w' p b N M (w.heap.size + 1) s ∧ But (w.heap.size + 1) ((w.alloc (.cells #[.int .i64 0, .int .i64 0, .int .i64 0, .int .i64 0, .int .i64 0, .int .i64 0] 55)).alloc (.cells #[.pointer (some ⟨p, 0, none⟩), .int .i64 a, .int .i64 0, .int .i64 root, .int .i64 0, .int .i64 0, .int .i64 0, .int .i64 0, .bool false, .int .i64 0, .int .i64 0, .int .i64 0, .int .i64 0, .int .i64 0, .int .i64 0, .int .i64 0] 131)) w') ((w.alloc (.cells #[.int .i64 0, .int .i64 0, .int .i64 0, .int .i64 0, .int .i64 0, .int .i64 0] 55)).alloc (.cells #[.pointer (some ⟨p, 0, none⟩), .int .i64 a, .int .i64 0, .int .i64 root, .int .i64 0, .int .i64 0, .int .i64 0, .int .i64 0, .bool false, .int .i64 0, .int .i64 0, .int .i64 0, .int .i64 0, .int .i64 0, .int .i64 0, .int .i64 0] 131)) (wk a 0 root 0)
      [(170, .pointer (some ⟨w.heap.size + 1, 0, none⟩), stLook N M), (58, .pointer (some ⟨w.heap.size + 1, 0, none⟩), stThaw)] 2 ty _ rfl (by decide) rfl
      (fun o => ⟨h1.on (bal (Below.refl _ _) o), But.of_below _ (bal (Below.refl _ _) o)⟩)
      ⟨good_one h1 (fun _ _ => by kernel_rfl) fun _ _ hw => look_any hw, good_one h1 (fun _ _ => by kernel_rfl) fun _ _ hw => thawed_any hw, trivial⟩
    rw [hz] at this
    refine this.mono ?_
    rintro x w' ⟨rfl, h4⟩
    exact ⟨by rw [← hrun.1]; rfl, ⟨h4.1⟩⟩
  · obtain ⟨h0, h1⟩ := hrun.2 hd
    rw [h1]
    exact ⟨(hok h0).1, (hok h0).2.1, (hok h0).2.2.1⟩
end Go.Proofs.YtggggfhgfnbjnaaGreatDoor.Pcaptbl

/- What Drop of package captbl answers and does, for every argument, over a memory that New made. -/
namespace Go.Proofs.YtggggfhgfnbjnaaGreatDoor.Pcaptbl
open Go.Proofs.YtggggfhgfnbjnaaGreatDoor.Pbase Go.Proofs.YtggggfhgfnbjnaaGreatDoor.Pmem Go.Proofs.YtggggfhgfnbjnaaGreatDoor.Pradix Go.Proofs.YtggggfhgfnbjnaaGreatDoor.Pslot
open Go.RowKit
set_option linter.unusedVariables false

/-- What the walk saw last stays, behind what is laid, put, and stored into the result. -/
theorem hv_but {w0 w1 w2 : World} {p b N : Nat} {M : Nat → Nat → Int} {B : Nat} {u : Wk} (h : Wi w0 w1 p b N M B u) (hB : But b w1 w2) : w2.cell? ⟨B, 10, none⟩ = some (.int .i64 u.k) ∧ w2.cell? ⟨B, 11, none⟩ = some (.int .i64 u.r) ∧ w2.cell? ⟨B, 12, none⟩ = some (.int .i64 u.t) ∧ w2.cell? ⟨B, 13, none⟩ = some (.int .i64 u.l) ∧ w2.cell? ⟨B, 14, none⟩ = some (.int .i64 u.e) ∧ w2.cell? ⟨B, 15, none⟩ = some (.int .i64 u.x) := by
  have hn : B ≠ b := Nat.ne_of_gt (Nat.lt_of_lt_of_le h.mx0.mt.mem.lt.2 h.lo)
  exact ⟨(hB.cell h.lt hn).trans h.c10, (hB.cell h.lt hn).trans h.c11, (hB.cell h.lt hn).trans h.c12, (hB.cell h.lt hn).trans h.c13, (hB.cell h.lt hn).trans h.c14, (hB.cell h.lt hn).trans h.c15⟩
theorem hv_set {w0 w1 w2 : World} {p b N : Nat} {M : Nat → Nat → Int} {B D : Nat} {u : Wk} (h : Wi w0 w1 p b N M B u) (hB : But b w1 w2) (hD : B ≠ D) (y0 y1 y2 y3 y4 y5 : Int) : ((((((w2.setCell ⟨D, 0, none⟩ (.int .i64 y0)).setCell ⟨D, 1, none⟩ (.int .i64 y1)).setCell ⟨D, 2, none⟩ (.int .i64 y2)).setCell ⟨D, 3, none⟩ (.int .i64 y3)).setCell ⟨D, 4, none⟩ (.int .i64 y4)).setCell ⟨D, 5, none⟩ (.int .i64 y5)).cell? ⟨B, 10, none⟩ = some (.int .i64 u.k) ∧ ((((((w2.setCell ⟨D, 0, none⟩ (.int .i64 y0)).setCell ⟨D, 1, none⟩ (.int .i64 y1)).setCell ⟨D, 2, none⟩ (.int .i64 y2)).setCell ⟨D, 3, none⟩ (.int .i64 y3)).setCell ⟨D, 4, none⟩ (.int .i64 y4)).setCell ⟨D, 5, none⟩ (.int .i64 y5)).cell? ⟨B, 11, none⟩ = some (.int .i64 u.r) ∧ ((((((w2.setCell ⟨D, 0, none⟩ (.int .i64 y0)).setCell ⟨D, 1, none⟩ (.int .i64 y1)).setCell ⟨D, 2, none⟩ (.int .i64 y2)).setCell ⟨D, 3, none⟩ (.int .i64 y3)).setCell ⟨D, 4, none⟩ (.int .i64 y4)).setCell ⟨D, 5, none⟩ (.int .i64 y5)).cell? ⟨B, 12, none⟩ = some (.int .i64 u.t) ∧ ((((((w2.setCell ⟨D, 0, none⟩ (.int .i64 y0)).setCell ⟨D, 1, none⟩ (.int .i64 y1)).setCell ⟨D, 2, none⟩ (.int .i64 y2)).setCell ⟨D, 3, none⟩ (.int .i64 y3)).setCell ⟨D, 4, none⟩ (.int .i64 y4)).setCell ⟨D, 5, none⟩ (.int .i64 y5)).cell? ⟨B, 13, none⟩ = some (.int .i64 u.l) ∧ ((((((w2.setCell ⟨D, 0, none⟩ (.int .i64 y0)).setCell ⟨D, 1, none⟩ (.int .i64 y1)).setCell ⟨D, 2, none⟩ (.int .i64 y2)).setCell ⟨D, 3, none⟩ (.int .i64 y3)).setCell ⟨D, 4, none⟩ (.int .i64 y4)).setCell ⟨D, 5, none⟩ (.int .i64 y5)).cell? ⟨B, 14, none⟩ = some (.int .i64 u.e) ∧ ((((((w2.setCell ⟨D, 0, none⟩ (.int .i64 y0)).setCell ⟨D, 1, none⟩ (.int .i64 y1)).setCell ⟨D, 2, none⟩ (.int .i64 y2)).setCell ⟨D, 3, none⟩ (.int .i64 y3)).setCell ⟨D, 4, none⟩ (.int .i64 y4)).setCell ⟨D, 5, none⟩ (.int .i64 y5)).cell? ⟨B, 15, none⟩ = some (.int .i64 u.x) := by
  have hq : But D w2 ((((((w2.setCell ⟨D, 0, none⟩ (.int .i64 y0)).setCell ⟨D, 1, none⟩ (.int .i64 y1)).setCell ⟨D, 2, none⟩ (.int .i64 y2)).setCell ⟨D, 3, none⟩ (.int .i64 y3)).setCell ⟨D, 4, none⟩ (.int .i64 y4)).setCell ⟨D, 5, none⟩ (.int .i64 y5)) := but_own (but_own (but_own (but_own (but_own (but_own (But.refl _ _) _ _) _ _) _ _) _ _) _ _) _ _
  have hl : B < w2.heap.size := Nat.lt_of_lt_of_le h.lt hB.size
  obtain ⟨a0, a1, a2, a3, a4, a5⟩ := hv_but h hB
  exact ⟨(hq.cell hl hD).trans a0, (hq.cell hl hD).trans a1, (hq.cell hl hD).trans a2, (hq.cell hl hD).trans a3, (hq.cell hl hD).trans a4, (hq.cell hl hD).trans a5⟩
theorem res_but {w w1 w2 : World} {p b N : Nat} {M : Nat → Nat → Int} {u : Wk} (h : LkI w w1 p b N M u) (hb : b < w.heap.size) (hB : But b w1 w2) : Pcap.Box6 w2 w.heap.size 0 0 0 0 0 0 := box6_but h.res hB (Nat.ne_of_gt hb)
end Go.Proofs.YtggggfhgfnbjnaaGreatDoor.Pcaptbl

/- A root and one leaf: made, hung in, frozen, taken out. Plain words; no program is named here. -/
namespace Go.Proofs.YtggggfhgfnbjnaaGreatDoor.Pcaptbl
open Go.Proofs.YtggggfhgfnbjnaaGreatDoor.Pbase Go.Proofs.YtggggfhgfnbjnaaGreatDoor.Pmem Go.Proofs.YtggggfhgfnbjnaaGreatDoor.Pradix Go.Proofs.YtggggfhgfnbjnaaGreatDoor.Pslot
open Go.RowKit
set_option linter.unusedVariables false

/-! ### a head's Put and Make -/
theorem hput_other {N : Nat} {M : Nat → Nat → Int} {f k l : Int} {z : Bool} {t : Int} {g j : Nat} (h : (g : Int) ≠ f ∨ 4 ≤ j) : Phead.putM N M f k l z t g j = M g j := by
  unfold Phead.putM
  split
  · exact Phead.st4_other h _ _ _ _
  · rfl
theorem hmake_other {N : Nat} {M : Nat → Nat → Int} {f k l : Int} {z : Bool} {t : Int} {g j : Nat} (h : (g : Int) ≠ f) : Phead.mkM N M f k l z t g j = M g j := by
  unfold Phead.mkM
  split
  · rw [Phead.st4_other (.inl h)]
    unfold clM
    split
    · rename_i hf
      have := okF_yes hf
      dsimp only
      rw [if_neg (by omega)]
    · rfl
  · rfl
theorem gh_own {N : Nat} {M : Nat → Nat → Int} {f : Nat} (hf : f < N) {k l t : Int} {z : Bool} (h : Phead.Rt k l z t) (h0 : M f 0 = Phead.wd0 k l z) (h1 : M f 1 = t) (h2 : M f 2 = 0) (h3 : M f 3 = 0) :
    Phead.ghK N M f = k ∧ Phead.ghL N M f = l ∧ Phead.ghZ N M f = z ∧ Phead.ghT N M f = t ∧ Phead.ghE N M f = 0 := by
  obtain ⟨e1, e2, e3, e4, e5⟩ := Phead.got_back h
  unfold Phead.ghK Phead.ghL Phead.ghZ Phead.ghT Phead.ghE
  simp only [okF_nat hf, if_true, Bool.true_and, Int.toNat_natCast, h0, h1, h2, h3]
  exact ⟨e1, e2, e3, e4, e5⟩
theorem hput_own {N : Nat} {M : Nat → Nat → Int} {f : Nat} (hf : f < N) {k l t : Int} {z : Bool} (h : Phead.Rt k l z t) :
    Phead.ghK N (Phead.putM N M f k l z t) f = k ∧ Phead.ghL N (Phead.putM N M f k l z t) f = l ∧ Phead.ghZ N (Phead.putM N M f k l z t) f = z ∧ Phead.ghT N (Phead.putM N M f k l z t) f = t ∧ Phead.ghE N (Phead.putM N M f k l z t) f = 0 := by
  unfold Phead.putM
  rw [if_pos (Phead.rtB_yes h)]
  exact gh_own hf h (by rw [Phead.st4_own hf]; rfl) (by rw [Phead.st4_own hf]; rfl) (by rw [Phead.st4_own hf]; rfl) (by rw [Phead.st4_own hf]; rfl)
theorem hmake_own {N : Nat} {M : Nat → Nat → Int} {f : Nat} (hf : f < N) {k l t : Int} {z : Bool} (h : Phead.Rt k l z t) :
    (Phead.ghK N (Phead.mkM N M f k l z t) f = k ∧ Phead.ghL N (Phead.mkM N M f k l z t) f = l ∧ Phead.ghZ N (Phead.mkM N M f k l z t) f = z ∧ Phead.ghT N (Phead.mkM N M f k l z t) f = t ∧ Phead.ghE N (Phead.mkM N M f k l z t) f = 0) ∧
    ∀ m : Nat, m < 16 → sE N (Phead.mkM N M f k l z t) f m = 0 ∧ ∀ j, j < 6 → sC N (Phead.mkM N M f k l z t) f m j = 0 := by
  constructor
  · unfold Phead.mkM
    rw [if_pos (Phead.rtB_yes h)]
    exact gh_own hf h (by rw [Phead.st4_own hf]; rfl) (by rw [Phead.st4_own hf]; rfl) (by rw [Phead.st4_own hf]; rfl) (by rw [Phead.st4_own hf]; rfl)
  · intro m hm
    have hw : ∀ j, 4 ≤ j → Phead.mkM N M f k l z t (f : Int).toNat j = (fun _ _ => 0 : Nat → Nat → Int) (f : Int).toNat j := by
      intro j hj
      unfold Phead.mkM
      rw [if_pos (Phead.rtB_yes h), Phead.st4_other (.inr hj)]
      unfold clM
      rw [if_pos (okF_nat hf)]
      dsimp only
      rw [if_pos rfl]
    obtain ⟨e1, e2⟩ := slot_words (N := N) (M := fun _ _ => 0) (M' := Phead.mkM N M f k l z t) (g := (f : Int)) (i := (m : Int)) hw
    obtain ⟨z1, z2⟩ := zero_slot (N := N) (i := m) (f := (f : Int)) hm (okF_nat hf)
    exact ⟨e1.trans z1, fun j hj => (e2 j).trans (z2 j hj)⟩
theorem rt_head {l : Int} (h : l = 0 ∨ l = 1) : Phead.Rt 1 l false 0 := by
  unfold Phead.Rt
  exact ⟨by omega, by omega, by omega, by omega, fun _ => .inl rfl, (fun k => by cases k), by omega, by omega, fun _ => rfl⟩
theorem rt_frozen {l now : Int} (h : l = 0 ∨ l = 1) (ht : tiB now = true) : Phead.Rt 1 l true now := by
  simp only [tiB, Bool.and_eq_true, decide_eq_true_eq] at ht
  unfold Phead.Rt
  exact ⟨by omega, by omega, by omega, by omega, fun _ => .inl rfl, fun _ => rfl, by omega, by omega, (fun k => by cases k)⟩

/-! ### made and hung in -/
/-- The words behind the two Makes; behind Cons. -/
def twoM (N : Nat) : Nat → Nat → Int := Phead.mkM N (Phead.mkM N (fun _ _ => 0) 0 1 0 false 0) 1 1 1 false 0
theorem two_root {N : Nat} (hN : 2 ≤ N) : (Phead.ghK N (twoM N) 0 = 1 ∧ Phead.ghL N (twoM N) 0 = 0 ∧ Phead.ghZ N (twoM N) 0 = false ∧ Phead.ghT N (twoM N) 0 = 0 ∧ Phead.ghE N (twoM N) 0 = 0) ∧
    ∀ m : Nat, m < 16 → sE N (twoM N) 0 m = 0 ∧ ∀ j, j < 6 → sC N (twoM N) 0 m j = 0 := by
  obtain ⟨⟨a1, a2, a3, a4, a5⟩, a6⟩ := hmake_own (N := N) (M := fun _ _ => 0) (f := 0) (by omega) (rt_head (.inl rfl))
  have hw : ∀ j, twoM N (0 : Int).toNat j = Phead.mkM N (fun _ _ => 0) 0 1 0 false 0 (0 : Int).toNat j := fun j => hmake_other (by decide)
  obtain ⟨b1, b2, b3, b4, b5⟩ := gh_words (N := N) (g := 0) (fun j _ => hw j)
  refine ⟨⟨b1.trans a1, b2.trans a2, b3.trans a3, b4.trans a4, b5.trans a5⟩, fun m hm => ?_⟩
  obtain ⟨c1, c2⟩ := slot_words (N := N) (g := 0) (i := (m : Int)) (fun j _ => hw j)
  exact ⟨c1.trans (a6 m hm).1, fun j hj => (c2 j).trans ((a6 m hm).2 j hj)⟩
theorem two_leaf {N : Nat} (hN : 2 ≤ N) : (Phead.ghK N (twoM N) 1 = 1 ∧ Phead.ghL N (twoM N) 1 = 1 ∧ Phead.ghZ N (twoM N) 1 = false ∧ Phead.ghT N (twoM N) 1 = 0 ∧ Phead.ghE N (twoM N) 1 = 0) ∧
    ∀ m : Nat, m < 16 → sE N (twoM N) 1 m = 0 ∧ ∀ j, j < 6 → sC N (twoM N) 1 m j = 0 :=
  hmake_own (N := N) (f := 1) (by omega) (rt_head (.inr rfl))
theorem cons_zero {N high : Nat} (hN : 2 ≤ N) (hh : high < 16) (floor : Int) : coE N (twoM N) 0 high 1 floor = 0 := by
  obtain ⟨⟨a1, a2, a3, a4, a5⟩, a6⟩ := two_root hN
  obtain ⟨⟨b1, b2, b3, b4, b5⟩, b6⟩ := two_leaf hN
  have t0 : tbB N (twoM N) 0 0 = true := by simp [tbB, a1, a2, a5]
  have t1 : tbB N (twoM N) 1 1 = true := by simp [tbB, b1, b2, b5]
  unfold coE
  rw [if_pos (okS_nat hh), if_pos ⟨t0, t1⟩, if_neg (by rw [a3, b3]; simp), if_pos (a6 high hh).1, (a6 high hh).2 0 (by omega), if_neg (by omega), if_pos (by simp [quB])]
/-- The leaf hangs in the root. -/
theorem tree_new {N high : Nat} (hN : 2 ≤ N) (hh : high < 16) (floor : Int) : Tree N (coM N (twoM N) 0 high 1 floor) high false 0 ∧ ∀ m : Nat, m < 16 → sE N (coM N (twoM N) 0 high 1 floor) 1 m = 0 ∧ ∀ j, j < 6 → sC N (coM N (twoM N) 0 high 1 floor) 1 m j = 0 := by
  unfold coM
  rw [if_pos (cons_zero hN hh floor)]
  obtain ⟨⟨a1, a2, a3, a4, a5⟩, a6⟩ := two_root hN
  obtain ⟨⟨b1, b2, b3, b4, b5⟩, b6⟩ := two_leaf hN
  have hp : pE N 0 (high : Int) 3 31 1 0 0 0 = 0 := pE_yes (okS_nat hh) (rt_table (by omega) (by omega)) (okF_nat (f := 0) (by omega))
  obtain ⟨c1, c2, c3, c4, c5⟩ := gh_pM N (twoM N) 0 (high : Int) 3 31 1 0 0 0 0
  obtain ⟨d1, d2, d3, d4, d5⟩ := gh_pM N (twoM N) 0 (high : Int) 3 31 1 0 0 0 1
  obtain ⟨g0, g1, _, g2, _, _, _⟩ := put_got (M := twoM N) hp
  refine ⟨⟨hN, hh, c5.trans a5, c1.trans a1, c2.trans a2, c3.trans a3, d5.trans b5, d1.trans b1, d2.trans b2, d3.trans b3, d4.trans b4, ⟨g0, g1, g2⟩, fun m hm hn => ?_⟩, fun m hm => ?_⟩
  · obtain ⟨e1, e2⟩ := put_other (N := N) (M := twoM N) (f := 0) (i := (high : Int)) (k := 3) (r := 31) (t := 1) (l := 0) (e := 0) (a := 0) (g := 0) hm (.inr (by omega))
    exact ⟨e1.trans (a6 m hm).1, (e2 0).trans ((a6 m hm).2 0 (by omega))⟩
  · obtain ⟨e1, e2⟩ := put_frame (N := N) (M := twoM N) (f := 0) (i := (high : Int)) (k := 3) (r := 31) (t := 1) (l := 0) (e := 0) (a := 0) (g := 1) (m := (m : Int)) (by omega) (by omega)
    exact ⟨e1.trans (b6 m hm).1, fun j hj => (e2 j).trans ((b6 m hm).2 j hj)⟩

/-! ### frozen, taken out -/
theorem Tree.freeze {N : Nat} {M : Nat → Nat → Int} {high : Nat} {tm now : Int} (h : Tree N M high false tm) (ht : tiB now = true) :
    frE N M 1 now = 0 ∧ Tree N (frM N M 1 now) high true now ∧ ∀ g m : Int, sE N (frM N M 1 now) g m = sE N M g m ∧ ∀ j, sC N (frM N M 1 now) g m j = sC N M g m j := by
  have h0 : frE N M 1 now = 0 := by
    unfold frE
    rw [if_pos ht, if_pos ⟨h.eE, h.eK⟩, if_neg (by rw [h.eZ]; decide)]
  refine ⟨h0, ?_⟩
  unfold frM
  rw [if_pos h0, h.eL]
  have hs : ∀ g m : Int, sE N (Phead.putM N M 1 1 1 true now) g m = sE N M g m ∧ ∀ j, sC N (Phead.putM N M 1 1 1 true now) g m j = sC N M g m j := fun g m => slot_words fun j hj => hput_other (.inr hj)
  refine ⟨?_, hs⟩
  have hN := h.hN
  obtain ⟨a1, a2, a3, a4, a5⟩ := gh_words (N := N) (M := M) (M' := Phead.putM N M 1 1 1 true now) (g := 0) (fun j _ => hput_other (.inl (by decide)))
  obtain ⟨b1, b2, b3, b4, b5⟩ := hput_own (N := N) (M := M) (f := 1) (by omega) (rt_frozen (.inr rfl) ht)
  exact ⟨h.hN, h.hh, a5.trans h.rE, a1.trans h.rK, a2.trans h.rL, a3.trans h.rZ, b5, b1, b2, b3, b4, ⟨(hs _ _).1.trans h.link.1, ((hs _ _).2 0).trans h.link.2.1, ((hs _ _).2 2).trans h.link.2.2⟩,
    fun m hm hn => ⟨(hs _ _).1.trans (h.other m hm hn).1, ((hs _ _).2 0).trans (h.other m hm hn).2⟩⟩
theorem Tree.decons {N : Nat} {M : Nat → Nat → Int} {high : Nat} {z : Bool} {tm now : Int} (h : Tree N M high z tm) (ht : tiB now = true) (floor : Int) :
    deE N M 0 high now floor = if z = true ∧ tm < floor then 0 else 6 := by
  unfold deE
  rw [if_pos ⟨okS_nat h.hh, ht⟩, if_pos h.root, if_pos h.link.1, if_pos h.link.2.1, h.link.2.2, h.eE, h.eK, h.eZ, h.eT]
  simp only [true_and]
/-- What hung there is looked up no more. -/
theorem Tree.gone {N : Nat} {M : Nat → Nat → Int} {high : Nat} {z : Bool} {tm now floor : Int} (h : Tree N M high z tm) (ht : tiB now = true) (hd : deE N M 0 high now floor = 0) :
    deF N M 0 high now floor = 1 ∧ ∀ a, slE a = 0 → slH a = high → lkE N (deM N M 0 high now floor) 0 a = 3 := by
  refine ⟨by unfold deF; rw [if_pos hd, h.link.2.2], fun a h1 h2 => ?_⟩
  unfold deM
  rw [if_pos hd]
  have hN := h.hN
  have hp : pE N 0 (high : Int) 1 0 0 0 0 now = 0 := pE_yes (okS_nat h.hh) (rt_quiet ht) (okF_nat (f := 0) (by omega))
  obtain ⟨c1, c2, c3, c4, c5⟩ := gh_pM N M 0 (high : Int) 1 0 0 0 0 now 0
  obtain ⟨g0, g1, _⟩ := put_got (M := M) hp
  have hr : tbB N (pM N M 0 (high : Int) 1 0 0 0 0 now) 0 0 = true := by simp [tbB, c1, c2, c5, h.rE, h.rK, h.rL]
  have h3 : lfE N (pM N M 0 (high : Int) 1 0 0 0 0 now) 0 a = 3 := by
    unfold lfE
    rw [if_pos h1, if_pos hr, h2, if_neg (fun k => by rw [g1] at k; exact absurd k.2 (by decide))]
  unfold lkE
  rw [if_neg (by rw [h3]; decide), h3]
/-- Dropped in its time: none is looked up there; one comes there for a floor behind that alone. -/
theorem Tree.drop {N : Nat} {M : Nat → Nat → Int} {high : Nat} {z : Bool} {tm : Int} (h : Tree N M high z tm) {adr now : Int} (h1 : slE adr = 0) (h2 : slH adr = high) (hk : lkE N M 0 adr = 0) :
    drE N M 0 adr now = (if tiB now = true then if z = true then 6 else 0 else 1) ∧ (drE N M 0 adr now = 0 → (∀ j, drC N M 0 adr now j = lkC N M 0 adr j) ∧ drM N M 0 adr now = pM N M 1 (slL adr) 1 0 0 0 0 now ∧ pE N 1 (slL adr) 1 0 0 0 0 now = 0 ∧ tiB now = true ∧ z = false) := by
  obtain ⟨e1, e2, e3, e4⟩ := h.at h1 h2
  have hd : drE N M 0 adr now = (if tiB now = true then if z = true then 6 else 0 else 1) := by
    unfold drE
    rw [if_pos hk, e4]
  refine ⟨hd, fun h0 => ?_⟩
  have ht : tiB now = true := by
    rw [hd] at h0
    by_cases k : tiB now = true
    · exact k
    · rw [if_neg k] at h0; cases h0
  have hz : z = false := by
    rw [hd, if_pos ht] at h0
    cases z
    · rfl
    · cases h0
  have hp := lk_put (rt_quiet ht) hk
  rw [e2, e3] at hp
  exact ⟨fun j => by unfold drC; rw [if_pos h0], by unfold drM; rw [if_pos h0, e2, e3], hp, ht, hz⟩
theorem Tree.empty {N : Nat} {M : Nat → Nat → Int} {high : Nat} {tm : Int} (h : Tree N M high false tm) {adr now : Int} (h1 : slE adr = 0) (h2 : slH adr = high) (hp : pE N 1 (slL adr) 1 0 0 0 0 now = 0) :
    lkE N (pM N M 1 (slL adr) 1 0 0 0 0 now) 0 adr = 3 ∧ ∀ floor, roE N (pM N M 1 (slL adr) 1 0 0 0 0 now) 0 adr floor = if now < floor then 0 else 6 := by
  obtain ⟨g0, g1, _, _, _, _, g5⟩ := put_got (M := M) hp
  have ht := h.put (slL adr) 1 0 0 0 0 now
  refine ⟨by rw [(ht.look h1 h2).1, if_pos g0, if_neg (by rw [g1]; decide)], fun floor => ?_⟩
  rw [ht.room h1 h2, if_neg (by decide), if_pos g0, if_neg (by rw [g1]; decide), g1, g5]
  simp [quB]
/-- A frozen leaf takes none, and gives none away. -/
theorem Tree.frozen {N : Nat} {M : Nat → Nat → Int} {high : Nat} {tm : Int} (h : Tree N M high true tm) {adr : Int} (h1 : slE adr = 0) (h2 : slH adr = high) :
    (∀ floor, roE N M 0 adr floor = 6) ∧ ∀ now, drE N M 0 adr now ≠ 0 := by
  refine ⟨fun floor => by rw [h.room h1 h2, if_pos rfl], fun now h0 => ?_⟩
  by_cases hk : lkE N M 0 adr = 0
  · have := ((h.drop h1 h2 hk).2 h0).2.2.2.2
    cases this
  · unfold drE at h0
    by_cases k : tiB now = true
    · rw [if_pos k, if_neg hk] at h0; exact hk h0
    · rw [if_neg k] at h0; cases h0
end Go.Proofs.YtggggfhgfnbjnaaGreatDoor.Pcaptbl

/- What CaptblQuiet, CaptblLeaf and CaptblBeside ask, in plain words. No program is named here. -/
namespace Go.Proofs.YtggggfhgfnbjnaaGreatDoor.Pcaptbl
open Go.Proofs.YtggggfhgfnbjnaaGreatDoor.Pbase Go.Proofs.YtggggfhgfnbjnaaGreatDoor.Pmem Go.Proofs.YtggggfhgfnbjnaaGreatDoor.Pradix Go.Proofs.YtggggfhgfnbjnaaGreatDoor.Pslot
open Go.RowKit
set_option linter.unusedVariables false

theorem tiB_iff (now : Int) : tiB now = true ↔ 1 ≤ now ∧ now ≤ 1073741824 := by simp [tiB]
/-- The numbers of one, in their order. -/
def six (k r t l e a : Int) (j : Nat) : Int := [k, r, t, l, e, a][j]?.getD 0
theorem ptM_no {N : Nat} {M : Nat → Nat → Int} {root adr k r t l e a floor : Int} (h : ptE N M root adr k r t l e a floor ≠ 0) : ptM N M root adr k r t l e a floor = M := by unfold ptM; rw [if_neg h]
theorem drM_no {N : Nat} {M : Nat → Nat → Int} {root adr now : Int} (h : drE N M root adr now ≠ 0) : drM N M root adr now = M := by unfold drM; rw [if_neg h]
theorem deM_no {N : Nat} {M : Nat → Nat → Int} {root high now floor : Int} (h : deE N M root high now floor ≠ 0) : deM N M root high now floor = M := by unfold deM; rw [if_neg h]
theorem ptE_up {N : Nat} {M : Nat → Nat → Int} {root adr k r t l e a floor : Int} (hr : Pcap.Rt k r t l e a) (hk : 1 < k) : ptE N M root adr k r t l e a floor = roE N M root adr floor := by
  unfold ptE
  rw [if_pos (by simp [upB, Pcap.rtB_yes hr, hk])]
theorem sl_of {high low : Int} (h0 : 0 ≤ high ∧ high ≤ 15) (l0 : 0 ≤ low ∧ low ≤ 15) : slE (16 * high + low) = 0 ∧ slH (16 * high + low) = high ∧ slL (16 * high + low) = low := by
  obtain ⟨e1, e2, e3⟩ := sl_yes (a := 16 * high + low) (by omega)
  exact ⟨e1, by rw [e2]; omega, by rw [e3]; omega⟩
/-- Put, looked up, dropped, put again, frozen. -/
theorem quiet_all {a k r t l e c now floor : Int} {M3 M4 M5 M6 M7 : Nat → Nat → Int} (h3 : M3 = coM 3 (twoM 3) 0 0 1 0) (hp : ptE 3 M3 0 a k r t l e c 0 = 0) (h4 : M4 = ptM 3 M3 0 a k r t l e c 0) :
    (0 ≤ a ∧ a ≤ 15) ∧ lkE 3 M4 0 a = 0 ∧ (∀ j, j < 6 → lkC 3 M4 0 a j = six k r t l e c j) ∧ (∀ k' r' t' l' e' c' fl, ptE 3 M4 0 a k' r' t' l' e' c' fl ≠ 0) ∧
    (drE 3 M4 0 a now = if tiB now = true then 0 else 1) ∧ (tiB now = true → (∀ j, j < 6 → drC 3 M4 0 a now j = six k r t l e c j) ∧ (M5 = drM 3 M4 0 a now → lkE 3 M5 0 a = 3 ∧
      (ptE 3 M5 0 a k r t l e c floor = if now < floor then 0 else 6) ∧ (M6 = ptM 3 M5 0 a k r t l e c floor → frE 3 M6 1 now = 0 ∧
      (M7 = frM 3 M6 1 now → drE 3 M7 0 a now ≠ 0 ∧ ∀ b fl, 0 ≤ b ∧ b ≤ 15 → ptE 3 M7 0 b k r t l e c fl = 6)))) := by
  obtain ⟨T3, _⟩ := tree_new (N := 3) (high := 0) (by omega) (by omega) 0
  rw [show ((0 : Nat) : Int) = 0 from rfl, ← h3] at T3
  obtain ⟨s1, s2, hr, hk, q1, q2⟩ := T3.took hp
  rw [← h4] at q2
  obtain ⟨hb, u1, _⟩ := sl_parts s1
  have hsm : 0 ≤ a ∧ a ≤ 15 := by rw [s2] at u1; omega
  have T4 : Tree 3 M4 0 false 0 := by rw [q2]; exact T3.put _ _ _ _ _ _ _
  obtain ⟨p1, p2, p3⟩ := T3.held s1 s2 q1 hk
  rw [← q2] at p1 p2 p3
  obtain ⟨d1, d2⟩ := T4.drop (now := now) s1 s2 p1
  refine ⟨hsm, p1, p2, p3, by rw [d1]; rfl, fun ht => ?_⟩
  rw [d1, if_pos ht] at d2
  obtain ⟨d3, d4, d5, _, _⟩ := d2 (by rfl)
  refine ⟨fun j hj => (d3 j).trans (p2 j hj), fun h5 => ?_⟩
  rw [← h5] at d4
  obtain ⟨m1, m2⟩ := T4.empty s1 s2 d5
  rw [← d4] at m1 m2
  have hE : ptE 3 M5 0 a k r t l e c floor = if now < floor then 0 else 6 := by rw [ptE_up hr hk, m2]
  refine ⟨m1, hE, fun h6 => ?_⟩
  have T5 : Tree 3 M5 0 false 0 := by rw [d4]; exact T4.put _ _ _ _ _ _ _
  have T6 : Tree 3 M6 0 false 0 := by
    rw [h6]
    by_cases h0 : ptE 3 M5 0 a k r t l e c floor = 0
    · rw [(T5.took h0).2.2.2.2.2]; exact T5.put _ _ _ _ _ _ _
    · rw [ptM_no h0]; exact T5
  obtain ⟨f1, T7, _⟩ := T6.freeze ht
  refine ⟨f1, fun h7 => ?_⟩
  rw [← h7] at T7
  refine ⟨(T7.frozen s1 s2).2 now, fun b fl hb => ?_⟩
  obtain ⟨e1, e2, _⟩ := sl_yes (a := b) (by omega)
  rw [ptE_up hr hk]
  exact (T7.frozen e1 (by rw [e2]; omega)).1 fl
/-- Hung in, put, frozen, taken out. -/
theorem leaf_all {high low k r t l e c now floor : Int} {M3 M4 M5 : Nat → Nat → Int} (hh : 0 ≤ high ∧ high ≤ 15) (hl : 0 ≤ low ∧ low ≤ 15) (ht : tiB now = true) (h3 : M3 = coM 3 (twoM 3) 0 high 1 0) (hp : ptE 3 M3 0 (16 * high + low) k r t l e c 0 = 0) (h4 : M4 = ptM 3 M3 0 (16 * high + low) k r t l e c 0) (h5 : M5 = frM 3 M4 1 now) :
    deE 3 M4 0 high now floor = 6 ∧ deM 3 M4 0 high now floor = M4 ∧ frE 3 M4 1 now = 0 ∧ ((now < floor ∧ deE 3 M5 0 high now floor = 0 ∧ deF 3 M5 0 high now floor = 1 ∧ lkE 3 (deM 3 M5 0 high now floor) 0 (16 * high + low) = 3) ∨ (¬ now < floor ∧ deE 3 M5 0 high now floor = 6 ∧ lkE 3 (deM 3 M5 0 high now floor) 0 (16 * high + low) = 0)) := by
  obtain ⟨n, rfl⟩ := Int.eq_ofNat_of_zero_le hh.1
  obtain ⟨s1, s2, s3⟩ := sl_of hh hl
  obtain ⟨T3, _⟩ := tree_new (N := 3) (high := n) (by omega) (by omega) 0
  rw [← h3] at T3
  obtain ⟨_, _, hr, hk, q1, q2⟩ := T3.took hp
  rw [← h4] at q2
  have T4 : Tree 3 M4 n false 0 := by rw [q2]; exact T3.put _ _ _ _ _ _ _
  have h6 : deE 3 M4 0 n now floor = 6 := by rw [T4.decons ht floor, if_neg (by simp)]
  obtain ⟨f1, T5, f3⟩ := T4.freeze ht
  rw [← h5] at T5 f3
  obtain ⟨p1, _, _⟩ := T3.held s1 s2 q1 hk
  rw [← q2] at p1
  refine ⟨h6, deM_no (by rw [h6]; decide), f1, ?_⟩
  have hd := T5.decons ht floor
  by_cases hf : now < floor
  · rw [if_pos ⟨rfl, hf⟩] at hd
    obtain ⟨g1, g2⟩ := T5.gone ht hd
    exact .inl ⟨hf, hd, g1, g2 _ s1 s2⟩
  · rw [if_neg (fun k => hf k.2)] at hd
    refine .inr ⟨hf, hd, ?_⟩
    rw [deM_no (by rw [hd]; decide), (T5.look s1 s2).1, (f3 _ _).1, (f3 _ _).2 0, ← (T4.look s1 s2).1]
    exact p1
/-- Two beside each other. -/
theorem beside_all {i j k r t l e c k' r' t' l' e' c' now : Int} {M3 M4 M5 : Nat → Nat → Int} (hi : 0 ≤ i ∧ i ≤ 15) (hj : 0 ≤ j ∧ j ≤ 15) (hn : i ≠ j) (h3 : M3 = coM 2 (twoM 2) 0 3 1 0) (hp : ptE 2 M3 0 (48 + i) k r t l e c 0 = 0) (h4 : M4 = ptM 2 M3 0 (48 + i) k r t l e c 0) (h5 : M5 = ptM 2 M4 0 (48 + j) k' r' t' l' e' c' 0) :
    lkE 2 M5 0 (48 + i) = 0 ∧ (∀ n, n < 6 → lkC 2 M5 0 (48 + i) n = six k r t l e c n) ∧ lkE 2 (drM 2 M5 0 (48 + j) now) 0 (48 + i) = 0 ∧ (∀ n, n < 6 → lkC 2 (drM 2 M5 0 (48 + j) now) 0 (48 + i) n = six k r t l e c n) ∧
    (ptE 2 M4 0 (48 + j) k' r' t' l' e' c' 0 ≠ 0 → drE 2 M5 0 (48 + j) now ≠ 0) ∧ (ptE 2 M4 0 (48 + j) k' r' t' l' e' c' 0 = 0 → drE 2 M5 0 (48 + j) now = 0 → ∀ n, n < 6 → drC 2 M5 0 (48 + j) now n = six k' r' t' l' e' c' n) := by
  obtain ⟨T3, z3⟩ := tree_new (N := 2) (high := 3) (by omega) (by omega) 0
  rw [show ((3 : Nat) : Int) = 3 from rfl, ← h3] at T3 z3
  obtain ⟨s1, s2, s3⟩ := sl_of (high := 3) (low := i) (by omega) hi
  obtain ⟨t1, t2, t3⟩ := sl_of (high := 3) (low := j) (by omega) hj
  rw [show 16 * (3 : Int) = 48 from rfl] at s1 s2 s3 t1 t2 t3
  obtain ⟨_, _, hr, hk, q1, q2⟩ := T3.took hp
  rw [← h4] at q2
  have T4 : Tree 2 M4 3 false 0 := by rw [q2]; exact T3.put _ _ _ _ _ _ _
  obtain ⟨p1, p2, _⟩ := T3.held s1 s2 q1 hk
  rw [← q2] at p1 p2
  -- whatever is put into slot j, slot i stays
  have stay : ∀ (M : Nat → Nat → Int), Tree 2 M 3 false 0 → lkE 2 M 0 (48 + i) = 0 → (∀ n, n < 6 → lkC 2 M 0 (48 + i) n = six k r t l e c n) → ∀ x0 x1 x2 x3 x4 x5, lkE 2 (pM 2 M 1 (slL (48 + j)) x0 x1 x2 x3 x4 x5) 0 (48 + i) = 0 ∧ ∀ n, n < 6 → lkC 2 (pM 2 M 1 (slL (48 + j)) x0 x1 x2 x3 x4 x5) 0 (48 + i) n = six k r t l e c n := by
    intro M T h1 h2 x0 x1 x2 x3 x4 x5
    have T' := T.put (slL (48 + j)) x0 x1 x2 x3 x4 x5
    obtain ⟨a1, a2⟩ := T'.look s1 s2
    obtain ⟨b1, b2⟩ := T.look s1 s2
    obtain ⟨m, hm⟩ := Int.eq_ofNat_of_zero_le hi.1
    obtain ⟨o1, o2⟩ := put_other (N := 2) (M := M) (f := 1) (i := slL (48 + j)) (k := x0) (r := x1) (t := x2) (l := x3) (e := x4) (a := x5) (g := 1) (m := m) (by omega) (.inr (by rw [t3]; omega))
    rw [s3, hm] at a1 a2 b1 b2
    rw [o1, o2 0, ← b1] at a1
    rw [hm] at h1 h2 ⊢
    have hz := a1.trans h1
    refine ⟨hz, fun n hn => ?_⟩
    rw [← h2 n hn, a2, b2, hz, h1, o2]
  have T5 : Tree 2 M5 3 false 0 := by
    rw [h5]
    by_cases h0 : ptE 2 M4 0 (48 + j) k' r' t' l' e' c' 0 = 0
    · rw [(T4.took h0).2.2.2.2.2]; exact T4.put _ _ _ _ _ _ _
    · rw [ptM_no h0]; exact T4
  have L5 : lkE 2 M5 0 (48 + i) = 0 ∧ ∀ n, n < 6 → lkC 2 M5 0 (48 + i) n = six k r t l e c n := by
    rw [h5]
    by_cases h0 : ptE 2 M4 0 (48 + j) k' r' t' l' e' c' 0 = 0
    · rw [(T4.took h0).2.2.2.2.2]; exact stay M4 T4 p1 p2 _ _ _ _ _ _
    · rw [ptM_no h0]; exact ⟨p1, p2⟩
  have L6 : lkE 2 (drM 2 M5 0 (48 + j) now) 0 (48 + i) = 0 ∧ ∀ n, n < 6 → lkC 2 (drM 2 M5 0 (48 + j) now) 0 (48 + i) n = six k r t l e c n := by
    by_cases h0 : drE 2 M5 0 (48 + j) now = 0
    · have hk : lkE 2 M5 0 (48 + j) = 0 := by
        unfold drE at h0
        by_cases k1 : tiB now = true
        · rw [if_pos k1] at h0
          by_cases k2 : lkE 2 M5 0 (48 + j) = 0
          · exact k2
          · rw [if_neg k2] at h0; exact h0
        · rw [if_neg k1] at h0; cases h0
      rw [((T5.drop t1 t2 hk).2 h0).2.1]
      exact stay M5 T5 L5.1 L5.2 _ _ _ _ _ _
    · rw [drM_no h0]; exact L5
  refine ⟨L5.1, L5.2, L6.1, L6.2, fun h0 h9 => ?_, fun h0 h9 => ?_⟩
  · -- nothing lies there
    rw [h5, ptM_no h0] at h9
    obtain ⟨m, hm⟩ := Int.eq_ofNat_of_zero_le hj.1
    obtain ⟨o1, o2⟩ := put_other (N := 2) (M := M3) (f := 1) (i := slL (48 + i)) (k := k) (r := r) (t := t) (l := l) (e := e) (a := c) (g := 1) (m := m) (by omega) (.inr (by rw [s3]; omega))
    have h3' : lkE 2 M4 0 (48 + j) = 3 := by
      rw [(T4.look t1 t2).1, t3, hm, q2, o1, o2 0, if_pos (z3 m (by omega)).1, (z3 m (by omega)).2 0 (by omega), if_neg (by omega)]
    unfold drE at h9
    rw [h3'] at h9
    by_cases k1 : tiB now = true
    · rw [if_pos k1, if_neg (by decide)] at h9; cases h9
    · rw [if_neg k1] at h9; cases h9
  · obtain ⟨_, _, hr', hk', q3, q4⟩ := T4.took h0
    rw [← h5] at q4
    obtain ⟨g1, g2, _⟩ := T4.held t1 t2 q3 hk'
    rw [← q4] at g1 g2
    have := ((T5.drop t1 t2 g1).2 h9).1
    exact fun n hn => (this n).trans (g2 n hn)
end Go.Proofs.YtggggfhgfnbjnaaGreatDoor.Pcaptbl

/- The four tables; a memory made anew; what 'awake' and 'looked' of the statements answer. -/
namespace Go.Proofs.YtggggfhgfnbjnaaGreatDoor.Pcaptbl
open Go.Proofs.YtggggfhgfnbjnaaGreatDoor.Pbase Go.Proofs.YtggggfhgfnbjnaaGreatDoor.Pmem Go.Proofs.YtggggfhgfnbjnaaGreatDoor.Pradix Go.Proofs.YtggggfhgfnbjnaaGreatDoor.Pslot
open Go.RowKit
set_option linter.unusedVariables false

/-- The four tables. -/
structure Tb (w : World) : Prop where
  tm : Pcap.TabM w
  tw : Pcap.TabW w
  th : Phead.TabW w
  ts : Ws w
theorem Tb.on {w w' : World} (h : Tb w) (hB : Below w.heap.size w w') : Tb w' := ⟨h.tm.on hB, h.tw.on hB, h.th.on hB, h.ts.on hB⟩
theorem Mx.tb {w : World} {p b N : Nat} {M : Nat → Nat → Int} (h : Mx w p b N M) : Tb w := ⟨h.mt.tab, h.mt.tabw, h.th, h.ts⟩
theorem mx_new {w : World} (h : Tb w) {N : Nat} (h1 : 1 ≤ N) (h2 : N ≤ 64) : Mx (newW w N) (w.heap.size + 1) w.heap.size N fun _ _ => 0 :=
  ⟨mt_new h.tm h.tw h1 h2, h.th.on (newW_below w N), h.ts.on (newW_below w N)⟩
theorem made_zero {N : Nat} (f l : Int) (h0 : 0 ≤ f) (h1 : f < N) (hl : l = 0 ∨ l = 1) : Phead.errP N f 1 l false 0 = 0 := by
  have ho : okF N f = true := by simp [okF, h0, h1]
  simp [Phead.errP, Phead.rtB_yes (rt_head hl), errF, ho]
theorem two_eq (N : Nat) : Phead.mkM N (Phead.mkM N (fun _ _ => 0) 0 1 0 false 0) 1 1 1 false 0 = twoM N := rfl
/-- What 'awake' does. -/
theorem aw_all {M3 M4 : Nat → Nat → Int} (h3 : M3 = coM 2 (twoM 2) 0 0 1 0) (h4 : M4 = ptM 2 M3 0 5 11 0 0 0 0 0 0) : coE 2 (twoM 2) 0 0 1 0 = 0 ∧ ptE 2 M3 0 5 11 0 0 0 0 0 0 = 0 ∧ lkE 2 M4 0 5 = 0 ∧ lkC 2 M4 0 5 0 = 11 := by
  obtain ⟨T3, z3⟩ := tree_new (N := 2) (high := 0) (by omega) (by omega) 0
  rw [show ((0 : Nat) : Int) = 0 from rfl, ← h3] at T3 z3
  have e0 : coE 2 (twoM 2) 0 0 1 0 = 0 := cons_zero (N := 2) (high := 0) (by omega) (by omega) 0
  obtain ⟨s1, s2, s3⟩ := sl_of (high := 0) (low := 5) (by omega) (by omega)
  rw [show 16 * (0 : Int) + 5 = 5 from rfl] at s1 s2 s3
  obtain ⟨y1, y2⟩ := z3 5 (by omega)
  rw [show ((5 : Nat) : Int) = 5 from rfl] at y1 y2
  have hr : Pcap.Rt 11 0 0 0 0 0 := by unfold Pcap.Rt; omega
  have e1 : ptE 2 M3 0 5 11 0 0 0 0 0 0 = 0 := by
    rw [ptE_up hr (by omega), T3.room s1 s2, s3, y1, y2 0 (by omega), y2 5 (by omega)]
    decide
  obtain ⟨_, _, _, _, q1, q2⟩ := T3.took e1
  rw [← h4] at q2
  obtain ⟨a1, a2, _⟩ := T3.held s1 s2 q1 (by omega)
  rw [← q2] at a1 a2
  exact ⟨e0, e1, a1, a2 0 (by omega)⟩
/-- A memory of the call's own. -/
structure Own (w0 w : World) (p b N : Nat) (M : Nat → Nat → Int) : Prop where
  mx : Mx w p b N M
  below : Below w0.heap.size w0 w
  lo : w0.heap.size ≤ b
theorem Own.on {w0 w w' : World} {p b N : Nat} {M : Nat → Nat → Int} (h : Own w0 w p b N M) (hB : Below w.heap.size w w') : Own w0 w' p b N M := ⟨h.mx.on hB, h.below.trans (hB.mono h.below.size), h.lo⟩
theorem Own.but {w0 w w' : World} {p b N : Nat} {M M' : Nat → Nat → Int} (h : Own w0 w p b N M) (hm : Mx w' p b N M') (hB : But b w w') : Own w0 w' p b N M' := ⟨hm, h.below.trans (hB.below h.lo h.below.size), h.lo⟩
theorem own_new {w : World} (h : Tb w) {N : Nat} (h1 : 1 ≤ N) (h2 : N ≤ 64) : Own w (newW w N) (w.heap.size + 1) w.heap.size N fun _ _ => 0 := ⟨mx_new h h1 h2, newW_below w N, Nat.le_refl _⟩
end Go.Proofs.YtggggfhgfnbjnaaGreatDoor.Pcaptbl

/- A memory of the call's own, and capabilities in blocks beside it; capabilities held against each other. -/
namespace Go.Proofs.YtggggfhgfnbjnaaGreatDoor.Pcaptbl
open Go.Proofs.YtggggfhgfnbjnaaGreatDoor.Pbase Go.Proofs.YtggggfhgfnbjnaaGreatDoor.Pmem Go.Proofs.YtggggfhgfnbjnaaGreatDoor.Pradix Go.Proofs.YtggggfhgfnbjnaaGreatDoor.Pslot
open Go.RowKit
set_option linter.unusedVariables false

theorem eqlC (k r t l e a : Int) (w : World) : (binOp .eql 55 (.agg #[.int .i64 k, .int .i64 r, .int .i64 t, .int .i64 l, .int .i64 e, .int .i64 a]) (.agg #[.int .i64 k, .int .i64 r, .int .i64 t, .int .i64 l, .int .i64 e, .int .i64 a])).run Tryz.prog w = .ok (.bool true) w := by
  rw [run_eql_struct, eqC]
  simp
/-- Six numbers. -/
abbrev S6 := Int × Int × Int × Int × Int × Int
def Bx (w : World) (D : Nat) (x : S6) : Prop := Pcap.Box6 w D x.1 x.2.1 x.2.2.1 x.2.2.2.1 x.2.2.2.2.1 x.2.2.2.2.2
/-- A memory of the call's own, and capabilities in blocks beside it. -/
structure Qs (w0 w : World) (p b N : Nat) (M : Nat → Nat → Int) (x : List (Nat × S6)) : Prop where
  own : Own w0 w p b N M
  bx : ∀ c ∈ x, Bx w c.1 c.2 ∧ c.1 ≠ b
section
variable {w0 w w' : World} {p b N : Nat} {M M' : Nat → Nat → Int} {x : List (Nat × S6)}
theorem Qs.on (h : Qs w0 w p b N M x) (hB : Below w.heap.size w w') : Qs w0 w' p b N M x := ⟨h.own.on hB, fun c hc => ⟨(h.bx c hc).1.on hB, (h.bx c hc).2⟩⟩
theorem Qs.but (h : Qs w0 w p b N M x) (hm : Mx w' p b N M') (hB : But b w w') : Qs w0 w' p b N M' x := ⟨h.own.but hm hB, fun c hc => ⟨box6_but (h.bx c hc).1 hB (h.bx c hc).2, (h.bx c hc).2⟩⟩
theorem Qs.more (h : Qs w0 w p b N M x) (k r t l e a : Int) (ty : TypeId) : Qs w0 (w.alloc (.cells #[.int .i64 k, .int .i64 r, .int .i64 t, .int .i64 l, .int .i64 e, .int .i64 a] ty)) p b N M ((w.heap.size, (k, r, t, l, e, a)) :: x) := by
  refine ⟨h.own.on (bal (Below.refl _ _) _), fun c hc => ?_⟩
  rcases List.mem_cons.1 hc with rfl | hc
  · exact ⟨Pcap.box6_new w k r t l e a ty, Nat.ne_of_gt h.own.mx.mt.mem.lt.2⟩
  · exact ⟨(h.bx c hc).1.on (bal (Below.refl _ _) _), (h.bx c hc).2⟩
theorem Qs.less (h : Qs w0 w p b N M x) {z : List (Nat × S6)} (hz : ∀ c ∈ z, c ∈ x) : Qs w0 w p b N M z := ⟨h.own, fun c hc => h.bx c (hz c hc)⟩
theorem Qs.first {D : Nat} {y : S6} (h : Qs w0 w p b N M ((D, y) :: x)) : Bx w D y := (h.bx _ (List.mem_cons_self ..)).1
theorem Qs.second {D : Nat} {c : Nat × S6} {y : S6} (h : Qs w0 w p b N M (c :: (D, y) :: x)) : Bx w D y := (h.bx _ (List.mem_cons_of_mem _ (List.mem_cons_self ..))).1
theorem Qs.third {D : Nat} {c c' : Nat × S6} {y : S6} (h : Qs w0 w p b N M (c :: c' :: (D, y) :: x)) : Bx w D y := (h.bx _ (List.mem_cons_of_mem _ (List.mem_cons_of_mem _ (List.mem_cons_self ..)))).1
end
theorem qs_two {w : World} (h : Tb w) {N : Nat} (h1 : 1 ≤ N) (h2 : N ≤ 64) (k r t l e c k' r' t' l' e' c' : Int) : Qs w (newW ((w.alloc (.cells #[.int .i64 k, .int .i64 r, .int .i64 t, .int .i64 l, .int .i64 e, .int .i64 c] 55)).alloc (.cells #[.int .i64 k', .int .i64 r', .int .i64 t', .int .i64 l', .int .i64 e', .int .i64 c'] 55)) N) (w.heap.size + 1 + 1 + 1) (w.heap.size + 1 + 1) N (fun _ _ => 0) [(w.heap.size, (k, r, t, l, e, c)), (w.heap.size + 1, (k', r', t', l', e', c'))] := by
  have hb := bal (bal (Below.refl w.heap.size w) (.cells #[.int .i64 k, .int .i64 r, .int .i64 t, .int .i64 l, .int .i64 e, .int .i64 c] 55)) (.cells #[.int .i64 k', .int .i64 r', .int .i64 t', .int .i64 l', .int .i64 e', .int .i64 c'] 55)
  have h0 := own_new (h.on hb) h1 h2
  have hs : ((w.alloc (.cells #[.int .i64 k, .int .i64 r, .int .i64 t, .int .i64 l, .int .i64 e, .int .i64 c] 55)).alloc (.cells #[.int .i64 k', .int .i64 r', .int .i64 t', .int .i64 l', .int .i64 e', .int .i64 c'] 55)).heap.size = w.heap.size + 1 + 1 := by simp
  have hl := h0.lo
  rw [hs] at h0 hl
  refine ⟨⟨h0.mx, hb.trans (h0.below.mono (by rw [hs]; omega)), by omega⟩, fun q hq => ?_⟩
  rcases List.mem_cons.1 hq with rfl | hq
  · exact ⟨((Pcap.box6_new w k r t l e c 55).on (bal (Below.refl _ _) _)).on h0.below, by show w.heap.size ≠ _; omega⟩
  · rcases List.mem_cons.1 hq with rfl | hq
    · have := Pcap.box6_new (w.alloc (.cells #[.int .i64 k, .int .i64 r, .int .i64 t, .int .i64 l, .int .i64 e, .int .i64 c] 55)) k' r' t' l' e' c' 55
      rw [World.size_alloc] at this
      exact ⟨this.on h0.below, by show w.heap.size + 1 ≠ _; omega⟩
    · cases hq
end Go.Proofs.YtggggfhgfnbjnaaGreatDoor.Pcaptbl

/- The document's tables of capabilities: Make, Table, time, quiet, leaf, Room. -/
namespace Go.Proofs.YtggggfhgfnbjnaaGreatDoor.Pcaptbl
open Go.Proofs.YtggggfhgfnbjnaaGreatDoor.Pbase Go.Proofs.YtggggfhgfnbjnaaGreatDoor.Pmem Go.Proofs.YtggggfhgfnbjnaaGreatDoor.Pradix Go.Proofs.YtggggfhgfnbjnaaGreatDoor.Pslot
open Go.RowKit
set_option linter.unusedVariables false

theorem results4 {fn : Func} {t u v x : Tmp} (h : fn.results = #[.tmp t, .tmp u, .tmp v, .tmp x]) (tmps : Array Value) (P : Program) (w : World) :
    (results fn tmps).run P w = .ok (.tuple #[tmps.getD t undef, tmps.getD u undef, tmps.getD v undef, tmps.getD x undef]) w := by
  simp [results, h]
theorem rhide {p : Prop} (h : p) : Hid p := h
/-- The document's memory. -/
structure Rx (w : World) (base q N : Nat) (M : Nat → Nat → Int) : Prop where
  ref : RefIs w base q N M
  fit : Fit M
  n1 : 1 ≤ N
  n64 : N ≤ 64
theorem Rx.grown {w w' : World} {base q N : Nat} {M : Nat → Nat → Int} (h : Rx w base q N M) (hB : Below w.heap.size w w') : Rx w' base q N M := ⟨h.ref.grown hB, h.fit, h.n1, h.n64⟩
theorem Rx.turn {w w' : World} {base q N : Nat} {M M' : Nat → Nat → Int} (h : Rx w base q N M) (hR : RefIs w' base q N M') (hF : Fit M') : Rx w' base q N M' := ⟨hR, hF, h.n1, h.n64⟩
theorem below_base {w w' : World} {base q N : Nat} {M : Nat → Nat → Int} (h : RefIs w base q N M) (hB : Below w.heap.size w w') : Below base w w' := hB.mono (Nat.le_of_lt (Nat.lt_of_le_of_lt h.ge h.lt))
set_option maxRecDepth 100000 in
theorem rmake_any (base q N : Nat) (f l : Int) (M : Nat → Nat → Int) (w : World) (h : Rx w base q N M) : Calls Tryz.prog 16 #[.pointer (some ⟨q, 0, none⟩), .int .i64 f, .int .i64 l] w fun x w' => x = .returned (.int .i64 (Phead.errP N f 1 l false 0)) ∧ Rx w' base q N (Phead.mkM N M f 1 l false 0) ∧ Below base w w' := by
  have HM : Hid (Calls Tryz.prog 62 #[.pointer (some ⟨q, 0, none⟩), .int .i64 f, .agg #[.int .i64 1, .int .i64 l, .bool false, .int .i64 0]] w fun x w' => x = .returned (.int .i64 (Phead.errP N f 1 l false 0)) ∧ Rx w' base q N (Phead.mkM N M f 1 l false 0) ∧ Below base w w') := by
    refine (Phead.hrmake_any base q N f 1 l false 0 M w h.n1 h.n64 h.ref).mono ?_
    rintro x w' ⟨rfl, h1, h2⟩
    exact ⟨rfl, h.turn h1 (Phead.fit_mk h.fit N f 1 l false 0), h2⟩
  clear h
  go_enter Tryz.func16, Tryz.ntmps16
  go_wp2_with (first
    | (go_at_call 62; refine HM.out.mono ?_; rintro e1 w1 ⟨rfl, hb⟩; have H1 : Hid (Rx w1 base q N (Phead.mkM N M f 1 l false 0) ∧ Below base w w1) := hb; clear hb)
    | fail)
  go_ret
  exact ⟨rfl, H1.out⟩
theorem rt_laid {w w1 : World} (hb : Below w.heap.size w w1) (k l : Int) (z : Bool) (t : Int) : Below w.heap.size w (w1.alloc (.cells #[.int .i64 k, .int .i64 l, .bool z, .int .i64 t] 127)) ∧ Phead.Box4 (w1.alloc (.cells #[.int .i64 k, .int .i64 l, .bool z, .int .i64 t] 127)) w1.heap.size k l z t :=
  ⟨bal hb _, Phead.box4_new w1 k l z t 127⟩
set_option maxRecDepth 100000 in
set_option maxHeartbeats 1000000 in
theorem table_any (base q N : Nat) (f l : Int) (M : Nat → Nat → Int) (w : World) (h : Rx w base q N M) : Calls Tryz.prog 63 #[.pointer (some ⟨q, 0, none⟩), .int .i64 f, .int .i64 l] w fun x w' => x = .returned (.tuple #[.bool (tbB N M f l), .bool (Phead.ghZ N M f)]) ∧ Below w.heap.size w w' := by
  have HG : Hid (Calls Tryz.prog 104 #[.pointer (some ⟨q, 0, none⟩), .int .i64 f] w fun x w' => x = .returned (.tuple #[.agg #[.int .i64 (Phead.ghK N M f), .int .i64 (Phead.ghL N M f), .bool (Phead.ghZ N M f), .int .i64 (Phead.ghT N M f)], .int .i64 (Phead.ghE N M f)]) ∧ Below w.heap.size w w') := Phead.hrget_any base q N f M w h.n1 h.n64 h.ref h.fit
  clear h
  unfold tbB
  generalize Phead.ghK N M f = K at HG ⊢
  generalize Phead.ghL N M f = L at HG ⊢
  generalize Phead.ghZ N M f = Z at HG ⊢
  generalize Phead.ghT N M f = T at HG ⊢
  generalize Phead.ghE N M f = E at HG ⊢
  obtain ⟨R, hR⟩ : ∃ R, (decide (E = 0) && decide (K = 1) && decide (L = l)) = R := ⟨_, rfl⟩
  rw [hR]
  have HR := rhide hR
  clear hR
  go_enter Tryz.func63, Tryz.ntmps63
  go_upto_region 2 with (first
    | (go_at_call 104; refine HG.out.mono ?_; rintro e1 w1 ⟨rfl, hb⟩; have H1 : Hid (Below w.heap.size w w1) := hb; clear hb)
    | fail)
  have HL := rt_laid H1.out K L Z T
  generalize w1.alloc _ = w2 at HL ⊢
  generalize w1.heap.size = D at HL ⊢
  have H2 := rhide HL.1
  have x0 := HL.2.c0
  have x1 := HL.2.c1
  have x2 := HL.2.c2
  clear HL H1 HG
  by_cases hE : E = 0
  · subst hE
    by_cases hK : K = 1
    · subst hK
      by_cases hl : L = l
      · subst hl
        go_quiet (fail)
        go_wp2
        go_ret2
        have hr := HR.out
        simp at hr
        subst hr
        exact ⟨rfl, H2.out.trans (below_drew' _ _ _)⟩
      · have hl' : (L == l) = false := by simp [hl]
        go_quiet (fail)
        go_wp2
        go_ret2
        have hr := HR.out
        simp [hl] at hr
        subst hr
        exact ⟨rfl, H2.out.trans (below_drew' _ _ _)⟩
    · have hK' : (K == 1) = false := by simp [hK]
      go_quiet (fail)
      go_wp2
      go_ret2
      have hr := HR.out
      simp [hK] at hr
      subst hr
      exact ⟨rfl, H2.out.trans (below_drew' _ _ _)⟩
  · have hE' : (E == 0) = false := by simp [hE]
    go_quiet (fail)
    go_wp2
    go_ret2
    have hr := HR.out
    simp [hE] at hr
    subst hr
    exact ⟨rfl, H2.out.trans (below_drew' _ _ _)⟩
theorem rquiet_any (k r t l e a floor : Int) (w : World) : Calls Tryz.prog 65 #[.agg #[.int .i64 k, .int .i64 r, .int .i64 t, .int .i64 l, .int .i64 e, .int .i64 a], .int .i64 floor] w fun x w' => x = .returned (.bool (quB k a floor)) ∧ Below w.heap.size w w' := by
  unfold quB
  by_cases h0 : k = 0
  · subst h0
    simp only [decide_true, Bool.true_or]
    go_enter Tryz.func65, Tryz.ntmps65
    go_wp2
    go_ret
    exact ⟨rfl, bal (Below.refl _ _) _⟩
  · have h0' : (k == 0) = false := by simp [h0]
    by_cases h1 : k = 1
    · subst h1
      by_cases h2 : a < floor
      · simp only [h2, decide_true, Bool.and_self, Bool.or_true]
        go_enter Tryz.func65, Tryz.ntmps65
        go_wp2
        go_ret
        exact ⟨rfl, bal (Below.refl _ _) _⟩
      · simp only [h2, h0, decide_true, decide_false, Bool.and_false, Bool.or_false]
        go_enter Tryz.func65, Tryz.ntmps65
        go_wp2
        go_ret
        exact ⟨rfl, bal (Below.refl _ _) _⟩
    · have h1' : (k == 1) = false := by simp [h1]
      simp only [h0, h1, decide_false, Bool.false_and, Bool.or_false]
      go_enter Tryz.func65, Tryz.ntmps65
      go_wp2
      go_ret
      exact ⟨rfl, bal (Below.refl _ _) _⟩
/-! ### the leaf of an address -/
set_option maxRecDepth 100000 in
set_option maxHeartbeats 1000000 in
theorem leaf_any (base q N : Nat) (root a : Int) (M : Nat → Nat → Int) (w : World) (h : Rx w base q N M) : Calls Tryz.prog 72 #[.pointer (some ⟨q, 0, none⟩), .int .i64 root, .int .i64 a] w fun x w' => x = .returned (.tuple #[.int .i64 (lfF N M root a), .int .i64 (lfI N M root a), .bool (lfZ N M root a), .int .i64 (lfE N M root a)]) ∧ Below w.heap.size w w' := by
  have HI := rhide h
  have t1 : True := trivial
  have t2 : True := trivial
  clear h
  have hno : lfE N M root a ≠ 0 → lfF N M root a = 0 ∧ lfI N M root a = 0 ∧ lfZ N M root a = false := fun h => by simp [lfF, lfI, lfZ, h]
  by_cases h1 : slE a = 0
  case neg =>
    have e0 : lfE N M root a = slE a := by simp [lfE, h1]
    obtain ⟨e1, e2, e3⟩ := hno (by rw [e0]; exact h1)
    rw [e0, e1, e2, e3]
    generalize hse : slE a = S at h1 ⊢
    have HS := rhide hse
    have h1' : (S != 0) = true := by simp [h1]
    clear hno e0 e1 e2 e3 hse
    go_enter Tryz.func72, Tryz.ntmps72
    go_wp2_with (first
      | (go_at_call 165; refine (rslot_any a _).mono ?_; rintro e1 w1 ⟨rfl, hw⟩; subst w1; rw [HS.out])
      | fail)
    (try simp only [Exit.inBlock, Exit.then]); refine bodyPost_ret (results4 rfl _ _ _) rfl ?_
    exact ⟨rfl, Below.refl _ _⟩
  have HS := rhide h1
  by_cases h2 : tbB N M root 0 = true
  case neg =>
    have h2' : tbB N M root 0 = false := by simpa using h2
    have e0 : lfE N M root a = 4 := by simp [lfE, h1, h2]
    obtain ⟨e1, e2, e3⟩ := hno (by rw [e0]; decide)
    rw [e0, e1, e2, e3]
    clear hno e0 e1 e2 e3 h2 h1
    go_enter Tryz.func72, Tryz.ntmps72
    go_wp2_with (first
      | (go_at_call 165; refine (rslot_any a _).mono ?_; rintro e1 w1 ⟨rfl, hw⟩; subst w1; rw [HS.out])
      | (go_at_call 63; clear t1; refine (table_any base q N root 0 M _ HI.out).mono ?_; rintro e2 w2 ⟨rfl, hb⟩; rw [h2']; have H2 : Hid (Rx w2 base q N M ∧ Below w.heap.size w w2) := ⟨HI.out.grown hb, hb⟩; clear hb)
      | fail)
    (try simp only [Exit.inBlock, Exit.then]); refine bodyPost_ret (results4 rfl _ _ _) rfl ?_
    exact ⟨rfl, H2.out.2⟩
  by_cases h3 : sE N M root (slH a) = 0
  case neg =>
    have e0 : lfE N M root a = 3 := by simp [lfE, h1, h2, h3]
    obtain ⟨e1, e2, e3⟩ := hno (by rw [e0]; decide)
    rw [e0, e1, e2, e3]
    obtain ⟨E, hE⟩ : ∃ E, sE N M root (slH a) = E := ⟨_, rfl⟩
    rw [hE] at h3
    have HE := rhide hE
    have h3' : (E != 0) = true := by simp [h3]
    clear hno e0 e1 e2 e3 h1 h3 hE
    go_enter Tryz.func72, Tryz.ntmps72
    go_wp2_with (first
      | (go_at_call 165; refine (rslot_any a _).mono ?_; rintro e1 w1 ⟨rfl, hw⟩; subst w1; rw [HS.out])
      | (go_at_call 63; clear t1; refine (table_any base q N root 0 M _ HI.out).mono ?_; rintro e2 w2 ⟨rfl, hb⟩; rw [h2]; have H2 : Hid (Rx w2 base q N M ∧ Below w.heap.size w w2) := ⟨HI.out.grown hb, hb⟩; clear hb)
      | (go_at_call 64; refine (rsget_any base q N root (slH a) M _ H2.out.1.n1 H2.out.1.n64 H2.out.1.ref H2.out.1.fit).mono ?_; rintro e3 w3 ⟨rfl, hb⟩; rw [HE.out]; have H3 : Hid (Rx w3 base q N M ∧ Below w.heap.size w w3) := ⟨H2.out.1.grown hb, H2.out.2.trans (hb.mono H2.out.2.size)⟩; clear hb)
      | fail)
    (try simp only [Exit.inBlock, Exit.then]); refine bodyPost_ret (results4 rfl _ _ _) rfl ?_
    exact ⟨rfl, bal H3.out.2 _⟩
  have HE := rhide h3
  by_cases h4 : sC N M root (slH a) 0 = 3
  case neg =>
    have e0 : lfE N M root a = 3 := by simp [lfE, h1, h2, h3, h4]
    obtain ⟨e1, e2, e3⟩ := hno (by rw [e0]; decide)
    rw [e0, e1, e2, e3]
    have h4' : (sC N M root (slH a) 0 != 3) = true := by simp [h4]
    clear hno e0 e1 e2 e3 h1 h3 h4
    go_enter Tryz.func72, Tryz.ntmps72
    go_wp2_with (first
      | (go_at_call 165; refine (rslot_any a _).mono ?_; rintro e1 w1 ⟨rfl, hw⟩; subst w1; rw [HS.out])
      | (go_at_call 63; clear t1; refine (table_any base q N root 0 M _ HI.out).mono ?_; rintro e2 w2 ⟨rfl, hb⟩; rw [h2]; have H2 : Hid (Rx w2 base q N M ∧ Below w.heap.size w w2) := ⟨HI.out.grown hb, hb⟩; clear hb)
      | (go_at_call 64; refine (rsget_any base q N root (slH a) M _ H2.out.1.n1 H2.out.1.n64 H2.out.1.ref H2.out.1.fit).mono ?_; rintro e3 w3 ⟨rfl, hb⟩; rw [HE.out]; have H3 : Hid (Rx w3 base q N M ∧ Below w.heap.size w w3) := ⟨H2.out.1.grown hb, H2.out.2.trans (hb.mono H2.out.2.size)⟩; clear hb)
      | fail)
    (try simp only [Exit.inBlock, Exit.then]); refine bodyPost_ret (results4 rfl _ _ _) rfl ?_
    exact ⟨rfl, bal H3.out.2 _⟩
  have HK := rhide h4
  by_cases h5 : tbB N M (sC N M root (slH a) 2) 1 = true
  case neg =>
    have h5' : tbB N M (sC N M root (slH a) 2) 1 = false := by simpa using h5
    have e0 : lfE N M root a = 4 := by simp [lfE, h1, h2, h3, h4, h5]
    obtain ⟨e1, e2, e3⟩ := hno (by rw [e0]; decide)
    rw [e0, e1, e2, e3]
    clear hno e0 e1 e2 e3 h1 h3 h4 h5
    go_enter Tryz.func72, Tryz.ntmps72
    go_wp2_with (first
      | (go_at_call 165; refine (rslot_any a _).mono ?_; rintro e1 w1 ⟨rfl, hw⟩; subst w1; rw [HS.out])
      | (go_at_call 63; clear t1; refine (table_any base q N root 0 M _ HI.out).mono ?_; rintro e2 w2 ⟨rfl, hb⟩; rw [h2]; have H2 : Hid (Rx w2 base q N M ∧ Below w.heap.size w w2) := ⟨HI.out.grown hb, hb⟩; clear hb)
      | (go_at_call 64; refine (rsget_any base q N root (slH a) M _ H2.out.1.n1 H2.out.1.n64 H2.out.1.ref H2.out.1.fit).mono ?_; rintro e3 w3 ⟨rfl, hb⟩; rw [HE.out, HK.out]; have H3 : Hid (Rx w3 base q N M ∧ Below w.heap.size w w3) := ⟨H2.out.1.grown hb, H2.out.2.trans (hb.mono H2.out.2.size)⟩; clear hb)
      | (go_at_call 63; clear t2; refine (table_any base q N (sC N M root (slH a) 2) 1 M _ (H3.out.1.grown (bal (Below.refl _ _) _))).mono ?_; rintro e4 w4 ⟨rfl, hb⟩; rw [h5']; have H4 : Hid (Below w.heap.size w w4) := (bal H3.out.2 _).trans (hb.mono (bal H3.out.2 _).size); clear hb)
      | fail)
    (try simp only [Exit.inBlock, Exit.then]); refine bodyPost_ret (results4 rfl _ _ _) rfl ?_
    exact ⟨rfl, H4.out⟩
  have e0 : lfE N M root a = 0 := by simp [lfE, h1, h2, h3, h4, h5]
  have e1 : lfF N M root a = sC N M root (slH a) 2 := by simp [lfF, e0]
  have e2 : lfI N M root a = slL a := by simp [lfI, e0]
  have e3 : lfZ N M root a = Phead.ghZ N M (sC N M root (slH a) 2) := by simp [lfZ, e0, e1]
  rw [e0, e1, e2, e3]
  clear hno e0 e1 e2 e3 h1 h3 h4
  go_enter Tryz.func72, Tryz.ntmps72
  go_upto_region 13 with (first
    | (go_at_call 165; refine (rslot_any a _).mono ?_; rintro e1 w1 ⟨rfl, hw⟩; subst w1; rw [HS.out])
    | (go_at_call 63; clear t1; refine (table_any base q N root 0 M _ HI.out).mono ?_; rintro e2 w2 ⟨rfl, hb⟩; rw [h2]; have H2 : Hid (Rx w2 base q N M ∧ Below w.heap.size w w2) := ⟨HI.out.grown hb, hb⟩; clear hb)
    | (go_at_call 64; refine (rsget_any base q N root (slH a) M _ H2.out.1.n1 H2.out.1.n64 H2.out.1.ref H2.out.1.fit).mono ?_; rintro e3 w3 ⟨rfl, hb⟩; rw [HE.out, HK.out]; have H3 : Hid (Rx w3 base q N M ∧ Below w.heap.size w w3) := ⟨H2.out.1.grown hb, H2.out.2.trans (hb.mono H2.out.2.size)⟩; clear hb)
    | (go_at_call 63; clear t2; refine (table_any base q N (sC N M root (slH a) 2) 1 M _ (H3.out.1.grown (bal (Below.refl _ _) _))).mono ?_; rintro e4 w4 ⟨rfl, hb⟩; rw [h5]; have H4 : Hid (Below w.heap.size w w4) := (bal H3.out.2 _).trans (hb.mono (bal H3.out.2 _).size); have x2 := ((Pcap.box6_new w3 _ _ _ _ _ _ 55).on hb).c2; clear hb)
    | fail)
  go_wp2
  (try simp only [Exit.inBlock, Exit.then]); refine bodyPost_ret (results4 rfl _ _ _) rfl ?_
  exact ⟨rfl, H4.out⟩
end Go.Proofs.YtggggfhgfnbjnaaGreatDoor.Pcaptbl

/- The document's Store and Put once more: blocks that hold numbers of a capability stay as they were. -/
namespace Go.Proofs.YtggggfhgfnbjnaaGreatDoor.Pcaptbl
open Go.Proofs.YtggggfhgfnbjnaaGreatDoor.Pbase Go.Proofs.YtggggfhgfnbjnaaGreatDoor.Pmem Go.Proofs.YtggggfhgfnbjnaaGreatDoor.Pradix Go.Proofs.YtggggfhgfnbjnaaGreatDoor.Pslot
open Go.RowKit
set_option linter.unusedVariables false

/-- Blocks that begin with a number stay. -/
def Keep (w w' : World) : Prop := w.heap.size ≤ w'.heap.size ∧ ∀ (B : Nat) (z : Int), w.cell? ⟨B, 0, none⟩ = some (.int .i64 z) → w'.heap[B]? = w.heap[B]?
theorem Keep.refl (w : World) : Keep w w := ⟨Nat.le_refl _, fun _ _ _ => rfl⟩
theorem Keep.trans {a b c : World} (h : Keep a b) (k : Keep b c) : Keep a c := ⟨Nat.le_trans h.1 k.1, fun B z hB => (k.2 B z ((World.cell?_of_block (w := a) (h.2 B z hB)).trans hB)).trans (h.2 B z hB)⟩
theorem Keep.of_below {w w' : World} (h : Below w.heap.size w w') : Keep w w' := ⟨h.size, fun B z hB => h.block B (World.block_lt_of_cell? w _ hB)⟩
theorem Keep.cell {w w' : World} (h : Keep w w') {B : Nat} {z : Int} (hB : w.cell? ⟨B, 0, none⟩ = some (.int .i64 z)) (j : Nat) : w'.cell? ⟨B, j, none⟩ = w.cell? ⟨B, j, none⟩ := World.cell?_of_block (w := w) (h.2 B z hB)
theorem Keep.box {w w' : World} (h : Keep w w') {B : Nat} {k r t l e a : Int} (x : Pcap.Box6 w B k r t l e a) : Pcap.Box6 w' B k r t l e a :=
  ⟨Nat.lt_of_lt_of_le x.lt h.1, (h.cell x.c0 0).trans x.c0, (h.cell x.c0 1).trans x.c1, (h.cell x.c0 2).trans x.c2, (h.cell x.c0 3).trans x.c3, (h.cell x.c0 4).trans x.c4, (h.cell x.c0 5).trans x.c5, fun j => (World.frozen?_of_block (w := w) (h.2 B k x.c0)).trans (x.fz j)⟩
theorem keep_store {w : World} {x j : Nat} {m : Int} (hm : w.cell? ⟨x, 0, none⟩ = some (.int .u64 m)) (v : Value) : Keep w (w.setCell ⟨x, j, none⟩ v) :=
  ⟨by rw [World.size_setCell]; exact Nat.le_refl _, fun B z hB => heap_setCell_other _ _ _ _ fun e => by rw [e, hm] at hB; cases hB⟩
theorem kstore_ok (base p N f a : Nat) (v : Int) (M : Nat → Nat → Int) (w : World) (hf : f < N) (ha : a < 36) (hN : N ≤ 64) (hR : RefIs w base p N M) :
    Calls Tryz.prog 159 #[.pointer (some ⟨p, 0, none⟩), .int .i64 f, .int .i64 a, .int .u64 v] w fun e w' => e = .returned (.int .i64 0) ∧ RefIs w' base p N (fun h b => if h = f ∧ b = a then v else M h b) ∧ Below base w w' ∧ Keep w w' := by
  obtain ⟨g, cap, r, c, hp, hg0, hw0, _, _⟩ := hR.parts (by omega)
  have hg := hg0 f hf
  obtain ⟨hw, hz⟩ := hw0 f a hf ha
  have hok := okF_nat hf
  have hfi : (f : Int) < (N : Int) := by omega
  have hai : (a : Int) < 36 := by omega
  have S := hR.store hf ha hp hg v
  have HS : Hid (RefIs (w.setCell ⟨r f, a, none⟩ (.int .u64 v)) base p N (fun h b => if h = f ∧ b = a then v else M h b) ∧ Below base w (w.setCell ⟨r f, a, none⟩ (.int .u64 v)) ∧ Keep w (w.setCell ⟨r f, a, none⟩ (.int .u64 v))) := ⟨S.1, (Below.refl _ _).setCell S.2 _, keep_store (hw0 f 0 hf (by omega)).1 _⟩
  obtain ⟨x, hx⟩ : ∃ x, x = r f := ⟨_, rfl⟩
  obtain ⟨y, hy⟩ : ∃ y, y = c f := ⟨_, rfl⟩
  rw [← hx] at hg hw hz HS
  rw [← hy] at hg
  obtain ⟨m, hm⟩ : ∃ m, m = M f a := ⟨_, rfl⟩
  rw [← hm] at hw
  clear hg0 hw0 hR hm S hx hy
  go_enter Tryz.func159, Tryz.ntmps159
  go_wp2_with (go_at_call 146; refine (is_any p g cap N f _ hN hp).mono ?_; rintro e w' ⟨rfl, rfl⟩)
  go_ret
  exact ⟨rfl, HS.out⟩
theorem kstore_any (base p N : Nat) (f a v : Int) (M : Nat → Nat → Int) (w : World) (hN1 : 1 ≤ N) (hN : N ≤ 64) (hR : RefIs w base p N M) :
    Calls Tryz.prog 159 #[.pointer (some ⟨p, 0, none⟩), .int .i64 f, .int .i64 a, .int .u64 v] w fun e w' => e = .returned (.int .i64 (errW N f a)) ∧ RefIs w' base p N (stW N M f a v) ∧ Below base w w' ∧ Keep w w' := by
  cases h : okF N f
  · simp only [stW, errW, okW, h, Bool.false_and, Bool.false_eq_true, if_false]
    exact (rstore_badF base p N f a v M w h hN1 hN hR).mono fun _ _ ⟨h1, h2⟩ => ⟨h1, by rw [h2]; exact hR, by rw [h2]; exact ⟨Below.refl _ _, Keep.refl _⟩⟩
  · obtain ⟨c, rfl, hc⟩ := okF_split h
    by_cases ha : 0 ≤ a ∧ a < 36
    · obtain ⟨d, rfl⟩ := Int.eq_ofNat_of_zero_le ha.1
      have : okW N (c : Int) (d : Int) = true := by simp [okW, h]; omega
      simp only [stW, errW, this, if_true, Int.toNat_natCast]
      exact kstore_ok base p N c d v M w hc (by omega) hN hR
    · have : okW N (c : Int) a = false := by simp [okW, h]; omega
      simp only [stW, errW, this, Bool.false_eq_true, if_false]
      exact (rstore_badA base p N c a v M w hc ha hN hR).mono fun _ _ ⟨h1, h2⟩ => ⟨h1, by rw [h2]; exact hR, by rw [h2]; exact ⟨Below.refl _ _, Keep.refl _⟩⟩
set_option maxRecDepth 100000 in
set_option maxHeartbeats 1000000 in
theorem kput_ok (base q N n : Nat) (f k r t l e a : Int) (M : Nat → Nat → Int) (w : World) (hN1 : 1 ≤ N) (hN : N ≤ 64) (hR : RefIs w base q N M) (hn : n < 16) (hr : Pcap.Rt k r t l e a) :
    Calls Tryz.prog 66 #[.pointer (some ⟨q, 0, none⟩), .int .i64 f, .int .i64 n, .agg #[.int .i64 k, .int .i64 r, .int .i64 t, .int .i64 l, .int .i64 e, .int .i64 a]] w fun x w' => x = .returned (.int .i64 (errF N f)) ∧ RefIs w' base q N (stW N (stW N M f (4 + 2 * (n : Int)) (Pcap.putW k r t l e a)) f (4 + 2 * (n : Int) + 1) (Pcap.putA k r t l e a)) ∧ Below base w w' ∧ Keep w w' := by
  have HI : Hid (Rf w (w.alloc (.cells #[.int .i64 k, .int .i64 r, .int .i64 t, .int .i64 l, .int .i64 e, .int .i64 a] 55)) base q N M k r t l e a) := rf_new hR k r t l e a 55
  have hle := RefIs_le hR
  have hc : Pcap.chk k r t l e a = 0 := Pcap.chk_yes hr
  have e1 := err_lo (N := N) f hn
  have e2 := err_hi (N := N) f hn
  have h1 : ¬ (n : Int) < 0 := by omega
  have h2 : ¬ 16 ≤ (n : Int) := by omega
  have h2' : ¬ 16 ≤ n := by omega
  have hz : errF N f = 0 ∨ (errF N f = 1 ∧ ∀ c v M', stW N M' f c v = M') := by
    cases hf : okF N f
    · exact .inr ⟨by simp [errF, hf], fun c v M' => by simp [stW, okW, hf]⟩
    · exact .inl (by simp [errF, hf])
  have HC : Hid (∀ wc, Calls Tryz.prog 158 #[.agg #[.int .i64 k, .int .i64 r, .int .i64 t, .int .i64 l, .int .i64 e, .int .i64 a]] wc fun x w' => x = .returned (.tuple #[.int .u64 (Pcap.putW k r t l e a), .int .u64 (Pcap.putA k r t l e a), .int .i64 0]) ∧ Below wc.heap.size wc w') := fun wc => by
    have := Pcap.rput_any k r t l e a wc
    rwa [hc] at this
  generalize Pcap.putW k r t l e a = x at HC ⊢
  generalize Pcap.putA k r t l e a = y at HC ⊢
  clear hR hc hr
  have t1 : True := trivial
  have HL : Hid (base ≤ w.heap.size) := hle
  clear hle
  rcases hz with hz | ⟨hz, hM⟩
  · rw [hz] at e1 e2 ⊢
    clear hz
    go_enter Tryz.func66, Tryz.ntmps66
    go_upto_region 3 with fail
    generalize w.alloc _ = v1 at HI ⊢
    have x0 := HI.out.box.c0
    have x1 := HI.out.box.c1
    have x2 := HI.out.box.c2
    have x3 := HI.out.box.c3
    have x4 := HI.out.box.c4
    have x5 := HI.out.box.c5
    go_wp2_with (first
      | (go_at_call 158; refine (HC.out _).mono ?_; rintro r2 w2 ⟨rfl, hb2⟩; have H2 : Hid (Rf w w2 base q N M k r t l e a) := HI.out.on hb2; clear hb2 x0 x1 x2 x3 x4 x5 HI)
      | (go_at_call 159; clear t1; refine (kstore_any base q N f (4 + 2 * (n : Int)) x M _ hN1 hN H2.out.ref).mono ?_; rintro r3 w3 ⟨rfl, hR3, hB3, hK3⟩; rw [e1]; have H3 : Hid (RefIs w3 base q N (stW N M f (4 + 2 * (n : Int)) x) ∧ Below base w w3 ∧ Keep w w3) := ⟨hR3, (H2.out.below.mono HL.out).trans hB3, (Keep.of_below H2.out.below).trans hK3⟩; clear hR3 hB3 hK3 e1)
      | (go_at_call 159; refine (kstore_any base q N f (4 + 2 * (n : Int) + 1) y _ _ hN1 hN H3.out.1).mono ?_; rintro r4 w4 ⟨rfl, hR4, hB4, hK4⟩; rw [e2]; have H4 : Hid (RefIs w4 base q N (stW N (stW N M f (4 + 2 * (n : Int)) x) f (4 + 2 * (n : Int) + 1) y) ∧ Below base w w4 ∧ Keep w w4) := ⟨hR4, H3.out.2.1.trans hB4, H3.out.2.2.trans hK4⟩; clear hR4 hB4 hK4)
      | fail)
    go_ret
    exact ⟨rfl, H4.out⟩
  · rw [hM, hM, hz]
    rw [hz] at e1
    clear hz e2
    go_enter Tryz.func66, Tryz.ntmps66
    go_upto_region 3 with fail
    generalize w.alloc _ = v1 at HI ⊢
    have x0 := HI.out.box.c0
    have x1 := HI.out.box.c1
    have x2 := HI.out.box.c2
    have x3 := HI.out.box.c3
    have x4 := HI.out.box.c4
    have x5 := HI.out.box.c5
    go_wp2_with (first
      | (go_at_call 158; refine (HC.out _).mono ?_; rintro r2 w2 ⟨rfl, hb2⟩; have H2 : Hid (Rf w w2 base q N M k r t l e a) := HI.out.on hb2; clear hb2 x0 x1 x2 x3 x4 x5 HI)
      | (go_at_call 159; clear t1; refine (kstore_any base q N f (4 + 2 * (n : Int)) x M _ hN1 hN H2.out.ref).mono ?_; rintro r3 w3 ⟨rfl, hR3, hB3, hK3⟩; rw [e1]; rw [hM] at hR3; have H3 : Hid (RefIs w3 base q N M ∧ Below base w w3 ∧ Keep w w3) := ⟨hR3, (H2.out.below.mono HL.out).trans hB3, (Keep.of_below H2.out.below).trans hK3⟩; clear hR3 hB3 hK3 e1)
      | fail)
    go_ret
    exact ⟨rfl, H3.out⟩
theorem kput_any (base q N : Nat) (f i k r t l e a : Int) (M : Nat → Nat → Int) (w : World) (hN1 : 1 ≤ N) (hN : N ≤ 64) (hR : RefIs w base q N M) :
    Calls Tryz.prog 66 #[.pointer (some ⟨q, 0, none⟩), .int .i64 f, .int .i64 i, .agg #[.int .i64 k, .int .i64 r, .int .i64 t, .int .i64 l, .int .i64 e, .int .i64 a]] w fun x w' => x = .returned (.int .i64 (pE N f i k r t l e a)) ∧ RefIs w' base q N (pM N M f i k r t l e a) ∧ Below base w w' ∧ Keep w w' := by
  by_cases h : okS i = true ∧ Pcap.Rt k r t l e a
  · obtain ⟨hi, hr⟩ := h
    obtain ⟨n, rfl, hn⟩ := okS_split hi
    have e1 : pE N f n k r t l e a = errF N f := by simp [pE, hi, Pcap.rtB_yes hr, errF]
    have e2 : pM N M f n k r t l e a = stW N (stW N M f (4 + 2 * (n : Int)) (Pcap.putW k r t l e a)) f (4 + 2 * (n : Int) + 1) (Pcap.putA k r t l e a) := by
      simp only [pM, hi, Pcap.rtB_yes hr, Bool.and_self, if_true]
    rw [e1, e2]
    exact kput_ok base q N n f k r t l e a M w hN1 hN hR hn hr
  · have hb : okS i = false ∨ ¬ Pcap.Rt k r t l e a := by
      cases hi : okS i
      · exact .inl rfl
      · exact .inr fun hr => h ⟨hi, hr⟩
    have hz : (okS i && Pcap.rtB k r t l e a) = false := by
      rcases hb with hb | hb
      · simp [hb]
      · simp [Pcap.rtB_no hb]
    have e1 : pE N f i k r t l e a = 1 := by simp [pE, hz]
    have e2 : pM N M f i k r t l e a = M := by simp [pM, hz]
    rw [e1, e2]
    exact (rsput_bad base q N f i k r t l e a M w hR hb).mono fun x w' ⟨h1, h2⟩ => ⟨h1, hR.grown h2, h2.mono (RefIs_le hR), Keep.of_below h2⟩
end Go.Proofs.YtggggfhgfnbjnaaGreatDoor.Pcaptbl

/- The document's tables of capabilities: Room, Look, Put, Drop, Cons, Decons, Freeze. -/
namespace Go.Proofs.YtggggfhgfnbjnaaGreatDoor.Pcaptbl
open Go.Proofs.YtggggfhgfnbjnaaGreatDoor.Pbase Go.Proofs.YtggggfhgfnbjnaaGreatDoor.Pmem Go.Proofs.YtggggfhgfnbjnaaGreatDoor.Pradix Go.Proofs.YtggggfhgfnbjnaaGreatDoor.Pslot
open Go.RowKit
set_option linter.unusedVariables false

/-- A capability that was read lies in a new block. -/
theorem cap_laid {w w1 : World} {base q N : Nat} {M : Nat → Nat → Int} (h : Rx w1 base q N M) (hb : Below w.heap.size w w1) (k r t l e c : Int) : Rx (w1.alloc (.cells #[.int .i64 k, .int .i64 r, .int .i64 t, .int .i64 l, .int .i64 e, .int .i64 c] 55)) base q N M ∧ Below w.heap.size w (w1.alloc (.cells #[.int .i64 k, .int .i64 r, .int .i64 t, .int .i64 l, .int .i64 e, .int .i64 c] 55)) ∧ Pcap.Box6 (w1.alloc (.cells #[.int .i64 k, .int .i64 r, .int .i64 t, .int .i64 l, .int .i64 e, .int .i64 c] 55)) w1.heap.size k r t l e c :=
  ⟨h.grown (bal (Below.refl _ _) _), bal hb _, Pcap.box6_new w1 k r t l e c 55⟩
/-! ### Room -/
set_option maxRecDepth 100000 in
set_option maxHeartbeats 1000000 in
theorem rroom_any (base q N : Nat) (root a floor : Int) (M : Nat → Nat → Int) (w : World) (h : Rx w base q N M) : Calls Tryz.prog 71 #[.pointer (some ⟨q, 0, none⟩), .int .i64 root, .int .i64 a, .int .i64 floor] w fun x w' => x = .returned (.int .i64 (roE N M root a floor)) ∧ Below w.heap.size w w' := by
  have HI := rhide h
  have HL := rhide (leaf_any base q N root a M w h)
  clear h
  unfold roE
  generalize lfF N M root a = F at HL ⊢
  generalize lfI N M root a = I at HL ⊢
  generalize lfZ N M root a = Z at HL ⊢
  generalize lfE N M root a = E at HL ⊢
  by_cases hE : E = 0
  case neg =>
    rw [if_neg hE]
    have hE' : (E != 0) = true := by simp [hE]
    clear hE
    go_enter Tryz.func71, Tryz.ntmps71
    go_wp2_with (first
      | (go_at_call 72; refine HL.out.mono ?_; rintro e1 w1 ⟨rfl, hb⟩; have H1 := rhide hb; clear hb)
      | fail)
    go_ret
    exact ⟨rfl, H1.out⟩
  subst hE
  rw [if_pos rfl]
  cases Z
  case true =>
    rw [if_pos rfl]
    go_enter Tryz.func71, Tryz.ntmps71
    go_wp2_with (first
      | (go_at_call 72; refine HL.out.mono ?_; rintro e1 w1 ⟨rfl, hb⟩; have H1 := rhide hb; clear hb)
      | fail)
    go_ret
    exact ⟨rfl, H1.out⟩
  rw [if_neg (by decide)]
  have HG : Hid (∀ wc, Below w.heap.size w wc → Calls Tryz.prog 64 #[.pointer (some ⟨q, 0, none⟩), .int .i64 F, .int .i64 I] wc fun x w' => x = .returned (.tuple #[.agg #[.int .i64 (sC N M F I 0), .int .i64 (sC N M F I 1), .int .i64 (sC N M F I 2), .int .i64 (sC N M F I 3), .int .i64 (sC N M F I 4), .int .i64 (sC N M F I 5)], .int .i64 (sE N M F I)]) ∧ Below wc.heap.size wc w') := fun wc hb => rsget_any base q N F I M wc HI.out.n1 HI.out.n64 (HI.out.grown hb).ref HI.out.fit
  generalize sC N M F I 0 = C0 at HG ⊢
  generalize sC N M F I 1 = C1 at HG ⊢
  generalize sC N M F I 2 = C2 at HG ⊢
  generalize sC N M F I 3 = C3 at HG ⊢
  generalize sC N M F I 4 = C4 at HG ⊢
  generalize sC N M F I 5 = C5 at HG ⊢
  generalize sE N M F I = S at HG ⊢
  by_cases hS : S = 0
  case neg =>
    rw [if_neg hS]
    have hS' : (S != 0) = true := by simp [hS]
    clear hS
    go_enter Tryz.func71, Tryz.ntmps71
    go_wp2_with (first
      | (go_at_call 72; refine HL.out.mono ?_; rintro e1 w1 ⟨rfl, hb⟩; have H1 := rhide hb; clear hb)
      | (go_at_call 64; refine (HG.out _ H1.out).mono ?_; rintro e2 w2 ⟨rfl, hb⟩; have H2 := rhide (H1.out.trans (hb.mono H1.out.size)); clear hb)
      | fail)
    go_ret
    exact ⟨rfl, bal H2.out _⟩
  subst hS
  rw [if_pos rfl]
  by_cases hk : 1 < C0
  case pos =>
    rw [if_pos hk]
    go_enter Tryz.func71, Tryz.ntmps71
    go_wp2_with (first
      | (go_at_call 72; refine HL.out.mono ?_; rintro e1 w1 ⟨rfl, hb⟩; have H1 := rhide hb; clear hb)
      | (go_at_call 64; refine (HG.out _ H1.out).mono ?_; rintro e2 w2 ⟨rfl, hb⟩; have H2 := rhide (H1.out.trans (hb.mono H1.out.size)); clear hb)
      | fail)
    go_ret
    exact ⟨rfl, bal H2.out _⟩
  rw [if_neg hk]
  obtain ⟨U, hU⟩ : ∃ U, quB C0 C5 floor = U := ⟨_, rfl⟩
  rw [hU]
  have HU := rhide hU
  clear hU
  cases U
  · rw [if_neg (by decide)]
    go_enter Tryz.func71, Tryz.ntmps71
    go_wp2_with (first
      | (go_at_call 72; refine HL.out.mono ?_; rintro e1 w1 ⟨rfl, hb⟩; have H1 := rhide hb; clear hb)
      | (go_at_call 64; refine (HG.out _ H1.out).mono ?_; rintro e2 w2 ⟨rfl, hb⟩; have H2 := rhide (H1.out.trans (hb.mono H1.out.size)); clear hb)
      | (go_at_call 65; refine (rquiet_any _ _ _ _ _ _ floor _).mono ?_; rintro e3 w3 ⟨rfl, hb⟩; rw [HU.out]; have H3 := rhide ((bal H2.out _).trans (hb.mono (bal H2.out _).size)); clear hb)
      | fail)
    go_ret
    exact ⟨rfl, H3.out⟩
  · rw [if_pos rfl]
    go_enter Tryz.func71, Tryz.ntmps71
    go_wp2_with (first
      | (go_at_call 72; refine HL.out.mono ?_; rintro e1 w1 ⟨rfl, hb⟩; have H1 := rhide hb; clear hb)
      | (go_at_call 64; refine (HG.out _ H1.out).mono ?_; rintro e2 w2 ⟨rfl, hb⟩; have H2 := rhide (H1.out.trans (hb.mono H1.out.size)); clear hb)
      | (go_at_call 65; refine (rquiet_any _ _ _ _ _ _ floor _).mono ?_; rintro e3 w3 ⟨rfl, hb⟩; rw [HU.out]; have H3 := rhide ((bal H2.out _).trans (hb.mono (bal H2.out _).size)); clear hb)
      | fail)
    go_ret
    exact ⟨rfl, H3.out⟩
/-! ### Look -/
theorem rlk_res {w w1 : World} (hb : Below (w.alloc (.cells #[.int .i64 0, .int .i64 0, .int .i64 0, .int .i64 0, .int .i64 0, .int .i64 0] 55)).heap.size (w.alloc (.cells #[.int .i64 0, .int .i64 0, .int .i64 0, .int .i64 0, .int .i64 0, .int .i64 0] 55)) w1) : Below w.heap.size w w1 ∧ Pcap.Box6 w1 w.heap.size 0 0 0 0 0 0 :=
  ⟨(bal (Below.refl _ _) _).trans (hb.mono (by simp)), (Pcap.box6_new w 0 0 0 0 0 0 55).on hb⟩
theorem rlk_two {w w2 : World} (hb : Below w.heap.size w w2) (hx : Pcap.Box6 w2 w.heap.size 0 0 0 0 0 0) (k r t l e c : Int) : Below w.heap.size w (w2.alloc (.cells #[.int .i64 k, .int .i64 r, .int .i64 t, .int .i64 l, .int .i64 e, .int .i64 c] 55)) ∧ Pcap.Box6 (w2.alloc (.cells #[.int .i64 k, .int .i64 r, .int .i64 t, .int .i64 l, .int .i64 e, .int .i64 c] 55)) w.heap.size 0 0 0 0 0 0 ∧ Pcap.Box6 (w2.alloc (.cells #[.int .i64 k, .int .i64 r, .int .i64 t, .int .i64 l, .int .i64 e, .int .i64 c] 55)) w2.heap.size k r t l e c :=
  ⟨bal hb _, hx.on (bal (Below.refl _ _) _), Pcap.box6_new w2 k r t l e c 55⟩
set_option maxRecDepth 100000 in
set_option maxHeartbeats 1000000 in
theorem rlook_any (base q N : Nat) (root a : Int) (M : Nat → Nat → Int) (w : World) (h : Rx w base q N M) : Calls Tryz.prog 90 #[.pointer (some ⟨q, 0, none⟩), .int .i64 root, .int .i64 a] w fun x w' => x = .returned (.tuple #[.agg #[.int .i64 (lkC N M root a 0), .int .i64 (lkC N M root a 1), .int .i64 (lkC N M root a 2), .int .i64 (lkC N M root a 3), .int .i64 (lkC N M root a 4), .int .i64 (lkC N M root a 5)], .int .i64 (lkE N M root a)]) ∧ Below w.heap.size w w' := by
  have HI := rhide h
  have HL := rhide (leaf_any base q N root a M _ (h.grown (bal (Below.refl _ _) (.cells #[.int .i64 0, .int .i64 0, .int .i64 0, .int .i64 0, .int .i64 0, .int .i64 0] 55))))
  clear h
  have hno : lkE N M root a ≠ 0 → ∀ j, lkC N M root a j = 0 := fun h j => by simp [lkC, h]
  have hyes : lkE N M root a = 0 → ∀ j, lkC N M root a j = sC N M (lfF N M root a) (lfI N M root a) j := fun h j => by simp [lkC, h]
  have hlk : lkE N M root a = if lfE N M root a = 0 then if sE N M (lfF N M root a) (lfI N M root a) = 0 then if 1 < sC N M (lfF N M root a) (lfI N M root a) 0 then 0 else 3 else sE N M (lfF N M root a) (lfI N M root a) else lfE N M root a := rfl
  generalize lfF N M root a = F at HL hyes hlk
  generalize lfI N M root a = I at HL hyes hlk
  generalize lfZ N M root a = Z at HL
  generalize lfE N M root a = E at HL hlk
  by_cases hE : E = 0
  case neg =>
    rw [if_neg hE] at hlk
    have hz := hno (by rw [hlk]; exact hE)
    simp only [hz]
    rw [hlk]
    have hE' : (E != 0) = true := by simp [hE]
    clear hE hz hno hyes hlk
    go_enter Tryz.func90, Tryz.ntmps90
    go_wp2_with (first
      | (go_at_call 72; refine HL.out.mono ?_; rintro e1 w1 ⟨rfl, hb⟩; have H1 := rhide (rlk_res hb); clear hb HL; have x0 := H1.out.2.c0; have x1 := H1.out.2.c1; have x2 := H1.out.2.c2; have x3 := H1.out.2.c3; have x4 := H1.out.2.c4; have x5 := H1.out.2.c5; have z0 := H1.out.2.fz 0; have z1 := H1.out.2.fz 1; have z2 := H1.out.2.fz 2; have z3 := H1.out.2.fz 3; have z4 := H1.out.2.fz 4; have z5 := H1.out.2.fz 5)
      | fail)
    refine bodyPost_ret (v := .tuple #[.agg #[.int .i64 0, .int .i64 0, .int .i64 0, .int .i64 0, .int .i64 0, .int .i64 0], .int .i64 E]) (by simp [results, Tryz.results90, go_sem, x0, x1, x2, x3, x4, x5]) rfl ⟨rfl, ?_⟩
    exact bst (bst (bst (bst (bst (bst H1.out.1 (Nat.le_refl _) _ _) (Nat.le_refl _) _ _) (Nat.le_refl _) _ _) (Nat.le_refl _) _ _) (Nat.le_refl _) _ _) (Nat.le_refl _) _ _
  subst hE
  rw [if_pos rfl] at hlk
  have HG : Hid (∀ wc, Below w.heap.size w wc → Calls Tryz.prog 64 #[.pointer (some ⟨q, 0, none⟩), .int .i64 F, .int .i64 I] wc fun x w' => x = .returned (.tuple #[.agg #[.int .i64 (sC N M F I 0), .int .i64 (sC N M F I 1), .int .i64 (sC N M F I 2), .int .i64 (sC N M F I 3), .int .i64 (sC N M F I 4), .int .i64 (sC N M F I 5)], .int .i64 (sE N M F I)]) ∧ Below wc.heap.size wc w') := fun wc hb => rsget_any base q N F I M wc HI.out.n1 HI.out.n64 (HI.out.grown hb).ref HI.out.fit
  by_cases hS : sE N M F I = 0
  case neg =>
    rw [if_neg hS] at hlk
    have hz := hno (by rw [hlk]; exact hS)
    simp only [hz]
    rw [hlk]
    clear hz hno hyes hlk
    generalize sC N M F I 0 = C0 at HG
    generalize sC N M F I 1 = C1 at HG
    generalize sC N M F I 2 = C2 at HG
    generalize sC N M F I 3 = C3 at HG
    generalize sC N M F I 4 = C4 at HG
    generalize sC N M F I 5 = C5 at HG
    generalize sE N M F I = S at HG hS ⊢
    have hS' : (S != 0) = true := by simp [hS]
    go_enter Tryz.func90, Tryz.ntmps90
    go_wp2_with (first
      | (go_at_call 72; refine HL.out.mono ?_; rintro e1 w1 ⟨rfl, hb⟩; have H1 := rhide (rlk_res hb); clear hb HL)
      | (go_at_call 64; refine (HG.out _ H1.out.1).mono ?_; rintro e2 w2 ⟨rfl, hb⟩; have H2 := rhide (And.intro (H1.out.1.trans (hb.mono H1.out.1.size)) (H1.out.2.on hb)); clear hb H1; have H3 := rhide (rlk_two H2.out.1 H2.out.2 C0 C1 C2 C3 C4 C5); clear H2; have x0 := H3.out.2.1.c0; have x1 := H3.out.2.1.c1; have x2 := H3.out.2.1.c2; have x3 := H3.out.2.1.c3; have x4 := H3.out.2.1.c4; have x5 := H3.out.2.1.c5; have z0 := H3.out.2.1.fz 0; have z1 := H3.out.2.1.fz 1; have z2 := H3.out.2.1.fz 2; have z3 := H3.out.2.1.fz 3; have z4 := H3.out.2.1.fz 4; have z5 := H3.out.2.1.fz 5)
      | fail)
    refine bodyPost_ret (v := .tuple #[.agg #[.int .i64 0, .int .i64 0, .int .i64 0, .int .i64 0, .int .i64 0, .int .i64 0], .int .i64 S]) (by simp [results, Tryz.results90, go_sem, x0, x1, x2, x3, x4, x5]) rfl ⟨rfl, ?_⟩
    exact bst (bst (bst (bst (bst (bst H3.out.1 (Nat.le_refl _) _ _) (Nat.le_refl _) _ _) (Nat.le_refl _) _ _) (Nat.le_refl _) _ _) (Nat.le_refl _) _ _) (Nat.le_refl _) _ _
  rw [if_pos hS] at hlk
  rw [hS] at HG
  by_cases hk : 1 < sC N M F I 0
  case neg =>
    rw [if_neg hk] at hlk
    have hz := hno (by rw [hlk]; decide)
    simp only [hz]
    rw [hlk]
    clear hz hno hyes hlk hS
    generalize sC N M F I 0 = C0 at HG hk
    generalize sC N M F I 1 = C1 at HG
    generalize sC N M F I 2 = C2 at HG
    generalize sC N M F I 3 = C3 at HG
    generalize sC N M F I 4 = C4 at HG
    generalize sC N M F I 5 = C5 at HG
    have hk' : C0 ≤ 1 := by omega
    go_enter Tryz.func90, Tryz.ntmps90
    go_upto_region 5 with (first
      | (go_at_call 72; refine HL.out.mono ?_; rintro e1 w1 ⟨rfl, hb⟩; have H1 := rhide (rlk_res hb); clear hb HL)
      | (go_at_call 64; refine (HG.out _ H1.out.1).mono ?_; rintro e2 w2 ⟨rfl, hb⟩; have H2 := rhide (And.intro (H1.out.1.trans (hb.mono H1.out.1.size)) (H1.out.2.on hb)); clear hb H1)
      | fail)
    have H3 := rlk_two H2.out.1 H2.out.2 C0 C1 C2 C3 C4 C5
    generalize w2.alloc _ = w3 at H3 ⊢
    generalize w2.heap.size = D at H3 ⊢
    have HB3 := rhide H3.1
    have x0 := H3.2.1.c0
    have x1 := H3.2.1.c1
    have x2 := H3.2.1.c2
    have x3 := H3.2.1.c3
    have x4 := H3.2.1.c4
    have x5 := H3.2.1.c5
    have z0 := H3.2.1.fz 0
    have z1 := H3.2.1.fz 1
    have z2 := H3.2.1.fz 2
    have z3 := H3.2.1.fz 3
    have z4 := H3.2.1.fz 4
    have z5 := H3.2.1.fz 5
    have y0 := H3.2.2.c0
    have y1 := H3.2.2.c1
    have y2 := H3.2.2.c2
    have y3 := H3.2.2.c3
    have y4 := H3.2.2.c4
    have y5 := H3.2.2.c5
    clear H3 H2
    go_wp2
    refine bodyPost_ret (v := .tuple #[.agg #[.int .i64 0, .int .i64 0, .int .i64 0, .int .i64 0, .int .i64 0, .int .i64 0], .int .i64 3]) (by simp [results, Tryz.results90, go_sem, x0, x1, x2, x3, x4, x5]) rfl ⟨rfl, ?_⟩
    exact bst (bst (bst (bst (bst (bst HB3.out (Nat.le_refl _) _ _) (Nat.le_refl _) _ _) (Nat.le_refl _) _ _) (Nat.le_refl _) _ _) (Nat.le_refl _) _ _) (Nat.le_refl _) _ _
  rw [if_pos hk] at hlk
  simp only [hyes hlk]
  rw [hlk]
  clear hno hyes hlk hS
  generalize sC N M F I 0 = C0 at HG hk ⊢
  generalize sC N M F I 1 = C1 at HG ⊢
  generalize sC N M F I 2 = C2 at HG ⊢
  generalize sC N M F I 3 = C3 at HG ⊢
  generalize sC N M F I 4 = C4 at HG ⊢
  generalize sC N M F I 5 = C5 at HG ⊢
  go_enter Tryz.func90, Tryz.ntmps90
  go_upto_region 5 with (first
    | (go_at_call 72; refine HL.out.mono ?_; rintro e1 w1 ⟨rfl, hb⟩; have H1 := rhide (rlk_res hb); clear hb HL)
    | (go_at_call 64; refine (HG.out _ H1.out.1).mono ?_; rintro e2 w2 ⟨rfl, hb⟩; have H2 := rhide (And.intro (H1.out.1.trans (hb.mono H1.out.1.size)) (H1.out.2.on hb)); clear hb H1)
    | fail)
  have H3 := rlk_two H2.out.1 H2.out.2 C0 C1 C2 C3 C4 C5
  generalize w2.alloc _ = w3 at H3 ⊢
  generalize w2.heap.size = D at H3 ⊢
  have HB3 := rhide H3.1
  have x0 := H3.2.1.c0
  have x1 := H3.2.1.c1
  have x2 := H3.2.1.c2
  have x3 := H3.2.1.c3
  have x4 := H3.2.1.c4
  have x5 := H3.2.1.c5
  have z0 := H3.2.1.fz 0
  have z1 := H3.2.1.fz 1
  have z2 := H3.2.1.fz 2
  have z3 := H3.2.1.fz 3
  have z4 := H3.2.1.fz 4
  have z5 := H3.2.1.fz 5
  have y0 := H3.2.2.c0
  have y1 := H3.2.2.c1
  have y2 := H3.2.2.c2
  have y3 := H3.2.2.c3
  have y4 := H3.2.2.c4
  have y5 := H3.2.2.c5
  clear H3 H2
  go_wp2
  refine bodyPost_ret (v := .tuple #[.agg #[.int .i64 C0, .int .i64 C1, .int .i64 C2, .int .i64 C3, .int .i64 C4, .int .i64 C5], .int .i64 0]) (by simp [results, Tryz.results90, go_sem, x0, x1, x2, x3, x4, x5]) rfl ⟨rfl, ?_⟩
  exact bst (bst (bst (bst (bst (bst HB3.out (Nat.le_refl _) _ _) (Nat.le_refl _) _ _) (Nat.le_refl _) _ _) (Nat.le_refl _) _ _) (Nat.le_refl _) _ _) (Nat.le_refl _) _ _
end Go.Proofs.YtggggfhgfnbjnaaGreatDoor.Pcaptbl

/- The document's Put, Freeze and Cons. -/
namespace Go.Proofs.YtggggfhgfnbjnaaGreatDoor.Pcaptbl
open Go.Proofs.YtggggfhgfnbjnaaGreatDoor.Pbase Go.Proofs.YtggggfhgfnbjnaaGreatDoor.Pmem Go.Proofs.YtggggfhgfnbjnaaGreatDoor.Pradix Go.Proofs.YtggggfhgfnbjnaaGreatDoor.Pslot
open Go.RowKit
set_option linter.unusedVariables false

/-- The document's memory and a capability beside it. -/
structure Rb (w0 w : World) (base q N : Nat) (M : Nat → Nat → Int) (D : Nat) (k r t l e c : Int) : Prop where
  rx : Rx w base q N M
  below : Below w0.heap.size w0 w
  box : Pcap.Box6 w D k r t l e c
theorem Rb.on {w0 w w' : World} {base q N : Nat} {M : Nat → Nat → Int} {D : Nat} {k r t l e c : Int} (h : Rb w0 w base q N M D k r t l e c) (hB : Below w.heap.size w w') : Rb w0 w' base q N M D k r t l e c :=
  ⟨h.rx.grown hB, h.below.trans (hB.mono h.below.size), h.box.on hB⟩
theorem rb_new {w : World} {base q N : Nat} {M : Nat → Nat → Int} (h : Rx w base q N M) (k r t l e c : Int) : Rb w (w.alloc (.cells #[.int .i64 k, .int .i64 r, .int .i64 t, .int .i64 l, .int .i64 e, .int .i64 c] 55)) base q N M w.heap.size k r t l e c :=
  ⟨h.grown (bal (Below.refl _ _) _), bal (Below.refl _ _) _, Pcap.box6_new w k r t l e c 55⟩
theorem rx_le {w : World} {base q N : Nat} {M : Nat → Nat → Int} (h : Rx w base q N M) : base ≤ w.heap.size := RefIs_le h.ref
/-- What is left where nothing of the memory was written. -/
theorem rx_same {w w' : World} {base q N : Nat} {M : Nat → Nat → Int} (h : Rx w base q N M) (hb : Below w.heap.size w w') : Rx w' base q N M ∧ Below base w w' ∧ Keep w w' := ⟨h.grown hb, hb.mono (rx_le h), Keep.of_below hb⟩
/-- What is left behind the slot's Put. -/
theorem rx_put {w w3 w4 : World} {base q N : Nat} {M M' : Nat → Nat → Int} (h : Rx w base q N M) (hb : Below w.heap.size w w3) (hR : RefIs w4 base q N M') (hF : Fit M') (hB : Below base w3 w4) (hK : Keep w3 w4) : Rx w4 base q N M' ∧ Below base w w4 ∧ Keep w w4 :=
  ⟨h.turn hR hF, (hb.mono (rx_le h)).trans hB, (Keep.of_below hb).trans hK⟩
set_option maxRecDepth 100000 in
set_option maxHeartbeats 1000000 in
theorem rput_any (base q N : Nat) (root a k r t l e c floor : Int) (M : Nat → Nat → Int) (w : World) (h : Rx w base q N M) : Calls Tryz.prog 19 #[.pointer (some ⟨q, 0, none⟩), .int .i64 root, .int .i64 a, .agg #[.int .i64 k, .int .i64 r, .int .i64 t, .int .i64 l, .int .i64 e, .int .i64 c], .int .i64 floor] w fun x w' => x = .returned (.int .i64 (ptE N M root a k r t l e c floor)) ∧ Rx w' base q N (ptM N M root a k r t l e c floor) ∧ Below base w w' ∧ Keep w w' := by
  have HM := rhide h
  have HP := rb_new h k r t l e c
  clear h
  by_cases hr : Pcap.Rt k r t l e c
  case neg =>
    have e1 : ptE N M root a k r t l e c floor = 1 := by simp [ptE, upB, Pcap.rtB_no hr]
    have e2 : ptM N M root a k r t l e c floor = M := by simp [ptM, e1]
    have hc : Pcap.chk k r t l e c = 1 := Pcap.chk_no hr
    rw [e1, e2]
    clear e1 e2 hr
    go_enter Tryz.func19, Tryz.ntmps19
    go_upto_region 1 with fail
    generalize w.alloc _ = w1 at HP ⊢
    generalize w.heap.size = D at HP ⊢
    have H1 := rhide HP
    clear HP
    have x0 := H1.out.box.c0
    have x1 := H1.out.box.c1
    have x2 := H1.out.box.c2
    have x3 := H1.out.box.c3
    have x4 := H1.out.box.c4
    have x5 := H1.out.box.c5
    go_wp2_with (first
      | (go_at_call 70; refine (Pcap.rcheck_any k r t l e c _).mono ?_; rintro e2 w2 ⟨rfl, hb⟩; rw [hc]; have H2 := rhide (H1.out.on hb); clear hb H1 x0 x1 x2 x3 x4 x5; have x0 := H2.out.box.c0; have x1 := H2.out.box.c1; have x2 := H2.out.box.c2; have x3 := H2.out.box.c3; have x4 := H2.out.box.c4; have x5 := H2.out.box.c5)
      | fail)
    go_ret
    exact ⟨rfl, rx_same HM.out H2.out.below⟩
  have hc : Pcap.chk k r t l e c = 0 := Pcap.chk_yes hr
  by_cases hk : 1 < k
  case neg =>
    have e1 : ptE N M root a k r t l e c floor = 1 := by simp [ptE, upB, hk]
    have e2 : ptM N M root a k r t l e c floor = M := by simp [ptM, e1]
    have hk' : k ≤ 1 := by omega
    rw [e1, e2]
    clear e1 e2 hr hk
    go_enter Tryz.func19, Tryz.ntmps19
    go_upto_region 1 with fail
    generalize w.alloc _ = w1 at HP ⊢
    generalize w.heap.size = D at HP ⊢
    have H1 := rhide HP
    clear HP
    have x0 := H1.out.box.c0
    have x1 := H1.out.box.c1
    have x2 := H1.out.box.c2
    have x3 := H1.out.box.c3
    have x4 := H1.out.box.c4
    have x5 := H1.out.box.c5
    go_wp2_with (first
      | (go_at_call 70; refine (Pcap.rcheck_any k r t l e c _).mono ?_; rintro e2 w2 ⟨rfl, hb⟩; rw [hc]; have H2 := rhide (H1.out.on hb); clear hb H1 x0 x1 x2 x3 x4 x5; have x0 := H2.out.box.c0; have x1 := H2.out.box.c1; have x2 := H2.out.box.c2; have x3 := H2.out.box.c3; have x4 := H2.out.box.c4; have x5 := H2.out.box.c5)
      | fail)
    go_ret
    exact ⟨rfl, rx_same HM.out H2.out.below⟩
  have hk' : ¬ k ≤ 1 := by omega
  have e1 : ptE N M root a k r t l e c floor = roE N M root a floor := by simp [ptE, upB, hk, Pcap.rtB_yes hr]
  have e2 : ptM N M root a k r t l e c floor = if roE N M root a floor = 0 then pM N M (lfF N M root a) (lfI N M root a) k r t l e c else M := by simp [ptM, e1]
  have e3 : roE N M root a floor = 0 → pE N (lfF N M root a) (lfI N M root a) k r t l e c = 0 := fun h => ro_put hr h
  rw [e1, e2]
  clear e1 e2 hr hk
  by_cases hE : roE N M root a floor = 0
  case neg =>
    rw [if_neg hE]
    generalize hEE : roE N M root a floor = E at hE ⊢
    have HEE := rhide hEE
    have hE' : (E != 0) = true := by simp [hE]
    clear e3 hE hEE
    go_enter Tryz.func19, Tryz.ntmps19
    go_upto_region 1 with fail
    generalize w.alloc _ = w1 at HP ⊢
    generalize w.heap.size = D at HP ⊢
    have H1 := rhide HP
    clear HP
    have x0 := H1.out.box.c0
    have x1 := H1.out.box.c1
    have x2 := H1.out.box.c2
    have x3 := H1.out.box.c3
    have x4 := H1.out.box.c4
    have x5 := H1.out.box.c5
    go_wp2_with (first
      | (go_at_call 70; refine (Pcap.rcheck_any k r t l e c _).mono ?_; rintro e2 w2 ⟨rfl, hb⟩; rw [hc]; have H2 := rhide (H1.out.on hb); clear hb H1 x0 x1 x2 x3 x4 x5; have x0 := H2.out.box.c0; have x1 := H2.out.box.c1; have x2 := H2.out.box.c2; have x3 := H2.out.box.c3; have x4 := H2.out.box.c4; have x5 := H2.out.box.c5)
      | (go_at_call 71; refine (rroom_any base q N root a floor M _ H2.out.rx).mono ?_; rintro e3 w3 ⟨rfl, hb⟩; rw [HEE.out]; have H3 := rhide (H2.out.on hb); clear hb H2 x0 x1 x2 x3 x4 x5; have x0 := H3.out.box.c0; have x1 := H3.out.box.c1; have x2 := H3.out.box.c2; have x3 := H3.out.box.c3; have x4 := H3.out.box.c4; have x5 := H3.out.box.c5)
      | fail)
    go_ret
    exact ⟨rfl, rx_same HM.out H3.out.below⟩
  have HE4 := rhide (e3 hE)
  rw [if_pos hE, hE]
  have HEE := rhide hE
  clear e3 hE
  go_enter Tryz.func19, Tryz.ntmps19
  go_upto_region 1 with fail
  generalize w.alloc _ = w1 at HP ⊢
  generalize w.heap.size = D at HP ⊢
  have H1 := rhide HP
  clear HP
  have x0 := H1.out.box.c0
  have x1 := H1.out.box.c1
  have x2 := H1.out.box.c2
  have x3 := H1.out.box.c3
  have x4 := H1.out.box.c4
  have x5 := H1.out.box.c5
  go_wp2_with (first
    | (go_at_call 70; refine (Pcap.rcheck_any k r t l e c _).mono ?_; rintro e2 w2 ⟨rfl, hb⟩; rw [hc]; have H2 := rhide (H1.out.on hb); clear hb H1 x0 x1 x2 x3 x4 x5; have x0 := H2.out.box.c0; have x1 := H2.out.box.c1; have x2 := H2.out.box.c2; have x3 := H2.out.box.c3; have x4 := H2.out.box.c4; have x5 := H2.out.box.c5)
    | (go_at_call 71; refine (rroom_any base q N root a floor M _ H2.out.rx).mono ?_; rintro e3 w3 ⟨rfl, hb⟩; rw [HEE.out]; have H3 := rhide (H2.out.on hb); clear hb H2 x0 x1 x2 x3 x4 x5; have x0 := H3.out.box.c0; have x1 := H3.out.box.c1; have x2 := H3.out.box.c2; have x3 := H3.out.box.c3; have x4 := H3.out.box.c4; have x5 := H3.out.box.c5)
    | (go_at_call 72; refine (leaf_any base q N root a M _ H3.out.rx).mono ?_; rintro e4 w4 ⟨rfl, hb⟩; have H4 := rhide (H3.out.on hb); clear hb H3 x0 x1 x2 x3 x4 x5; have x0 := H4.out.box.c0; have x1 := H4.out.box.c1; have x2 := H4.out.box.c2; have x3 := H4.out.box.c3; have x4 := H4.out.box.c4; have x5 := H4.out.box.c5)
    | (go_at_call 66; refine (kput_any base q N _ _ k r t l e c M _ HM.out.n1 HM.out.n64 H4.out.rx.ref).mono ?_; rintro e5 w5 ⟨rfl, hR, hB, hK⟩; rw [HE4.out]; have H5 := rhide (rx_put HM.out H4.out.below hR (fit_pM HM.out.fit N _ _ _ _ _ _ _ _) hB hK); clear hR hB hK)
    | fail)
  go_ret
  exact ⟨rfl, H5.out⟩

/-! ### Freeze -/
/-! ### Cons -/
set_option maxRecDepth 100000 in
set_option maxHeartbeats 1000000 in
theorem rcons_any (base q N : Nat) (root high f floor : Int) (M : Nat → Nat → Int) (w : World) (h : Rx w base q N M) : Calls Tryz.prog 17 #[.pointer (some ⟨q, 0, none⟩), .int .i64 root, .int .i64 high, .int .i64 f, .int .i64 floor] w fun x w' => x = .returned (.int .i64 (coE N M root high f floor)) ∧ Rx w' base q N (coM N M root high f floor) ∧ Below base w w' ∧ Keep w w' := by
  have HM := rhide h
  have e2 : coM N M root high f floor = if coE N M root high f floor = 0 then pM N M root high 3 31 f 0 0 0 else M := rfl
  have e3 : coE N M root high f floor = 0 → pE N root high 3 31 f 0 0 0 = 0 := fun hh => co_put h.n64 hh
  rw [e2]
  clear e2
  cases hs : okS high
  case false =>
    have e1 : coE N M root high f floor = 1 := by simp [coE, hs]
    rw [e1, if_neg (by decide)]
    clear h e1 e3
    rcases okS_no hs with h1 | h1
    · clear hs
      go_enter Tryz.func17, Tryz.ntmps17
      go_wp2
      go_ret
      exact ⟨rfl, rx_same HM.out (Below.refl _ _)⟩
    · clear hs
      have h2 : ¬ high < 0 := by omega
      go_enter Tryz.func17, Tryz.ntmps17
      go_wp2
      go_ret
      exact ⟨rfl, rx_same HM.out (Below.refl _ _)⟩
  obtain ⟨s0, s1⟩ := okS_yes hs
  have s2 : ¬ high < 0 := by omega
  have s3 : ¬ 16 ≤ high := by omega
  have ec : coE N M root high f floor = if tbB N M root 0 = true ∧ tbB N M f 1 = true then if Phead.ghZ N M root = true ∨ Phead.ghZ N M f = true then 6 else if sE N M root high = 0 then if 1 < sC N M root high 0 then 10 else
    if quB (sC N M root high 0) (sC N M root high 5) floor = true then 0 else 6 else sE N M root high else 4 := by simp [coE, hs]
  have HG : Hid (∀ wc, Below w.heap.size w wc → Calls Tryz.prog 64 #[.pointer (some ⟨q, 0, none⟩), .int .i64 root, .int .i64 high] wc fun x w' => x = .returned (.tuple #[.agg #[.int .i64 (sC N M root high 0), .int .i64 (sC N M root high 1), .int .i64 (sC N M root high 2), .int .i64 (sC N M root high 3), .int .i64 (sC N M root high 4), .int .i64 (sC N M root high 5)], .int .i64 (sE N M root high)]) ∧ Below wc.heap.size wc w') := fun wc hb => rsget_any base q N root high M wc h.n1 h.n64 (h.grown hb).ref h.fit
  have HT : Hid (∀ wc, Below w.heap.size w wc → Calls Tryz.prog 63 #[.pointer (some ⟨q, 0, none⟩), .int .i64 root, .int .i64 0] wc fun x w' => x = .returned (.tuple #[.bool (tbB N M root 0), .bool (Phead.ghZ N M root)]) ∧ Below wc.heap.size wc w') := fun wc hb => table_any base q N root 0 M wc (h.grown hb)
  have HU : Hid (∀ wc, Below w.heap.size w wc → Calls Tryz.prog 63 #[.pointer (some ⟨q, 0, none⟩), .int .i64 f, .int .i64 1] wc fun x w' => x = .returned (.tuple #[.bool (tbB N M f 1), .bool (Phead.ghZ N M f)]) ∧ Below wc.heap.size wc w') := fun wc hb => table_any base q N f 1 M wc (h.grown hb)
  rw [ec] at e3 ⊢
  clear hs s0 s1 h ec
  generalize tbB N M root 0 = T1 at HT e3 ⊢
  generalize tbB N M f 1 = T2 at HU e3 ⊢
  generalize Phead.ghZ N M root = Z1 at HT e3 ⊢
  generalize Phead.ghZ N M f = Z2 at HU e3 ⊢
  generalize sC N M root high 0 = C0 at HG e3 ⊢
  generalize sC N M root high 1 = C1 at HG e3 ⊢
  generalize sC N M root high 2 = C2 at HG e3 ⊢
  generalize sC N M root high 3 = C3 at HG e3 ⊢
  generalize sC N M root high 4 = C4 at HG e3 ⊢
  generalize sC N M root high 5 = C5 at HG e3 ⊢
  generalize sE N M root high = S at HG e3 ⊢
  have t1 : True := trivial
  have t2 : True := trivial
  cases T1
  case false =>
    simp only [Bool.false_eq_true, false_and, if_false]
    rw [if_neg (by decide)]
    clear e3
    go_enter Tryz.func17, Tryz.ntmps17
    go_wp2_with (first
      | (go_at_call 63; clear t1; refine (HT.out _ (Below.refl _ _)).mono ?_; rintro e1 w1 ⟨rfl, hb⟩; have H1 := rhide hb; clear hb)
      | (go_at_call 63; clear t2; refine (HU.out _ H1.out).mono ?_; rintro e2 w2 ⟨rfl, hb⟩; have H2 := rhide (H1.out.trans (hb.mono H1.out.size)); clear hb)
      | fail)
    go_ret
    exact ⟨rfl, rx_same HM.out H2.out⟩
  cases T2
  case false =>
    simp only [Bool.false_eq_true, and_false, if_false]
    rw [if_neg (by decide)]
    clear e3
    go_enter Tryz.func17, Tryz.ntmps17
    go_wp2_with (first
      | (go_at_call 63; clear t1; refine (HT.out _ (Below.refl _ _)).mono ?_; rintro e1 w1 ⟨rfl, hb⟩; have H1 := rhide hb; clear hb)
      | (go_at_call 63; clear t2; refine (HU.out _ H1.out).mono ?_; rintro e2 w2 ⟨rfl, hb⟩; have H2 := rhide (H1.out.trans (hb.mono H1.out.size)); clear hb)
      | fail)
    go_ret
    exact ⟨rfl, rx_same HM.out H2.out⟩
  simp only [and_self, if_true] at e3 ⊢
  cases Z1
  case true =>
    simp only [true_or, if_true]
    rw [if_neg (by decide)]
    clear e3
    go_enter Tryz.func17, Tryz.ntmps17
    go_wp2_with (first
      | (go_at_call 63; clear t1; refine (HT.out _ (Below.refl _ _)).mono ?_; rintro e1 w1 ⟨rfl, hb⟩; have H1 := rhide hb; clear hb)
      | (go_at_call 63; clear t2; refine (HU.out _ H1.out).mono ?_; rintro e2 w2 ⟨rfl, hb⟩; have H2 := rhide (H1.out.trans (hb.mono H1.out.size)); clear hb)
      | fail)
    go_ret
    exact ⟨rfl, rx_same HM.out H2.out⟩
  cases Z2
  case true =>
    simp only [or_true, if_true]
    rw [if_neg (by decide)]
    clear e3
    go_enter Tryz.func17, Tryz.ntmps17
    go_wp2_with (first
      | (go_at_call 63; clear t1; refine (HT.out _ (Below.refl _ _)).mono ?_; rintro e1 w1 ⟨rfl, hb⟩; have H1 := rhide hb; clear hb)
      | (go_at_call 63; clear t2; refine (HU.out _ H1.out).mono ?_; rintro e2 w2 ⟨rfl, hb⟩; have H2 := rhide (H1.out.trans (hb.mono H1.out.size)); clear hb)
      | fail)
    go_ret
    exact ⟨rfl, rx_same HM.out H2.out⟩
  simp only [Bool.false_eq_true, or_self, if_false] at e3 ⊢
  by_cases hS : S = 0
  case neg =>
    simp only [if_neg hS]
    have hS' : (S != 0) = true := by simp [hS]
    clear e3
    go_enter Tryz.func17, Tryz.ntmps17
    go_wp2_with (first
      | (go_at_call 63; clear t1; refine (HT.out _ (Below.refl _ _)).mono ?_; rintro e1 w1 ⟨rfl, hb⟩; have H1 := rhide hb; clear hb)
      | (go_at_call 63; clear t2; refine (HU.out _ H1.out).mono ?_; rintro e2 w2 ⟨rfl, hb⟩; have H2 := rhide (H1.out.trans (hb.mono H1.out.size)); clear hb)
      | (go_at_call 64; refine (HG.out _ H2.out).mono ?_; rintro e3 w3 ⟨rfl, hb⟩; have H3 := rhide (H2.out.trans (hb.mono H2.out.size)); clear hb)
      | fail)
    go_ret
    exact ⟨rfl, rx_same HM.out (bal H3.out _)⟩
  subst hS
  simp only [if_true] at e3 ⊢
  by_cases hk : 1 < C0
  case pos =>
    simp only [if_pos hk]
    rw [if_neg (by decide)]
    clear e3
    go_enter Tryz.func17, Tryz.ntmps17
    go_wp2_with (first
      | (go_at_call 63; clear t1; refine (HT.out _ (Below.refl _ _)).mono ?_; rintro e1 w1 ⟨rfl, hb⟩; have H1 := rhide hb; clear hb)
      | (go_at_call 63; clear t2; refine (HU.out _ H1.out).mono ?_; rintro e2 w2 ⟨rfl, hb⟩; have H2 := rhide (H1.out.trans (hb.mono H1.out.size)); clear hb)
      | (go_at_call 64; refine (HG.out _ H2.out).mono ?_; rintro e3 w3 ⟨rfl, hb⟩; have H3 := rhide (H2.out.trans (hb.mono H2.out.size)); clear hb)
      | fail)
    go_ret
    exact ⟨rfl, rx_same HM.out (bal H3.out _)⟩
  simp only [if_neg hk] at e3 ⊢
  obtain ⟨V, hV⟩ : ∃ V, quB C0 C5 floor = V := ⟨_, rfl⟩
  rw [hV] at e3 ⊢
  have HV := rhide hV
  clear hV
  cases V
  · simp only [Bool.false_eq_true, if_false]
    rw [if_neg (by decide)]
    clear e3
    go_enter Tryz.func17, Tryz.ntmps17
    go_wp2_with (first
      | (go_at_call 63; clear t1; refine (HT.out _ (Below.refl _ _)).mono ?_; rintro e1 w1 ⟨rfl, hb⟩; have H1 := rhide hb; clear hb)
      | (go_at_call 63; clear t2; refine (HU.out _ H1.out).mono ?_; rintro e2 w2 ⟨rfl, hb⟩; have H2 := rhide (H1.out.trans (hb.mono H1.out.size)); clear hb)
      | (go_at_call 64; refine (HG.out _ H2.out).mono ?_; rintro e3 w3 ⟨rfl, hb⟩; have H3 := rhide (H2.out.trans (hb.mono H2.out.size)); clear hb)
      | (go_at_call 65; refine (rquiet_any _ _ _ _ _ _ floor _).mono ?_; rintro e4 w4 ⟨rfl, hb⟩; rw [HV.out]; have H4 := rhide ((bal H3.out _).trans (hb.mono (bal H3.out _).size)); clear hb)
      | fail)
    go_ret
    exact ⟨rfl, rx_same HM.out H4.out⟩
  · simp only [if_true] at e3 ⊢
    have HP := rhide (e3 trivial)
    clear e3
    go_enter Tryz.func17, Tryz.ntmps17
    go_wp2_with (first
      | (go_at_call 63; clear t1; refine (HT.out _ (Below.refl _ _)).mono ?_; rintro e1 w1 ⟨rfl, hb⟩; have H1 := rhide hb; clear hb)
      | (go_at_call 63; clear t2; refine (HU.out _ H1.out).mono ?_; rintro e2 w2 ⟨rfl, hb⟩; have H2 := rhide (H1.out.trans (hb.mono H1.out.size)); clear hb)
      | (go_at_call 64; refine (HG.out _ H2.out).mono ?_; rintro e3 w3 ⟨rfl, hb⟩; have H3 := rhide (H2.out.trans (hb.mono H2.out.size)); clear hb)
      | (go_at_call 65; refine (rquiet_any _ _ _ _ _ _ floor _).mono ?_; rintro e4 w4 ⟨rfl, hb⟩; rw [HV.out]; have H4 := rhide ((bal H3.out _).trans (hb.mono (bal H3.out _).size)); clear hb)
      | (go_at_call 66; refine (kput_any base q N root high 3 31 f 0 0 0 M _ HM.out.n1 HM.out.n64 (HM.out.grown H4.out).ref).mono ?_; rintro e5 w5 ⟨rfl, hR, hB, hK⟩; rw [HP.out]; have H5 := rhide (rx_put HM.out H4.out hR (fit_pM HM.out.fit N _ _ _ _ _ _ _ _) hB hK); clear hR hB hK)
      | fail)
    go_ret
    exact ⟨rfl, H5.out⟩
end Go.Proofs.YtggggfhgfnbjnaaGreatDoor.Pcaptbl

/- The document's Decons and Drop. -/
namespace Go.Proofs.YtggggfhgfnbjnaaGreatDoor.Pcaptbl
open Go.Proofs.YtggggfhgfnbjnaaGreatDoor.Pbase Go.Proofs.YtggggfhgfnbjnaaGreatDoor.Pmem Go.Proofs.YtggggfhgfnbjnaaGreatDoor.Pradix Go.Proofs.YtggggfhgfnbjnaaGreatDoor.Pslot
open Go.RowKit
set_option linter.unusedVariables false

/-! ### Decons -/
theorem drew1 {w : World} {p0 : Addr} {a : Option Value} (h0 : w.cell? p0 = a) : w.drew.cell? p0 = a := h0
/-- A head that was read lies behind a capability's block. -/
theorem rd_laid {w w3 w4 : World} {base q N : Nat} {M : Nat → Nat → Int} {D : Nat} {k r t l e c : Int} (h : Rb w w3 base q N M D k r t l e c) (hb : Below w3.heap.size w3 w4) (k' l' : Int) (z' : Bool) (t' : Int) : Rb w (w4.alloc (.cells #[.int .i64 k', .int .i64 l', .bool z', .int .i64 t'] 127)) base q N M D k r t l e c ∧ Phead.Box4 (w4.alloc (.cells #[.int .i64 k', .int .i64 l', .bool z', .int .i64 t'] 127)) w4.heap.size k' l' z' t' :=
  ⟨(h.on hb).on (bal (Below.refl _ _) _), Phead.box4_new w4 k' l' z' t' 127⟩
theorem rb_laid {w w3 : World} {base q N : Nat} {M : Nat → Nat → Int} (h : Rx w base q N M) (hb : Below w.heap.size w w3) (k r t l e c : Int) : Rb w (w3.alloc (.cells #[.int .i64 k, .int .i64 r, .int .i64 t, .int .i64 l, .int .i64 e, .int .i64 c] 55)) base q N M w3.heap.size k r t l e c :=
  ⟨h.grown (bal hb _), bal hb _, Pcap.box6_new w3 k r t l e c 55⟩
end Go.Proofs.YtggggfhgfnbjnaaGreatDoor.Pcaptbl

/- The document's Drop. -/
namespace Go.Proofs.YtggggfhgfnbjnaaGreatDoor.Pcaptbl
open Go.Proofs.YtggggfhgfnbjnaaGreatDoor.Pbase Go.Proofs.YtggggfhgfnbjnaaGreatDoor.Pmem Go.Proofs.YtggggfhgfnbjnaaGreatDoor.Pradix Go.Proofs.YtggggfhgfnbjnaaGreatDoor.Pslot
open Go.RowKit
set_option linter.unusedVariables false

/-- A block that begins with a number is none of the document's memory. -/
theorem ref_apart {w w' : World} {base q N : Nat} {M : Nat → Nat → Int} {B : Nat} {z : Int} (h : RefIs w base q N M) (hN : 1 ≤ N) (hB : w.cell? ⟨B, 0, none⟩ = some (.int .i64 z)) (hk : ∀ k, k ≠ B → w'.heap[k]? = w.heap[k]?) : RefIs w' base q N M := by
  obtain ⟨hb, v0, hv, r, cc, h1, h2, h3⟩ := h
  rcases h1.2 with ⟨_, e⟩ | ⟨g, cap, cur, e, hg, hh, rest⟩
  · omega
  · refine ⟨hb, v0, ?_, r, cc, ⟨h1.1, .inr ⟨g, cap, cur, e, hg, ?_, rest⟩⟩, fun j hj => ?_, h3⟩
    · rw [hk q (by rintro rfl; rw [cell_of_row _ _ _ _ _ _ hv, e] at hB; simp at hB)]; exact hv
    · subst e
      rw [hk g (by rintro rfl; rw [h1.cellAt 0 (by omega)] at hB; simp at hB)]; exact hh
    · obtain ⟨hbj, cu, hc, hw⟩ := h2 j hj
      refine ⟨hbj, cu, ?_, hw⟩
      rw [hk (r j) (by intro e; rw [← e, cell_of_row _ _ _ _ _ _ hc, hw 0 (by omega)] at hB; simp at hB)]; exact hc
theorem set6_other (w9 : World) (B : Nat) (C0 C1 C2 C3 C4 C5 : Int) (k : Nat) (hk : k ≠ B) : ((((((w9.setCell ⟨B, 0, none⟩ (.int .i64 C0)).setCell ⟨B, 1, none⟩ (.int .i64 C1)).setCell ⟨B, 2, none⟩ (.int .i64 C2)).setCell ⟨B, 3, none⟩ (.int .i64 C3)).setCell ⟨B, 4, none⟩ (.int .i64 C4)).setCell ⟨B, 5, none⟩ (.int .i64 C5)).heap[k]? = w9.heap[k]? := by
  rw [heap_setCell_other _ _ _ _ hk, heap_setCell_other _ _ _ _ hk, heap_setCell_other _ _ _ _ hk, heap_setCell_other _ _ _ _ hk, heap_setCell_other _ _ _ _ hk, heap_setCell_other _ _ _ _ hk]
/-- The document's memory, a result's block and a capability's behind it. -/
structure Rd (w0 w : World) (base q N : Nat) (M : Nat → Nat → Int) (D : Nat) (k r t l e c : Int) : Prop where
  rb : Rb w0 w base q N M D k r t l e c
  res : Pcap.Box6 w w0.heap.size 0 0 0 0 0 0
  ne : D ≠ w0.heap.size
theorem Rd.on {w0 w w' : World} {base q N : Nat} {M : Nat → Nat → Int} {D : Nat} {k r t l e c : Int} (h : Rd w0 w base q N M D k r t l e c) (hB : Below w.heap.size w w') : Rd w0 w' base q N M D k r t l e c := ⟨h.rb.on hB, h.res.on hB, h.ne⟩
theorem rdrop_laid {w w2 : World} {base q N : Nat} {M : Nat → Nat → Int} (h : Rx w base q N M) (hb : Below w.heap.size w w2) (hx : Pcap.Box6 w2 w.heap.size 0 0 0 0 0 0) (k r t l e c : Int) : Rd w (w2.alloc (.cells #[.int .i64 k, .int .i64 r, .int .i64 t, .int .i64 l, .int .i64 e, .int .i64 c] 55)) base q N M w2.heap.size k r t l e c :=
  ⟨rb_laid h hb k r t l e c, hx.on (bal (Below.refl _ _) _), Nat.ne_of_gt hx.lt⟩
/-- What the capability's block has stays, behind the slot's Put and behind what is stored into the result. -/
theorem rdrop_keep {w0 w7 w9 : World} {base q N : Nat} {M : Nat → Nat → Int} {D : Nat} {C0 C1 C2 C3 C4 C5 : Int} (h : Rd w0 w7 base q N M D C0 C1 C2 C3 C4 C5) (hK : Keep w7 w9) :
    w9.cell? ⟨D, 0, none⟩ = some (.int .i64 C0) ∧ w9.cell? ⟨D, 1, none⟩ = some (.int .i64 C1) ∧ w9.cell? ⟨D, 2, none⟩ = some (.int .i64 C2) ∧ w9.cell? ⟨D, 3, none⟩ = some (.int .i64 C3) ∧ w9.cell? ⟨D, 4, none⟩ = some (.int .i64 C4) ∧ w9.cell? ⟨D, 5, none⟩ = some (.int .i64 C5) :=
  ⟨(hK.box h.rb.box).c0, (hK.box h.rb.box).c1, (hK.box h.rb.box).c2, (hK.box h.rb.box).c3, (hK.box h.rb.box).c4, (hK.box h.rb.box).c5⟩
theorem rdrop_set {w0 w7 w9 : World} {base q N : Nat} {M : Nat → Nat → Int} {D : Nat} {C0 C1 C2 C3 C4 C5 : Int} (h : Rd w0 w7 base q N M D C0 C1 C2 C3 C4 C5) (hK : Keep w7 w9) :
    ((((((w9.setCell ⟨w0.heap.size, 0, none⟩ (.int .i64 C0)).setCell ⟨w0.heap.size, 1, none⟩ (.int .i64 C1)).setCell ⟨w0.heap.size, 2, none⟩ (.int .i64 C2)).setCell ⟨w0.heap.size, 3, none⟩ (.int .i64 C3)).setCell ⟨w0.heap.size, 4, none⟩ (.int .i64 C4)).setCell ⟨w0.heap.size, 5, none⟩ (.int .i64 C5)).cell? ⟨D, 0, none⟩ = some (.int .i64 C0) ∧ ((((((w9.setCell ⟨w0.heap.size, 0, none⟩ (.int .i64 C0)).setCell ⟨w0.heap.size, 1, none⟩ (.int .i64 C1)).setCell ⟨w0.heap.size, 2, none⟩ (.int .i64 C2)).setCell ⟨w0.heap.size, 3, none⟩ (.int .i64 C3)).setCell ⟨w0.heap.size, 4, none⟩ (.int .i64 C4)).setCell ⟨w0.heap.size, 5, none⟩ (.int .i64 C5)).cell? ⟨D, 1, none⟩ = some (.int .i64 C1) ∧ ((((((w9.setCell ⟨w0.heap.size, 0, none⟩ (.int .i64 C0)).setCell ⟨w0.heap.size, 1, none⟩ (.int .i64 C1)).setCell ⟨w0.heap.size, 2, none⟩ (.int .i64 C2)).setCell ⟨w0.heap.size, 3, none⟩ (.int .i64 C3)).setCell ⟨w0.heap.size, 4, none⟩ (.int .i64 C4)).setCell ⟨w0.heap.size, 5, none⟩ (.int .i64 C5)).cell? ⟨D, 2, none⟩ = some (.int .i64 C2) ∧ ((((((w9.setCell ⟨w0.heap.size, 0, none⟩ (.int .i64 C0)).setCell ⟨w0.heap.size, 1, none⟩ (.int .i64 C1)).setCell ⟨w0.heap.size, 2, none⟩ (.int .i64 C2)).setCell ⟨w0.heap.size, 3, none⟩ (.int .i64 C3)).setCell ⟨w0.heap.size, 4, none⟩ (.int .i64 C4)).setCell ⟨w0.heap.size, 5, none⟩ (.int .i64 C5)).cell? ⟨D, 3, none⟩ = some (.int .i64 C3) ∧ ((((((w9.setCell ⟨w0.heap.size, 0, none⟩ (.int .i64 C0)).setCell ⟨w0.heap.size, 1, none⟩ (.int .i64 C1)).setCell ⟨w0.heap.size, 2, none⟩ (.int .i64 C2)).setCell ⟨w0.heap.size, 3, none⟩ (.int .i64 C3)).setCell ⟨w0.heap.size, 4, none⟩ (.int .i64 C4)).setCell ⟨w0.heap.size, 5, none⟩ (.int .i64 C5)).cell? ⟨D, 4, none⟩ = some (.int .i64 C4) ∧ ((((((w9.setCell ⟨w0.heap.size, 0, none⟩ (.int .i64 C0)).setCell ⟨w0.heap.size, 1, none⟩ (.int .i64 C1)).setCell ⟨w0.heap.size, 2, none⟩ (.int .i64 C2)).setCell ⟨w0.heap.size, 3, none⟩ (.int .i64 C3)).setCell ⟨w0.heap.size, 4, none⟩ (.int .i64 C4)).setCell ⟨w0.heap.size, 5, none⟩ (.int .i64 C5)).cell? ⟨D, 5, none⟩ = some (.int .i64 C5) := by
  have hx := hK.box h.rb.box
  have hq : But w0.heap.size w9 ((((((w9.setCell ⟨w0.heap.size, 0, none⟩ (.int .i64 C0)).setCell ⟨w0.heap.size, 1, none⟩ (.int .i64 C1)).setCell ⟨w0.heap.size, 2, none⟩ (.int .i64 C2)).setCell ⟨w0.heap.size, 3, none⟩ (.int .i64 C3)).setCell ⟨w0.heap.size, 4, none⟩ (.int .i64 C4)).setCell ⟨w0.heap.size, 5, none⟩ (.int .i64 C5)) := but_own (but_own (but_own (but_own (but_own (but_own (But.refl _ _) _ _) _ _) _ _) _ _) _ _) _ _
  exact ⟨(hq.cell hx.lt h.ne).trans hx.c0, (hq.cell hx.lt h.ne).trans hx.c1, (hq.cell hx.lt h.ne).trans hx.c2, (hq.cell hx.lt h.ne).trans hx.c3, (hq.cell hx.lt h.ne).trans hx.c4, (hq.cell hx.lt h.ne).trans hx.c5⟩
theorem rdrop_end {w w9 : World} {base q N : Nat} {M M' : Nat → Nat → Int} {x : Int} (hM : Rx w base q N M) (h : Rx w9 base q N M' ∧ Below base w w9 ∧ Keep w w9) (hx : w9.cell? ⟨w.heap.size, 0, none⟩ = some (.int .i64 x)) (C0 C1 C2 C3 C4 C5 : Int) : Rx ((((((w9.setCell ⟨w.heap.size, 0, none⟩ (.int .i64 C0)).setCell ⟨w.heap.size, 1, none⟩ (.int .i64 C1)).setCell ⟨w.heap.size, 2, none⟩ (.int .i64 C2)).setCell ⟨w.heap.size, 3, none⟩ (.int .i64 C3)).setCell ⟨w.heap.size, 4, none⟩ (.int .i64 C4)).setCell ⟨w.heap.size, 5, none⟩ (.int .i64 C5)) base q N M' ∧ Below base w ((((((w9.setCell ⟨w.heap.size, 0, none⟩ (.int .i64 C0)).setCell ⟨w.heap.size, 1, none⟩ (.int .i64 C1)).setCell ⟨w.heap.size, 2, none⟩ (.int .i64 C2)).setCell ⟨w.heap.size, 3, none⟩ (.int .i64 C3)).setCell ⟨w.heap.size, 4, none⟩ (.int .i64 C4)).setCell ⟨w.heap.size, 5, none⟩ (.int .i64 C5)) ∧ Keep w ((((((w9.setCell ⟨w.heap.size, 0, none⟩ (.int .i64 C0)).setCell ⟨w.heap.size, 1, none⟩ (.int .i64 C1)).setCell ⟨w.heap.size, 2, none⟩ (.int .i64 C2)).setCell ⟨w.heap.size, 3, none⟩ (.int .i64 C3)).setCell ⟨w.heap.size, 4, none⟩ (.int .i64 C4)).setCell ⟨w.heap.size, 5, none⟩ (.int .i64 C5)) := by
  have ho := set6_other w9 w.heap.size C0 C1 C2 C3 C4 C5
  have hb : Below base w9 ((((((w9.setCell ⟨w.heap.size, 0, none⟩ (.int .i64 C0)).setCell ⟨w.heap.size, 1, none⟩ (.int .i64 C1)).setCell ⟨w.heap.size, 2, none⟩ (.int .i64 C2)).setCell ⟨w.heap.size, 3, none⟩ (.int .i64 C3)).setCell ⟨w.heap.size, 4, none⟩ (.int .i64 C4)).setCell ⟨w.heap.size, 5, none⟩ (.int .i64 C5)) := ((((((Below.refl base w9).setCell (p := ⟨_, _, none⟩) (rx_le hM) _).setCell (p := ⟨_, _, none⟩) (rx_le hM) _).setCell (p := ⟨_, _, none⟩) (rx_le hM) _).setCell (p := ⟨_, _, none⟩) (rx_le hM) _).setCell (p := ⟨_, _, none⟩) (rx_le hM) _).setCell (p := ⟨_, _, none⟩) (rx_le hM) _
  exact ⟨h.1.turn (ref_apart h.1.ref h.1.n1 hx ho) h.1.fit, h.2.1.trans hb, Nat.le_trans h.2.2.1 hb.size, fun B z hB => (ho B (Nat.ne_of_lt (World.block_lt_of_cell? w _ hB))).trans (h.2.2.2 B z hB)⟩
end Go.Proofs.YtggggfhgfnbjnaaGreatDoor.Pcaptbl
