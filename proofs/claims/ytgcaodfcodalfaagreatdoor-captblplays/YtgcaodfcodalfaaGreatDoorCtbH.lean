/- A root and one leaf: made, hung in, frozen, taken out. Plain words; no program is named here. -/
import Derived.Test.YtgcaodfcodalfaaGreatDoorCtbG
namespace Go.Proofs.YtgcaodfcodalfaaGreatDoor.Pcaptbl
open Go.Proofs.YtgcaodfcodalfaaGreatDoor.Pbase Go.Proofs.YtgcaodfcodalfaaGreatDoor.Pmem Go.Proofs.YtgcaodfcodalfaaGreatDoor.Pradix Go.Proofs.YtgcaodfcodalfaaGreatDoor.Pslot
open Go.RowKit
set_option linter.unusedVariables false

/-! ### a head's Put and Make -/
theorem hput_other {N : Nat} {M : Nat → Nat → Int} {f k l : Int} {z : Bool} {t : Int} {g j : Nat} (h : (g : Int) ≠ f ∨ 4 ≤ j) : Phead.putM N M f k l z t g j = M g j := by
  unfold Phead.putM
  split
  · exact Phead.st4_other h _ _ _ _
  · rfl
theorem hmake_other {N : Nat} {M : Nat → Nat → Int} {f k l : Int} {z : Bool} {t : Int} {g j : Nat} (h : (g : Int) ≠ f) : Phead.mkM N M f k l z t g j = M g j := by
  unfold Phead.mkM
  split
  · rw [Phead.st4_other (.inl h)]
    unfold clM
    split
    · rename_i hf
      have := okF_yes hf
      dsimp only
      rw [if_neg (by omega)]
    · rfl
  · rfl
theorem gh_own {N : Nat} {M : Nat → Nat → Int} {f : Nat} (hf : f < N) {k l t : Int} {z : Bool} (h : Phead.Rt k l z t) (h0 : M f 0 = Phead.wd0 k l z) (h1 : M f 1 = t) (h2 : M f 2 = 0) (h3 : M f 3 = 0) :
    Phead.ghK N M f = k ∧ Phead.ghL N M f = l ∧ Phead.ghZ N M f = z ∧ Phead.ghT N M f = t ∧ Phead.ghE N M f = 0 := by
  obtain ⟨e1, e2, e3, e4, e5⟩ := Phead.got_back h
  unfold Phead.ghK Phead.ghL Phead.ghZ Phead.ghT Phead.ghE
  simp only [okF_nat hf, if_true, Bool.true_and, Int.toNat_natCast, h0, h1, h2, h3]
  exact ⟨e1, e2, e3, e4, e5⟩
theorem hput_own {N : Nat} {M : Nat → Nat → Int} {f : Nat} (hf : f < N) {k l t : Int} {z : Bool} (h : Phead.Rt k l z t) :
    Phead.ghK N (Phead.putM N M f k l z t) f = k ∧ Phead.ghL N (Phead.putM N M f k l z t) f = l ∧ Phead.ghZ N (Phead.putM N M f k l z t) f = z ∧ Phead.ghT N (Phead.putM N M f k l z t) f = t ∧ Phead.ghE N (Phead.putM N M f k l z t) f = 0 := by
  unfold Phead.putM
  rw [if_pos (Phead.rtB_yes h)]
  exact gh_own hf h (by rw [Phead.st4_own hf]; rfl) (by rw [Phead.st4_own hf]; rfl) (by rw [Phead.st4_own hf]; rfl) (by rw [Phead.st4_own hf]; rfl)
theorem hmake_own {N : Nat} {M : Nat → Nat → Int} {f : Nat} (hf : f < N) {k l t : Int} {z : Bool} (h : Phead.Rt k l z t) :
    (Phead.ghK N (Phead.mkM N M f k l z t) f = k ∧ Phead.ghL N (Phead.mkM N M f k l z t) f = l ∧ Phead.ghZ N (Phead.mkM N M f k l z t) f = z ∧ Phead.ghT N (Phead.mkM N M f k l z t) f = t ∧ Phead.ghE N (Phead.mkM N M f k l z t) f = 0) ∧
    ∀ m : Nat, m < 16 → sE N (Phead.mkM N M f k l z t) f m = 0 ∧ ∀ j, j < 6 → sC N (Phead.mkM N M f k l z t) f m j = 0 := by
  constructor
  · unfold Phead.mkM
    rw [if_pos (Phead.rtB_yes h)]
    exact gh_own hf h (by rw [Phead.st4_own hf]; rfl) (by rw [Phead.st4_own hf]; rfl) (by rw [Phead.st4_own hf]; rfl) (by rw [Phead.st4_own hf]; rfl)
  · intro m hm
    have hw : ∀ j, 4 ≤ j → Phead.mkM N M f k l z t (f : Int).toNat j = (fun _ _ => 0 : Nat → Nat → Int) (f : Int).toNat j := by
      intro j hj
      unfold Phead.mkM
      rw [if_pos (Phead.rtB_yes h), Phead.st4_other (.inr hj)]
      unfold clM
      rw [if_pos (okF_nat hf)]
      dsimp only
      rw [if_pos rfl]
    obtain ⟨e1, e2⟩ := slot_words (N := N) (M := fun _ _ => 0) (M' := Phead.mkM N M f k l z t) (g := (f : Int)) (i := (m : Int)) hw
    obtain ⟨z1, z2⟩ := zero_slot (N := N) (i := m) (f := (f : Int)) hm (okF_nat hf)
    exact ⟨e1.trans z1, fun j hj => (e2 j).trans (z2 j hj)⟩
theorem rt_head {l : Int} (h : l = 0 ∨ l = 1) : Phead.Rt 1 l false 0 := by
  unfold Phead.Rt
  exact ⟨by omega, by omega, by omega, by omega, fun _ => .inl rfl, (fun k => by cases k), by omega, by omega, fun _ => rfl⟩
theorem rt_frozen {l now : Int} (h : l = 0 ∨ l = 1) (ht : tiB now = true) : Phead.Rt 1 l true now := by
  simp only [tiB, Bool.and_eq_true, decide_eq_true_eq] at ht
  unfold Phead.Rt
  exact ⟨by omega, by omega, by omega, by omega, fun _ => .inl rfl, fun _ => rfl, by omega, by omega, (fun k => by cases k)⟩

/-! ### made and hung in -/
/-- The words behind the two Makes; behind Cons. -/
def twoM (N : Nat) : Nat → Nat → Int := Phead.mkM N (Phead.mkM N (fun _ _ => 0) 0 1 0 false 0) 1 1 1 false 0
theorem two_root {N : Nat} (hN : 2 ≤ N) : (Phead.ghK N (twoM N) 0 = 1 ∧ Phead.ghL N (twoM N) 0 = 0 ∧ Phead.ghZ N (twoM N) 0 = false ∧ Phead.ghT N (twoM N) 0 = 0 ∧ Phead.ghE N (twoM N) 0 = 0) ∧
    ∀ m : Nat, m < 16 → sE N (twoM N) 0 m = 0 ∧ ∀ j, j < 6 → sC N (twoM N) 0 m j = 0 := by
  obtain ⟨⟨a1, a2, a3, a4, a5⟩, a6⟩ := hmake_own (N := N) (M := fun _ _ => 0) (f := 0) (by omega) (rt_head (.inl rfl))
  have hw : ∀ j, twoM N (0 : Int).toNat j = Phead.mkM N (fun _ _ => 0) 0 1 0 false 0 (0 : Int).toNat j := fun j => hmake_other (by decide)
  obtain ⟨b1, b2, b3, b4, b5⟩ := gh_words (N := N) (g := 0) (fun j _ => hw j)
  refine ⟨⟨b1.trans a1, b2.trans a2, b3.trans a3, b4.trans a4, b5.trans a5⟩, fun m hm => ?_⟩
  obtain ⟨c1, c2⟩ := slot_words (N := N) (g := 0) (i := (m : Int)) (fun j _ => hw j)
  exact ⟨c1.trans (a6 m hm).1, fun j hj => (c2 j).trans ((a6 m hm).2 j hj)⟩
theorem two_leaf {N : Nat} (hN : 2 ≤ N) : (Phead.ghK N (twoM N) 1 = 1 ∧ Phead.ghL N (twoM N) 1 = 1 ∧ Phead.ghZ N (twoM N) 1 = false ∧ Phead.ghT N (twoM N) 1 = 0 ∧ Phead.ghE N (twoM N) 1 = 0) ∧
    ∀ m : Nat, m < 16 → sE N (twoM N) 1 m = 0 ∧ ∀ j, j < 6 → sC N (twoM N) 1 m j = 0 :=
  hmake_own (N := N) (f := 1) (by omega) (rt_head (.inr rfl))
theorem cons_zero {N high : Nat} (hN : 2 ≤ N) (hh : high < 16) (floor : Int) : coE N (twoM N) 0 high 1 floor = 0 := by
  obtain ⟨⟨a1, a2, a3, a4, a5⟩, a6⟩ := two_root hN
  obtain ⟨⟨b1, b2, b3, b4, b5⟩, b6⟩ := two_leaf hN
  have t0 : tbB N (twoM N) 0 0 = true := by simp [tbB, a1, a2, a5]
  have t1 : tbB N (twoM N) 1 1 = true := by simp [tbB, b1, b2, b5]
  unfold coE
  rw [if_pos (okS_nat hh), if_pos ⟨t0, t1⟩, if_neg (by rw [a3, b3]; simp), if_pos (a6 high hh).1, (a6 high hh).2 0 (by omega), if_neg (by omega), if_pos (by simp [quB])]
/-- The leaf hangs in the root. -/
theorem tree_new {N high : Nat} (hN : 2 ≤ N) (hh : high < 16) (floor : Int) : Tree N (coM N (twoM N) 0 high 1 floor) high false 0 ∧ ∀ m : Nat, m < 16 → sE N (coM N (twoM N) 0 high 1 floor) 1 m = 0 ∧ ∀ j, j < 6 → sC N (coM N (twoM N) 0 high 1 floor) 1 m j = 0 := by
  unfold coM
  rw [if_pos (cons_zero hN hh floor)]
  obtain ⟨⟨a1, a2, a3, a4, a5⟩, a6⟩ := two_root hN
  obtain ⟨⟨b1, b2, b3, b4, b5⟩, b6⟩ := two_leaf hN
  have hp : pE N 0 (high : Int) 3 31 1 0 0 0 = 0 := pE_yes (okS_nat hh) (rt_table (by omega) (by omega)) (okF_nat (f := 0) (by omega))
  obtain ⟨c1, c2, c3, c4, c5⟩ := gh_pM N (twoM N) 0 (high : Int) 3 31 1 0 0 0 0
  obtain ⟨d1, d2, d3, d4, d5⟩ := gh_pM N (twoM N) 0 (high : Int) 3 31 1 0 0 0 1
  obtain ⟨g0, g1, _, g2, _, _, _⟩ := put_got (M := twoM N) hp
  refine ⟨⟨hN, hh, c5.trans a5, c1.trans a1, c2.trans a2, c3.trans a3, d5.trans b5, d1.trans b1, d2.trans b2, d3.trans b3, d4.trans b4, ⟨g0, g1, g2⟩, fun m hm hn => ?_⟩, fun m hm => ?_⟩
  · obtain ⟨e1, e2⟩ := put_other (N := N) (M := twoM N) (f := 0) (i := (high : Int)) (k := 3) (r := 31) (t := 1) (l := 0) (e := 0) (a := 0) (g := 0) hm (.inr (by omega))
    exact ⟨e1.trans (a6 m hm).1, (e2 0).trans ((a6 m hm).2 0 (by omega))⟩
  · obtain ⟨e1, e2⟩ := put_frame (N := N) (M := twoM N) (f := 0) (i := (high : Int)) (k := 3) (r := 31) (t := 1) (l := 0) (e := 0) (a := 0) (g := 1) (m := (m : Int)) (by omega) (by omega)
    exact ⟨e1.trans (b6 m hm).1, fun j hj => (e2 j).trans ((b6 m hm).2 j hj)⟩

/-! ### frozen, taken out -/
theorem Tree.freeze {N : Nat} {M : Nat → Nat → Int} {high : Nat} {tm now : Int} (h : Tree N M high false tm) (ht : tiB now = true) :
    frE N M 1 now = 0 ∧ Tree N (frM N M 1 now) high true now ∧ ∀ g m : Int, sE N (frM N M 1 now) g m = sE N M g m ∧ ∀ j, sC N (frM N M 1 now) g m j = sC N M g m j := by
  have h0 : frE N M 1 now = 0 := by
    unfold frE
    rw [if_pos ht, if_pos ⟨h.eE, h.eK⟩, if_neg (by rw [h.eZ]; decide)]
  refine ⟨h0, ?_⟩
  unfold frM
  rw [if_pos h0, h.eL]
  have hs : ∀ g m : Int, sE N (Phead.putM N M 1 1 1 true now) g m = sE N M g m ∧ ∀ j, sC N (Phead.putM N M 1 1 1 true now) g m j = sC N M g m j := fun g m => slot_words fun j hj => hput_other (.inr hj)
  refine ⟨?_, hs⟩
  have hN := h.hN
  obtain ⟨a1, a2, a3, a4, a5⟩ := gh_words (N := N) (M := M) (M' := Phead.putM N M 1 1 1 true now) (g := 0) (fun j _ => hput_other (.inl (by decide)))
  obtain ⟨b1, b2, b3, b4, b5⟩ := hput_own (N := N) (M := M) (f := 1) (by omega) (rt_frozen (.inr rfl) ht)
  exact ⟨h.hN, h.hh, a5.trans h.rE, a1.trans h.rK, a2.trans h.rL, a3.trans h.rZ, b5, b1, b2, b3, b4, ⟨(hs _ _).1.trans h.link.1, ((hs _ _).2 0).trans h.link.2.1, ((hs _ _).2 2).trans h.link.2.2⟩,
    fun m hm hn => ⟨(hs _ _).1.trans (h.other m hm hn).1, ((hs _ _).2 0).trans (h.other m hm hn).2⟩⟩
theorem Tree.decons {N : Nat} {M : Nat → Nat → Int} {high : Nat} {z : Bool} {tm now : Int} (h : Tree N M high z tm) (ht : tiB now = true) (floor : Int) :
    deE N M 0 high now floor = if z = true ∧ tm < floor then 0 else 6 := by
  unfold deE
  rw [if_pos ⟨okS_nat h.hh, ht⟩, if_pos h.root, if_pos h.link.1, if_pos h.link.2.1, h.link.2.2, h.eE, h.eK, h.eZ, h.eT]
  simp only [true_and]
/-- What hung there is looked up no more. -/
theorem Tree.gone {N : Nat} {M : Nat → Nat → Int} {high : Nat} {z : Bool} {tm now floor : Int} (h : Tree N M high z tm) (ht : tiB now = true) (hd : deE N M 0 high now floor = 0) :
    deF N M 0 high now floor = 1 ∧ ∀ a, slE a = 0 → slH a = high → lkE N (deM N M 0 high now floor) 0 a = 3 := by
  refine ⟨by unfold deF; rw [if_pos hd, h.link.2.2], fun a h1 h2 => ?_⟩
  unfold deM
  rw [if_pos hd]
  have hN := h.hN
  have hp : pE N 0 (high : Int) 1 0 0 0 0 now = 0 := pE_yes (okS_nat h.hh) (rt_quiet ht) (okF_nat (f := 0) (by omega))
  obtain ⟨c1, c2, c3, c4, c5⟩ := gh_pM N M 0 (high : Int) 1 0 0 0 0 now 0
  obtain ⟨g0, g1, _⟩ := put_got (M := M) hp
  have hr : tbB N (pM N M 0 (high : Int) 1 0 0 0 0 now) 0 0 = true := by simp [tbB, c1, c2, c5, h.rE, h.rK, h.rL]
  have h3 : lfE N (pM N M 0 (high : Int) 1 0 0 0 0 now) 0 a = 3 := by
    unfold lfE
    rw [if_pos h1, if_pos hr, h2, if_neg (fun k => by rw [g1] at k; exact absurd k.2 (by decide))]
  unfold lkE
  rw [if_neg (by rw [h3]; decide), h3]
/-- Dropped in its time: none is looked up there; one comes there for a floor behind that alone. -/
theorem Tree.drop {N : Nat} {M : Nat → Nat → Int} {high : Nat} {z : Bool} {tm : Int} (h : Tree N M high z tm) {adr now : Int} (h1 : slE adr = 0) (h2 : slH adr = high) (hk : lkE N M 0 adr = 0) :
    drE N M 0 adr now = (if tiB now = true then if z = true then 6 else 0 else 1) ∧ (drE N M 0 adr now = 0 → (∀ j, drC N M 0 adr now j = lkC N M 0 adr j) ∧ drM N M 0 adr now = pM N M 1 (slL adr) 1 0 0 0 0 now ∧ pE N 1 (slL adr) 1 0 0 0 0 now = 0 ∧ tiB now = true ∧ z = false) := by
  obtain ⟨e1, e2, e3, e4⟩ := h.at h1 h2
  have hd : drE N M 0 adr now = (if tiB now = true then if z = true then 6 else 0 else 1) := by
    unfold drE
    rw [if_pos hk, e4]
  refine ⟨hd, fun h0 => ?_⟩
  have ht : tiB now = true := by
    rw [hd] at h0
    by_cases k : tiB now = true
    · exact k
    · rw [if_neg k] at h0; cases h0
  have hz : z = false := by
    rw [hd, if_pos ht] at h0
    cases z
    · rfl
    · cases h0
  have hp := lk_put (rt_quiet ht) hk
  rw [e2, e3] at hp
  exact ⟨fun j => by unfold drC; rw [if_pos h0], by unfold drM; rw [if_pos h0, e2, e3], hp, ht, hz⟩
theorem Tree.empty {N : Nat} {M : Nat → Nat → Int} {high : Nat} {tm : Int} (h : Tree N M high false tm) {adr now : Int} (h1 : slE adr = 0) (h2 : slH adr = high) (hp : pE N 1 (slL adr) 1 0 0 0 0 now = 0) :
    lkE N (pM N M 1 (slL adr) 1 0 0 0 0 now) 0 adr = 3 ∧ ∀ floor, roE N (pM N M 1 (slL adr) 1 0 0 0 0 now) 0 adr floor = if now < floor then 0 else 6 := by
  obtain ⟨g0, g1, _, _, _, _, g5⟩ := put_got (M := M) hp
  have ht := h.put (slL adr) 1 0 0 0 0 now
  refine ⟨by rw [(ht.look h1 h2).1, if_pos g0, if_neg (by rw [g1]; decide)], fun floor => ?_⟩
  rw [ht.room h1 h2, if_neg (by decide), if_pos g0, if_neg (by rw [g1]; decide), g1, g5]
  simp [quB]
/-- A frozen leaf takes none, and gives none away. -/
theorem Tree.frozen {N : Nat} {M : Nat → Nat → Int} {high : Nat} {tm : Int} (h : Tree N M high true tm) {adr : Int} (h1 : slE adr = 0) (h2 : slH adr = high) :
    (∀ floor, roE N M 0 adr floor = 6) ∧ ∀ now, drE N M 0 adr now ≠ 0 := by
  refine ⟨fun floor => by rw [h.room h1 h2, if_pos rfl], fun now h0 => ?_⟩
  by_cases hk : lkE N M 0 adr = 0
  · have := ((h.drop h1 h2 hk).2 h0).2.2.2.2
    cases this
  · unfold drE at h0
    by_cases k : tiB now = true
    · rw [if_pos k, if_neg hk] at h0; exact hk h0
    · rw [if_neg k] at h0; cases h0
end Go.Proofs.YtgcaodfcodalfaaGreatDoor.Pcaptbl
