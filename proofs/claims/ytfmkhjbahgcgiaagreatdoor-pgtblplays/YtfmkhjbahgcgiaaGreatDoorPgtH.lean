/- A root, frame 0, and one leaf, frame 1, of tables of mappings: made, hung in, mapped, unmapped. Plain words; no program is named here. -/
import Derived.Test.YtfmkhjbahgcgiaaGreatDoorPgtG
namespace Go.Proofs.YtfmkhjbahgcgiaaGreatDoor.Ppgtbl
open Go.Proofs.YtfmkhjbahgcgiaaGreatDoor.Pbase Go.Proofs.YtfmkhjbahgcgiaaGreatDoor.Pmem
open Go.RowKit
set_option linter.unusedVariables false

/-! ### a head's Make -/
theorem hmake_other {N : Nat} {M : Nat → Nat → Int} {f k l : Int} {z : Bool} {t : Int} {g j : Nat} (h : (g : Int) ≠ f) : Phead.mkM N M f k l z t g j = M g j := by
  unfold Phead.mkM
  split
  · rw [Phead.st4_other (.inl h)]
    unfold clM
    split
    · rename_i hf
      have := okF_yes hf
      dsimp only
      rw [if_neg (by omega)]
    · rfl
  · rfl
theorem gh_own {N : Nat} {M : Nat → Nat → Int} {f : Nat} (hf : f < N) {k l t : Int} {z : Bool} (h : Phead.Rt k l z t) (h0 : M f 0 = Phead.wd0 k l z) (h1 : M f 1 = t) (h2 : M f 2 = 0) (h3 : M f 3 = 0) :
    Phead.ghK N M f = k ∧ Phead.ghL N M f = l ∧ Phead.ghE N M f = 0 := by
  obtain ⟨e1, e2, e3, e4, e5⟩ := Phead.got_back h
  unfold Phead.ghK Phead.ghL Phead.ghE
  simp only [okF_nat hf, if_true, Int.toNat_natCast, h0, h1, h2, h3]
  exact ⟨e1, e2, e5⟩
/-- An empty entry. -/
def Bare (N : Nat) (M : Nat → Nat → Int) (f i : Int) : Prop := enE N M f i = 0 ∧ enO N M f i = false ∧ enF N M f i = 0 ∧ enR N M f i = 0 ∧ enT N M f i = 0
theorem bare_zero {N : Nat} {M : Nat → Nat → Int} {f i : Int} (hk : okW N f (4 + i) = true) (h : enW N M f i = 0) : Bare N M f i := by
  have e : Ppte.wd false 0 0 0 = 0 := wd_zero
  obtain ⟨e0, e1, e2, e3, e4⟩ := Ppte.got_back (o := false) (f := 0) (r := 0) (t := 0) ⟨fun e => (by cases e), fun _ => by omega⟩
  rw [e] at e0 e1 e2 e3 e4
  unfold Bare enE enO enF enR enT
  rw [h, if_pos hk]
  exact ⟨e4, e0, e1, e2, e3⟩
theorem bare_word {N : Nat} {M M' : Nat → Nat → Int} {g i : Int} (h : enW N M' g i = enW N M g i) (hb : Bare N M g i) : Bare N M' g i := by
  obtain ⟨e0, e1, e2, e3, e4⟩ := en_word h
  exact ⟨e0.trans hb.1, e1.trans hb.2.1, e2.trans hb.2.2.1, e3.trans hb.2.2.2.1, e4.trans hb.2.2.2.2⟩
theorem bare_quiet {N : Nat} {M : Nat → Nat → Int} {f i : Int} (h : Bare N M f i) (floor : Int) : enQ N M f i floor = true := by
  obtain ⟨_, e1, e2, e3, e4⟩ := h
  unfold enQ
  rw [e1, e2, e3, e4]
  rfl
theorem hmake_own {N : Nat} {M : Nat → Nat → Int} {f : Nat} (hf : f < N) {k l t : Int} {z : Bool} (h : Phead.Rt k l z t) :
    (Phead.ghK N (Phead.mkM N M f k l z t) f = k ∧ Phead.ghL N (Phead.mkM N M f k l z t) f = l ∧ Phead.ghE N (Phead.mkM N M f k l z t) f = 0) ∧ ∀ m : Nat, m < 32 → Bare N (Phead.mkM N M f k l z t) f m := by
  constructor
  · unfold Phead.mkM
    rw [if_pos (Phead.rtB_yes h)]
    exact gh_own hf h (by rw [Phead.st4_own hf]; rfl) (by rw [Phead.st4_own hf]; rfl) (by rw [Phead.st4_own hf]; rfl) (by rw [Phead.st4_own hf]; rfl)
  · intro m hm
    have hk : okW N (f : Int) (4 + (m : Int)) = true := by rw [okW_en (okI_nat hm)]; exact okF_nat hf
    refine bare_zero hk ?_
    unfold enW ldM
    rw [if_pos hk]
    unfold Phead.mkM
    rw [if_pos (Phead.rtB_yes h), Phead.st4_other (.inr (by omega))]
    unfold clM
    rw [if_pos (okF_nat hf)]
    try dsimp only
    rw [if_pos rfl]
theorem rt_head {l : Int} (h : l = 0 ∨ l = 1) : Phead.Rt 2 l false 0 := by
  unfold Phead.Rt
  exact ⟨by omega, by omega, by omega, by omega, fun _ => .inr rfl, (fun k => by cases k), by omega, by omega, fun _ => rfl⟩
theorem make_err {N f : Nat} (hf : f < N) {l : Int} (h : l = 0 ∨ l = 1) : Phead.errP N f 2 l false 0 = 0 := by
  unfold Phead.errP errF
  rw [if_pos (Phead.rtB_yes (rt_head h)), if_pos (okF_nat hf)]

/-! ### made and hung in -/
/-- The words behind the two Makes. -/
def twoM (N : Nat) : Nat → Nat → Int := Phead.mkM N (Phead.mkM N (fun _ _ => 0) 0 2 0 false 0) 1 2 1 false 0
theorem two_root {N : Nat} (hN : 2 ≤ N) : tbB N (twoM N) 0 0 = true ∧ ∀ m : Nat, m < 32 → Bare N (twoM N) 0 m := by
  obtain ⟨⟨a1, a2, a5⟩, a6⟩ := hmake_own (N := N) (M := fun _ _ => 0) (f := 0) (by omega) (rt_head (.inl rfl))
  have hw : ∀ j, twoM N (0 : Int).toNat j = Phead.mkM N (fun _ _ => 0) 0 2 0 false 0 (0 : Int).toNat j := fun j => hmake_other (by decide)
  obtain ⟨b1, b2, _, _, b5⟩ := gh_words (N := N) (g := 0) (fun j _ => hw j)
  refine ⟨?_, fun m hm => bare_word ?_ (a6 m hm)⟩
  · unfold tbB
    rw [b1, b2, b5]
    simp only [Int.natCast_zero] at a1 a2 a5
    rw [a1, a2, a5]
    rfl
  · unfold enW ldM
    split
    · exact hw _
    · rfl
theorem two_leaf {N : Nat} (hN : 2 ≤ N) : tbB N (twoM N) 1 1 = true ∧ Phead.isE N (twoM N) 1 2 = 0 ∧ ∀ m : Nat, m < 32 → Bare N (twoM N) 1 m := by
  obtain ⟨⟨a1, a2, a5⟩, a6⟩ := hmake_own (N := N) (M := Phead.mkM N (fun _ _ => 0) 0 2 0 false 0) (f := 1) (by omega) (rt_head (.inr rfl))
  rw [show ((1 : Nat) : Int) = 1 from rfl] at a1 a2 a5 a6
  refine ⟨?_, ?_, a6⟩
  · unfold tbB twoM
    rw [a1, a2, a5]
    rfl
  · unfold Phead.isE twoM
    rw [a1, a5]
    rfl
/-- A root, frame 0, and one leaf, frame 1, which hangs in it at high alone. -/
structure Tree (N : Nat) (M : Nat → Nat → Int) (high : Nat) : Prop where
  hN : 2 ≤ N
  hh : high < 32
  root : tbB N M 0 0 = true
  leaf : tbB N M 1 1 = true
  kind : Phead.isE N M 1 2 = 0
  link : enE N M 0 high = 0 ∧ enO N M 0 high = true ∧ enF N M 0 high = 1
  other : ∀ m : Nat, m < 32 → m ≠ high → enO N M 0 m = false
  read : ∀ m : Nat, m < 32 → enE N M 1 m = 0
theorem is_se {N : Nat} {M : Nat → Nat → Int} {f i : Int} (hi : 0 ≤ i) (o : Bool) (a r t g q : Int) : Phead.isE N (seM N M f i o a r t) g q = Phead.isE N M g q := by
  obtain ⟨e1, _, _, _, e5⟩ := gh_se (N := N) (M := M) (f := f) hi o a r t g
  unfold Phead.isE
  rw [e1, e5]
/-- Whatever right one is set in the leaf. -/
theorem Tree.set {N : Nat} {M : Nat → Nat → Int} {high : Nat} (h : Tree N M high) {m : Nat} (hm : m < 32) {o : Bool} {a r t : Int} (hr : Ppte.Rt o a r t) : Tree N (seM N M 1 m o a r t) high := by
  have hN := h.hN
  have hk : okW N 1 (4 + (m : Int)) = true := by rw [okW_en (okI_nat hm)]; exact okF_nat (f := 1) (by omega)
  have e0 : ∀ j : Int, _ := fun j => en_other (N := N) (M := M) (f := 1) (i := (m : Int)) (o := o) (a := a) (r := r) (t := t) (g := 0) (m := j) (.inl (by omega))
  refine ⟨h.hN, h.hh, (tb_se (by omega) _ _ _ _ _ _).trans h.root, (tb_se (by omega) _ _ _ _ _ _).trans h.leaf, (is_se (by omega) _ _ _ _ _ _).trans h.kind, ⟨(e0 _).1.trans h.link.1, (e0 _).2.1.trans h.link.2.1, (e0 _).2.2.1.trans h.link.2.2⟩, fun j hj hn => (e0 _).2.1.trans (h.other j hj hn), fun j hj => ?_⟩
  by_cases e : j = m
  · subst e
    exact (en_own hr hk).1
  · exact (en_other (N := N) (M := M) (f := 1) (i := (m : Int)) (o := o) (a := a) (r := r) (t := t) (g := 1) (m := (j : Int)) (.inr (by omega))).1.trans (h.read j hj)
theorem cons_zero {N high : Nat} (hN : 2 ≤ N) (hh : high < 32) (floor : Int) : coE N (twoM N) 0 high 1 floor = 0 := by
  obtain ⟨a1, a2⟩ := two_root hN
  obtain ⟨b1, _, b2⟩ := two_leaf hN
  unfold coE
  rw [if_pos (okI_nat hh), if_pos ⟨a1, b1⟩, if_pos (a2 high hh).1, if_neg (by rw [(a2 high hh).2.1]; decide), if_pos (bare_quiet (a2 high hh) floor)]
theorem tree_new {N high : Nat} (hN : 2 ≤ N) (hh : high < 32) (floor : Int) : Tree N (coM N (twoM N) 0 high 1 floor) high ∧ ∀ m : Nat, m < 32 → Bare N (coM N (twoM N) 0 high 1 floor) 1 m := by
  unfold coM
  rw [if_pos (cons_zero hN hh floor)]
  obtain ⟨a1, a2⟩ := two_root hN
  obtain ⟨b1, b3, b2⟩ := two_leaf hN
  have hr : Ppte.Rt true 1 3 0 := rt_leaf (by omega) (by omega)
  have hk : okW N 0 (4 + (high : Int)) = true := by rw [okW_en (okI_nat hh)]; exact okF_nat (f := 0) (by omega)
  obtain ⟨c0, c1, c2, _⟩ := en_own (M := twoM N) hr hk
  have hb : ∀ m : Nat, m < 32 → Bare N (seM N (twoM N) 0 high true 1 3 0) 1 m := fun m hm => bare_word (enW_other (.inl (by omega))) (b2 m hm)
  refine ⟨⟨hN, hh, (tb_se (by omega) _ _ _ _ _ _).trans a1, (tb_se (by omega) _ _ _ _ _ _).trans b1, (is_se (by omega) _ _ _ _ _ _).trans b3, ⟨c0, c1, c2⟩, fun m hm hn => ?_, fun m hm => (hb m hm).1⟩, hb⟩
  exact (en_other (.inr (by omega))).2.1.trans (a2 m hm).2.1

/-! ### pages of it -/
theorem Tree.at {N : Nat} {M : Nat → Nat → Int} {high : Nat} (h : Tree N M high) {page : Int} (h1 : okG page = true) (h2 : page / 32 = high) : lfE N M 0 page = 0 ∧ lfF N M 0 page = 1 := by
  have e0 : lfE N M 0 page = 0 := by
    unfold lfE
    rw [if_pos h1, if_pos h.root, h2, if_pos ⟨h.link.1, h.link.2.1⟩, h.link.2.2, if_pos h.leaf]
  exact ⟨e0, by unfold lfF; rw [if_pos e0, h2, h.link.2.2]⟩
theorem Tree.off {N : Nat} {M : Nat → Nat → Int} {high : Nat} (h : Tree N M high) {page : Int} (h2 : ¬ (okG page = true ∧ page / 32 = high)) : lfE N M 0 page ≠ 0 := by
  unfold lfE
  by_cases h1 : okG page = true
  · have hb := (okG_iff page).1 h1
    have hn : (page / 32).toNat ≠ high := fun e => h2 ⟨h1, by omega⟩
    have ho := h.other (page / 32).toNat (by omega) hn
    rw [show ((page / 32).toNat : Int) = page / 32 by omega] at ho
    rw [if_pos h1, if_pos h.root, if_neg (fun k => by rw [ho] at k; cases k.2)]
    decide
  · rw [if_neg h1]
    decide
/-- What is read there: the leaf's entry. -/
theorem Tree.raw {N : Nat} {M : Nat → Nat → Int} {high : Nat} (h : Tree N M high) {page : Int} (h1 : okG page = true) (h2 : page / 32 = high) :
    raE N M 0 page = 0 ∧ raO N M 0 page = enO N M 1 (page % 32) ∧ raF N M 0 page = enF N M 1 (page % 32) ∧ raR N M 0 page = enR N M 1 (page % 32) ∧ raT N M 0 page = enT N M 1 (page % 32) := by
  obtain ⟨e1, e2⟩ := h.at h1 h2
  have hr := h.read (page % 32).toNat (by omega)
  rw [show ((page % 32).toNat : Int) = page % 32 by omega] at hr
  refine ⟨by unfold raE; rw [if_pos e1, e2]; exact hr, ?_, ?_, ?_, ?_⟩
  · unfold raO; rw [e1, e2]; rfl
  · unfold raF; rw [if_pos e1, e2]
  · unfold raR; rw [if_pos e1, e2]
  · unfold raT; rw [if_pos e1, e2]
theorem Tree.walk {N : Nat} {M : Nat → Nat → Int} {high : Nat} (h : Tree N M high) {page : Int} (h1 : okG page = true) (h2 : page / 32 = high) :
    (enO N M 1 (page % 32) = true → wkE N M 0 page = 0 ∧ wkO N M 0 page = true ∧ wkF N M 0 page = enF N M 1 (page % 32) ∧ wkR N M 0 page = enR N M 1 (page % 32) ∧ wkT N M 0 page = enT N M 1 (page % 32)) ∧ (enO N M 1 (page % 32) = false → wkE N M 0 page = 9) := by
  obtain ⟨e1, e2, e3, e4, e5⟩ := h.raw h1 h2
  refine ⟨fun k => ?_, fun k => ?_⟩
  · have hw : wkE N M 0 page = 0 := by unfold wkE; rw [if_pos e1, e2, if_pos k]
    refine ⟨hw, ?_, ?_, ?_, ?_⟩
    · unfold wkO; rw [hw, e2, k]; rfl
    · unfold wkF; rw [if_pos hw, e3]
    · unfold wkR; rw [if_pos hw, e4]
    · unfold wkT; rw [if_pos hw, e5]
  · unfold wkE; rw [if_pos e1, e2, if_neg (by rw [k]; decide)]
theorem Tree.mapped {N : Nat} {M : Nat → Nat → Int} {high : Nat} (h : Tree N M high) {page f r : Int} (h1 : okG page = true) (h2 : page / 32 = high) (ha : okA f r = true) (floor : Int) :
    maE N M 0 page f r floor = if enO N M 1 (page % 32) = true then 10 else if enQ N M 1 (page % 32) floor = true then 0 else 6 := by
  obtain ⟨e1, e2, _⟩ := h.raw h1 h2
  unfold maE
  rw [if_pos ha, if_pos e1, e2, (h.at h1 h2).2]
/-- Where Map takes one. -/
theorem Tree.took {N : Nat} {M : Nat → Nat → Int} {high : Nat} (h : Tree N M high) {page f r floor : Int} (hp : maE N M 0 page f r floor = 0) :
    okG page = true ∧ page / 32 = high ∧ okA f r = true ∧ enO N M 1 (page % 32) = false ∧ maM N M 0 page f r floor = seM N M 1 (page % 32) true f r 0 := by
  have hs := ma_set hp
  have hl : okG page = true ∧ page / 32 = high := by
    by_cases k : okG page = true ∧ page / 32 = high
    · exact k
    · exact absurd hs.2.2.1 (h.off k)
  have ha : okA f r = true := by
    unfold maE at hp
    by_cases k : okA f r = true
    · exact k
    · rw [if_neg k] at hp; cases hp
  refine ⟨hl.1, hl.2, ha, ?_, ?_⟩
  · have := h.mapped hl.1 hl.2 ha floor
    rw [hp] at this
    cases ho : enO N M 1 (page % 32)
    · rfl
    · rw [ho, if_pos rfl] at this; cases this
  · unfold maM
    rw [if_pos hp, (h.at hl.1 hl.2).2]
theorem maM_no {N : Nat} {M : Nat → Nat → Int} {root page f r floor : Int} (h : maE N M root page f r floor ≠ 0) : maM N M root page f r floor = M := by unfold maM; rw [if_neg h]
theorem unM_no {N : Nat} {M : Nat → Nat → Int} {root page now : Int} (h : unE N M root page now ≠ 0) : unM N M root page now = M := by unfold unM; rw [if_neg h]
theorem Tree.unmap {N : Nat} {M : Nat → Nat → Int} {high : Nat} (h : Tree N M high) {page now : Int} (hu : unE N M 0 page now = 0) :
    okG page = true ∧ page / 32 = high ∧ tiB now = true ∧ enO N M 1 (page % 32) = true ∧ unM N M 0 page now = seM N M 1 (page % 32) false 0 0 now := by
  have hs := un_set hu
  have hl : okG page = true ∧ page / 32 = high := by
    by_cases k : okG page = true ∧ page / 32 = high
    · exact k
    · exact absurd hs.2.2.2.1 (h.off k)
  have ht : tiB now = true := by
    unfold unE at hu
    by_cases k : tiB now = true
    · exact k
    · rw [if_neg k] at hu; cases hu
  refine ⟨hl.1, hl.2, ht, ?_, ?_⟩
  · cases ho : enO N M 1 (page % 32)
    · have := (h.walk hl.1 hl.2).2 ho
      rw [this] at hs; cases hs.2.1
    · rfl
  · unfold unM
    rw [if_pos hu, (h.at hl.1 hl.2).2]
/-- The leaf's count. -/
theorem Tree.used {N : Nat} {M : Nat → Nat → Int} {high : Nat} (h : Tree N M high) : usE N M 1 = 0 ∧ usN N M 1 = onTo N M 1 32 := by
  have e : usE N M 1 = 0 := by
    unfold usE
    rw [if_pos h.kind, if_pos (okTo_all 32 fun i hi => h.read i hi)]
  exact ⟨e, by unfold usN; rw [if_pos e]⟩
end Go.Proofs.YtfmkhjbahgcgiaaGreatDoor.Ppgtbl
