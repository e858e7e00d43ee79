/- What PgtblQuiet and PgtblBeside ask, and awake, in plain words. No program is named here. -/
import Derived.Test.YtfmkhjbahgcgiaaGreatDoorPgtH
namespace Go.Proofs.YtfmkhjbahgcgiaaGreatDoor.Ppgtbl
open Go.Proofs.YtfmkhjbahgcgiaaGreatDoor.Pbase Go.Proofs.YtfmkhjbahgcgiaaGreatDoor.Pmem
open Go.RowKit
set_option linter.unusedVariables false

theorem low_nat {page : Int} : ∃ m : Nat, m < 32 ∧ page % 32 = (m : Int) := ⟨(page % 32).toNat, by omega, by omega⟩
theorem okW_leaf {N : Nat} (hN : 2 ≤ N) {m : Nat} (hm : m < 32) : okW N 1 (4 + (m : Int)) = true := by rw [okW_en (okI_nat hm)]; exact okF_nat (f := 1) (by omega)
/-- Mapped: walked to, counted, not mapped again. -/
theorem Tree.held {N : Nat} {M : Nat → Nat → Int} {high : Nat} (h : Tree N M high) {page f r floor : Int} (hp : maE N M 0 page f r floor = 0) {M' : Nat → Nat → Int} (hM : M' = maM N M 0 page f r floor) :
    Tree N M' high ∧ wkE N M' 0 page = 0 ∧ wkO N M' 0 page = true ∧ wkF N M' 0 page = f ∧ wkR N M' 0 page = r ∧ wkT N M' 0 page = 0 ∧ enO N M' 1 (page % 32) = true ∧ (∀ f' r' fl, okA f' r' = true → maE N M' 0 page f' r' fl = 10) ∧ onTo N M' 1 32 = onTo N M 1 32 + 1 ∧ (∀ j : Nat, j < 32 → (j : Int) ≠ page % 32 → enW N M' 1 j = enW N M 1 j) := by
  obtain ⟨h1, h2, ha, ho, hs⟩ := h.took hp
  rw [hs] at hM
  obtain ⟨m, hm, em⟩ := low_nat (page := page)
  have T' : Tree N M' high := by rw [hM, em]; exact h.set hm (rt_on ha)
  obtain ⟨c0, c1, c2, c3, c4⟩ := en_own (M := M) (rt_on ha) (okW_leaf h.hN hm)
  rw [← em, ← hM] at c0 c1 c2 c3 c4
  obtain ⟨w1, _⟩ := T'.walk h1 h2
  obtain ⟨w2, w3, w4, w5, w6⟩ := w1 c1
  refine ⟨T', w2, w3, w4.trans c2, w5.trans c3, w6.trans c4, c1, fun f' r' fl ha' => by rw [T'.mapped h1 h2 ha' fl, if_pos c1], ?_, fun j hj hn => by rw [hM]; exact enW_other (.inr hn)⟩
  refine onTo_one (m := m) 32 hm (by rw [← em]; exact ho) (by rw [← em]; exact c1) fun i hi hn => ?_
  rw [hM]
  exact (en_other (.inr (by omega))).2.1
/-- Unmapped in its time: not walked to; mapped again for a floor behind that alone. -/
theorem Tree.left {N : Nat} {M : Nat → Nat → Int} {high : Nat} (h : Tree N M high) {page now : Int} (hu : unE N M 0 page now = 0) {M' : Nat → Nat → Int} (hM : M' = unM N M 0 page now) :
    Tree N M' high ∧ wkE N M' 0 page = 9 ∧ (∀ f r fl, okA f r = true → maE N M' 0 page f r fl = if now < fl then 0 else 6) ∧ (∀ j : Nat, j < 32 → (j : Int) ≠ page % 32 → enW N M' 1 j = enW N M 1 j) := by
  obtain ⟨h1, h2, ht, ho, hs⟩ := h.unmap hu
  rw [hs] at hM
  obtain ⟨m, hm, em⟩ := low_nat (page := page)
  have T' : Tree N M' high := by rw [hM, em]; exact h.set hm (rt_off ht)
  obtain ⟨c0, c1, c2, c3, c4⟩ := en_own (M := M) (rt_off ht) (okW_leaf h.hN hm)
  rw [← em, ← hM] at c0 c1 c2 c3 c4
  refine ⟨T', (T'.walk h1 h2).2 c1, fun f r fl ha => ?_, fun j hj hn => by rw [hM]; exact enW_other (.inr hn)⟩
  rw [T'.mapped h1 h2 ha fl, if_neg (by rw [c1]; decide)]
  have hq : enQ N M' 1 (page % 32) fl = decide (now < fl) := by
    unfold enQ Ppte.quB
    rw [c1, c2, c3, c4, Ppte.rtB_yes (rt_off ht)]
    have := (tiB_iff now).1 ht
    rw [decide_eq_false (show ¬ now = 0 by omega)]
    rfl
  rw [hq]
  simp only [decide_eq_true_eq]
/-- What Unmap answers of one that was mapped. -/
theorem un_of {N : Nat} {M : Nat → Nat → Int} {root page : Int} (now : Int) (h : wkE N M root page = 0) : unE N M root page now = if tiB now = true then 0 else 1 := by
  unfold unE
  rw [h]
theorem un_parts {N : Nat} {M : Nat → Nat → Int} {root page now : Int} (h : tiB now = true) : unO N M root page now = wkO N M root page ∧ unF N M root page now = wkF N M root page ∧ unR N M root page now = wkR N M root page ∧ unT N M root page now = wkT N M root page := by
  unfold unO unF unR unT
  rw [h]
  exact ⟨by simp, rfl, rfl, rfl⟩
theorem bare_count {N : Nat} {M : Nat → Nat → Int} (h : ∀ m : Nat, m < 32 → Bare N M 1 m) : onTo N M 1 32 = 0 := onTo_none 32 fun i hi => (h i hi).2.1
/-- PgtblQuiet: mapped, walked to, counted, not mapped again; unmapped; mapped again. -/
theorem quiet_all {page f r now floor : Int} {M3 M4 : Nat → Nat → Int} (h3 : M3 = coM 2 (twoM 2) 0 0 1 0) (hp : maE 2 M3 0 page f r 0 = 0) (h4 : M4 = maM 2 M3 0 page f r 0) :
    wkE 2 M4 0 page = 0 ∧ wkO 2 M4 0 page = true ∧ wkF 2 M4 0 page = f ∧ wkR 2 M4 0 page = r ∧ wkT 2 M4 0 page = 0 ∧ usE 2 M4 1 = 0 ∧ usN 2 M4 1 = 1 ∧ maE 2 M4 0 page f r 1073741824 = 10 ∧
    (unE 2 M4 0 page now = if tiB now = true then 0 else 1) ∧ (tiB now = true → unO 2 M4 0 page now = true ∧ unF 2 M4 0 page now = f ∧ unR 2 M4 0 page now = r ∧ unT 2 M4 0 page now = 0 ∧ wkE 2 (unM 2 M4 0 page now) 0 page = 9 ∧ maE 2 (unM 2 M4 0 page now) 0 page f r floor = if now < floor then 0 else 6) := by
  obtain ⟨T3, z3⟩ := tree_new (N := 2) (high := 0) (by omega) (by omega) 0
  rw [show ((0 : Nat) : Int) = 0 from rfl, ← h3] at T3 z3
  have ha := (T3.took hp).2.2.1
  obtain ⟨T4, w1, w2, w3, w4, w5, w6, w7, w8, _⟩ := T3.held hp h4
  obtain ⟨u1, u2⟩ := T4.used
  refine ⟨w1, w2, w3, w4, w5, u1, by rw [u2, w8, bare_count z3]; rfl, w7 f r _ ha, un_of now w1, fun ht => ?_⟩
  obtain ⟨v1, v2, v3, v4⟩ := un_parts (N := 2) (M := M4) (root := 0) (page := page) ht
  have hu : unE 2 M4 0 page now = 0 := by rw [un_of now w1, if_pos ht]
  obtain ⟨_, x1, x2, _⟩ := T4.left hu rfl
  exact ⟨v1.trans w2, v2.trans w3, v3.trans w4, v4.trans w5, x1, x2 f r floor ha⟩
/-- PgtblBeside: two pages of one leaf. -/
theorem beside_all {i k f g r s now : Int} {M3 M4 M5 : Nat → Nat → Int} (hi : 64 ≤ i ∧ i < 96) (hk : 64 ≤ k ∧ k < 96) (hn : i ≠ k) (h3 : M3 = coM 2 (twoM 2) 0 2 1 0) (hp : maE 2 M3 0 i f r 0 = 0) (h4 : M4 = maM 2 M3 0 i f r 0) (h5 : M5 = maM 2 M4 0 k g s 0) :
    wkE 2 M5 0 i = 0 ∧ wkO 2 M5 0 i = true ∧ wkF 2 M5 0 i = f ∧ wkR 2 M5 0 i = r ∧ wkT 2 M5 0 i = 0 ∧ usE 2 M5 1 = 0 ∧ (usN 2 M5 1 = if maE 2 M4 0 k g s 0 = 0 then 2 else 1) ∧
    (unE 2 M5 0 k now = 0 → maE 2 M4 0 k g s 0 = 0 ∧ unF 2 M5 0 k now = g) ∧
    (wkE 2 (unM 2 M5 0 k now) 0 i = 0 ∧ wkO 2 (unM 2 M5 0 k now) 0 i = true ∧ wkF 2 (unM 2 M5 0 k now) 0 i = f ∧ wkR 2 (unM 2 M5 0 k now) 0 i = r ∧ wkT 2 (unM 2 M5 0 k now) 0 i = 0) := by
  obtain ⟨T3, z3⟩ := tree_new (N := 2) (high := 2) (by omega) (by omega) 0
  rw [show ((2 : Nat) : Int) = 2 from rfl, ← h3] at T3 z3
  obtain ⟨gi, gj, ha, _, hs⟩ := T3.took hp
  obtain ⟨T4, w1, w2, w3, w4, w5, w6, _, w8, w9⟩ := T3.held hp h4
  have gk : okG k = true := (okG_iff k).2 (by omega)
  have gl : k / 32 = ((2 : Nat) : Int) := by omega
  have hne : i % 32 ≠ k % 32 := by omega
  have hi32 : ((i % 32).toNat : Int) = i % 32 := by omega
  -- a tree whose leaf's entry of i is M4's
  have same : ∀ M : Nat → Nat → Int, Tree 2 M 2 → enW 2 M 1 (i % 32) = enW 2 M4 1 (i % 32) → wkE 2 M 0 i = 0 ∧ wkO 2 M 0 i = true ∧ wkF 2 M 0 i = f ∧ wkR 2 M 0 i = r ∧ wkT 2 M 0 i = 0 := by
    intro M T he
    obtain ⟨_, e1, e2, e3, e4⟩ := en_word he
    obtain ⟨y1, _⟩ := T.walk gi gj
    obtain ⟨x1, _⟩ := T4.walk gi gj
    obtain ⟨_, _, x3, x4, x5⟩ := x1 w6
    obtain ⟨y0, y2, y3, y4, y5⟩ := y1 (e1.trans w6)
    exact ⟨y0, y2, by rw [y3, e2, ← x3, w3], by rw [y4, e3, ← x4, w4], by rw [y5, e4, ← x5, w5]⟩
  have T5 : Tree 2 M5 2 ∧ enW 2 M5 1 (i % 32) = enW 2 M4 1 (i % 32) ∧ onTo 2 M5 1 32 = (if maE 2 M4 0 k g s 0 = 0 then 2 else 1) := by
    by_cases h0 : maE 2 M4 0 k g s 0 = 0
    · obtain ⟨T, _, _, _, _, _, _, _, c, d⟩ := T4.held h0 h5
      refine ⟨T, ?_, by rw [if_pos h0, c, w8, bare_count z3]; rfl⟩
      rw [← hi32]
      exact d _ (by omega) (by omega)
    · rw [h5, maM_no h0]
      exact ⟨T4, rfl, by rw [if_neg h0, w8, bare_count z3]; rfl⟩
  obtain ⟨T5, e5, c5⟩ := T5
  obtain ⟨s1, s2, s3, s4, s5⟩ := same M5 T5 e5
  obtain ⟨u1, u2⟩ := T5.used
  refine ⟨s1, s2, s3, s4, s5, u1, by rw [u2, c5], fun hu => ?_, ?_⟩
  · obtain ⟨_, _, ht, ho, _⟩ := T5.unmap hu
    by_cases h0 : maE 2 M4 0 k g s 0 = 0
    · obtain ⟨_, _, _, c3, _⟩ := T4.held h0 h5
      exact ⟨h0, (un_parts ht).2.1.trans c3⟩
    · -- nothing was mapped there
      exfalso
      rw [h5, maM_no h0] at ho
      have hk32 : ((k % 32).toNat : Int) = k % 32 := by omega
      have := w9 (k % 32).toNat (by omega) (by omega)
      rw [hk32] at this
      rw [(en_word this).2.1] at ho
      have hb := (z3 (k % 32).toNat (by omega)).2.1
      rw [hk32, ho] at hb
      cases hb
  · by_cases h0 : unE 2 M5 0 k now = 0
    · obtain ⟨T6, _, _, d⟩ := T5.left h0 rfl
      refine same _ T6 ?_
      rw [← e5, ← hi32]
      exact d _ (by omega) (by omega)
    · rw [unM_no h0]
      exact ⟨s1, s2, s3, s4, s5⟩
/-- awake: a page is mapped and walked to. -/
theorem awake_all {M3 M4 : Nat → Nat → Int} (h3 : M3 = coM 2 (twoM 2) 0 0 1 0) (h4 : M4 = maM 2 M3 0 3 7 1 0) : coE 2 (twoM 2) 0 0 1 0 = 0 ∧ maE 2 M3 0 3 7 1 0 = 0 ∧ wkE 2 M4 0 3 = 0 ∧ wkF 2 M4 0 3 = 7 := by
  obtain ⟨T3, z3⟩ := tree_new (N := 2) (high := 0) (by omega) (by omega) 0
  have hc := cons_zero (N := 2) (high := 0) (by omega) (by omega) 0
  rw [show ((0 : Nat) : Int) = 0 from rfl] at T3 z3 hc
  rw [← h3] at T3 z3
  have hb := z3 3 (by omega)
  have hp : maE 2 M3 0 3 7 1 0 = 0 := by
    rw [T3.mapped (page := 3) (f := 7) (r := 1) (by decide) (by decide) (by decide) 0]
    rw [show (3 : Int) % 32 = ((3 : Nat) : Int) from rfl, if_neg (by rw [hb.2.1]; decide), if_pos (bare_quiet hb 0)]
  obtain ⟨_, w1, _, w3, _⟩ := T3.held hp h4
  exact ⟨hc, hp, w1, w3⟩
end Go.Proofs.YtfmkhjbahgcgiaaGreatDoor.Ppgtbl
