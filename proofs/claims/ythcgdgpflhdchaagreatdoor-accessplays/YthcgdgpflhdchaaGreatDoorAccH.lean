/- What AccessBack and AccessStale ask, and awake, in plain words. No program is named here. -/
import Derived.Test.YthcgdgpflhdchaaGreatDoorAccG
namespace Go.Proofs.YthcgdgpflhdchaaGreatDoor.Paccess
open Go.Proofs.YthcgdgpflhdchaaGreatDoor.Pbase Go.Proofs.YthcgdgpflhdchaaGreatDoor.Pmem
open Go.RowKit Go.Proofs.YthcgdgpflhdchaaGreatDoor.Ppgtbl
set_option linter.unusedVariables false

/-! ### a tree beside other frames -/
theorem enW_same {N : Nat} {M M' : Nat → Nat → Int} {g : Int} (h : ∀ j, M' g.toNat j = M g.toNat j) (i : Int) : enW N M' g i = enW N M g i := by
  unfold enW ldM
  split
  · exact h _
  · rfl
/-- What lies in other frames than a tree's two does not touch it. -/
theorem tree_data {N : Nat} {M M' : Nat → Nat → Int} {high : Nat} (h : Tree N M high) (e : ∀ g j, g < 2 → M' g j = M g j) : Tree N M' high ∧ ∀ i, enW N M' 1 i = enW N M 1 i := by
  have e0 : ∀ j, M' (0 : Int).toNat j = M (0 : Int).toNat j := fun j => e 0 j (by omega)
  have e1 : ∀ j, M' (1 : Int).toNat j = M (1 : Int).toNat j := fun j => e 1 j (by omega)
  obtain ⟨a1, a2, _, _, a5⟩ := gh_words (N := N) (g := 0) (fun j _ => e0 j)
  obtain ⟨b1, b2, _, _, b5⟩ := gh_words (N := N) (g := 1) (fun j _ => e1 j)
  have w0 := fun i => en_word (enW_same (N := N) e0 i)
  have w1 := fun i => en_word (enW_same (N := N) e1 i)
  refine ⟨⟨h.hN, h.hh, ?_, ?_, ?_, ⟨(w0 _).1.trans h.link.1, (w0 _).2.1.trans h.link.2.1, (w0 _).2.2.1.trans h.link.2.2⟩, fun m hm hn => (w0 _).2.1.trans (h.other m hm hn), fun m hm => (w1 _).1.trans (h.read m hm)⟩, fun i => enW_same e1 i⟩
  · have := h.root; unfold tbB at this ⊢; rw [a1, a2, a5]; exact this
  · have := h.leaf; unfold tbB at this ⊢; rw [b1, b2, b5]; exact this
  · have := h.kind; unfold Phead.isE at this ⊢; rw [b1, b5]; exact this
/-- A page whose entry is On. -/
structure Goes (N : Nat) (M : Nat → Nat → Int) (page f r : Int) : Prop where
  on : enO N M 1 (page % 32) = true
  e : wkE N M 0 page = 0
  o : wkO N M 0 page = true
  f : wkF N M 0 page = f
  r : wkR N M 0 page = r
  t : wkT N M 0 page = 0
theorem goes_same {N : Nat} {M M' : Nat → Nat → Int} {high : Nat} {page f r : Int} (T : Tree N M high) (T' : Tree N M' high) (h1 : okG page = true) (h2 : page / 32 = high) (he : enW N M' 1 (page % 32) = enW N M 1 (page % 32)) (g : Goes N M page f r) : Goes N M' page f r := by
  obtain ⟨_, e1, e2, e3, e4⟩ := en_word he
  obtain ⟨_, _, x3, x4, x5⟩ := (T.walk h1 h2).1 g.on
  obtain ⟨y0, y2, y3, y4, y5⟩ := (T'.walk h1 h2).1 (e1.trans g.on)
  exact ⟨e1.trans g.on, y0, y2, by rw [y3, e2, ← x3, g.f], by rw [y4, e3, ← x4, g.r], by rw [y5, e4, ← x5, g.t]⟩
theorem goes_held {N : Nat} {M M' : Nat → Nat → Int} {high : Nat} {page f r floor : Int} (T : Tree N M high) (hp : maE N M 0 page f r floor = 0) (hM : M' = maM N M 0 page f r floor) : Tree N M' high ∧ Goes N M' page f r ∧ ∀ j : Nat, j < 32 → (j : Int) ≠ page % 32 → enW N M' 1 j = enW N M 1 j := by
  obtain ⟨T', w2, w3, w4, w5, w6, w7, _, _, w8⟩ := T.held hp hM
  exact ⟨T', ⟨w7, w2, w3, w4, w5, w6⟩, w8⟩
theorem goes_v {N : Nat} {M : Nat → Nat → Int} {page f r t : Int} (h : Goes N M page f r) (h0 : 0 ≤ page ∧ page ≤ 31) (h1 : 0 ≤ t ∧ t ≤ 31) : acV N M 0 (32 * page + t) = (true, f, r, 0) ∧ wkE N M 0 (Pradix.nuA (32 * page + t)) = 0 := by
  obtain ⟨_, e2, _⟩ := addr_of h0 h1
  unfold acV
  rw [e2, h.o, h.f, h.r, h.t]
  exact ⟨rfl, h.e⟩
theorem page_ok {page : Int} (h0 : 0 ≤ page ∧ page ≤ 31) : okG page = true ∧ page / 32 = ((0 : Nat) : Int) ∧ page % 32 = page := ⟨(okG_iff page).2 (by omega), by omega, by omega⟩
/-- An empty entry takes what is right. -/
theorem bare_takes {N : Nat} {M : Nat → Nat → Int} {high : Nat} (T : Tree N M high) {page f r : Int} (h1 : okG page = true) (h2 : page / 32 = high) (hb : Bare N M 1 (page % 32)) (ha : okA f r = true) (floor : Int) : maE N M 0 page f r floor = 0 := by
  rw [T.mapped h1 h2 ha floor, if_neg (by rw [hb.2.1]; decide), if_pos (bare_quiet hb floor)]
/-- What is mapped lies in the tree's own frames. -/
theorem ma_other {N : Nat} {M : Nat → Nat → Int} {high : Nat} (T : Tree N M high) {page f r floor : Int} {g j : Nat} (hg : g ≠ 1) : maM N M 0 page f r floor g j = M g j := by
  by_cases h : maE N M 0 page f r floor = 0
  · rw [(T.took h).2.2.2.2]
    exact se_other (.inl (by omega))
  · rw [maM_no h]
theorem co_other {N : Nat} {M : Nat → Nat → Int} {high f floor : Int} {g j : Nat} (hg : g ≠ 0) : coM N M 0 high f floor g j = M g j := by
  unfold coM
  split
  · exact se_other (.inl (by omega))
  · rfl
theorem two_other {N : Nat} {g j : Nat} (hg : 2 ≤ g) : twoM N g j = 0 := by
  unfold twoM
  rw [hmake_other (by omega), hmake_other (by omega)]
/-! ### what is remembered -/
theorem has_nil (k : Ptlb.Ky) : Ptlb.hasK [] k = false := rfl
theorem put_nil_other {R : Nat} {k l : Ptlb.Ky} {p : Ptlb.Pt} (h : k ≠ l) : Ptlb.hasK (Ptlb.putS R [] k p) l = false := by
  unfold Ptlb.putS Ptlb.putM
  split
  · rfl
  · simp [Ptlb.hasK, h]
theorem key_ne {sp page other t : Int} (h0 : 0 ≤ page ∧ page ≤ 31) (h1 : 0 ≤ other ∧ other ≤ 31) (ht : 0 ≤ t ∧ t ≤ 31) (hn : other ≠ page) : acK sp (32 * page + t) ≠ acK sp (32 * other + t) := by
  unfold acK
  rw [(addr_of h0 ht).2.1, (addr_of h1 ht).2.1]
  intro e
  exact hn (Prod.mk.inj e).2.symm
/-! ### AccessBack -/
theorem back_no {page r : Int} {M3 : Nat → Nat → Int} (hr : ¬ (1 ≤ r ∧ r ≤ 3)) : maE 4 M3 0 page 2 r 0 = 1 := by
  unfold maE
  rw [if_neg (fun h => hr ⟨((okA_iff 2 r).1 h).2.2.1, ((okA_iff 2 r).1 h).2.2.2⟩)]
theorem back_all {page other t r v : Int} (h0 : 0 ≤ page ∧ page ≤ 31) (h1 : 0 ≤ other ∧ other ≤ 31) (ht : 0 ≤ t ∧ t ≤ 31) (hn : other ≠ page) (hr : 1 ≤ r ∧ r ≤ 3) {M3 M4 M5 M6 : Nat → Nat → Int} {S1 S2 : List Ptlb.En}
    (h3 : M3 = coM 4 (twoM 4) 0 0 1 0) (h4 : M4 = maM 4 M3 0 page 2 r 0) (h5 : M5 = maM 4 M4 0 other 2 1 0) (h6 : M6 = soM 4 M5 [] 0 (32 * page + t) v) (hS1 : S1 = acS 2 4 M5 [] 0 (32 * page + t)) (hS2 : S2 = acS 2 4 M6 S1 0 (32 * other + t)) :
    maE 4 M3 0 page 2 r 0 = 0 ∧ maE 4 M4 0 other 2 1 0 = 0 ∧ soE 4 M6 S2 0 (32 * other + t) = 5 ∧ (∀ v', soM 4 M6 S2 0 (32 * other + t) v' = M6) ∧ acS 2 4 M6 S2 0 (32 * other + t) = S2 ∧ loE 4 M6 S1 0 (32 * other + t) = 0 ∧ loE 4 M6 S2 0 (32 * other + t) = 0 ∧
    ((r = 1 ∧ soE 4 M5 [] 0 (32 * page + t) = 5 ∧ loW 4 M6 S1 0 (32 * other + t) = 0 ∧ loW 4 M6 S2 0 (32 * other + t) = 0) ∨ (1 < r ∧ soE 4 M5 [] 0 (32 * page + t) = 0 ∧ loW 4 M6 S1 0 (32 * other + t) = v ∧ loW 4 M6 S2 0 (32 * other + t) = v)) := by
  obtain ⟨T3, z3⟩ := tree_new (N := 4) (high := 0) (by omega) (by omega) 0
  rw [show ((0 : Nat) : Int) = 0 from rfl, ← h3] at T3 z3
  obtain ⟨p1, p2, p3⟩ := page_ok h0
  obtain ⟨o1, o2, o3⟩ := page_ok h1
  have bare : ∀ x : Int, 0 ≤ x ∧ x ≤ 31 → Bare 4 M3 1 x := fun x hx => by
    have := z3 x.toNat (by omega)
    rwa [show ((x.toNat : Nat) : Int) = x by omega] at this
  have ha : okA 2 r = true := (okA_iff 2 r).2 (by omega)
  have e4 : maE 4 M3 0 page 2 r 0 = 0 := bare_takes T3 p1 p2 (by rw [p3]; exact bare page h0) ha 0
  obtain ⟨T4, g4, d4⟩ := goes_held T3 e4 h4
  have b4 : Bare 4 M4 1 other := by
    have := d4 other.toNat (by omega) (by rw [p3]; omega)
    rw [show ((other.toNat : Nat) : Int) = other by omega] at this
    exact bare_word this (bare other h1)
  have e5 : maE 4 M4 0 other 2 1 0 = 0 := bare_takes T4 o1 o2 (by rw [o3]; exact b4) (by decide) 0
  obtain ⟨T5, k5, d5⟩ := goes_held T4 e5 h5
  have g5 : Goes 4 M5 page 2 r := by
    refine goes_same T4 T5 p1 p2 ?_ g4
    have := d5 page.toNat (by omega) (by rw [o3]; omega)
    rwa [show ((page.toNat : Nat) : Int) = page by omega, ← p3] at this
  have zero : ∀ j, M5 2 j = 0 := fun j => by
    rw [h5, ma_other T4 (by omega), h4, ma_other T3 (by omega), h3, co_other (by omega), two_other (by omega)]
  obtain ⟨v5, w5⟩ := goes_v g5 h0 ht
  obtain ⟨A1, _, A3⟩ := addr_of h0 ht
  obtain ⟨B1, _, B3⟩ := addr_of h1 ht
  obtain ⟨s1, s2, s3⟩ := ac_new (N := 4) (M := M5) (S := []) (sp := 0) A1 (has_nil _) w5 2 2
  rw [v5] at s1 s2
  rw [acB_of s2] at s3
  have hk : okW 4 2 (4 + t) = true := by simp [okW, okF]; omega
  -- the store
  have st : (r = 1 ∧ soE 4 M5 [] 0 (32 * page + t) = 5 ∧ M6 = M5) ∨ (1 < r ∧ soE 4 M5 [] 0 (32 * page + t) = 0 ∧ M6 = stW 4 M5 2 (4 + t) v) := by
    by_cases hr1 : r = 1
    · subst hr1
      rw [al_one 2 (by omega), if_neg (by decide)] at s3
      obtain ⟨q1, q2⟩ := store_no (v := v) (show acE 4 M5 [] 0 (32 * page + t) 2 ≠ 0 by rw [s3]; decide)
      exact .inl ⟨rfl, q1.trans s3, h6.trans q2⟩
    · rw [al_write 2 r (by omega) (by omega), if_pos rfl] at s3
      obtain ⟨q1, q2⟩ := store_yes (v := v) s2 s3 (by rw [A3]; exact hk)
      rw [A3] at q2
      exact .inr ⟨by omega, q1, h6.trans q2⟩
  have data : ∀ g j, g < 2 → M6 g j = M5 g j := fun g j hg => by
    rcases st with ⟨_, _, e⟩ | ⟨_, _, e⟩
    · rw [e]
    · rw [e]; exact stW_other (.inl (by omega))
  obtain ⟨T6, d6⟩ := tree_data T5 data
  have k6 : Goes 4 M6 other 2 1 := goes_same T5 T6 o1 o2 (d6 _) k5
  obtain ⟨v6, w6⟩ := goes_v k6 h1 ht
  have hS1' : S1 = Ptlb.putS 2 [] (acK 0 (32 * page + t)) (true, 2, r, 0) := hS1.trans s1
  have no : Ptlb.hasK S1 (acK 0 (32 * other + t)) = false := by rw [hS1']; exact put_nil_other (key_ne h0 h1 ht hn)
  obtain ⟨u1, u2, u3⟩ := ac_new (N := 4) (M := M6) (S := S1) (sp := 0) B1 no w6 2 1
  rw [v6] at u1 u2
  rw [acB_of u2, al_read 2 1 (by omega) (.inl rfl), if_pos rfl] at u3
  obtain ⟨l1, l2⟩ := load_yes u2 u3 (by rw [B3]; exact hk)
  rw [B3] at l2
  have len : S1.length ≤ 2 := by rw [hS1']; exact Ptlb.len_putS (by simp) _ _
  obtain ⟨hh, hg⟩ := Ptlb.putS_get (R := 2) len (acK 0 (32 * other + t)) (true, 2, 1, 0)
  rw [← u1, ← hS2] at hh hg
  have hh : Ptlb.hasK S2 (acK 0 (32 * other + t)) = true := hh
  have hg := hg (by omega)
  obtain ⟨x1, x2, x3⟩ := ac_has (N := 4) (M := M6) (S := S2) (sp := 0) B1 hh 2 2
  obtain ⟨_, _, y3⟩ := ac_has (N := 4) (M := M6) (S := S2) (sp := 0) B1 hh 2 1
  rw [hg] at x2
  rw [acB_of x2, al_one 2 (by omega), if_neg (by decide)] at x3
  rw [acB_of x2, al_read 2 1 (by omega) (.inl rfl), if_pos rfl] at y3
  have n5 : acE 4 M6 S2 0 (32 * other + t) 2 ≠ 0 := by rw [x3]; decide
  obtain ⟨m1, m2⟩ := load_yes x2 y3 (by rw [B3]; exact hk)
  rw [B3] at m2
  refine ⟨e4, e5, (store_no (v := 0) n5).1.trans x3, fun v' => (store_no n5).2, x1, l1, m1, ?_⟩
  rcases st with ⟨q0, q1, q2⟩ | ⟨q0, q1, q2⟩
  · refine .inl ⟨q0, q1, ?_, ?_⟩
    · rw [l2, q2]; exact zero _
    · rw [m2, q2]; exact zero _
  · refine .inr ⟨q0, q1, ?_, ?_⟩
    · rw [l2, q2]; exact stW_own hk
    · rw [m2, q2]; exact stW_own hk
/-! ### AccessStale -/
theorem stale_all {page t : Int} {n : Nat} (h0 : 0 ≤ page ∧ page ≤ 31) (ht : 0 ≤ t ∧ t ≤ 31) {M3 M4 M5 : Nat → Nat → Int} {S1 : List Ptlb.En}
    (h3 : M3 = coM 4 (twoM 4) 0 0 1 0) (h4 : M4 = maM 4 M3 0 page 2 1 0) (h5 : M5 = unM 4 M4 0 page 5) (hS1 : S1 = acS n 4 M4 [] 0 (32 * page + t)) :
    loE 4 M4 [] 0 (32 * page + t) = 0 ∧ (loE 4 M5 S1 0 (32 * page + t) = if 0 < n then 0 else 9) ∧ loE 4 M5 [] 0 (32 * page + t) = 9 := by
  obtain ⟨T3, z3⟩ := tree_new (N := 4) (high := 0) (by omega) (by omega) 0
  rw [show ((0 : Nat) : Int) = 0 from rfl, ← h3] at T3 z3
  obtain ⟨p1, p2, p3⟩ := page_ok h0
  have bare : Bare 4 M3 1 page := by
    have := z3 page.toNat (by omega)
    rwa [show ((page.toNat : Nat) : Int) = page by omega] at this
  have e4 : maE 4 M3 0 page 2 1 0 = 0 := bare_takes T3 p1 p2 (by rw [p3]; exact bare) (by decide) 0
  obtain ⟨T4, g4, _⟩ := goes_held T3 e4 h4
  obtain ⟨v4, w4⟩ := goes_v g4 h0 ht
  obtain ⟨A1, A2, A3⟩ := addr_of h0 ht
  have hk : okW 4 2 (4 + t) = true := by simp [okW, okF]; omega
  obtain ⟨s1, s2, s3⟩ := ac_new (N := 4) (M := M4) (S := []) (sp := 0) A1 (has_nil _) w4 n 1
  rw [v4] at s1 s2
  rw [acB_of s2, al_read 2 1 (by omega) (.inl rfl), if_pos rfl] at s3
  obtain ⟨l1, _⟩ := load_yes s2 s3 (by rw [A3]; exact hk)
  have eu : unE 4 M4 0 page 5 = 0 := by rw [un_of 5 g4.e]; decide
  obtain ⟨_, x1, _, _⟩ := T4.left eu h5
  have nw : wkE 4 M5 0 (Pradix.nuA (32 * page + t)) ≠ 0 := by rw [A2, x1]; decide
  have nine : ∀ S : List Ptlb.En, Ptlb.hasK S (acK 0 (32 * page + t)) = false → loE 4 M5 S 0 (32 * page + t) = 9 := fun S hS => by
    obtain ⟨_, y2⟩ := ac_none (N := 4) (M := M5) (S := S) (sp := 0) A1 hS nw n 1
    rw [A2, x1] at y2
    exact (load_no (by rw [y2]; decide)).1.trans y2
  refine ⟨l1, ?_, nine [] (has_nil _)⟩
  obtain ⟨hh, hg⟩ := Ptlb.putS_get (S := []) (R := n) (by simp) (acK 0 (32 * page + t)) (true, 2, 1, 0)
  rw [← s1, ← hS1] at hh hg
  by_cases hn : 0 < n
  · rw [if_pos hn]
    rw [decide_eq_true hn] at hh
    obtain ⟨_, y2, y3⟩ := ac_has (N := 4) (M := M5) (S := S1) (sp := 0) A1 hh n 1
    rw [hg hn] at y2
    rw [acB_of y2, al_read 2 1 (by omega) (.inl rfl), if_pos rfl] at y3
    exact (load_yes y2 y3 (by rw [A3]; exact hk)).1
  · rw [if_neg hn]
    rw [decide_eq_false hn] at hh
    exact nine S1 hh
/-! ### awake -/
theorem awake_find {M3 M4 : Nat → Nat → Int} (h3 : M3 = coM 3 (twoM 3) 0 0 1 0) (h4 : M4 = maM 3 M3 0 0 2 3 0) : acE 3 M4 [] 0 5 1 = 0 ∧ acF 3 M4 [] 0 5 1 = 2 ∧ acA 3 M4 [] 0 5 1 = 9 := by
  obtain ⟨T3, z3⟩ := tree_new (N := 3) (high := 0) (by omega) (by omega) 0
  rw [show ((0 : Nat) : Int) = 0 from rfl, ← h3] at T3 z3
  have e4 : maE 3 M3 0 0 2 3 0 = 0 := bare_takes T3 (by decide) (by decide) (z3 0 (by omega)) (by decide) 0
  obtain ⟨T4, g4, _⟩ := goes_held T3 e4 h4
  obtain ⟨v4, w4⟩ := goes_v (t := 5) g4 (by omega) (by omega)
  rw [show (32 : Int) * 0 + 5 = 5 from rfl] at v4 w4
  obtain ⟨s1, s2, s3⟩ := ac_new (N := 3) (M := M4) (S := []) (sp := 0) (a := 5) (by decide) (has_nil _) w4 2 1
  rw [v4] at s2
  rw [acB_of s2, al_read 2 3 (by omega) (.inr rfl), if_pos rfl] at s3
  unfold acF acA
  rw [if_pos s3, if_pos s3, s2]
  exact ⟨s3, rfl, rfl⟩
end Go.Proofs.YthcgdgpflhdchaaGreatDoor.Paccess
