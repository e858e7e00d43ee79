/- What Hand of package comp answers and does; awake. -/
import Derived.Test.YtikhbohkmogffaaDoorCmpF
namespace Go.Proofs.YtikhbohkmogffaaDoor.Pcomp
open Go.Proofs.YtikhbohkmogffaaDoor.Pbase Go.Proofs.YtikhbohkmogffaaDoor.Pfield Go.Proofs.YtikhbohkmogffaaDoor.Pmem
open Go.RowKit M
set_option linter.unusedVariables false

theorem haB_no {tt wh : Int} (h : haB tt wh = false) : tt < 0 ∨ (¬ tt < 0 ∧ 64 ≤ tt) ∨ (¬ tt < 0 ∧ ¬ 64 ≤ tt ∧ wh < 0) ∨ (¬ tt < 0 ∧ ¬ 64 ≤ tt ∧ ¬ wh < 0 ∧ 1073741824 < wh) := by
  have : ¬ ((0 ≤ tt ∧ tt ≤ 63) ∧ 0 ≤ wh ∧ wh ≤ 1073741824) := fun e => by rw [(haB_iff tt wh).2 e] at h; cases h
  omega
/-- A memory of the caller's, and what was laid since. -/
structure Hn (w W : World) (p b N : Nat) (M : Nat → Nat → Int) : Prop where
  mx : Mx W p b N M
  but : But b w W
theorem Hn.on {w W W' : World} {p b N : Nat} {M : Nat → Nat → Int} (h : Hn w W p b N M) (hB : Below W.heap.size W W') : Hn w W' p b N M := ⟨h.mx.on hB, h.but.trans (But.of_below b hB)⟩
set_option maxRecDepth 100000 in
set_option maxHeartbeats 1000000 in
theorem hand_any (p b N : Nat) (f tt wh : Int) (M : Nat → Nat → Int) (w : World) (hM : Mx w p b N M) :
    Calls Tryd.prog 11 #[.pointer (some ⟨p, 0, none⟩), .int .i64 f, .int .i64 tt, .int .i64 wh] w fun e w' => e = .returned (.int .i64 (haE N M f tt wh)) ∧ Mx w' p b N (haM N M f tt wh) ∧ But b w w' := by
  have HG : Hid (Calls Tryd.prog 13 #[.pointer (some ⟨p, 0, none⟩), .int .i64 f] w fun e w' => e = .returned (.tuple #[.agg #[.int .i64 (gtC N M f).tb, .int .i64 (gtC N M f).pg, .int .i64 (gtC N M f).l, .int .i64 (gtC N M f).e, .int .i64 (gtC N M f).fa, .int .i64 (gtC N M f).wh], .int .i64 (gtE N M f)]) ∧ Below w.heap.size w w') := get_any p b N f M w hM
  have H0 : Hid (Hn w w p b N M) := ⟨hM, But.refl b w⟩
  clear hM
  by_cases hg : gtE N M f = 0
  · obtain ⟨h1, h2, h3⟩ := gt_yes hg
    rw [hg, h3] at HG
    have hf := isE_ok h1
    cases hb : haB tt wh
    · have e1 : haE N M f tt wh = 1 := by unfold haE; rw [if_pos hg, hb]; rfl
      have e2 : haM N M f tt wh = M := by unfold haM; rw [if_neg (by rw [e1]; decide)]
      have hno := haB_no hb
      rw [e1, e2]
      clear e1 e2 hb hg h1 h2 h3 hf
      generalize cpOf M f = y at HG
      rcases hno with t1 | ⟨t1, t2⟩ | ⟨t1, t2, t3⟩ | ⟨t1, t2, t3, t4⟩
      all_goals
        go_enter Tryd.func11, Tryd.ntmps11
        go_wp2_with (first
          | (go_at_call 13; refine HG.out.mono ?_; rintro e1 w1 ⟨rfl, hb⟩; have H1 := rhide (H0.out.on hb); clear hb HG H0)
          | fail)
        go_ret
        have H2 := H1.out.on (bal (Below.refl _ _) (.cells #[.int .i64 y.tb, .int .i64 y.pg, .int .i64 y.l, .int .i64 y.e, .int .i64 y.fa, .int .i64 y.wh] 33))
        exact ⟨rfl, H2.mx, H2.but⟩
    · have hb' := (haB_iff tt wh).1 hb
      obtain ⟨_, e1, _⟩ := ha_put hg hb
      have e2 : haM N M f tt wh = layF N M f (haX (cpOf M f) tt wh).ws := by unfold haM; rw [if_pos e1]
      rw [e1, e2]
      have HW : Hid (∀ wc, Mx wc p b N M → Calls Tryd.prog 25 #[.pointer (some ⟨p, 0, none⟩), .int .i64 f, .agg #[.int .i64 (cpOf M f).tb, .int .i64 (cpOf M f).pg, .int .i64 (cpOf M f).l, .int .i64 (cpOf M f).e, .int .i64 (tt + 1), .int .i64 wh]] wc fun e w' => e = .returned (.int .i64 0) ∧ Mx w' p b N (layF N M f (haX (cpOf M f) tt wh).ws) ∧ But b wc w') := fun wc h => write_any p b N f (haX (cpOf M f) tt wh) M wc h (ha_co h2 hb) hf
      generalize layF N M f (haX (cpOf M f) tt wh).ws = M1 at HW ⊢
      clear e1 e2 hb hg h1 h2 h3 hf
      generalize cpOf M f = y at HG HW
      have t1 : ¬ tt < 0 := by omega
      have t2 : ¬ 64 ≤ tt := by omega
      have t3 : ¬ wh < 0 := by omega
      have t4 : ¬ 1073741824 < wh := by omega
      have t5 : wrap64 (tt + 1) = tt + 1 := by unfold wrap64; omega
      clear hb'
      go_enter Tryd.func11, Tryd.ntmps11
      go_wp2_with (first
        | (go_at_call 13; refine HG.out.mono ?_; rintro e1 w1 ⟨rfl, hb⟩; have H1 := rhide (H0.out.on hb); clear hb HG H0; have H2 := rhide (H1.out.on (bal (Below.refl w1.heap.size w1) (.cells #[.int .i64 y.tb, .int .i64 y.pg, .int .i64 y.l, .int .i64 y.e, .int .i64 (tt + 1), .int .i64 wh] 33))); clear H1)
        | (go_at_call 25; refine (HW.out _ H2.out.mx).mono ?_; rintro e3 w3 ⟨rfl, hm, hb⟩; have H3 := rhide (And.intro hm (H2.out.but.trans hb)); clear hm hb HW H2)
        | fail)
      go_ret
      exact ⟨rfl, H3.out⟩
  · have e1 : haE N M f tt wh = gtE N M f := by unfold haE; rw [if_neg hg]
    have e2 : haM N M f tt wh = M := by unfold haM; rw [if_neg (by rw [e1]; exact hg)]
    rw [e1, e2]
    generalize gtE N M f = E at HG hg ⊢
    generalize gtC N M f = y at HG
    have hE : (E != 0) = true := by simp [hg]
    clear e1 e2 hg
    go_enter Tryd.func11, Tryd.ntmps11
    go_wp2_with (first
      | (go_at_call 13; refine HG.out.mono ?_; rintro e1 w1 ⟨rfl, hb⟩; have H1 := rhide (H0.out.on hb); clear hb HG H0)
      | fail)
    go_ret
    have H2 := H1.out.on (bal (Below.refl _ _) (.cells #[.int .i64 y.tb, .int .i64 y.pg, .int .i64 y.l, .int .i64 y.e, .int .i64 y.fa, .int .i64 y.wh] 33))
    exact ⟨rfl, H2.mx, H2.but⟩
/-! ### awake -/
set_option maxRecDepth 100000 in
theorem awake_any (w : World) (hT : Tc w) : Calls Tryd.prog 18 #[] w fun e w' => e = .returned (.bool true) ∧ Below w.heap.size w w' := by
  have H1 : Hid (∀ w1, Tc w1 → Calls Tryd.prog 15 #[.agg #[.int .i64 0, .int .i64 0, .int .i64 0, .int .i64 0, .int .i64 0, .int .i64 1]] w1 fun e w' => e = .returned (.int .i64 1) ∧ Below w1.heap.size w1 w') := fun w1 h => by
    have := check_any ⟨0, 0, 0, 0, 0, 1⟩ (by unfold Fi In64; decide) w1 h
    rwa [show ckE ⟨0, 0, 0, 0, 0, 1⟩ = 1 from rfl] at this
  have H0 : Hid (∀ w1, Tc w1 → Calls Tryd.prog 15 #[.agg #[.int .i64 0, .int .i64 0, .int .i64 0, .int .i64 0, .int .i64 0, .int .i64 0]] w1 fun e w' => e = .returned (.int .i64 0) ∧ Below w1.heap.size w1 w') := fun w1 h => by
    have := check_any cp0 (by unfold Fi In64 cp0; decide) w1 h
    rwa [show ckE cp0 = 0 from rfl] at this
  have HT := rhide hT
  clear hT
  go_enter Tryd.func18, Tryd.ntmps18
  go_wp2_with (first
    | (go_at_call 15; refine (H1.out _ HT.out).mono ?_; rintro e1 w1 ⟨rfl, hb1⟩; have H2 : Hid (Below w.heap.size w w1) := hb1; clear hb1 H1)
    | (go_at_call 15; refine (H0.out _ (HT.out.on H2.out)).mono ?_; rintro e2 w2 ⟨rfl, hb2⟩; have H3 : Hid (Below w.heap.size w w2) := H2.out.trans (hb2.mono H2.out.size); clear hb2)
    | fail)
  go_ret
  exact ⟨rfl, H3.out⟩
end Go.Proofs.YtikhbohkmogffaaDoor.Pcomp
