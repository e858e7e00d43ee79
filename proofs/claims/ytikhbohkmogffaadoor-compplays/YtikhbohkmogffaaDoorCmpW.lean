/- What the document's Hand of layer 17 answers and does, over its own memory. -/
import Derived.Test.YtikhbohkmogffaaDoorCmpT
namespace Go.Proofs.YtikhbohkmogffaaDoor.Pcomp
open Go.Proofs.YtikhbohkmogffaaDoor.Pbase Go.Proofs.YtikhbohkmogffaaDoor.Pfield Go.Proofs.YtikhbohkmogffaaDoor.Pmem
open Go.RowKit M
set_option linter.unusedVariables false

/-! ### Hand -/
theorem haB_in (tt wh : Int) : haB tt wh = (inB tt 0 63 && inB wh 0 1073741824) := rfl
/-- The document's memory and what was laid since. -/
structure Rh (w W : World) (base q N : Nat) (M : Nat → Nat → Int) : Prop where
  rx : Rx W base q N M
  below : Below base w W
theorem Rh.on {w W W' : World} {base q N : Nat} {M : Nat → Nat → Int} (h : Rh w W base q N M) (hB : Below W.heap.size W W') : Rh w W' base q N M := ⟨h.rx.grown hB, h.below.trans (hB.mono h.rx.le)⟩
set_option maxRecDepth 100000 in
set_option maxHeartbeats 2000000 in
theorem rhand_any (base q N : Nat) (f tt wh : Int) (M : Nat → Nat → Int) (w : World) (h : Rx w base q N M) :
    Calls Tryd.prog 12 #[.pointer (some ⟨q, 0, none⟩), .int .i64 f, .int .i64 tt, .int .i64 wh] w fun e w' => e = .returned (.int .i64 (haE N M f tt wh)) ∧ Rx w' base q N (haM N M f tt wh) ∧ Below base w w' := by
  have HG : Hid (Calls Tryd.prog 14 #[.pointer (some ⟨q, 0, none⟩), .int .i64 f] w fun e w' => e = .returned (.tuple #[.agg #[.int .i64 (gtC N M f).tb, .int .i64 (gtC N M f).pg, .int .i64 (gtC N M f).l, .int .i64 (gtC N M f).e, .int .i64 (gtC N M f).fa, .int .i64 (gtC N M f).wh], .int .i64 (gtE N M f)]) ∧ Below w.heap.size w w') := rget_any base q N f M w h
  have H0 : Hid (Rh w w base q N M) := ⟨h, Below.refl _ _⟩
  clear h
  have I0 : Hid (∀ wc, Calls Tryd.prog 32 #[.int .i64 tt, .int .i64 0, .int .i64 63] wc fun e w' => e = .returned (.bool (inB tt 0 63)) ∧ w' = wc) := fun wc => in_any tt 0 63 wc
  have I1 : Hid (∀ wc, Calls Tryd.prog 32 #[.int .i64 wh, .int .i64 0, .int .i64 1073741824] wc fun e w' => e = .returned (.bool (inB wh 0 1073741824)) ∧ w' = wc) := fun wc => in_any wh 0 1073741824 wc
  by_cases hg : gtE N M f = 0
  · obtain ⟨h1, h2, h3⟩ := gt_yes hg
    rw [hg, h3] at HG
    cases hb : haB tt wh
    · have e1 : haE N M f tt wh = 1 := by unfold haE; rw [if_pos hg, hb]; rfl
      have e2 : haM N M f tt wh = M := by unfold haM; rw [if_neg (by rw [e1]; decide)]
      rw [haB_in] at hb
      rw [e1, e2]
      clear e1 e2 hg h1 h2 h3
      generalize cpOf M f = y at HG
      generalize inB tt 0 63 = R0 at I0 hb
      generalize inB wh 0 1073741824 = R1 at I1 hb
      have hn : R0 = false ∨ (R0 = true ∧ R1 = false) := by cases R0 <;> cases R1 <;> simp_all
      clear hb
      rcases hn with rfl | ⟨rfl, rfl⟩
      all_goals
        go_enter Tryd.func12, Tryd.ntmps12
        go_wp2_with (first
          | (go_at_call 14; refine HG.out.mono ?_; rintro e1 w1 ⟨rfl, hb⟩; have H1 := rhide (H0.out.on hb); clear hb HG H0)
          | (go_at_call 32; refine (I0.out _).mono ?_; rintro e2 w2 ⟨rfl, hw⟩; subst hw; clear I0)
          | (go_at_call 32; refine (I1.out _).mono ?_; rintro e3 w3 ⟨rfl, hw⟩; subst hw; clear I1)
          | fail)
        go_ret
        have H2 := H1.out.on (bal (Below.refl _ _) (.cells #[.int .i64 y.tb, .int .i64 y.pg, .int .i64 y.l, .int .i64 y.e, .int .i64 y.fa, .int .i64 y.wh] 33))
        exact ⟨rfl, H2.rx, H2.below⟩
    · have hb' := (haB_iff tt wh).1 hb
      obtain ⟨p1, e1, p3⟩ := ha_put hg hb
      have HP : Hid (∀ wc, Rx wc base q N M → Calls Tryd.prog 10 #[.pointer (some ⟨q, 0, none⟩), .int .i64 f, .agg #[.int .i64 (cpOf M f).tb, .int .i64 (cpOf M f).pg, .int .i64 (cpOf M f).l, .int .i64 (cpOf M f).e, .int .i64 (tt + 1), .int .i64 wh]] wc fun e w' => e = .returned (.int .i64 0) ∧ Rx w' base q N (haM N M f tt wh) ∧ Below base wc w') := fun wc h => by
        have := rput_any base q N f (haX (cpOf M f) tt wh) M wc h
        rw [p1, ← p3] at this
        exact this
      rw [e1]
      rw [haB_in, Bool.and_eq_true] at hb
      rw [hb.1] at I0
      rw [hb.2] at I1
      generalize haM N M f tt wh = M1 at HP ⊢
      clear e1 p1 p3 hb hg h1 h2 h3
      generalize cpOf M f = y at HG HP
      have t5 : wrap64 (tt + 1) = tt + 1 := by unfold wrap64; omega
      clear hb'
      go_enter Tryd.func12, Tryd.ntmps12
      go_wp2_with (first
        | (go_at_call 14; refine HG.out.mono ?_; rintro e1 w1 ⟨rfl, hb⟩; have H1 := rhide (H0.out.on hb); clear hb HG H0; have H2 := rhide (H1.out.on (bal (Below.refl w1.heap.size w1) (.cells #[.int .i64 y.tb, .int .i64 y.pg, .int .i64 y.l, .int .i64 y.e, .int .i64 (tt + 1), .int .i64 wh] 33))); clear H1)
        | (go_at_call 32; refine (I0.out _).mono ?_; rintro e2 w2 ⟨rfl, hw⟩; subst hw; clear I0)
        | (go_at_call 32; refine (I1.out _).mono ?_; rintro e3 w3 ⟨rfl, hw⟩; subst hw; clear I1)
        | (go_at_call 10; refine (HP.out _ H2.out.rx).mono ?_; rintro e4 w4 ⟨rfl, hm, hb⟩; have H3 := rhide (And.intro hm (H2.out.below.trans hb)); clear hm hb HP H2)
        | fail)
      go_ret
      exact ⟨rfl, H3.out⟩
  · have e1 : haE N M f tt wh = gtE N M f := by unfold haE; rw [if_neg hg]
    have e2 : haM N M f tt wh = M := by unfold haM; rw [if_neg (by rw [e1]; exact hg)]
    rw [e1, e2]
    generalize gtE N M f = E at HG hg ⊢
    generalize gtC N M f = y at HG
    have hE : (E != 0) = true := by simp [hg]
    clear e1 e2 hg I0 I1
    go_enter Tryd.func12, Tryd.ntmps12
    go_wp2_with (first
      | (go_at_call 14; refine HG.out.mono ?_; rintro e1 w1 ⟨rfl, hb⟩; have H1 := rhide (H0.out.on hb); clear hb HG H0)
      | fail)
    go_ret
    have H2 := H1.out.on (bal (Below.refl _ _) (.cells #[.int .i64 y.tb, .int .i64 y.pg, .int .i64 y.l, .int .i64 y.e, .int .i64 y.fa, .int .i64 y.wh] 33))
    exact ⟨rfl, H2.rx, H2.below⟩
end Go.Proofs.YtikhbohkmogffaaDoor.Pcomp
