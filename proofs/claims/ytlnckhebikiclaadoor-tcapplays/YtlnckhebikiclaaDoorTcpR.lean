/- What the document's right, Check, words, Make and Put of layer 20 answer and do, over its own memory. -/
import Derived.Test.YtlnckhebikiclaaDoorTcpF
import Derived.Test.YtlnckhebikiclaaDoorBunLay
import Derived.Test.YtlnckhebikiclaaDoorBunHead
import Derived.BigRegion
import Derived.Deep.RegionHeld3
namespace Go.Proofs.YtlnckhebikiclaaDoor.Ptcap
open Go.Proofs.YtlnckhebikiclaaDoor.Pbase Go.Proofs.YtlnckhebikiclaaDoor.Play Go.Proofs.YtlnckhebikiclaaDoor.Pmem
open Go.RowKit
set_option linter.unusedVariables false

/-! ### right, Check -/
theorem boB_in (c : Bd) : boB c = (Play.inB c.lf 0 1048576 && Play.inB c.pr 0 255 && (!c.inf || decide (c.lf = 0))) := rfl
set_option maxRecDepth 100000 in
set_option maxHeartbeats 2000000 in
theorem right_any (c : Bd) (w : World) : Calls Tryd.prog 32 #[.agg #[.bool c.inf, .int .i64 c.lf, .int .i64 c.pr]] w fun e w' => e = .returned (.bool (boB c)) ∧ Below w.heap.size w w' := by
  have I0 : Hid (∀ wc, Calls Tryd.prog 42 #[.int .i64 c.lf, .int .i64 0, .int .i64 1048576] wc fun e w' => e = .returned (.bool (Play.inB c.lf 0 1048576)) ∧ w' = wc) := fun wc => in_any c.lf 0 1048576 wc
  have I1 : Hid (∀ wc, Calls Tryd.prog 42 #[.int .i64 c.pr, .int .i64 0, .int .i64 255] wc fun e w' => e = .returned (.bool (Play.inB c.pr 0 255)) ∧ w' = wc) := fun wc => in_any c.pr 0 255 wc
  rw [boB_in]
  generalize Play.inB c.lf 0 1048576 = R0 at I0 ⊢
  generalize Play.inB c.pr 0 255 = R1 at I1 ⊢
  obtain ⟨i, l, p⟩ := c
  cases R0
  · show Calls Tryd.prog 32 _ w fun e w' => e = .returned (.bool false) ∧ Below w.heap.size w w'
    go_enter Tryd.func32, Tryd.ntmps32
    go_wp2_with (first
      | (go_at_call 42; refine (I0.out _).mono ?_; rintro e0 w0 ⟨rfl, hw⟩; subst hw; clear I0)
      | (go_at_call 42; refine (I1.out _).mono ?_; rintro e1 w1 ⟨rfl, hw⟩; subst hw; clear I1)
      | fail)
    go_ret
    exact ⟨rfl, bal (Below.refl _ _) _⟩
  cases R1
  · show Calls Tryd.prog 32 _ w fun e w' => e = .returned (.bool false) ∧ Below w.heap.size w w'
    go_enter Tryd.func32, Tryd.ntmps32
    go_wp2_with (first
      | (go_at_call 42; refine (I0.out _).mono ?_; rintro e0 w0 ⟨rfl, hw⟩; subst hw; clear I0)
      | (go_at_call 42; refine (I1.out _).mono ?_; rintro e1 w1 ⟨rfl, hw⟩; subst hw; clear I1)
      | fail)
    go_ret
    exact ⟨rfl, bal (Below.refl _ _) _⟩
  cases i
  · show Calls Tryd.prog 32 _ w fun e w' => e = .returned (.bool true) ∧ Below w.heap.size w w'
    go_enter Tryd.func32, Tryd.ntmps32
    go_wp2_with (first
      | (go_at_call 42; refine (I0.out _).mono ?_; rintro e0 w0 ⟨rfl, hw⟩; subst hw; clear I0)
      | (go_at_call 42; refine (I1.out _).mono ?_; rintro e1 w1 ⟨rfl, hw⟩; subst hw; clear I1)
      | fail)
    go_ret
    exact ⟨rfl, bal (Below.refl _ _) _⟩
  · show Calls Tryd.prog 32 _ w fun e w' => e = .returned (.bool (decide (l = 0))) ∧ Below w.heap.size w w'
    by_cases hl : l = 0
    · subst hl
      go_enter Tryd.func32, Tryd.ntmps32
      go_wp2_with (first
        | (go_at_call 42; refine (I0.out _).mono ?_; rintro e0 w0 ⟨rfl, hw⟩; subst hw; clear I0)
        | (go_at_call 42; refine (I1.out _).mono ?_; rintro e1 w1 ⟨rfl, hw⟩; subst hw; clear I1)
        | fail)
      go_ret
      exact ⟨rfl, bal (Below.refl _ _) _⟩
    · rw [show decide (l = 0) = false by simp [hl]]
      have hl' : (l == 0) = false := by simp [hl]
      clear hl
      go_enter Tryd.func32, Tryd.ntmps32
      go_wp2_with (first
        | (go_at_call 42; refine (I0.out _).mono ?_; rintro e0 w0 ⟨rfl, hw⟩; subst hw; clear I0)
        | (go_at_call 42; refine (I1.out _).mono ?_; rintro e1 w1 ⟨rfl, hw⟩; subst hw; clear I1)
        | fail)
      go_ret
      exact ⟨rfl, bal (Below.refl _ _) _⟩
set_option maxRecDepth 100000 in
theorem rcheck_any (c : Bd) (w : World) : Calls Tryd.prog 22 #[.agg #[.bool c.inf, .int .i64 c.lf, .int .i64 c.pr]] w fun e w' => e = .returned (.int .i64 (ckE c)) ∧ Below w.heap.size w w' := by
  have HR : Hid (∀ w1, Calls Tryd.prog 32 #[.agg #[.bool c.inf, .int .i64 c.lf, .int .i64 c.pr]] w1 fun e w' => e = .returned (.bool (boB c)) ∧ Below w1.heap.size w1 w') := fun w1 => right_any c w1
  unfold ckE
  generalize boB c = m at HR ⊢
  cases m
  all_goals
    go_enter Tryd.func22, Tryd.ntmps22
    go_wp2_with (first
      | (go_at_call 32; refine (HR.out _).mono ?_; rintro e1 w1 ⟨rfl, hb1⟩; have H1 : Hid (Below w.heap.size w w1) := (bal (Below.refl _ _) _).trans (hb1.mono (by simp)); clear hb1)
      | fail)
    go_ret
    exact ⟨rfl, H1.out⟩
/-! ### words -/
theorem rwords_any (c : Bd) (w : World) : Calls Tryd.prog 35 #[.agg #[.bool c.inf, .int .i64 c.lf, .int .i64 c.pr]] w fun e w' => e = .returned (.slice (some ⟨w.heap.size + 1, 0, none⟩) 3 3) ∧ Nums w' (w.heap.size + 1) c.ws ∧ Below w.heap.size w w' := by
  obtain ⟨i, l, p⟩ := c
  cases i
  · go_enter Tryd.func35, Tryd.ntmps35
    go_wp2
    go_ret
    refine ⟨rfl, ?_, bal (bal (Below.refl _ _) _) _⟩
    have e := heap_alloc_new (w.alloc (.cells #[.bool false, .int .i64 l, .int .i64 p] 33)) (.cells #[.int .i64 0, .int .i64 l, .int .i64 p] 3)
    rw [World.size_alloc] at e
    refine ⟨_, e, fun j hj => ?_⟩
    rw [ws_len] at hj
    rcases (show j = 0 ∨ j = 1 ∨ j = 2 by omega) with rfl | rfl | rfl <;> rfl
  · go_enter Tryd.func35, Tryd.ntmps35
    go_wp2
    go_ret
    refine ⟨rfl, ?_, bal (bal (Below.refl _ _) _) _⟩
    have e := heap_alloc_new (w.alloc (.cells #[.bool true, .int .i64 l, .int .i64 p] 33)) (.cells #[.int .i64 1, .int .i64 l, .int .i64 p] 3)
    rw [World.size_alloc] at e
    refine ⟨_, e, fun j hj => ?_⟩
    rw [ws_len] at hj
    rcases (show j = 0 ∨ j = 1 ∨ j = 2 by omega) with rfl | rfl | rfl <;> rfl
/-! ### Make, Put -/
/-- The document's memory, and the budget that was handed in, in a block of the call's own. -/
structure Rb (w W : World) (base q N : Nat) (M : Nat → Nat → Int) (c : Bd) : Prop where
  rx : Rx W base q N M
  box : RowB W w.heap.size c
  below : Below base w W
  kp : KeepX q w W
theorem rb_new {w : World} {base q N : Nat} {M : Nat → Nat → Int} (h : Rx w base q N M) (c : Bd) : Rb w (w.alloc (.cells #[.bool c.inf, .int .i64 c.lf, .int .i64 c.pr] 33)) base q N M c :=
  ⟨h.grown (bal (Below.refl _ _) _), rowB_new w c, (bal (Below.refl _ _) _).mono h.le, KeepX.below (bal (Below.refl _ _) _)⟩
theorem Rb.on {w W W' : World} {base q N : Nat} {M : Nat → Nat → Int} {c : Bd} (h : Rb w W base q N M c) (hB : Below W.heap.size W W') : Rb w W' base q N M c :=
  ⟨h.rx.grown hB, h.box.on hB, h.below.trans (hB.mono h.rx.le), h.kp.trans (KeepX.below hB)⟩
theorem Rb.turn {w W W' : World} {base q N : Nat} {M M' : Nat → Nat → Int} {c : Bd} (h : Rb w W base q N M c) (hR : RefIs W' base q N M') (hF : Fit M') (hB : Below base W W') (hK : KeepX q W W') : Rb w W' base q N M' c :=
  ⟨h.rx.turn hR hF, ⟨hK.t _ _ _ (by decide) h.box.row⟩, h.below.trans hB, h.kp.trans hK⟩
set_option maxRecDepth 100000 in
set_option maxHeartbeats 2000000 in
theorem rmake_any (base q N : Nat) (f : Int) (c : Bd) (M : Nat → Nat → Int) (w : World) (h : Rx w base q N M) : Calls Tryd.prog 8 #[.pointer (some ⟨q, 0, none⟩), .int .i64 f, .agg #[.bool c.inf, .int .i64 c.lf, .int .i64 c.pr]] w fun x w' => x = .returned (.int .i64 (mkE N f c)) ∧ Rx w' base q N (mkM N M f c) ∧ Below base w w' ∧ KeepX q w w' := by
  have HR : Hid (∀ w1, Calls Tryd.prog 32 #[.agg #[.bool c.inf, .int .i64 c.lf, .int .i64 c.pr]] w1 fun e w' => e = .returned (.bool (boB c)) ∧ Below w1.heap.size w1 w') := fun w1 => right_any c w1
  have H0 := rhide (rb_new h c)
  have n1 := h.n1
  have n64 := h.n64
  clear h
  by_cases hco : boB c = true
  · have e2 : mkE N f c = errF N f := by unfold mkE; rw [if_pos hco]
    have e3 : mkM N M f c = layF N (Phead.mkM N M f 5 0 false 0) f c.ws := by unfold mkM; rw [if_pos hco]
    rw [hco] at HR
    have HH : Hid (∀ wc, Rb w wc base q N M c → Calls Tryd.prog 33 #[.pointer (some ⟨q, 0, none⟩), .int .i64 f, .agg #[.int .i64 5, .int .i64 0, .bool false, .int .i64 0]] wc fun e w' => e = .returned (.int .i64 (errF N f)) ∧ Rb w w' base q N (Phead.mkM N M f 5 0 false 0) c) := fun wc h => by
      have := Phead.hrmake_k base q N f 5 0 false 0 M wc n1 n64 h.rx.ref
      rw [made_err (by omega)] at this
      refine this.mono ?_
      rintro e w' ⟨rfl, h1, h2, h3⟩
      exact ⟨rfl, h.turn h1 (Phead.fit_mk h.rx.fit N f 5 0 false 0) h2 h3⟩
    rw [e2, e3]
    clear e2 e3
    generalize Phead.mkM N M f 5 0 false 0 = M1 at HH ⊢
    cases hf : okF N f
    · have e4 : errF N f = 1 := by unfold errF; rw [hf]; rfl
      rw [e4] at HH ⊢
      rw [lay_bad hf]
      clear e4 hf hco
      go_enter Tryd.func8, Tryd.ntmps8
      go_wp2_with (first
        | (go_at_call 32; refine (HR.out _).mono ?_; rintro e1 w1 ⟨rfl, hb⟩; have H1 := rhide (H0.out.on hb); clear hb HR H0)
        | (go_at_call 33; refine (HH.out _ H1.out).mono ?_; rintro e2 w2 ⟨rfl, hb⟩; have H2 := rhide hb; clear hb HH H1)
        | fail)
      go_ret
      exact ⟨rfl, H2.out.rx, H2.out.below, H2.out.kp⟩
    · have e4 : errF N f = 0 := by unfold errF; rw [if_pos hf]
      rw [e4] at HH ⊢
      have HC : Hid (Bo c) := (boB_iff c).1 hco
      clear e4 hf hco
      go_enter Tryd.func8, Tryd.ntmps8
      go_wp2_with (first
        | (go_at_call 32; refine (HR.out _).mono ?_; rintro e1 w1 ⟨rfl, hb⟩; have H1 := rhide (H0.out.on hb); clear hb HR H0)
        | (go_at_call 33; refine (HH.out _ H1.out).mono ?_; rintro e2 w2 ⟨rfl, hb⟩; have H2 := rhide hb; clear hb HH H1; have x0 := H2.out.box.c0; have x1 := H2.out.box.c1; have x2 := H2.out.box.c2)
        | (go_at_call 35; refine (rwords_any c _).mono ?_; rintro e3 w3 ⟨rfl, hl, hb⟩; have H3 := rhide (H2.out.on hb); have HL := rhide hl; clear hl hb H2 x0 x1 x2)
        | (go_at_call 34; refine (rlay_any base q N _ 3 f c.ws M1 _ H3.out.rx HL.out (by rw [ws_len]; omega) (ws_fit HC.out)).mono ?_; rintro e4 w4 ⟨rfl, hx, hb, hk⟩; have H4 := rhide (And.intro hx (And.intro (H3.out.below.trans hb) (H3.out.kp.trans hk))); clear hx hb hk H3 HL)
        | fail)
      go_ret
      exact ⟨rfl, H4.out⟩
  · have e2 : mkE N f c = 1 := by unfold mkE; rw [if_neg hco]
    have e3 : mkM N M f c = M := by unfold mkM; rw [if_neg hco]
    rw [show boB c = false by simpa using hco] at HR
    rw [e2, e3]
    clear e2 e3 hco
    go_enter Tryd.func8, Tryd.ntmps8
    go_wp2_with (first
      | (go_at_call 32; refine (HR.out _).mono ?_; rintro e1 w1 ⟨rfl, hb⟩; have H1 := rhide (H0.out.on hb); clear hb HR H0)
      | fail)
    go_ret
    exact ⟨rfl, H1.out.rx, H1.out.below, H1.out.kp⟩
set_option maxRecDepth 100000 in
set_option maxHeartbeats 2000000 in
theorem rput_any (base q N : Nat) (f : Int) (c : Bd) (M : Nat → Nat → Int) (w : World) (h : Rx w base q N M) : Calls Tryd.prog 10 #[.pointer (some ⟨q, 0, none⟩), .int .i64 f, .agg #[.bool c.inf, .int .i64 c.lf, .int .i64 c.pr]] w fun x w' => x = .returned (.int .i64 (puE N M f c)) ∧ Rx w' base q N (puM N M f c) ∧ Below base w w' ∧ KeepX q w w' := by
  have HR : Hid (∀ w1, Calls Tryd.prog 32 #[.agg #[.bool c.inf, .int .i64 c.lf, .int .i64 c.pr]] w1 fun e w' => e = .returned (.bool (boB c)) ∧ Below w1.heap.size w1 w') := fun w1 => right_any c w1
  have HIs : Hid (∀ wc, Rx wc base q N M → Calls Tryd.prog 37 #[.pointer (some ⟨q, 0, none⟩), .int .i64 f, .int .i64 5] wc fun e w' => e = .returned (.int .i64 (Phead.isE N M f 5)) ∧ Below wc.heap.size wc w') := fun wc h => Phead.hris_any base q N f 5 M wc h.n1 h.n64 h.ref h.fit
  have H0 := rhide (rb_new h c)
  clear h
  by_cases hco : boB c = true
  · rw [hco] at HR
    by_cases hk : Phead.isE N M f 5 = 0
    · have e2 : puE N M f c = 0 := by unfold puE; rw [if_pos hco, if_pos hk]
      have e3 : puM N M f c = layF N M f c.ws := by unfold puM; rw [if_pos e2]
      rw [e2, e3]
      rw [hk] at HIs
      have HC : Hid (Bo c) := (boB_iff c).1 hco
      clear e2 e3 hk hco
      go_enter Tryd.func10, Tryd.ntmps10
      go_wp2_with (first
        | (go_at_call 32; refine (HR.out _).mono ?_; rintro e1 w1 ⟨rfl, hb⟩; have H1 := rhide (H0.out.on hb); clear hb HR H0)
        | (go_at_call 37; refine (HIs.out _ H1.out.rx).mono ?_; rintro e2 w2 ⟨rfl, hb⟩; have H2 := rhide (H1.out.on hb); clear hb HIs H1; have x0 := H2.out.box.c0; have x1 := H2.out.box.c1; have x2 := H2.out.box.c2)
        | (go_at_call 35; refine (rwords_any c _).mono ?_; rintro e3 w3 ⟨rfl, hl, hb⟩; have H3 := rhide (H2.out.on hb); have HL := rhide hl; clear hl hb H2 x0 x1 x2)
        | (go_at_call 34; refine (rlay_any base q N _ 3 f c.ws M _ H3.out.rx HL.out (by rw [ws_len]; omega) (ws_fit HC.out)).mono ?_; rintro e4 w4 ⟨rfl, hx, hb, hk⟩; have H4 := rhide (And.intro hx (And.intro (H3.out.below.trans hb) (H3.out.kp.trans hk))); clear hx hb hk H3 HL)
        | fail)
      go_ret
      exact ⟨rfl, H4.out⟩
    · have e2 : puE N M f c = 4 := by unfold puE; rw [if_pos hco, if_neg hk]
      have e3 : puM N M f c = M := by unfold puM; rw [if_neg (by rw [e2]; decide)]
      rw [e2, e3]
      generalize Phead.isE N M f 5 = E at HIs hk
      have hE : (E != 0) = true := by simp [hk]
      clear e2 e3 hk hco
      go_enter Tryd.func10, Tryd.ntmps10
      go_wp2_with (first
        | (go_at_call 32; refine (HR.out _).mono ?_; rintro e1 w1 ⟨rfl, hb⟩; have H1 := rhide (H0.out.on hb); clear hb HR H0)
        | (go_at_call 37; refine (HIs.out _ H1.out.rx).mono ?_; rintro e2 w2 ⟨rfl, hb⟩; have H2 := rhide (H1.out.on hb); clear hb HIs H1)
        | fail)
      go_ret
      exact ⟨rfl, H2.out.rx, H2.out.below, H2.out.kp⟩
  · have e2 : puE N M f c = 1 := by unfold puE; rw [if_neg hco]
    have e3 : puM N M f c = M := by unfold puM; rw [if_neg (by rw [e2]; decide)]
    rw [show boB c = false by simpa using hco] at HR
    rw [e2, e3]
    clear e2 e3 HIs hco
    go_enter Tryd.func10, Tryd.ntmps10
    go_wp2_with (first
      | (go_at_call 32; refine (HR.out _).mono ?_; rintro e1 w1 ⟨rfl, hb⟩; have H1 := rhide (H0.out.on hb); clear hb HR H0)
      | fail)
    go_ret
    exact ⟨rfl, H1.out.rx, H1.out.below, H1.out.kp⟩
end Go.Proofs.YtlnckhebikiclaaDoor.Ptcap
