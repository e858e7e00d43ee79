/- What the document's right, Check, words, Make and Put of layer 22 answer and do, over its own memory. -/
import Derived.Test.YtcoggdnpjpiacaaGreatDoorRcvF
import Derived.Test.YtcoggdnpjpiacaaGreatDoorBunLay
import Derived.Test.YtcoggdnpjpiacaaGreatDoorBunHead
import Derived.BigRegion
import Derived.Deep.RegionHeld3
namespace Go.Proofs.YtcoggdnpjpiacaaGreatDoor.Prcv
open Go.Proofs.YtcoggdnpjpiacaaGreatDoor.Pbase Go.Proofs.YtcoggdnpjpiacaaGreatDoor.Pfield Go.Proofs.YtcoggdnpjpiacaaGreatDoor.Play Go.Proofs.YtcoggdnpjpiacaaGreatDoor.Pmem Go.Proofs.YtcoggdnpjpiacaaGreatDoor.Pring
open Go.RowKit M
set_option linter.unusedVariables false

/-! ### right, Check -/
theorem voB_in (c : Rv) : voB c = (Play.inB c.th 0 63 && Play.inB c.pa 0 64 && Play.inB c.co 0 255 && Play.inB c.lo 0 255) := rfl
set_option maxRecDepth 100000 in
set_option maxHeartbeats 2000000 in
theorem vright_any (c : Rv) (w : World) : Calls Tryz.prog 33 #[.agg #[.int .i64 c.th, .int .i64 c.pa, .int .i64 c.co, .bool c.wa, .int .i64 c.lo]] w fun e w' => e = .returned (.bool (voB c)) ∧ Below w.heap.size w w' := by
  have I0 : Hid (∀ wc, Calls Tryz.prog 58 #[.int .i64 c.th, .int .i64 0, .int .i64 63] wc fun e w' => e = .returned (.bool (Play.inB c.th 0 63)) ∧ w' = wc) := fun wc => in_any c.th 0 63 wc
  have I1 : Hid (∀ wc, Calls Tryz.prog 58 #[.int .i64 c.pa, .int .i64 0, .int .i64 64] wc fun e w' => e = .returned (.bool (Play.inB c.pa 0 64)) ∧ w' = wc) := fun wc => in_any c.pa 0 64 wc
  have I2 : Hid (∀ wc, Calls Tryz.prog 58 #[.int .i64 c.co, .int .i64 0, .int .i64 255] wc fun e w' => e = .returned (.bool (Play.inB c.co 0 255)) ∧ w' = wc) := fun wc => in_any c.co 0 255 wc
  have I3 : Hid (∀ wc, Calls Tryz.prog 58 #[.int .i64 c.lo, .int .i64 0, .int .i64 255] wc fun e w' => e = .returned (.bool (Play.inB c.lo 0 255)) ∧ w' = wc) := fun wc => in_any c.lo 0 255 wc
  rw [voB_in]
  generalize Play.inB c.th 0 63 = R0 at I0 ⊢
  generalize Play.inB c.pa 0 64 = R1 at I1 ⊢
  generalize Play.inB c.co 0 255 = R2 at I2 ⊢
  generalize Play.inB c.lo 0 255 = R3 at I3 ⊢
  cases R0
  · show Calls Tryz.prog 33 _ w fun e w' => e = .returned (.bool false) ∧ Below w.heap.size w w'
    go_enter Tryz.func33, Tryz.ntmps33
    go_wp2_with (first
      | (go_at_call 58; refine (I0.out _).mono ?_; rintro e0 w0 ⟨rfl, hw⟩; subst hw; clear I0)
      | (go_at_call 58; refine (I1.out _).mono ?_; rintro e1 w1 ⟨rfl, hw⟩; subst hw; clear I1)
      | (go_at_call 58; refine (I2.out _).mono ?_; rintro e2 w2 ⟨rfl, hw⟩; subst hw; clear I2)
      | (go_at_call 58; refine (I3.out _).mono ?_; rintro e3 w3 ⟨rfl, hw⟩; subst hw; clear I3)
      | fail)
    go_ret
    exact ⟨rfl, bal (Below.refl _ _) _⟩
  cases R1
  · show Calls Tryz.prog 33 _ w fun e w' => e = .returned (.bool false) ∧ Below w.heap.size w w'
    go_enter Tryz.func33, Tryz.ntmps33
    go_wp2_with (first
      | (go_at_call 58; refine (I0.out _).mono ?_; rintro e0 w0 ⟨rfl, hw⟩; subst hw; clear I0)
      | (go_at_call 58; refine (I1.out _).mono ?_; rintro e1 w1 ⟨rfl, hw⟩; subst hw; clear I1)
      | (go_at_call 58; refine (I2.out _).mono ?_; rintro e2 w2 ⟨rfl, hw⟩; subst hw; clear I2)
      | (go_at_call 58; refine (I3.out _).mono ?_; rintro e3 w3 ⟨rfl, hw⟩; subst hw; clear I3)
      | fail)
    go_ret
    exact ⟨rfl, bal (Below.refl _ _) _⟩
  cases R2
  · show Calls Tryz.prog 33 _ w fun e w' => e = .returned (.bool false) ∧ Below w.heap.size w w'
    go_enter Tryz.func33, Tryz.ntmps33
    go_wp2_with (first
      | (go_at_call 58; refine (I0.out _).mono ?_; rintro e0 w0 ⟨rfl, hw⟩; subst hw; clear I0)
      | (go_at_call 58; refine (I1.out _).mono ?_; rintro e1 w1 ⟨rfl, hw⟩; subst hw; clear I1)
      | (go_at_call 58; refine (I2.out _).mono ?_; rintro e2 w2 ⟨rfl, hw⟩; subst hw; clear I2)
      | (go_at_call 58; refine (I3.out _).mono ?_; rintro e3 w3 ⟨rfl, hw⟩; subst hw; clear I3)
      | fail)
    go_ret
    exact ⟨rfl, bal (Below.refl _ _) _⟩
  cases R3
  · show Calls Tryz.prog 33 _ w fun e w' => e = .returned (.bool false) ∧ Below w.heap.size w w'
    go_enter Tryz.func33, Tryz.ntmps33
    go_wp2_with (first
      | (go_at_call 58; refine (I0.out _).mono ?_; rintro e0 w0 ⟨rfl, hw⟩; subst hw; clear I0)
      | (go_at_call 58; refine (I1.out _).mono ?_; rintro e1 w1 ⟨rfl, hw⟩; subst hw; clear I1)
      | (go_at_call 58; refine (I2.out _).mono ?_; rintro e2 w2 ⟨rfl, hw⟩; subst hw; clear I2)
      | (go_at_call 58; refine (I3.out _).mono ?_; rintro e3 w3 ⟨rfl, hw⟩; subst hw; clear I3)
      | fail)
    go_ret
    exact ⟨rfl, bal (Below.refl _ _) _⟩
  · show Calls Tryz.prog 33 _ w fun e w' => e = .returned (.bool true) ∧ Below w.heap.size w w'
    go_enter Tryz.func33, Tryz.ntmps33
    go_wp2_with (first
      | (go_at_call 58; refine (I0.out _).mono ?_; rintro e0 w0 ⟨rfl, hw⟩; subst hw; clear I0)
      | (go_at_call 58; refine (I1.out _).mono ?_; rintro e1 w1 ⟨rfl, hw⟩; subst hw; clear I1)
      | (go_at_call 58; refine (I2.out _).mono ?_; rintro e2 w2 ⟨rfl, hw⟩; subst hw; clear I2)
      | (go_at_call 58; refine (I3.out _).mono ?_; rintro e3 w3 ⟨rfl, hw⟩; subst hw; clear I3)
      | fail)
    go_ret
    exact ⟨rfl, bal (Below.refl _ _) _⟩
set_option maxRecDepth 100000 in
theorem vcheck_any (c : Rv) (w : World) : Calls Tryz.prog 9 #[.agg #[.int .i64 c.th, .int .i64 c.pa, .int .i64 c.co, .bool c.wa, .int .i64 c.lo]] w fun e w' => e = .returned (.int .i64 (vkE c)) ∧ Below w.heap.size w w' := by
  have HR : Hid (∀ w1, Calls Tryz.prog 33 #[.agg #[.int .i64 c.th, .int .i64 c.pa, .int .i64 c.co, .bool c.wa, .int .i64 c.lo]] w1 fun e w' => e = .returned (.bool (voB c)) ∧ Below w1.heap.size w1 w') := fun w1 => vright_any c w1
  unfold vkE
  generalize voB c = m at HR ⊢
  cases m
  all_goals
    go_enter Tryz.func9, Tryz.ntmps9
    go_wp2_with (first
      | (go_at_call 33; refine (HR.out _).mono ?_; rintro e1 w1 ⟨rfl, hb1⟩; have H1 : Hid (Below w.heap.size w w1) := (bal (Below.refl _ _) _).trans (hb1.mono (by simp)); clear hb1)
      | fail)
    go_ret
    exact ⟨rfl, H1.out⟩
/-! ### words -/
theorem vwords_any (c : Rv) (w : World) : Calls Tryz.prog 43 #[.agg #[.int .i64 c.th, .int .i64 c.pa, .int .i64 c.co, .bool c.wa, .int .i64 c.lo]] w fun e w' => e = .returned (.slice (some ⟨w.heap.size + 1, 0, none⟩) 8 8) ∧ Nums w' (w.heap.size + 1) c.ws ∧ Below w.heap.size w w' := by
  obtain ⟨t, p, c, i, l⟩ := c
  cases i
  · go_enter Tryz.func43, Tryz.ntmps43
    go_wp2
    go_ret
    refine ⟨rfl, ?_, bal (bal (Below.refl _ _) _) _⟩
    have e := heap_alloc_new (w.alloc (.cells #[.int .i64 t, .int .i64 p, .int .i64 c, .bool false, .int .i64 l] 33)) (.cells #[.int .i64 t, .int .i64 p, .int .i64 c, .int .i64 0, .int .i64 l, .int .i64 0, .int .i64 0, .int .i64 0] 3)
    rw [World.size_alloc] at e
    refine ⟨_, e, fun j hj => ?_⟩
    rw [vs_len] at hj
    rcases (show j = 0 ∨ j = 1 ∨ j = 2 ∨ j = 3 ∨ j = 4 ∨ j = 5 ∨ j = 6 ∨ j = 7 by omega) with rfl | rfl | rfl | rfl | rfl | rfl | rfl | rfl <;> rfl
  · go_enter Tryz.func43, Tryz.ntmps43
    go_wp2
    go_ret
    refine ⟨rfl, ?_, bal (bal (Below.refl _ _) _) _⟩
    have e := heap_alloc_new (w.alloc (.cells #[.int .i64 t, .int .i64 p, .int .i64 c, .bool true, .int .i64 l] 33)) (.cells #[.int .i64 t, .int .i64 p, .int .i64 c, .int .i64 1, .int .i64 l, .int .i64 0, .int .i64 0, .int .i64 0] 3)
    rw [World.size_alloc] at e
    refine ⟨_, e, fun j hj => ?_⟩
    rw [vs_len] at hj
    rcases (show j = 0 ∨ j = 1 ∨ j = 2 ∨ j = 3 ∨ j = 4 ∨ j = 5 ∨ j = 6 ∨ j = 7 by omega) with rfl | rfl | rfl | rfl | rfl | rfl | rfl | rfl <;> rfl
/-! ### Make, Put -/
/-- The document's memory, and the endpoint that was handed in, in a block of the call's own. -/
structure Db (w W : World) (base q N : Nat) (M : Nat → Nat → Int) (c : Rv) : Prop where
  dh : Dh w W base q N M
  box : RowW W w.heap.size c
theorem db_new {w : World} {base q N : Nat} {M : Nat → Nat → Int} (h : Rx w base q N M) (c : Rv) : Db w (w.alloc (.cells #[.int .i64 c.th, .int .i64 c.pa, .int .i64 c.co, .bool c.wa, .int .i64 c.lo] 33)) base q N M c := ⟨(dh_self h).on (bal (Below.refl _ _) _), rowW_new w c⟩
theorem Db.on {w W W' : World} {base q N : Nat} {M : Nat → Nat → Int} {c : Rv} (h : Db w W base q N M c) (hB : Below W.heap.size W W') : Db w W' base q N M c := ⟨h.dh.on hB, h.box.on hB⟩
theorem Db.turn {w W W' : World} {base q N : Nat} {M M' : Nat → Nat → Int} {c : Rv} (h : Db w W base q N M c) (hR : RefIs W' base q N M') (hF : Fit M') (hB : Below base W W') (hK : KeepX q W W') : Db w W' base q N M' c := ⟨h.dh.turn hR hF hB hK, h.box.keep hK.t⟩
set_option maxRecDepth 100000 in
set_option maxHeartbeats 2000000 in
theorem vmake_any (base q N : Nat) (f : Int) (c : Rv) (M : Nat → Nat → Int) (w : World) (h : Rx w base q N M) : Calls Tryz.prog 17 #[.pointer (some ⟨q, 0, none⟩), .int .i64 f, .agg #[.int .i64 c.th, .int .i64 c.pa, .int .i64 c.co, .bool c.wa, .int .i64 c.lo]] w fun x w' => x = .returned (.int .i64 (vmE N f c)) ∧ Dh w w' base q N (vmM N M f c) := by
  have HR : Hid (∀ w1, Calls Tryz.prog 33 #[.agg #[.int .i64 c.th, .int .i64 c.pa, .int .i64 c.co, .bool c.wa, .int .i64 c.lo]] w1 fun e w' => e = .returned (.bool (voB c)) ∧ Below w1.heap.size w1 w') := fun w1 => vright_any c w1
  have H0 := rhide (db_new h c)
  have n1 := h.n1
  have n64 := h.n64
  clear h
  by_cases hco : voB c = true
  · have e2 : vmE N f c = errF N f := by unfold vmE; rw [if_pos hco]
    have e3 : vmM N M f c = layF N (Phead.mkM N M f 6 0 false 0) f c.ws := by unfold vmM; rw [if_pos hco]
    rw [hco] at HR
    have HH : Hid (∀ wc, Db w wc base q N M c → Calls Tryz.prog 41 #[.pointer (some ⟨q, 0, none⟩), .int .i64 f, .agg #[.int .i64 6, .int .i64 0, .bool false, .int .i64 0]] wc fun e w' => e = .returned (.int .i64 (errF N f)) ∧ Db w w' base q N (Phead.mkM N M f 6 0 false 0) c) := fun wc h => by
      have := Phead.hrmake_k base q N f 6 0 false 0 M wc n1 n64 h.dh.rx.ref
      rw [made_err (by omega)] at this
      refine this.mono ?_
      rintro e w' ⟨rfl, h1, h2, h3⟩
      exact ⟨rfl, h.turn h1 (Phead.fit_mk h.dh.rx.fit N f 6 0 false 0) h2 h3⟩
    rw [e2, e3]
    clear e2 e3
    generalize Phead.mkM N M f 6 0 false 0 = M1 at HH ⊢
    cases hf : okF N f
    · have e4 : errF N f = 1 := by unfold errF; rw [hf]; rfl
      rw [e4] at HH ⊢
      rw [lay_bad hf]
      clear e4 hf hco
      go_enter Tryz.func17, Tryz.ntmps17
      go_wp2_with (first
        | (go_at_call 33; refine (HR.out _).mono ?_; rintro e1 w1 ⟨rfl, hb⟩; have H1 := rhide (H0.out.on hb); clear hb HR H0)
        | (go_at_call 41; refine (HH.out _ H1.out).mono ?_; rintro e2 w2 ⟨rfl, hb⟩; have H2 := rhide hb; clear hb HH H1)
        | fail)
      go_ret
      exact ⟨rfl, H2.out.dh⟩
    · have e4 : errF N f = 0 := by unfold errF; rw [if_pos hf]
      rw [e4] at HH ⊢
      have HC : Hid (Vo c) := (voB_iff c).1 hco
      clear e4 hf hco
      go_enter Tryz.func17, Tryz.ntmps17
      go_wp2_with (first
        | (go_at_call 33; refine (HR.out _).mono ?_; rintro e1 w1 ⟨rfl, hb⟩; have H1 := rhide (H0.out.on hb); clear hb HR H0)
        | (go_at_call 41; refine (HH.out _ H1.out).mono ?_; rintro e2 w2 ⟨rfl, hb⟩; have H2 := rhide hb; clear hb HH H1; have x0 := H2.out.box.c0; have x1 := H2.out.box.c1; have x2 := H2.out.box.c2; have x3 := H2.out.box.c3; have x4 := H2.out.box.c4)
        | (go_at_call 43; refine (vwords_any c _).mono ?_; rintro e3 w3 ⟨rfl, hl, hb⟩; have H3 := rhide (H2.out.on hb); have HL := rhide hl; clear hl hb H2 x0 x1 x2 x3 x4)
        | (go_at_call 42; refine (rlay_any base q N _ 8 f c.ws M1 _ H3.out.dh.rx HL.out (by rw [vs_len]; omega) (vs_fit HC.out)).mono ?_; rintro e4 w4 ⟨rfl, hx, hb, hk⟩; have H4 : Hid (Dh w w4 base q N (layF N M1 f c.ws)) := H3.out.dh.trans ⟨hx, hb, hk⟩; clear hx hb hk H3 HL)
        | fail)
      go_ret
      exact ⟨rfl, H4.out⟩
  · have e2 : vmE N f c = 1 := by unfold vmE; rw [if_neg hco]
    have e3 : vmM N M f c = M := by unfold vmM; rw [if_neg hco]
    rw [show voB c = false by simpa using hco] at HR
    rw [e2, e3]
    clear e2 e3 hco
    go_enter Tryz.func17, Tryz.ntmps17
    go_wp2_with (first
      | (go_at_call 33; refine (HR.out _).mono ?_; rintro e1 w1 ⟨rfl, hb⟩; have H1 := rhide (H0.out.on hb); clear hb HR H0)
      | fail)
    go_ret
    exact ⟨rfl, H1.out.dh⟩
set_option maxRecDepth 100000 in
set_option maxHeartbeats 2000000 in
theorem vput_any (base q N : Nat) (f : Int) (c : Rv) (M : Nat → Nat → Int) (w : World) (h : Rx w base q N M) : Calls Tryz.prog 19 #[.pointer (some ⟨q, 0, none⟩), .int .i64 f, .agg #[.int .i64 c.th, .int .i64 c.pa, .int .i64 c.co, .bool c.wa, .int .i64 c.lo]] w fun x w' => x = .returned (.int .i64 (vpE N M f c)) ∧ Dh w w' base q N (vpM N M f c) := by
  have HR : Hid (∀ w1, Calls Tryz.prog 33 #[.agg #[.int .i64 c.th, .int .i64 c.pa, .int .i64 c.co, .bool c.wa, .int .i64 c.lo]] w1 fun e w' => e = .returned (.bool (voB c)) ∧ Below w1.heap.size w1 w') := fun w1 => vright_any c w1
  have HIs : Hid (∀ wc, Db w wc base q N M c → Calls Tryz.prog 31 #[.pointer (some ⟨q, 0, none⟩), .int .i64 f, .int .i64 6] wc fun e w' => e = .returned (.int .i64 (Phead.isE N M f 6)) ∧ Below wc.heap.size wc w') := fun wc h => Phead.hris_any base q N f 6 M wc h.dh.rx.n1 h.dh.rx.n64 h.dh.rx.ref h.dh.rx.fit
  have H0 := rhide (db_new h c)
  clear h
  by_cases hco : Vo c
  · rw [voB_yes hco] at HR
    by_cases hk : Phead.isE N M f 6 = 0
    · obtain ⟨e2, e3⟩ := vp_ok hk hco
      rw [e2, e3]
      rw [hk] at HIs
      have HC := rhide hco
      clear e2 e3 hk hco
      go_enter Tryz.func19, Tryz.ntmps19
      go_wp2_with (first
        | (go_at_call 33; refine (HR.out _).mono ?_; rintro e1 w1 ⟨rfl, hb⟩; have H1 := rhide (H0.out.on hb); clear hb HR H0)
        | (go_at_call 31; refine (HIs.out _ H1.out).mono ?_; rintro e2 w2 ⟨rfl, hb⟩; have H2 := rhide (H1.out.on hb); clear hb HIs H1; have x0 := H2.out.box.c0; have x1 := H2.out.box.c1; have x2 := H2.out.box.c2; have x3 := H2.out.box.c3; have x4 := H2.out.box.c4)
        | (go_at_call 43; refine (vwords_any c _).mono ?_; rintro e3 w3 ⟨rfl, hl, hb⟩; have H3 := rhide (H2.out.on hb); have HL := rhide hl; clear hl hb H2 x0 x1 x2 x3 x4)
        | (go_at_call 42; refine (rlay_any base q N _ 8 f c.ws M _ H3.out.dh.rx HL.out (by rw [vs_len]; omega) (vs_fit HC.out)).mono ?_; rintro e4 w4 ⟨rfl, hx, hb, hk⟩; have H4 : Hid (Dh w w4 base q N (layF N M f c.ws)) := H3.out.dh.trans ⟨hx, hb, hk⟩; clear hx hb hk H3 HL)
        | fail)
      go_ret
      exact ⟨rfl, H4.out⟩
    · obtain ⟨e2, e3⟩ := vp_type hk hco
      rw [e2, e3]
      generalize Phead.isE N M f 6 = E at HIs hk
      have hE : (E != 0) = true := by simp [hk]
      clear e2 e3 hk hco
      go_enter Tryz.func19, Tryz.ntmps19
      go_wp2_with (first
        | (go_at_call 33; refine (HR.out _).mono ?_; rintro e1 w1 ⟨rfl, hb⟩; have H1 := rhide (H0.out.on hb); clear hb HR H0)
        | (go_at_call 31; refine (HIs.out _ H1.out).mono ?_; rintro e2 w2 ⟨rfl, hb⟩; have H2 := rhide (H1.out.on hb); clear hb HIs H1)
        | fail)
      go_ret
      exact ⟨rfl, H2.out.dh⟩
  · obtain ⟨e2, e3⟩ := vp_arg N M f hco
    rw [voB_no hco] at HR
    rw [e2, e3]
    clear e2 e3 HIs hco
    go_enter Tryz.func19, Tryz.ntmps19
    go_wp2_with (first
      | (go_at_call 33; refine (HR.out _).mono ?_; rintro e1 w1 ⟨rfl, hb⟩; have H1 := rhide (H0.out.on hb); clear hb HR H0)
      | fail)
    go_ret
    exact ⟨rfl, H1.out.dh⟩
end Go.Proofs.YtcoggdnpjpiacaaGreatDoor.Prcv
