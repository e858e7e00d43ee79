/- What the document's right, Check, words, Make and Put of layer 18 answer and do, over its own memory (written by mk_doc.py). -/
import Derived.Test.YtaajacmbnigadaaGreatDoorThdG
import Derived.Test.YtaajacmbnigadaaGreatDoorBunLay
import Derived.Test.YtaajacmbnigadaaGreatDoorBunHead
import Derived.BigRegion
import Derived.Deep.RegionHeld3
namespace Go.Proofs.YtaajacmbnigadaaGreatDoor.Pthd
open Go.Proofs.YtaajacmbnigadaaGreatDoor.Pbase Go.Proofs.YtaajacmbnigadaaGreatDoor.Pfield Go.Proofs.YtaajacmbnigadaaGreatDoor.Play Go.Proofs.YtaajacmbnigadaaGreatDoor.Pmem
open Go.RowKit M
set_option linter.unusedVariables false

/-- A thread in a block. -/
structure RowT (w : World) (B : Nat) (x : Th) : Prop where
  row : w.heap[B]? = some (.cells #[.int .i64 x.st, .int .i64 x.co, .int .i64 x.tc, .int .i64 x.rc, .int .i64 x.de] 37 (0, 0))
section
variable {w w' : World} {B : Nat} {x : Th}
theorem RowT.lt (h : RowT w B x) : B < w.heap.size := (Array.getElem?_eq_some_iff.1 h.row).1
theorem RowT.c0 (h : RowT w B x) : w.cell? ⟨B, 0, none⟩ = some (.int .i64 x.st) := (cell_of_row _ _ _ _ _ _ h.row).trans rfl
theorem RowT.c1 (h : RowT w B x) : w.cell? ⟨B, 1, none⟩ = some (.int .i64 x.co) := (cell_of_row _ _ _ _ _ _ h.row).trans rfl
theorem RowT.c2 (h : RowT w B x) : w.cell? ⟨B, 2, none⟩ = some (.int .i64 x.tc) := (cell_of_row _ _ _ _ _ _ h.row).trans rfl
theorem RowT.c3 (h : RowT w B x) : w.cell? ⟨B, 3, none⟩ = some (.int .i64 x.rc) := (cell_of_row _ _ _ _ _ _ h.row).trans rfl
theorem RowT.c4 (h : RowT w B x) : w.cell? ⟨B, 4, none⟩ = some (.int .i64 x.de) := (cell_of_row _ _ _ _ _ _ h.row).trans rfl
theorem RowT.fz (h : RowT w B x) (j : Nat) : w.frozen? ⟨B, j, none⟩ = false := frozen_of_row _ _ _ _ _ h.row
theorem RowT.on (h : RowT w B x) (hB : Below w.heap.size w w') : RowT w' B x := ⟨(hB.block B h.lt).trans h.row⟩
theorem RowT.but {b : Nat} (h : RowT w B x) (hB : But b w w') (hn : B ≠ b) : RowT w' B x := ⟨(hB.block B h.lt hn).trans h.row⟩
theorem rowT_new (w : World) (x : Th) : RowT (w.alloc (.cells #[.int .i64 x.st, .int .i64 x.co, .int .i64 x.tc, .int .i64 x.rc, .int .i64 x.de] 37)) w.heap.size x := ⟨heap_alloc_new w _⟩
end
/-! ### right, Check -/
theorem toB_in (c : Th) : toB c = (inB c.st 0 3 && inB c.co 0 3 && inB c.tc 0 63 && inB c.rc 0 64 && inB c.de 0 6) := rfl
set_option maxRecDepth 100000 in
set_option maxHeartbeats 2000000 in
theorem right_any (c : Th) (w : World) : Calls Tryz.prog 35 #[.agg #[.int .i64 c.st, .int .i64 c.co, .int .i64 c.tc, .int .i64 c.rc, .int .i64 c.de]] w fun e w' => e = .returned (.bool (toB c)) ∧ Below w.heap.size w w' := by
  have I0 : Hid (∀ wc, Calls Tryz.prog 61 #[.int .i64 c.st, .int .i64 0, .int .i64 3] wc fun e w' => e = .returned (.bool (inB c.st 0 3)) ∧ w' = wc) := fun wc => in_any c.st 0 3 wc
  have I1 : Hid (∀ wc, Calls Tryz.prog 61 #[.int .i64 c.co, .int .i64 0, .int .i64 3] wc fun e w' => e = .returned (.bool (inB c.co 0 3)) ∧ w' = wc) := fun wc => in_any c.co 0 3 wc
  have I2 : Hid (∀ wc, Calls Tryz.prog 61 #[.int .i64 c.tc, .int .i64 0, .int .i64 63] wc fun e w' => e = .returned (.bool (inB c.tc 0 63)) ∧ w' = wc) := fun wc => in_any c.tc 0 63 wc
  have I3 : Hid (∀ wc, Calls Tryz.prog 61 #[.int .i64 c.rc, .int .i64 0, .int .i64 64] wc fun e w' => e = .returned (.bool (inB c.rc 0 64)) ∧ w' = wc) := fun wc => in_any c.rc 0 64 wc
  have I4 : Hid (∀ wc, Calls Tryz.prog 61 #[.int .i64 c.de, .int .i64 0, .int .i64 6] wc fun e w' => e = .returned (.bool (inB c.de 0 6)) ∧ w' = wc) := fun wc => in_any c.de 0 6 wc
  rw [toB_in]
  generalize inB c.st 0 3 = R0 at I0 ⊢
  generalize inB c.co 0 3 = R1 at I1 ⊢
  generalize inB c.tc 0 63 = R2 at I2 ⊢
  generalize inB c.rc 0 64 = R3 at I3 ⊢
  generalize inB c.de 0 6 = R4 at I4 ⊢
  cases R0
  · simp only [Bool.false_and]
    go_enter Tryz.func35, Tryz.ntmps35
    go_wp2_with (first
      | (go_at_call 61; refine (I0.out _).mono ?_; rintro e0 w0 ⟨rfl, hw⟩; subst hw; clear I0)
      | (go_at_call 61; refine (I1.out _).mono ?_; rintro e1 w1 ⟨rfl, hw⟩; subst hw; clear I1)
      | (go_at_call 61; refine (I2.out _).mono ?_; rintro e2 w2 ⟨rfl, hw⟩; subst hw; clear I2)
      | (go_at_call 61; refine (I3.out _).mono ?_; rintro e3 w3 ⟨rfl, hw⟩; subst hw; clear I3)
      | (go_at_call 61; refine (I4.out _).mono ?_; rintro e4 w4 ⟨rfl, hw⟩; subst hw; clear I4)
      | fail)
    go_ret
    exact ⟨rfl, bal (Below.refl _ _) _⟩
  cases R1
  · simp only [Bool.and_false, Bool.false_and]
    go_enter Tryz.func35, Tryz.ntmps35
    go_wp2_with (first
      | (go_at_call 61; refine (I0.out _).mono ?_; rintro e0 w0 ⟨rfl, hw⟩; subst hw; clear I0)
      | (go_at_call 61; refine (I1.out _).mono ?_; rintro e1 w1 ⟨rfl, hw⟩; subst hw; clear I1)
      | (go_at_call 61; refine (I2.out _).mono ?_; rintro e2 w2 ⟨rfl, hw⟩; subst hw; clear I2)
      | (go_at_call 61; refine (I3.out _).mono ?_; rintro e3 w3 ⟨rfl, hw⟩; subst hw; clear I3)
      | (go_at_call 61; refine (I4.out _).mono ?_; rintro e4 w4 ⟨rfl, hw⟩; subst hw; clear I4)
      | fail)
    go_ret
    exact ⟨rfl, bal (Below.refl _ _) _⟩
  cases R2
  · simp only [Bool.and_false, Bool.false_and, Bool.true_and]
    go_enter Tryz.func35, Tryz.ntmps35
    go_wp2_with (first
      | (go_at_call 61; refine (I0.out _).mono ?_; rintro e0 w0 ⟨rfl, hw⟩; subst hw; clear I0)
      | (go_at_call 61; refine (I1.out _).mono ?_; rintro e1 w1 ⟨rfl, hw⟩; subst hw; clear I1)
      | (go_at_call 61; refine (I2.out _).mono ?_; rintro e2 w2 ⟨rfl, hw⟩; subst hw; clear I2)
      | (go_at_call 61; refine (I3.out _).mono ?_; rintro e3 w3 ⟨rfl, hw⟩; subst hw; clear I3)
      | (go_at_call 61; refine (I4.out _).mono ?_; rintro e4 w4 ⟨rfl, hw⟩; subst hw; clear I4)
      | fail)
    go_ret
    exact ⟨rfl, bal (Below.refl _ _) _⟩
  cases R3
  · simp only [Bool.and_false, Bool.false_and, Bool.true_and]
    go_enter Tryz.func35, Tryz.ntmps35
    go_wp2_with (first
      | (go_at_call 61; refine (I0.out _).mono ?_; rintro e0 w0 ⟨rfl, hw⟩; subst hw; clear I0)
      | (go_at_call 61; refine (I1.out _).mono ?_; rintro e1 w1 ⟨rfl, hw⟩; subst hw; clear I1)
      | (go_at_call 61; refine (I2.out _).mono ?_; rintro e2 w2 ⟨rfl, hw⟩; subst hw; clear I2)
      | (go_at_call 61; refine (I3.out _).mono ?_; rintro e3 w3 ⟨rfl, hw⟩; subst hw; clear I3)
      | (go_at_call 61; refine (I4.out _).mono ?_; rintro e4 w4 ⟨rfl, hw⟩; subst hw; clear I4)
      | fail)
    go_ret
    exact ⟨rfl, bal (Below.refl _ _) _⟩
  cases R4
  · simp only [Bool.and_false]
    go_enter Tryz.func35, Tryz.ntmps35
    go_wp2_with (first
      | (go_at_call 61; refine (I0.out _).mono ?_; rintro e0 w0 ⟨rfl, hw⟩; subst hw; clear I0)
      | (go_at_call 61; refine (I1.out _).mono ?_; rintro e1 w1 ⟨rfl, hw⟩; subst hw; clear I1)
      | (go_at_call 61; refine (I2.out _).mono ?_; rintro e2 w2 ⟨rfl, hw⟩; subst hw; clear I2)
      | (go_at_call 61; refine (I3.out _).mono ?_; rintro e3 w3 ⟨rfl, hw⟩; subst hw; clear I3)
      | (go_at_call 61; refine (I4.out _).mono ?_; rintro e4 w4 ⟨rfl, hw⟩; subst hw; clear I4)
      | fail)
    go_ret
    exact ⟨rfl, bal (Below.refl _ _) _⟩
  simp only [Bool.and_self]
  go_enter Tryz.func35, Tryz.ntmps35
  go_wp2_with (first
    | (go_at_call 61; refine (I0.out _).mono ?_; rintro e0 w0 ⟨rfl, hw⟩; subst hw; clear I0)
    | (go_at_call 61; refine (I1.out _).mono ?_; rintro e1 w1 ⟨rfl, hw⟩; subst hw; clear I1)
    | (go_at_call 61; refine (I2.out _).mono ?_; rintro e2 w2 ⟨rfl, hw⟩; subst hw; clear I2)
    | (go_at_call 61; refine (I3.out _).mono ?_; rintro e3 w3 ⟨rfl, hw⟩; subst hw; clear I3)
    | (go_at_call 61; refine (I4.out _).mono ?_; rintro e4 w4 ⟨rfl, hw⟩; subst hw; clear I4)
    | fail)
  go_ret
  exact ⟨rfl, bal (Below.refl _ _) _⟩
set_option maxRecDepth 100000 in
theorem rcheck_any (c : Th) (w : World) : Calls Tryz.prog 24 #[.agg #[.int .i64 c.st, .int .i64 c.co, .int .i64 c.tc, .int .i64 c.rc, .int .i64 c.de]] w fun e w' => e = .returned (.int .i64 (ckE c)) ∧ Below w.heap.size w w' := by
  have HR : Hid (∀ w1, Calls Tryz.prog 35 #[.agg #[.int .i64 c.st, .int .i64 c.co, .int .i64 c.tc, .int .i64 c.rc, .int .i64 c.de]] w1 fun e w' => e = .returned (.bool (toB c)) ∧ Below w1.heap.size w1 w') := fun w1 => right_any c w1
  unfold ckE
  generalize toB c = r at HR ⊢
  cases r
  all_goals
    go_enter Tryz.func24, Tryz.ntmps24
    go_wp2_with (first
      | (go_at_call 35; refine (HR.out _).mono ?_; rintro e1 w1 ⟨rfl, hb1⟩; have H1 : Hid (Below w.heap.size w w1) := (bal (Below.refl _ _) _).trans (hb1.mono (by simp)); clear hb1)
      | fail)
    go_ret
    exact ⟨rfl, H1.out⟩
/-! ### words -/
set_option maxRecDepth 100000 in
theorem rwords_any (c : Th) (w : World) : Calls Tryz.prog 38 #[.agg #[.int .i64 c.st, .int .i64 c.co, .int .i64 c.tc, .int .i64 c.rc, .int .i64 c.de]] w fun e w' => e = .returned (.slice (some ⟨w.heap.size + 1, 0, none⟩) 5 5) ∧ Nums w' (w.heap.size + 1) c.ws ∧ Below w.heap.size w w' := by
  go_enter Tryz.func38, Tryz.ntmps38
  go_wp2
  go_ret
  have e := heap_alloc_new (w.alloc (.cells #[.int .i64 c.st, .int .i64 c.co, .int .i64 c.tc, .int .i64 c.rc, .int .i64 c.de] 37)) (.cells #[.int .i64 c.st, .int .i64 c.co, .int .i64 c.tc, .int .i64 c.rc, .int .i64 c.de] 3)
  rw [World.size_alloc] at e
  refine ⟨rfl, ⟨_, e, fun j hj => ?_⟩, bal (bal (Below.refl _ _) _) _⟩
  rw [ws_len] at hj
  rcases (show j = 0 ∨ j = 1 ∨ j = 2 ∨ j = 3 ∨ j = 4 by omega) with rfl | rfl | rfl | rfl | rfl <;> rfl
/-! ### Make, Put -/
/-- The document's memory, and the thread that was handed in, in a block of the call's own. -/
structure Rb (w W : World) (base q N : Nat) (M : Nat → Nat → Int) (c : Th) : Prop where
  rx : Rx W base q N M
  box : RowT W w.heap.size c
  below : Below base w W
  kp : KeepX q w W
theorem rb_new {w : World} {base q N : Nat} {M : Nat → Nat → Int} (h : Rx w base q N M) (c : Th) : Rb w (w.alloc (.cells #[.int .i64 c.st, .int .i64 c.co, .int .i64 c.tc, .int .i64 c.rc, .int .i64 c.de] 37)) base q N M c :=
  ⟨h.grown (bal (Below.refl _ _) _), rowT_new w c, (bal (Below.refl _ _) _).mono h.le, KeepX.below (bal (Below.refl _ _) _)⟩
theorem Rb.on {w W W' : World} {base q N : Nat} {M : Nat → Nat → Int} {c : Th} (h : Rb w W base q N M c) (hB : Below W.heap.size W W') : Rb w W' base q N M c :=
  ⟨h.rx.grown hB, h.box.on hB, h.below.trans (hB.mono h.rx.le), h.kp.trans (KeepX.below hB)⟩
theorem Rb.turn {w W W' : World} {base q N : Nat} {M M' : Nat → Nat → Int} {c : Th} (h : Rb w W base q N M c) (hR : RefIs W' base q N M') (hF : Fit M') (hB : Below base W W') (hK : KeepX q W W') : Rb w W' base q N M' c :=
  ⟨h.rx.turn hR hF, ⟨hK.t _ _ _ (by decide) h.box.row⟩, h.below.trans hB, h.kp.trans hK⟩
set_option maxRecDepth 100000 in
set_option maxHeartbeats 2000000 in
theorem rmake_any (base q N : Nat) (f : Int) (c : Th) (M : Nat → Nat → Int) (w : World) (h : Rx w base q N M) : Calls Tryz.prog 8 #[.pointer (some ⟨q, 0, none⟩), .int .i64 f, .agg #[.int .i64 c.st, .int .i64 c.co, .int .i64 c.tc, .int .i64 c.rc, .int .i64 c.de]] w fun x w' => x = .returned (.int .i64 (mkE N f c)) ∧ Rx w' base q N (mkM N M f c) ∧ Below base w w' ∧ KeepX q w w' := by
  have HR : Hid (∀ w1, Calls Tryz.prog 35 #[.agg #[.int .i64 c.st, .int .i64 c.co, .int .i64 c.tc, .int .i64 c.rc, .int .i64 c.de]] w1 fun e w' => e = .returned (.bool (toB c)) ∧ Below w1.heap.size w1 w') := fun w1 => right_any c w1
  have H0 := rhide (rb_new h c)
  have n1 := h.n1
  have n64 := h.n64
  clear h
  by_cases hco : toB c = true
  · have e2 : mkE N f c = errF N f := by unfold mkE; rw [if_pos hco]
    have e3 : mkM N M f c = layF N (Phead.mkM N M f 4 0 false 0) f c.ws := by unfold mkM; rw [if_pos hco]
    rw [hco] at HR
    have HH : Hid (∀ wc, Rb w wc base q N M c → Calls Tryz.prog 36 #[.pointer (some ⟨q, 0, none⟩), .int .i64 f, .agg #[.int .i64 4, .int .i64 0, .bool false, .int .i64 0]] wc fun e w' => e = .returned (.int .i64 (errF N f)) ∧ Rb w w' base q N (Phead.mkM N M f 4 0 false 0) c) := fun wc h => by
      have := Phead.hrmake_k base q N f 4 0 false 0 M wc n1 n64 h.rx.ref
      rw [made_err (by omega)] at this
      refine this.mono ?_
      rintro e w' ⟨rfl, h1, h2, h3⟩
      exact ⟨rfl, h.turn h1 (Phead.fit_mk h.rx.fit N f 4 0 false 0) h2 h3⟩
    rw [e2, e3]
    clear e2 e3
    generalize Phead.mkM N M f 4 0 false 0 = M1 at HH ⊢
    cases hf : okF N f
    · have e4 : errF N f = 1 := by unfold errF; rw [hf]; rfl
      rw [e4] at HH ⊢
      rw [lay_bad hf]
      clear e4 hf hco
      go_enter Tryz.func8, Tryz.ntmps8
      go_wp2_with (first
        | (go_at_call 35; refine (HR.out _).mono ?_; rintro e1 w1 ⟨rfl, hb⟩; have H1 := rhide (H0.out.on hb); clear hb HR H0)
        | (go_at_call 36; refine (HH.out _ H1.out).mono ?_; rintro e2 w2 ⟨rfl, hb⟩; have H2 := rhide hb; clear hb HH H1)
        | fail)
      go_ret
      exact ⟨rfl, H2.out.rx, H2.out.below, H2.out.kp⟩
    · have e4 : errF N f = 0 := by unfold errF; rw [if_pos hf]
      rw [e4] at HH ⊢
      have HC : Hid (To c) := (toB_iff c).1 hco
      clear e4 hf hco
      go_enter Tryz.func8, Tryz.ntmps8
      go_wp2_with (first
        | (go_at_call 35; refine (HR.out _).mono ?_; rintro e1 w1 ⟨rfl, hb⟩; have H1 := rhide (H0.out.on hb); clear hb HR H0)
        | (go_at_call 36; refine (HH.out _ H1.out).mono ?_; rintro e2 w2 ⟨rfl, hb⟩; have H2 := rhide hb; clear hb HH H1; have x0 := H2.out.box.c0; have x1 := H2.out.box.c1; have x2 := H2.out.box.c2; have x3 := H2.out.box.c3; have x4 := H2.out.box.c4)
        | (go_at_call 38; refine (rwords_any c _).mono ?_; rintro e3 w3 ⟨rfl, hl, hb⟩; have H3 := rhide (H2.out.on hb); have HL := rhide hl; clear hl hb H2 x0 x1 x2 x3 x4)
        | (go_at_call 37; refine (rlay_any base q N _ 5 f c.ws M1 _ H3.out.rx HL.out (by rw [ws_len]; omega) (ws_fit HC.out)).mono ?_; rintro e4 w4 ⟨rfl, hx, hb, hk⟩; have H4 := rhide (And.intro hx (And.intro (H3.out.below.trans hb) (H3.out.kp.trans hk))); clear hx hb hk H3 HL)
        | fail)
      go_ret
      exact ⟨rfl, H4.out⟩
  · have e2 : mkE N f c = 1 := by unfold mkE; rw [if_neg hco]
    have e3 : mkM N M f c = M := by unfold mkM; rw [if_neg hco]
    rw [show toB c = false by simpa using hco] at HR
    rw [e2, e3]
    clear e2 e3 hco
    go_enter Tryz.func8, Tryz.ntmps8
    go_wp2_with (first
      | (go_at_call 35; refine (HR.out _).mono ?_; rintro e1 w1 ⟨rfl, hb⟩; have H1 := rhide (H0.out.on hb); clear hb HR H0)
      | fail)
    go_ret
    exact ⟨rfl, H1.out.rx, H1.out.below, H1.out.kp⟩
set_option maxRecDepth 100000 in
set_option maxHeartbeats 2000000 in
theorem rput_any (base q N : Nat) (f : Int) (c : Th) (M : Nat → Nat → Int) (w : World) (h : Rx w base q N M) : Calls Tryz.prog 10 #[.pointer (some ⟨q, 0, none⟩), .int .i64 f, .agg #[.int .i64 c.st, .int .i64 c.co, .int .i64 c.tc, .int .i64 c.rc, .int .i64 c.de]] w fun x w' => x = .returned (.int .i64 (puE N M f c)) ∧ Rx w' base q N (puM N M f c) ∧ Below base w w' ∧ KeepX q w w' := by
  have HR : Hid (∀ w1, Calls Tryz.prog 35 #[.agg #[.int .i64 c.st, .int .i64 c.co, .int .i64 c.tc, .int .i64 c.rc, .int .i64 c.de]] w1 fun e w' => e = .returned (.bool (toB c)) ∧ Below w1.heap.size w1 w') := fun w1 => right_any c w1
  have HIs : Hid (∀ wc, Rx wc base q N M → Calls Tryz.prog 40 #[.pointer (some ⟨q, 0, none⟩), .int .i64 f, .int .i64 4] wc fun e w' => e = .returned (.int .i64 (Phead.isE N M f 4)) ∧ Below wc.heap.size wc w') := fun wc h => Phead.hris_any base q N f 4 M wc h.n1 h.n64 h.ref h.fit
  have H0 := rhide (rb_new h c)
  clear h
  by_cases hco : toB c = true
  · rw [hco] at HR
    by_cases hk : Phead.isE N M f 4 = 0
    · have e2 : puE N M f c = 0 := by unfold puE; rw [if_pos hco, if_pos hk]
      have e3 : puM N M f c = layF N M f c.ws := by unfold puM; rw [if_pos e2]
      rw [e2, e3]
      rw [hk] at HIs
      have HC : Hid (To c) := (toB_iff c).1 hco
      clear e2 e3 hk hco
      go_enter Tryz.func10, Tryz.ntmps10
      go_wp2_with (first
        | (go_at_call 35; refine (HR.out _).mono ?_; rintro e1 w1 ⟨rfl, hb⟩; have H1 := rhide (H0.out.on hb); clear hb HR H0)
        | (go_at_call 40; refine (HIs.out _ H1.out.rx).mono ?_; rintro e2 w2 ⟨rfl, hb⟩; have H2 := rhide (H1.out.on hb); clear hb HIs H1; have x0 := H2.out.box.c0; have x1 := H2.out.box.c1; have x2 := H2.out.box.c2; have x3 := H2.out.box.c3; have x4 := H2.out.box.c4)
        | (go_at_call 38; refine (rwords_any c _).mono ?_; rintro e3 w3 ⟨rfl, hl, hb⟩; have H3 := rhide (H2.out.on hb); have HL := rhide hl; clear hl hb H2 x0 x1 x2 x3 x4)
        | (go_at_call 37; refine (rlay_any base q N _ 5 f c.ws M _ H3.out.rx HL.out (by rw [ws_len]; omega) (ws_fit HC.out)).mono ?_; rintro e4 w4 ⟨rfl, hx, hb, hk⟩; have H4 := rhide (And.intro hx (And.intro (H3.out.below.trans hb) (H3.out.kp.trans hk))); clear hx hb hk H3 HL)
        | fail)
      go_ret
      exact ⟨rfl, H4.out⟩
    · have e2 : puE N M f c = 4 := by unfold puE; rw [if_pos hco, if_neg hk]
      have e3 : puM N M f c = M := by unfold puM; rw [if_neg (by rw [e2]; decide)]
      rw [e2, e3]
      generalize Phead.isE N M f 4 = E at HIs hk
      have hE : (E != 0) = true := by simp [hk]
      clear e2 e3 hk hco
      go_enter Tryz.func10, Tryz.ntmps10
      go_wp2_with (first
        | (go_at_call 35; refine (HR.out _).mono ?_; rintro e1 w1 ⟨rfl, hb⟩; have H1 := rhide (H0.out.on hb); clear hb HR H0)
        | (go_at_call 40; refine (HIs.out _ H1.out.rx).mono ?_; rintro e2 w2 ⟨rfl, hb⟩; have H2 := rhide (H1.out.on hb); clear hb HIs H1)
        | fail)
      go_ret
      exact ⟨rfl, H2.out.rx, H2.out.below, H2.out.kp⟩
  · have e2 : puE N M f c = 1 := by unfold puE; rw [if_neg hco]
    have e3 : puM N M f c = M := by unfold puM; rw [if_neg (by rw [e2]; decide)]
    rw [show toB c = false by simpa using hco] at HR
    rw [e2, e3]
    clear e2 e3 HIs hco
    go_enter Tryz.func10, Tryz.ntmps10
    go_wp2_with (first
      | (go_at_call 35; refine (HR.out _).mono ?_; rintro e1 w1 ⟨rfl, hb⟩; have H1 := rhide (H0.out.on hb); clear hb HR H0)
      | fail)
    go_ret
    exact ⟨rfl, H1.out.rx, H1.out.below, H1.out.kp⟩
end Go.Proofs.YtaajacmbnigadaaGreatDoor.Pthd
