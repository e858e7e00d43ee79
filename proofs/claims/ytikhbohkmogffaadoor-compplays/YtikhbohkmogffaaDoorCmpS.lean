/- What the document's calls of layer 17 answer and do, over its own memory. -/
import Derived.Test.YtikhbohkmogffaaDoorCmpR
import Derived.Test.YtikhbohkmogffaaDoorCmpF
import Derived.Test.YtikhbohkmogffaaDoorBunHead
import Derived.BigRegion
import Derived.Deep.RegionHeld3
namespace Go.Proofs.YtikhbohkmogffaaDoor.Pcomp
open Go.Proofs.YtikhbohkmogffaaDoor.Pbase Go.Proofs.YtikhbohkmogffaaDoor.Pfield Go.Proofs.YtikhbohkmogffaaDoor.Pmem
open Go.RowKit M
set_option linter.unusedVariables false

/-! ### In, right, Check -/
def inB (n lo hi : Int) : Bool := decide (lo ≤ n) && decide (n ≤ hi)
set_option maxRecDepth 100000 in
theorem in_any (n lo hi : Int) (w : World) : Calls Tryd.prog 32 #[.int .i64 n, .int .i64 lo, .int .i64 hi] w fun e w' => e = .returned (.bool (inB n lo hi)) ∧ w' = w := by
  unfold inB
  by_cases h : lo ≤ n
  · go_enter Tryd.func32, Tryd.ntmps32
    go_wp2
    go_ret
    exact ⟨by simp [h], rfl⟩
  · go_enter Tryd.func32, Tryd.ntmps32
    go_wp2
    go_ret
    refine ⟨?_, rfl⟩
    have h' : decide (lo ≤ n) = false := by simp; omega
    rw [h']
    rfl
theorem coB_in (c : Cp) : coB c = (inB c.tb 0 63 && inB c.pg 0 63 && inB c.l 0 63 && inB c.e 0 65535 && inB c.fa 0 64 && inB c.wh 0 1073741824 && (decide (c.fa ≠ 0) || decide (c.wh = 0))) := rfl
set_option maxRecDepth 100000 in
set_option maxHeartbeats 2000000 in
theorem right_any (c : Cp) (w : World) : Calls Tryd.prog 26 #[.agg #[.int .i64 c.tb, .int .i64 c.pg, .int .i64 c.l, .int .i64 c.e, .int .i64 c.fa, .int .i64 c.wh]] w fun e w' => e = .returned (.bool (coB c)) ∧ Below w.heap.size w w' := by
  have I0 : Hid (∀ wc, Calls Tryd.prog 32 #[.int .i64 c.tb, .int .i64 0, .int .i64 63] wc fun e w' => e = .returned (.bool (inB c.tb 0 63)) ∧ w' = wc) := fun wc => in_any c.tb 0 63 wc
  have I1 : Hid (∀ wc, Calls Tryd.prog 32 #[.int .i64 c.pg, .int .i64 0, .int .i64 63] wc fun e w' => e = .returned (.bool (inB c.pg 0 63)) ∧ w' = wc) := fun wc => in_any c.pg 0 63 wc
  have I2 : Hid (∀ wc, Calls Tryd.prog 32 #[.int .i64 c.l, .int .i64 0, .int .i64 63] wc fun e w' => e = .returned (.bool (inB c.l 0 63)) ∧ w' = wc) := fun wc => in_any c.l 0 63 wc
  have I3 : Hid (∀ wc, Calls Tryd.prog 32 #[.int .i64 c.e, .int .i64 0, .int .i64 65535] wc fun e w' => e = .returned (.bool (inB c.e 0 65535)) ∧ w' = wc) := fun wc => in_any c.e 0 65535 wc
  have I4 : Hid (∀ wc, Calls Tryd.prog 32 #[.int .i64 c.fa, .int .i64 0, .int .i64 64] wc fun e w' => e = .returned (.bool (inB c.fa 0 64)) ∧ w' = wc) := fun wc => in_any c.fa 0 64 wc
  have I5 : Hid (∀ wc, Calls Tryd.prog 32 #[.int .i64 c.wh, .int .i64 0, .int .i64 1073741824] wc fun e w' => e = .returned (.bool (inB c.wh 0 1073741824)) ∧ w' = wc) := fun wc => in_any c.wh 0 1073741824 wc
  rw [coB_in]
  generalize inB c.tb 0 63 = R0 at I0 ⊢
  generalize inB c.pg 0 63 = R1 at I1 ⊢
  generalize inB c.l 0 63 = R2 at I2 ⊢
  generalize inB c.e 0 65535 = R3 at I3 ⊢
  generalize inB c.fa 0 64 = R4 at I4 ⊢
  generalize inB c.wh 0 1073741824 = R5 at I5 ⊢
  cases R0
  · simp only [Bool.false_and]
    go_enter Tryd.func26, Tryd.ntmps26
    go_wp2_with (first
      | (go_at_call 32; refine (I0.out _).mono ?_; rintro e0 w0 ⟨rfl, hw⟩; subst hw; clear I0)
      | (go_at_call 32; refine (I1.out _).mono ?_; rintro e1 w1 ⟨rfl, hw⟩; subst hw; clear I1)
      | (go_at_call 32; refine (I2.out _).mono ?_; rintro e2 w2 ⟨rfl, hw⟩; subst hw; clear I2)
      | (go_at_call 32; refine (I3.out _).mono ?_; rintro e3 w3 ⟨rfl, hw⟩; subst hw; clear I3)
      | (go_at_call 32; refine (I4.out _).mono ?_; rintro e4 w4 ⟨rfl, hw⟩; subst hw; clear I4)
      | (go_at_call 32; refine (I5.out _).mono ?_; rintro e5 w5 ⟨rfl, hw⟩; subst hw; clear I5)
      | fail)
    go_ret
    exact ⟨rfl, bal (Below.refl _ _) _⟩
  cases R1
  · simp only [Bool.false_and, Bool.true_and]
    go_enter Tryd.func26, Tryd.ntmps26
    go_wp2_with (first
      | (go_at_call 32; refine (I0.out _).mono ?_; rintro e0 w0 ⟨rfl, hw⟩; subst hw; clear I0)
      | (go_at_call 32; refine (I1.out _).mono ?_; rintro e1 w1 ⟨rfl, hw⟩; subst hw; clear I1)
      | (go_at_call 32; refine (I2.out _).mono ?_; rintro e2 w2 ⟨rfl, hw⟩; subst hw; clear I2)
      | (go_at_call 32; refine (I3.out _).mono ?_; rintro e3 w3 ⟨rfl, hw⟩; subst hw; clear I3)
      | (go_at_call 32; refine (I4.out _).mono ?_; rintro e4 w4 ⟨rfl, hw⟩; subst hw; clear I4)
      | (go_at_call 32; refine (I5.out _).mono ?_; rintro e5 w5 ⟨rfl, hw⟩; subst hw; clear I5)
      | fail)
    go_ret
    exact ⟨rfl, bal (Below.refl _ _) _⟩
  cases R2
  · simp only [Bool.false_and, Bool.true_and]
    go_enter Tryd.func26, Tryd.ntmps26
    go_wp2_with (first
      | (go_at_call 32; refine (I0.out _).mono ?_; rintro e0 w0 ⟨rfl, hw⟩; subst hw; clear I0)
      | (go_at_call 32; refine (I1.out _).mono ?_; rintro e1 w1 ⟨rfl, hw⟩; subst hw; clear I1)
      | (go_at_call 32; refine (I2.out _).mono ?_; rintro e2 w2 ⟨rfl, hw⟩; subst hw; clear I2)
      | (go_at_call 32; refine (I3.out _).mono ?_; rintro e3 w3 ⟨rfl, hw⟩; subst hw; clear I3)
      | (go_at_call 32; refine (I4.out _).mono ?_; rintro e4 w4 ⟨rfl, hw⟩; subst hw; clear I4)
      | (go_at_call 32; refine (I5.out _).mono ?_; rintro e5 w5 ⟨rfl, hw⟩; subst hw; clear I5)
      | fail)
    go_ret
    exact ⟨rfl, bal (Below.refl _ _) _⟩
  cases R3
  · simp only [Bool.false_and, Bool.true_and]
    go_enter Tryd.func26, Tryd.ntmps26
    go_wp2_with (first
      | (go_at_call 32; refine (I0.out _).mono ?_; rintro e0 w0 ⟨rfl, hw⟩; subst hw; clear I0)
      | (go_at_call 32; refine (I1.out _).mono ?_; rintro e1 w1 ⟨rfl, hw⟩; subst hw; clear I1)
      | (go_at_call 32; refine (I2.out _).mono ?_; rintro e2 w2 ⟨rfl, hw⟩; subst hw; clear I2)
      | (go_at_call 32; refine (I3.out _).mono ?_; rintro e3 w3 ⟨rfl, hw⟩; subst hw; clear I3)
      | (go_at_call 32; refine (I4.out _).mono ?_; rintro e4 w4 ⟨rfl, hw⟩; subst hw; clear I4)
      | (go_at_call 32; refine (I5.out _).mono ?_; rintro e5 w5 ⟨rfl, hw⟩; subst hw; clear I5)
      | fail)
    go_ret
    exact ⟨rfl, bal (Below.refl _ _) _⟩
  cases R4
  · simp only [Bool.false_and, Bool.true_and]
    go_enter Tryd.func26, Tryd.ntmps26
    go_wp2_with (first
      | (go_at_call 32; refine (I0.out _).mono ?_; rintro e0 w0 ⟨rfl, hw⟩; subst hw; clear I0)
      | (go_at_call 32; refine (I1.out _).mono ?_; rintro e1 w1 ⟨rfl, hw⟩; subst hw; clear I1)
      | (go_at_call 32; refine (I2.out _).mono ?_; rintro e2 w2 ⟨rfl, hw⟩; subst hw; clear I2)
      | (go_at_call 32; refine (I3.out _).mono ?_; rintro e3 w3 ⟨rfl, hw⟩; subst hw; clear I3)
      | (go_at_call 32; refine (I4.out _).mono ?_; rintro e4 w4 ⟨rfl, hw⟩; subst hw; clear I4)
      | (go_at_call 32; refine (I5.out _).mono ?_; rintro e5 w5 ⟨rfl, hw⟩; subst hw; clear I5)
      | fail)
    go_ret
    exact ⟨rfl, bal (Below.refl _ _) _⟩
  cases R5
  · simp only [Bool.false_and, Bool.true_and]
    go_enter Tryd.func26, Tryd.ntmps26
    go_wp2_with (first
      | (go_at_call 32; refine (I0.out _).mono ?_; rintro e0 w0 ⟨rfl, hw⟩; subst hw; clear I0)
      | (go_at_call 32; refine (I1.out _).mono ?_; rintro e1 w1 ⟨rfl, hw⟩; subst hw; clear I1)
      | (go_at_call 32; refine (I2.out _).mono ?_; rintro e2 w2 ⟨rfl, hw⟩; subst hw; clear I2)
      | (go_at_call 32; refine (I3.out _).mono ?_; rintro e3 w3 ⟨rfl, hw⟩; subst hw; clear I3)
      | (go_at_call 32; refine (I4.out _).mono ?_; rintro e4 w4 ⟨rfl, hw⟩; subst hw; clear I4)
      | (go_at_call 32; refine (I5.out _).mono ?_; rintro e5 w5 ⟨rfl, hw⟩; subst hw; clear I5)
      | fail)
    go_ret
    exact ⟨rfl, bal (Below.refl _ _) _⟩
  simp only [Bool.true_and]
  by_cases hf : c.fa = 0
  · have bf : (c.fa != 0) = false := by simp [hf]
    by_cases hw : c.wh = 0
    · have bw : (c.wh == 0) = true := by simp [hw]
      rw [show (decide (c.fa ≠ 0) || decide (c.wh = 0)) = true by simp [hw]]
      clear hf hw
      go_enter Tryd.func26, Tryd.ntmps26
      go_wp2_with (first
        | (go_at_call 32; refine (I0.out _).mono ?_; rintro e0 w0 ⟨rfl, hw⟩; subst hw; clear I0)
        | (go_at_call 32; refine (I1.out _).mono ?_; rintro e1 w1 ⟨rfl, hw⟩; subst hw; clear I1)
        | (go_at_call 32; refine (I2.out _).mono ?_; rintro e2 w2 ⟨rfl, hw⟩; subst hw; clear I2)
        | (go_at_call 32; refine (I3.out _).mono ?_; rintro e3 w3 ⟨rfl, hw⟩; subst hw; clear I3)
        | (go_at_call 32; refine (I4.out _).mono ?_; rintro e4 w4 ⟨rfl, hw⟩; subst hw; clear I4)
        | (go_at_call 32; refine (I5.out _).mono ?_; rintro e5 w5 ⟨rfl, hw⟩; subst hw; clear I5)
        | fail)
      go_ret
      exact ⟨rfl, bal (Below.refl _ _) _⟩
    · have bw : (c.wh == 0) = false := by simp [hw]
      rw [show (decide (c.fa ≠ 0) || decide (c.wh = 0)) = false by simp [hw, hf]]
      clear hf hw
      go_enter Tryd.func26, Tryd.ntmps26
      go_wp2_with (first
        | (go_at_call 32; refine (I0.out _).mono ?_; rintro e0 w0 ⟨rfl, hw⟩; subst hw; clear I0)
        | (go_at_call 32; refine (I1.out _).mono ?_; rintro e1 w1 ⟨rfl, hw⟩; subst hw; clear I1)
        | (go_at_call 32; refine (I2.out _).mono ?_; rintro e2 w2 ⟨rfl, hw⟩; subst hw; clear I2)
        | (go_at_call 32; refine (I3.out _).mono ?_; rintro e3 w3 ⟨rfl, hw⟩; subst hw; clear I3)
        | (go_at_call 32; refine (I4.out _).mono ?_; rintro e4 w4 ⟨rfl, hw⟩; subst hw; clear I4)
        | (go_at_call 32; refine (I5.out _).mono ?_; rintro e5 w5 ⟨rfl, hw⟩; subst hw; clear I5)
        | fail)
      go_ret
      exact ⟨rfl, bal (Below.refl _ _) _⟩
  · have bf : (c.fa != 0) = true := by simp [hf]
    rw [show (decide (c.fa ≠ 0) || decide (c.wh = 0)) = true by simp [hf]]
    clear hf
    go_enter Tryd.func26, Tryd.ntmps26
    go_wp2_with (first
      | (go_at_call 32; refine (I0.out _).mono ?_; rintro e0 w0 ⟨rfl, hw⟩; subst hw; clear I0)
      | (go_at_call 32; refine (I1.out _).mono ?_; rintro e1 w1 ⟨rfl, hw⟩; subst hw; clear I1)
      | (go_at_call 32; refine (I2.out _).mono ?_; rintro e2 w2 ⟨rfl, hw⟩; subst hw; clear I2)
      | (go_at_call 32; refine (I3.out _).mono ?_; rintro e3 w3 ⟨rfl, hw⟩; subst hw; clear I3)
      | (go_at_call 32; refine (I4.out _).mono ?_; rintro e4 w4 ⟨rfl, hw⟩; subst hw; clear I4)
      | (go_at_call 32; refine (I5.out _).mono ?_; rintro e5 w5 ⟨rfl, hw⟩; subst hw; clear I5)
      | fail)
    go_ret
    exact ⟨rfl, bal (Below.refl _ _) _⟩
set_option maxRecDepth 100000 in
theorem rcheck_any (c : Cp) (w : World) : Calls Tryd.prog 16 #[.agg #[.int .i64 c.tb, .int .i64 c.pg, .int .i64 c.l, .int .i64 c.e, .int .i64 c.fa, .int .i64 c.wh]] w fun e w' => e = .returned (.int .i64 (ckE c)) ∧ Below w.heap.size w w' := by
  have HR : Hid (∀ w1, Calls Tryd.prog 26 #[.agg #[.int .i64 c.tb, .int .i64 c.pg, .int .i64 c.l, .int .i64 c.e, .int .i64 c.fa, .int .i64 c.wh]] w1 fun e w' => e = .returned (.bool (coB c)) ∧ Below w1.heap.size w1 w') := fun w1 => right_any c w1
  unfold ckE
  generalize coB c = r at HR ⊢
  cases r
  all_goals
    go_enter Tryd.func16, Tryd.ntmps16
    go_wp2_with (first
      | (go_at_call 26; refine (HR.out _).mono ?_; rintro e1 w1 ⟨rfl, hb1⟩; have H1 : Hid (Below w.heap.size w w1) := (bal (Below.refl _ _) _).trans (hb1.mono (by simp)); clear hb1)
      | fail)
    go_ret
    exact ⟨rfl, H1.out⟩
/-! ### words -/
set_option maxRecDepth 100000 in
theorem rwords_any (c : Cp) (w : World) : Calls Tryd.prog 29 #[.agg #[.int .i64 c.tb, .int .i64 c.pg, .int .i64 c.l, .int .i64 c.e, .int .i64 c.fa, .int .i64 c.wh]] w fun e w' => e = .returned (.slice (some ⟨w.heap.size + 1, 0, none⟩) 6 6) ∧ Lst w' (w.heap.size + 1) c.ws ∧ Below w.heap.size w w' := by
  go_enter Tryd.func29, Tryd.ntmps29
  go_wp2
  go_ret
  refine ⟨rfl, fun j hj => ?_, bal (bal (Below.refl _ _) _) _⟩
  have e := heap_alloc_new (w.alloc (.cells #[.int .i64 c.tb, .int .i64 c.pg, .int .i64 c.l, .int .i64 c.e, .int .i64 c.fa, .int .i64 c.wh] 33)) (.cells #[.int .i64 c.tb, .int .i64 c.pg, .int .i64 c.l, .int .i64 c.e, .int .i64 c.fa, .int .i64 c.wh] 3)
  rw [World.size_alloc] at e
  rw [cell_of_row _ _ _ _ _ _ e]
  rw [ws_len] at hj
  rcases (show j = 0 ∨ j = 1 ∨ j = 2 ∨ j = 3 ∨ j = 4 ∨ j = 5 by omega) with rfl | rfl | rfl | rfl | rfl | rfl <;> rfl
/-! ### Make, Put -/
/-- The document's memory, and the component that was handed in, in a block of the call's own. -/
structure Rb (w W : World) (base q N : Nat) (M : Nat → Nat → Int) (c : Cp) : Prop where
  rx : Rx W base q N M
  box : RowC W w.heap.size c
  below : Below base w W
theorem rb_new {w : World} {base q N : Nat} {M : Nat → Nat → Int} (h : Rx w base q N M) (c : Cp) : Rb w (w.alloc (.cells #[.int .i64 c.tb, .int .i64 c.pg, .int .i64 c.l, .int .i64 c.e, .int .i64 c.fa, .int .i64 c.wh] 33)) base q N M c :=
  ⟨h.grown (bal (Below.refl _ _) _), rowC_new w c, (bal (Below.refl _ _) _).mono h.le⟩
theorem Rb.on {w W W' : World} {base q N : Nat} {M : Nat → Nat → Int} {c : Cp} (h : Rb w W base q N M c) (hB : Below W.heap.size W W') : Rb w W' base q N M c :=
  ⟨h.rx.grown hB, h.box.on hB, h.below.trans (hB.mono h.rx.le)⟩
theorem Rb.turn {w W W' : World} {base q N : Nat} {M M' : Nat → Nat → Int} {c : Cp} (h : Rb w W base q N M c) (hR : RefIs W' base q N M') (hF : Fit M') (hB : Below base W W') (hK : KeepT W W') : Rb w W' base q N M' c :=
  ⟨h.rx.turn hR hF, ⟨hK _ _ _ (by decide) h.box.row⟩, h.below.trans hB⟩
theorem ws_fit {c : Cp} (h : Co c) : ∀ x ∈ c.ws, 0 ≤ x ∧ x ≤ 9223372036854775807 := by
  unfold Co at h
  intro v hv
  simp only [Cp.ws, List.mem_cons, List.not_mem_nil, or_false] at hv
  rcases hv with rfl | rfl | rfl | rfl | rfl | rfl <;> omega
set_option maxRecDepth 100000 in
set_option maxHeartbeats 2000000 in
theorem rmake_any (base q N : Nat) (f : Int) (c : Cp) (M : Nat → Nat → Int) (w : World) (h : Rx w base q N M) : Calls Tryd.prog 8 #[.pointer (some ⟨q, 0, none⟩), .int .i64 f, .agg #[.int .i64 c.tb, .int .i64 c.pg, .int .i64 c.l, .int .i64 c.e, .int .i64 c.fa, .int .i64 c.wh]] w fun x w' => x = .returned (.int .i64 (mkE N f c)) ∧ Rx w' base q N (mkM N M f c) ∧ Below base w w' := by
  have HR : Hid (∀ w1, Calls Tryd.prog 26 #[.agg #[.int .i64 c.tb, .int .i64 c.pg, .int .i64 c.l, .int .i64 c.e, .int .i64 c.fa, .int .i64 c.wh]] w1 fun e w' => e = .returned (.bool (coB c)) ∧ Below w1.heap.size w1 w') := fun w1 => right_any c w1
  have H0 := rhide (rb_new h c)
  have n1 := h.n1
  have n64 := h.n64
  clear h
  by_cases hco : coB c = true
  · have e2 : mkE N f c = errF N f := by unfold mkE; rw [if_pos hco]
    have e3 : mkM N M f c = layF N (Phead.mkM N M f 3 0 false 0) f c.ws := by unfold mkM; rw [if_pos hco]
    rw [hco] at HR
    have HH : Hid (∀ wc, Rb w wc base q N M c → Calls Tryd.prog 27 #[.pointer (some ⟨q, 0, none⟩), .int .i64 f, .agg #[.int .i64 3, .int .i64 0, .bool false, .int .i64 0]] wc fun e w' => e = .returned (.int .i64 (errF N f)) ∧ Rb w w' base q N (Phead.mkM N M f 3 0 false 0) c) := fun wc h => by
      have := Phead.hrmake_k base q N f 3 0 false 0 M wc n1 n64 h.rx.ref
      rw [made_err (by omega)] at this
      refine this.mono ?_
      rintro e w' ⟨rfl, h1, h2, h3⟩
      exact ⟨rfl, h.turn h1 (Phead.fit_mk h.rx.fit N f 3 0 false 0) h2 h3⟩
    rw [e2, e3]
    clear e2 e3
    generalize Phead.mkM N M f 3 0 false 0 = M1 at HH ⊢
    cases hf : okF N f
    · have e4 : errF N f = 1 := by unfold errF; rw [hf]; rfl
      rw [e4] at HH ⊢
      rw [lay_bad hf]
      clear e4 hf hco
      go_enter Tryd.func8, Tryd.ntmps8
      go_wp2_with (first
        | (go_at_call 26; refine (HR.out _).mono ?_; rintro e1 w1 ⟨rfl, hb⟩; have H1 := rhide (H0.out.on hb); clear hb HR H0)
        | (go_at_call 27; refine (HH.out _ H1.out).mono ?_; rintro e2 w2 ⟨rfl, hb⟩; have H2 := rhide hb; clear hb HH H1)
        | fail)
      go_ret
      exact ⟨rfl, H2.out.rx, H2.out.below⟩
    · have e4 : errF N f = 0 := by unfold errF; rw [if_pos hf]
      rw [e4] at HH ⊢
      have HC : Hid (Co c) := (coB_iff c).1 hco
      clear e4 hf hco
      go_enter Tryd.func8, Tryd.ntmps8
      go_wp2_with (first
        | (go_at_call 26; refine (HR.out _).mono ?_; rintro e1 w1 ⟨rfl, hb⟩; have H1 := rhide (H0.out.on hb); clear hb HR H0)
        | (go_at_call 27; refine (HH.out _ H1.out).mono ?_; rintro e2 w2 ⟨rfl, hb⟩; have H2 := rhide hb; clear hb HH H1; have x0 := H2.out.box.c0; have x1 := H2.out.box.c1; have x2 := H2.out.box.c2; have x3 := H2.out.box.c3; have x4 := H2.out.box.c4; have x5 := H2.out.box.c5)
        | (go_at_call 29; refine (rwords_any c _).mono ?_; rintro e3 w3 ⟨rfl, hl, hb⟩; have H3 := rhide (H2.out.on hb); have HL := rhide hl; clear hl hb H2 x0 x1 x2 x3 x4 x5)
        | (go_at_call 28; refine (rlay_any base q N _ 6 f c.ws M1 _ H3.out.rx HL.out (by rw [ws_len]; omega) (ws_fit HC.out)).mono ?_; rintro e4 w4 ⟨rfl, hx, hb, _⟩; have H4 := rhide (And.intro hx (H3.out.below.trans hb)); clear hx hb H3 HL)
        | fail)
      go_ret
      exact ⟨rfl, H4.out⟩
  · have e2 : mkE N f c = 1 := by unfold mkE; rw [if_neg hco]
    have e3 : mkM N M f c = M := by unfold mkM; rw [if_neg hco]
    rw [show coB c = false by simpa using hco] at HR
    rw [e2, e3]
    clear e2 e3 hco
    go_enter Tryd.func8, Tryd.ntmps8
    go_wp2_with (first
      | (go_at_call 26; refine (HR.out _).mono ?_; rintro e1 w1 ⟨rfl, hb⟩; have H1 := rhide (H0.out.on hb); clear hb HR H0)
      | fail)
    go_ret
    exact ⟨rfl, H1.out.rx, H1.out.below⟩
set_option maxRecDepth 100000 in
set_option maxHeartbeats 2000000 in
theorem rput_any (base q N : Nat) (f : Int) (c : Cp) (M : Nat → Nat → Int) (w : World) (h : Rx w base q N M) : Calls Tryd.prog 10 #[.pointer (some ⟨q, 0, none⟩), .int .i64 f, .agg #[.int .i64 c.tb, .int .i64 c.pg, .int .i64 c.l, .int .i64 c.e, .int .i64 c.fa, .int .i64 c.wh]] w fun x w' => x = .returned (.int .i64 (puE N M f c)) ∧ Rx w' base q N (puM N M f c) ∧ Below base w w' := by
  have HR : Hid (∀ w1, Calls Tryd.prog 26 #[.agg #[.int .i64 c.tb, .int .i64 c.pg, .int .i64 c.l, .int .i64 c.e, .int .i64 c.fa, .int .i64 c.wh]] w1 fun e w' => e = .returned (.bool (coB c)) ∧ Below w1.heap.size w1 w') := fun w1 => right_any c w1
  have HIs : Hid (∀ wc, Rx wc base q N M → Calls Tryd.prog 31 #[.pointer (some ⟨q, 0, none⟩), .int .i64 f, .int .i64 3] wc fun e w' => e = .returned (.int .i64 (Phead.isE N M f 3)) ∧ Below wc.heap.size wc w') := fun wc h => Phead.hris_any base q N f 3 M wc h.n1 h.n64 h.ref h.fit
  have H0 := rhide (rb_new h c)
  clear h
  by_cases hco : coB c = true
  · rw [hco] at HR
    by_cases hk : Phead.isE N M f 3 = 0
    · have e2 : puE N M f c = 0 := by unfold puE; rw [if_pos hco, if_pos hk]
      have e3 : puM N M f c = layF N M f c.ws := by unfold puM; rw [if_pos e2]
      rw [e2, e3]
      rw [hk] at HIs
      have HC : Hid (Co c) := (coB_iff c).1 hco
      clear e2 e3 hk hco
      go_enter Tryd.func10, Tryd.ntmps10
      go_wp2_with (first
        | (go_at_call 26; refine (HR.out _).mono ?_; rintro e1 w1 ⟨rfl, hb⟩; have H1 := rhide (H0.out.on hb); clear hb HR H0)
        | (go_at_call 31; refine (HIs.out _ H1.out.rx).mono ?_; rintro e2 w2 ⟨rfl, hb⟩; have H2 := rhide (H1.out.on hb); clear hb HIs H1; have x0 := H2.out.box.c0; have x1 := H2.out.box.c1; have x2 := H2.out.box.c2; have x3 := H2.out.box.c3; have x4 := H2.out.box.c4; have x5 := H2.out.box.c5)
        | (go_at_call 29; refine (rwords_any c _).mono ?_; rintro e3 w3 ⟨rfl, hl, hb⟩; have H3 := rhide (H2.out.on hb); have HL := rhide hl; clear hl hb H2 x0 x1 x2 x3 x4 x5)
        | (go_at_call 28; refine (rlay_any base q N _ 6 f c.ws M _ H3.out.rx HL.out (by rw [ws_len]; omega) (ws_fit HC.out)).mono ?_; rintro e4 w4 ⟨rfl, hx, hb, _⟩; have H4 := rhide (And.intro hx (H3.out.below.trans hb)); clear hx hb H3 HL)
        | fail)
      go_ret
      exact ⟨rfl, H4.out⟩
    · have e2 : puE N M f c = 4 := by unfold puE; rw [if_pos hco, if_neg hk]
      have e3 : puM N M f c = M := by unfold puM; rw [if_neg (by rw [e2]; decide)]
      rw [e2, e3]
      generalize Phead.isE N M f 3 = E at HIs hk
      have hE : (E != 0) = true := by simp [hk]
      clear e2 e3 hk hco
      go_enter Tryd.func10, Tryd.ntmps10
      go_wp2_with (first
        | (go_at_call 26; refine (HR.out _).mono ?_; rintro e1 w1 ⟨rfl, hb⟩; have H1 := rhide (H0.out.on hb); clear hb HR H0)
        | (go_at_call 31; refine (HIs.out _ H1.out.rx).mono ?_; rintro e2 w2 ⟨rfl, hb⟩; have H2 := rhide (H1.out.on hb); clear hb HIs H1)
        | fail)
      go_ret
      exact ⟨rfl, H2.out.rx, H2.out.below⟩
  · have e2 : puE N M f c = 1 := by unfold puE; rw [if_neg hco]
    have e3 : puM N M f c = M := by unfold puM; rw [if_neg (by rw [e2]; decide)]
    rw [show coB c = false by simpa using hco] at HR
    rw [e2, e3]
    clear e2 e3 HIs hco
    go_enter Tryd.func10, Tryd.ntmps10
    go_wp2_with (first
      | (go_at_call 26; refine (HR.out _).mono ?_; rintro e1 w1 ⟨rfl, hb⟩; have H1 := rhide (H0.out.on hb); clear hb HR H0)
      | fail)
    go_ret
    exact ⟨rfl, H1.out.rx, H1.out.below⟩
end Go.Proofs.YtikhbohkmogffaaDoor.Pcomp
