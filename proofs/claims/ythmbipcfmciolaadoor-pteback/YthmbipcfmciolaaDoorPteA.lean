/- maps, isNone, Check, Allows, Less, Quiet of package pte: for every mapping, what they answer. -/
import Derived.Test.YthmbipcfmciolaaDoorPteF
import Derived.Below
import Derived.OwnWalk
import Derived.Laws.Rows
namespace Go.Proofs.YthmbipcfmciolaaDoor.Ppte
open Go.Proofs.YthmbipcfmciolaaDoor.Pbase
open Go.RowKit
set_option linter.unusedVariables false

/-- A mapping in a block. -/
structure BoxP (w : World) (B : Nat) (o : Bool) (f r t : Int) : Prop where
  lt : B < w.heap.size
  c0 : w.cell? ⟨B, 0, none⟩ = some (.bool o)
  c1 : w.cell? ⟨B, 1, none⟩ = some (.int .i64 f)
  c2 : w.cell? ⟨B, 2, none⟩ = some (.int .i64 r)
  c3 : w.cell? ⟨B, 3, none⟩ = some (.int .i64 t)
  fz : ∀ j, w.frozen? ⟨B, j, none⟩ = false
theorem BoxP.on {w w' : World} {B : Nat} {o : Bool} {f r t : Int} (h : BoxP w B o f r t) (hB : Below w.heap.size w w') : BoxP w' B o f r t :=
  ⟨Nat.lt_of_lt_of_le h.lt hB.size, (hB.cell (p := ⟨B, 0, none⟩) h.lt).trans h.c0, (hB.cell (p := ⟨B, 1, none⟩) h.lt).trans h.c1, (hB.cell (p := ⟨B, 2, none⟩) h.lt).trans h.c2, (hB.cell (p := ⟨B, 3, none⟩) h.lt).trans h.c3, fun j => (hB.frozen (p := ⟨B, j, none⟩) h.lt).trans (h.fz j)⟩
theorem boxP_new (w : World) (o : Bool) (f r t : Int) (ty : TypeId) : BoxP (w.alloc (.cells #[.bool o, .int .i64 f, .int .i64 r, .int .i64 t] ty)) w.heap.size o f r t := by
  have h := heap_alloc_new w (.cells #[.bool o, .int .i64 f, .int .i64 r, .int .i64 t] ty)
  refine ⟨by simp, ?_, ?_, ?_, ?_, fun j => frozen_of_row _ _ _ _ _ h⟩ <;> (rw [cell_of_row _ _ _ _ _ _ h]; rfl)
theorem boxP_two (w : World) (o : Bool) (f r t : Int) (ty ty' : TypeId) (cs : Array Value) : BoxP ((w.alloc (.cells #[.bool o, .int .i64 f, .int .i64 r, .int .i64 t] ty)).alloc (.cells cs ty')) w.heap.size o f r t :=
  (boxP_new w o f r t ty).on (bal (Below.refl _ _) _)

/-! ### maps, isNone -/
set_option maxRecDepth 100000 in
theorem maps_any (o : Bool) (f r t : Int) (w : World) :
    Calls Tryd.prog 24 #[.agg #[.bool o, .int .i64 f, .int .i64 r, .int .i64 t]] w fun e w' => e = .returned (.bool (mpB o f r t)) ∧ Below w.heap.size w w' := by
  cases o
  case false =>
    rw [mpB_off]
    go_enter Tryd.func24, Tryd.ntmps24
    go_wp2
    go_ret
    exact ⟨rfl, bal (Below.refl _ _) _⟩
  case true =>
  by_cases hc : 0 ≤ f ∧ f ≤ 63 ∧ 1 ≤ r ∧ r ≤ 3 ∧ t = 0
  · rw [mpB_yes hc]
    obtain ⟨h0, h1, h2, h3, rfl⟩ := hc
    have h4 : f < 64 := by omega
    go_enter Tryd.func24, Tryd.ntmps24
    go_wp2
    go_ret
    exact ⟨rfl, bal (Below.refl _ _) _⟩
  · rw [mpB_no hc]
    have hk : f < 0 ∨ (¬ f < 0 ∧ ¬ f < 64) ∨ (¬ f < 0 ∧ f < 64 ∧ r < 1) ∨ (¬ f < 0 ∧ f < 64 ∧ ¬ r < 1 ∧ 3 < r) ∨ ¬ f < 0 ∧ f < 64 ∧ ¬ r < 1 ∧ ¬ 3 < r ∧ ((t : Int) == 0) = false := by
      simp only [beq_eq_false_iff_ne, ne_eq]
      omega
    clear hc
    rcases hk with h0 | ⟨h0, h1⟩ | ⟨h0, h1, h2⟩ | ⟨h0, h1, h2, h3⟩ | ⟨h0, h1, h2, h3, h4⟩
    all_goals
      go_enter Tryd.func24, Tryd.ntmps24
      go_wp2
      go_ret
      exact ⟨rfl, bal (Below.refl _ _) _⟩
set_option maxRecDepth 100000 in
theorem none_any (o : Bool) (f r t : Int) (w : World) :
    Calls Tryd.prog 25 #[.agg #[.bool o, .int .i64 f, .int .i64 r, .int .i64 t]] w fun e w' => e = .returned (.bool (nnB o f r t)) ∧ Below w.heap.size w w' := by
  cases o
  case true =>
    rw [nnB_on]
    go_enter Tryd.func25, Tryd.ntmps25
    go_wp2
    go_ret
    exact ⟨rfl, bal (Below.refl _ _) _⟩
  case false =>
  by_cases hc : f = 0 ∧ r = 0 ∧ 0 ≤ t ∧ t ≤ 1073741824
  · rw [nnB_yes hc]
    obtain ⟨rfl, rfl, h2, h3⟩ := hc
    go_enter Tryd.func25, Tryd.ntmps25
    go_wp2
    go_ret
    exact ⟨rfl, bal (Below.refl _ _) _⟩
  · rw [nnB_no hc]
    have hk : ((f : Int) == 0) = false ∨ (f = 0 ∧ ((r : Int) == 0) = false) ∨ (f = 0 ∧ r = 0 ∧ t < 0) ∨ f = 0 ∧ r = 0 ∧ ¬ t < 0 ∧ 1073741824 < t := by
      simp only [beq_eq_false_iff_ne, ne_eq]
      omega
    clear hc
    rcases hk with h0 | ⟨rfl, h1⟩ | ⟨rfl, rfl, h2⟩ | ⟨rfl, rfl, h2, h3⟩
    all_goals
      go_enter Tryd.func25, Tryd.ntmps25
      go_wp2
      go_ret
      exact ⟨by first | rfl | (show Ending.returned (.bool (decide (t ≤ 1073741824))) = _; rw [decide_eq_false (by omega)]), bal (Below.refl _ _) _⟩

/-! ### Check -/
set_option maxRecDepth 100000 in
theorem check_any (o : Bool) (f r t : Int) (w : World) :
    Calls Tryd.prog 11 #[.agg #[.bool o, .int .i64 f, .int .i64 r, .int .i64 t]] w fun e w' => e = .returned (.int .i64 (chk o f r t)) ∧ Below w.heap.size w w' := by
  rw [chk_of]
  have HX : Hid (∀ ty, BoxP (w.alloc (.cells #[.bool o, .int .i64 f, .int .i64 r, .int .i64 t] ty)) w.heap.size o f r t) := fun ty => boxP_new w o f r t ty
  have HM : Hid (∀ w1, Calls Tryd.prog 24 #[.agg #[.bool o, .int .i64 f, .int .i64 r, .int .i64 t]] w1 fun e w' => e = .returned (.bool (mpB o f r t)) ∧ Below w1.heap.size w1 w') := fun w1 => maps_any o f r t w1
  have HN : Hid (∀ w1, Calls Tryd.prog 25 #[.agg #[.bool o, .int .i64 f, .int .i64 r, .int .i64 t]] w1 fun e w' => e = .returned (.bool (nnB o f r t)) ∧ Below w1.heap.size w1 w') := fun w1 => none_any o f r t w1
  generalize mpB o f r t = m at HM ⊢
  generalize nnB o f r t = n at HN ⊢
  cases m <;> cases n
  all_goals
    go_enter Tryd.func11, Tryd.ntmps11
    go_wp2_with (first
      | (go_at_call 24; refine (HM.out _).mono ?_; rintro e1 w1 ⟨rfl, hb1⟩; have H1 : Hid (Below w.heap.size w w1) := (bal (Below.refl _ _) _).trans (hb1.mono (by simp)); have X1 := (HX.out _).on hb1; clear hb1 HX; have x0 := X1.c0; have x1 := X1.c1; have x2 := X1.c2; have x3 := X1.c3; have xl := X1.lt; clear X1)
      | (go_at_call 25; refine (HN.out _).mono ?_; rintro e2 w2 ⟨rfl, hb2⟩; have H2 : Hid (Below w.heap.size w w2) := H1.out.trans (hb2.mono H1.out.size); clear hb2 H1; have H1 : Hid (Below w.heap.size w w2) := H2; clear H2)
      | fail)
    go_ret
    exact ⟨rfl, H1.out⟩

/-! ### Allows, Quiet -/
set_option maxRecDepth 100000 in
theorem allows_any (o : Bool) (f r t q : Int) (w : World) (hq : -9223372036854775808 ≤ q ∧ q ≤ 9223372036854775807) :
    Calls Tryd.prog 13 #[.agg #[.bool o, .int .i64 f, .int .i64 r, .int .i64 t], .int .i64 q] w fun e w' => e = .returned (.bool (alB o f r t q)) ∧ Below w.heap.size w w' := by
  rw [alB_of, ← an_not r hq]
  clear hq
  have HX : Hid (∀ ty, BoxP (w.alloc (.cells #[.bool o, .int .i64 f, .int .i64 r, .int .i64 t] ty)) w.heap.size o f r t) := fun ty => boxP_new w o f r t ty
  have HM : Hid (∀ w1, Calls Tryd.prog 24 #[.agg #[.bool o, .int .i64 f, .int .i64 r, .int .i64 t]] w1 fun e w' => e = .returned (.bool (mpB o f r t)) ∧ Below w1.heap.size w1 w') := fun w1 => maps_any o f r t w1
  generalize mpB o f r t = m at HM ⊢
  obtain ⟨b, hb⟩ : ∃ b, (bits .andNot .i64 q r == 0) = b := ⟨_, rfl⟩
  rw [hb]
  cases m <;> cases b
  all_goals
    go_enter Tryd.func13, Tryd.ntmps13
    go_wp2_with (first
      | (go_at_call 24; refine (HM.out _).mono ?_; rintro e1 w1 ⟨rfl, hb1⟩; have H1 : Hid (Below w.heap.size w w1) := (bal (Below.refl _ _) _).trans (hb1.mono (by simp)); have X1 := (HX.out _).on hb1; clear hb1 HX; have x0 := X1.c0; have x1 := X1.c1; have x2 := X1.c2; have x3 := X1.c3; have xl := X1.lt; clear X1)
      | fail)
    go_ret
    exact ⟨rfl, H1.out⟩
set_option maxRecDepth 100000 in
theorem quiet_any (o : Bool) (f r t q : Int) (w : World) :
    Calls Tryd.prog 15 #[.agg #[.bool o, .int .i64 f, .int .i64 r, .int .i64 t], .int .i64 q] w fun e w' => e = .returned (.bool (quB o f r t q)) ∧ Below w.heap.size w w' := by
  rw [quB_of]
  have HX : Hid (∀ ty, BoxP (w.alloc (.cells #[.bool o, .int .i64 f, .int .i64 r, .int .i64 t] ty)) w.heap.size o f r t) := fun ty => boxP_new w o f r t ty
  have HN : Hid (∀ w1, Calls Tryd.prog 25 #[.agg #[.bool o, .int .i64 f, .int .i64 r, .int .i64 t]] w1 fun e w' => e = .returned (.bool (nnB o f r t)) ∧ Below w1.heap.size w1 w') := fun w1 => none_any o f r t w1
  generalize nnB o f r t = m at HN ⊢
  have hk : (m = false ∨ (m = true ∧ t = 0)) ∨ (m = true ∧ ((t : Int) == 0) = false ∧ t < q) ∨ (m = true ∧ ((t : Int) == 0) = false ∧ ¬ t < q) := by
    cases m
    · simp
    · simp only [beq_eq_false_iff_ne, ne_eq]
      simp
      omega
  have hv : (m && (decide (t = 0) || decide (t < q))) = (m && ((t : Int) == 0 || decide (t < q))) := by
    congr 2
  rw [hv]
  clear hv
  rcases hk with (rfl | ⟨rfl, rfl⟩) | ⟨rfl, h0, h1⟩ | ⟨rfl, h0, h1⟩
  case' inr.inl => rw [h0, decide_eq_true h1]
  case' inr.inr => rw [h0, decide_eq_false h1]
  all_goals
    go_enter Tryd.func15, Tryd.ntmps15
    go_wp2_with (first
      | (go_at_call 25; refine (HN.out _).mono ?_; rintro e1 w1 ⟨rfl, hb1⟩; have H1 : Hid (Below w.heap.size w w1) := (bal (Below.refl _ _) _).trans (hb1.mono (by simp)); have X1 := (HX.out _).on hb1; clear hb1 HX; have x0 := X1.c0; have x1 := X1.c1; have x2 := X1.c2; have x3 := X1.c3; have xl := X1.lt; clear X1)
      | fail)
    go_ret
    refine ⟨?_, H1.out⟩
    first
      | rfl
      | (show Ending.returned (.bool (decide (t < q))) = _; rw [decide_eq_false (by omega)]; rfl)

/-! ### Less -/
set_option maxRecDepth 100000 in
theorem less_any (o : Bool) (f r t q : Int) (w : World) :
    Calls Tryd.prog 9 #[.agg #[.bool o, .int .i64 f, .int .i64 r, .int .i64 t], .int .i64 q] w fun e w' => e = .returned (.tuple #[.agg #[.bool (leO o f r t q), .int .i64 (leF o f r t q), .int .i64 (leR o f r t q), .int .i64 0], .int .i64 (leE o f r t q)]) ∧ Below w.heap.size w w' := by
  have HX : Hid (∀ ty ty' cs, BoxP ((w.alloc (.cells #[.bool o, .int .i64 f, .int .i64 r, .int .i64 t] ty)).alloc (.cells cs ty')) w.heap.size o f r t) := fun ty ty' cs => boxP_two w o f r t ty ty' cs
  have HY : Hid (∀ o', BoxP ((w.alloc o').alloc (.cells #[.bool false, .int .i64 0, .int .i64 0, .int .i64 0] 23)) (w.heap.size + 1) false 0 0 0) := fun o' => by
    have := boxP_new (w.alloc o') false 0 0 0 23
    rwa [World.size_alloc] at this
  have HM : Hid (∀ w1, Calls Tryd.prog 24 #[.agg #[.bool o, .int .i64 f, .int .i64 r, .int .i64 t]] w1 fun e w' => e = .returned (.bool (mpB o f r t)) ∧ Below w1.heap.size w1 w') := fun w1 => maps_any o f r t w1
  have hm : mpB o f r t = true → o = true ∧ t = 0 := fun h => ⟨(mpB_rt h).1, (mpB_rt h).2.2.2.2.2⟩
  unfold leO leF leR leE
  rw [leB_of]
  generalize mpB o f r t = m at HM hm ⊢
  unfold anR
  obtain ⟨b, hb⟩ : ∃ b, (bits .and .i64 r q == 0) = b := ⟨_, rfl⟩
  rw [hb]
  obtain ⟨v, hv⟩ : ∃ v, bits .and .i64 r q = v := ⟨_, rfl⟩
  rw [hv] at hb ⊢
  cases m
  case false =>
    clear hm
    go_enter Tryd.func9, Tryd.ntmps9
    go_wp2_with (first
      | (go_at_call 24; refine (HM.out _).mono ?_; rintro e1 w1 ⟨rfl, hb1⟩; have H1 : Hid (Below w.heap.size w w1) := (bal (bal (Below.refl _ _) _) _).trans (hb1.mono (by simp; omega)); have X1 := (HX.out _ _ _).on hb1; have Y1 := (HY.out _).on hb1; clear hb1 HX HY; have x0 := X1.c0; have x1 := X1.c1; have x2 := X1.c2; have x3 := X1.c3; have xl := X1.lt; have y0 := Y1.c0; have y1 := Y1.c1; have y2 := Y1.c2; have y3 := Y1.c3; have yl := Y1.lt; have z0 := Y1.fz 0; have z1 := Y1.fz 1; have z2 := Y1.fz 2; have z3 := Y1.fz 3; clear X1 Y1)
      | fail)
    refine bodyPost_ret (v := .tuple #[.agg #[.bool false, .int .i64 0, .int .i64 0, .int .i64 0], .int .i64 1]) (by simp [results, Tryd.results9, go_sem, y0, y1, y2, y3]) rfl ⟨rfl, ?_⟩
    exact bst (bst (bst (bst H1.out (by omega) _ _) (by omega) _ _) (by omega) _ _) (by omega) _ _
  case true =>
  obtain ⟨rfl, rfl⟩ := hm rfl
  clear hm
  cases b
  case true =>
    go_enter Tryd.func9, Tryd.ntmps9
    go_wp2_with (first
      | (go_at_call 24; refine (HM.out _).mono ?_; rintro e1 w1 ⟨rfl, hb1⟩; have H1 : Hid (Below w.heap.size w w1) := (bal (bal (Below.refl _ _) _) _).trans (hb1.mono (by simp; omega)); have X1 := (HX.out _ _ _).on hb1; have Y1 := (HY.out _).on hb1; clear hb1 HX HY; have x0 := X1.c0; have x1 := X1.c1; have x2 := X1.c2; have x3 := X1.c3; have xl := X1.lt; have y0 := Y1.c0; have y1 := Y1.c1; have y2 := Y1.c2; have y3 := Y1.c3; have yl := Y1.lt; have z0 := Y1.fz 0; have z1 := Y1.fz 1; have z2 := Y1.fz 2; have z3 := Y1.fz 3; clear X1 Y1)
      | fail)
    refine bodyPost_ret (v := .tuple #[.agg #[.bool false, .int .i64 0, .int .i64 0, .int .i64 0], .int .i64 1]) (by simp [results, Tryd.results9, go_sem, y0, y1, y2, y3]) rfl ⟨rfl, ?_⟩
    exact bst (bst (bst (bst H1.out (by omega) _ _) (by omega) _ _) (by omega) _ _) (by omega) _ _
  case false =>
    go_enter Tryd.func9, Tryd.ntmps9
    go_wp2_with (first
      | (go_at_call 24; refine (HM.out _).mono ?_; rintro e1 w1 ⟨rfl, hb1⟩; have H1 : Hid (Below w.heap.size w w1) := (bal (bal (Below.refl _ _) _) _).trans (hb1.mono (by simp; omega)); have X1 := (HX.out _ _ _).on hb1; have Y1 := (HY.out _).on hb1; clear hb1 HX HY; have x0 := X1.c0; have x1 := X1.c1; have x2 := X1.c2; have x3 := X1.c3; have xl := X1.lt; have u2 := X1.fz 2; have y0 := Y1.c0; have y1 := Y1.c1; have y2 := Y1.c2; have y3 := Y1.c3; have yl := Y1.lt; have z0 := Y1.fz 0; have z1 := Y1.fz 1; have z2 := Y1.fz 2; have z3 := Y1.fz 3; clear X1 Y1)
      | fail)
    refine bodyPost_ret (v := .tuple #[.agg #[.bool true, .int .i64 f, .int .i64 v, .int .i64 0], .int .i64 0]) (by simp [results, Tryd.results9, go_sem, y0, y1, y2, y3]) rfl ⟨rfl, ?_⟩
    exact bst (bst (bst (bst (bst H1.out (by omega) _ _) (by omega) _ _) (by omega) _ _) (by omega) _ _) (by omega) _ _
end Go.Proofs.YthmbipcfmciolaaDoor.Ppte
