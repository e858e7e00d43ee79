/- What the document's Allows, Less, Quiet of layer 14 answer; mappings held against each other. -/
import Derived.Test.YthmbipcfmciolaaDoorPteR
namespace Go.Proofs.YthmbipcfmciolaaDoor.Ppte
open Go.Proofs.YthmbipcfmciolaaDoor.Pbase Go.Proofs.YthmbipcfmciolaaDoor.Pfield
open Go.RowKit M
set_option linter.unusedVariables false

set_option maxRecDepth 100000 in
theorem rallows_any (o : Bool) (f r t q : Int) (w : World) :
    Calls Tryd.prog 14 #[.agg #[.bool o, .int .i64 f, .int .i64 r, .int .i64 t], .int .i64 q] w fun e w' => e = .returned (.bool (alB o f r t q)) ∧ Below w.heap.size w w' := by
  unfold alB anR
  have HX : Hid (∀ ty, BoxP (w.alloc (.cells #[.bool o, .int .i64 f, .int .i64 r, .int .i64 t] ty)) w.heap.size o f r t) := fun ty => boxP_new w o f r t ty
  have HR : Hid (∀ w1, Calls Tryd.prog 20 #[.agg #[.bool o, .int .i64 f, .int .i64 r, .int .i64 t]] w1 fun e w' => e = .returned (.bool (rtB o f r t)) ∧ Below w1.heap.size w1 w') := fun w1 => right_any o f r t w1
  generalize rtB o f r t = m at HR ⊢
  obtain ⟨b, hb⟩ : ∃ b, (bits .and .i64 r q == q) = b := ⟨_, rfl⟩
  rw [hb]
  cases m <;> cases o <;> cases b
  all_goals
    go_enter Tryd.func14, Tryd.ntmps14
    go_wp2_with (first
      | (go_at_call 20; refine (HR.out _).mono ?_; rintro e1 w1 ⟨rfl, hb1⟩; have H1 : Hid (Below w.heap.size w w1) := (bal (Below.refl _ _) _).trans (hb1.mono (by simp)); have X1 := (HX.out _).on hb1; clear hb1 HX; have x0 := X1.c0; have x1 := X1.c1; have x2 := X1.c2; have x3 := X1.c3; have xl := X1.lt; clear X1)
      | fail)
    go_ret
    exact ⟨rfl, H1.out⟩
set_option maxRecDepth 100000 in
theorem rquiet_any (o : Bool) (f r t q : Int) (w : World) :
    Calls Tryd.prog 16 #[.agg #[.bool o, .int .i64 f, .int .i64 r, .int .i64 t], .int .i64 q] w fun e w' => e = .returned (.bool (quB o f r t q)) ∧ Below w.heap.size w w' := by
  unfold quB
  have HX : Hid (∀ ty, BoxP (w.alloc (.cells #[.bool o, .int .i64 f, .int .i64 r, .int .i64 t] ty)) w.heap.size o f r t) := fun ty => boxP_new w o f r t ty
  have HR : Hid (∀ w1, Calls Tryd.prog 20 #[.agg #[.bool o, .int .i64 f, .int .i64 r, .int .i64 t]] w1 fun e w' => e = .returned (.bool (rtB o f r t)) ∧ Below w1.heap.size w1 w') := fun w1 => right_any o f r t w1
  generalize rtB o f r t = m at HR ⊢
  have hv : (m && !o && (decide (t = 0) || decide (t < q))) = (m && !o && ((t : Int) == 0 || decide (t < q))) := by
    congr 2
  rw [hv]
  clear hv
  have hk : t = 0 ∨ (((t : Int) == 0) = false ∧ t < q) ∨ (((t : Int) == 0) = false ∧ ¬ t < q) := by
    simp only [beq_eq_false_iff_ne, ne_eq]
    omega
  rcases hk with rfl | ⟨h0, h1⟩ | ⟨h0, h1⟩
  case' inr.inl => rw [h0, decide_eq_true h1]
  case' inr.inr => rw [h0, decide_eq_false h1]
  all_goals
    cases m <;> cases o
    all_goals
      go_enter Tryd.func16, Tryd.ntmps16
      go_wp2_with (first
        | (go_at_call 20; refine (HR.out _).mono ?_; rintro e1 w1 ⟨rfl, hb1⟩; have H1 : Hid (Below w.heap.size w w1) := (bal (Below.refl _ _) _).trans (hb1.mono (by simp)); have X1 := (HX.out _).on hb1; clear hb1 HX; have x0 := X1.c0; have x1 := X1.c1; have x2 := X1.c2; have x3 := X1.c3; have xl := X1.lt; clear X1)
        | fail)
      go_ret
      refine ⟨?_, H1.out⟩
      first
        | rfl
        | (show Ending.returned (.bool (decide (t < q))) = _; rw [decide_eq_false (by omega)]; rfl)

/-! ### Less -/
theorem leB_rt {o : Bool} {f r t : Int} (h : rtB o f r t = true) : o = true → t = 0 := fun ho => by
  subst ho
  exact (((rtB_iff true f r t).1 h).1 rfl).2.2.2.2
theorem boxP_set {w : World} {B : Nat} {o : Bool} {f r t : Int} (v : Int) (h : BoxP w B o f r t) : BoxP (w.setCell ⟨B, 2, none⟩ (.int .i64 v)) B o f v t := by
  have ne : ∀ j, j ≠ 2 → (⟨B, 2, none⟩ : Addr) ≠ ⟨B, j, none⟩ := fun j hj hh => by cases hh; exact hj rfl
  exact ⟨by simpa using h.lt, (World.cell?_setCell_other w _ _ _ (ne 0 (by decide))).trans h.c0, (World.cell?_setCell_other w _ _ _ (ne 1 (by decide))).trans h.c1, World.cell?_setCell_same w _ _ h.c2, (World.cell?_setCell_other w _ _ _ (ne 3 (by decide))).trans h.c3, fun j => by simpa using h.fz j⟩
set_option maxRecDepth 100000 in
set_option maxHeartbeats 1000000 in
theorem rless_any (o : Bool) (f r t q : Int) (w : World) :
    Calls Tryd.prog 10 #[.agg #[.bool o, .int .i64 f, .int .i64 r, .int .i64 t], .int .i64 q] w fun e w' => e = .returned (.tuple #[.agg #[.bool (leO o f r t q), .int .i64 (leF o f r t q), .int .i64 (leR o f r t q), .int .i64 0], .int .i64 (leE o f r t q)]) ∧ Below w.heap.size w w' := by
  have HX : Hid (∀ ty ty' cs, BoxP ((w.alloc (.cells #[.bool o, .int .i64 f, .int .i64 r, .int .i64 t] ty)).alloc (.cells cs ty')) w.heap.size o f r t) := fun ty ty' cs => boxP_two w o f r t ty ty' cs
  have HY : Hid (∀ o', BoxP ((w.alloc o').alloc (.cells #[.bool false, .int .i64 0, .int .i64 0, .int .i64 0] 23)) (w.heap.size + 1) false 0 0 0) := fun o' => by
    have := boxP_new (w.alloc o') false 0 0 0 23
    rwa [World.size_alloc] at this
  have HR : Hid (∀ w1, Calls Tryd.prog 20 #[.agg #[.bool o, .int .i64 f, .int .i64 r, .int .i64 t]] w1 fun e w' => e = .returned (.bool (rtB o f r t)) ∧ Below w1.heap.size w1 w') := fun w1 => right_any o f r t w1
  have hm : rtB o f r t = true → o = true → t = 0 := leB_rt
  unfold leO leF leR leE leB
  generalize rtB o f r t = m at HR hm ⊢
  unfold anR
  obtain ⟨b, hb⟩ : ∃ b, (bits .and .i64 r q == 0) = b := ⟨_, rfl⟩
  rw [hb]
  obtain ⟨v, hv⟩ : ∃ v, bits .and .i64 r q = v := ⟨_, rfl⟩
  rw [hv] at hb ⊢
  have hcase : ((m && o && !b) = false ∧ (m = false ∨ (m = true ∧ o = false) ∨ (m = true ∧ o = true ∧ b = true))) ∨ (m = true ∧ o = true ∧ b = false) := by
    cases m <;> cases o <;> cases b <;> simp
  rcases hcase with ⟨_, hc⟩ | ⟨rfl, rfl, rfl⟩
  · rcases hc with rfl | ⟨rfl, rfl⟩ | ⟨rfl, rfl, rfl⟩
    all_goals
      clear hm
      go_enter Tryd.func10, Tryd.ntmps10
      go_wp2_with (first
        | (go_at_call 20; refine (HR.out _).mono ?_; rintro e1 w1 ⟨rfl, hb1⟩; have H1 : Hid (Below w.heap.size w w1) := (bal (bal (Below.refl _ _) _) _).trans (hb1.mono (by simp; omega)); have X1 := (HX.out _ _ _).on hb1; have Y1 := (HY.out _).on hb1; clear hb1 HX HY; have x0 := X1.c0; have x1 := X1.c1; have x2 := X1.c2; have x3 := X1.c3; have xl := X1.lt; have y0 := Y1.c0; have y1 := Y1.c1; have y2 := Y1.c2; have y3 := Y1.c3; have yl := Y1.lt; have z0 := Y1.fz 0; have z1 := Y1.fz 1; have z2 := Y1.fz 2; have z3 := Y1.fz 3; clear X1 Y1)
        | fail)
      refine bodyPost_ret (v := .tuple #[.agg #[.bool false, .int .i64 0, .int .i64 0, .int .i64 0], .int .i64 1]) (by simp [results, Tryd.results10, go_sem, y0, y1, y2, y3]) rfl ⟨by simp, ?_⟩
      exact bst (bst (bst (bst H1.out (by omega) _ _) (by omega) _ _) (by omega) _ _) (by omega) _ _
  · obtain rfl := hm rfl rfl
    clear hm
    go_enter Tryd.func10, Tryd.ntmps10
    go_upto_region 4 with (first
      | (go_at_call 20; refine (HR.out _).mono ?_; rintro e1 w1 ⟨rfl, hb1⟩; have H1 : Hid (Below w.heap.size w w1) := (bal (bal (Below.refl _ _) _) _).trans (hb1.mono (by simp; omega)); have HX1 : Hid (BoxP w1 w.heap.size true f r 0) := (HX.out _ _ _).on hb1; have HY1 : Hid (BoxP w1 (w.heap.size + 1) false 0 0 0) := (HY.out _).on hb1; clear hb1 HX HY; have x0 := HX1.out.c0; have x1 := HX1.out.c1; have x2 := HX1.out.c2; have x3 := HX1.out.c3; have xl := HX1.out.lt)
      | fail)
    have X2 := HX1.out.on (bal (Below.refl _ _) (.cells #[.bool true, .int .i64 f, .int .i64 r, .int .i64 0] 23))
    have Y2 := HY1.out.on (bal (Below.refl _ _) (.cells #[.bool true, .int .i64 f, .int .i64 r, .int .i64 0] 23))
    have Z2 := boxP_new w1 true f r 0 23
    have B2 := bal H1.out (.cells #[.bool true, .int .i64 f, .int .i64 r, .int .i64 0] 23)
    have s1 := HY1.out.lt
    clear x0 x1 x2 x3 xl HX1 HY1 H1
    generalize w1.alloc _ = w2 at X2 Y2 Z2 B2 ⊢
    generalize w1.heap.size = D at Z2 s1 ⊢
    have H2 : Hid (Below w.heap.size w w2) := B2
    have HL : Hid (w.heap.size + 1 < D) := s1
    have x2 := X2.c2
    have xl := X2.lt
    have u0 := Z2.c0
    have u1 := Z2.c1
    have u2 := Z2.c2
    have u3 := Z2.c3
    have ul := Z2.lt
    have uz := Z2.fz 2
    have y0 := Y2.c0
    have y1 := Y2.c1
    have y2 := Y2.c2
    have y3 := Y2.c3
    have yl := Y2.lt
    have z0 := Y2.fz 0
    have z1 := Y2.fz 1
    have z2 := Y2.fz 2
    have z3 := Y2.fz 3
    have n1 : ¬ D = w.heap.size + 1 := Nat.ne_of_gt HL.out
    have n2 : ¬ w.heap.size + 1 = D := Nat.ne_of_lt HL.out
    clear X2 Y2 Z2 B2 s1
    go_wp2
    refine bodyPost_ret (v := .tuple #[.agg #[.bool true, .int .i64 f, .int .i64 v, .int .i64 0], .int .i64 0]) (by simp [results, Tryd.results10, go_sem, y0, y1, y2, y3]) rfl ⟨by simp, ?_⟩
    have := HL.out
    exact bst (bst (bst (bst (bst H2.out (by omega) _ _) (by omega) _ _) (by omega) _ _) (by omega) _ _) (by omega) _ _

/-! ### mappings held against each other -/
theorem eqP (o : Bool) (f r t : Int) (o' : Bool) (f' r' t' : Int) (w : World) : (Op.equalIn 10000 23 (.agg #[.bool o, .int .i64 f, .int .i64 r, .int .i64 t]) (.agg #[.bool o', .int .i64 f', .int .i64 r', .int .i64 t'])).run Tryd.prog w = .ok (o == o' && f == f' && r == r' && t == t') w := by
  show (Op.equalIn (9998 + 1 + 1) 23 (.agg #[.bool o, .int .i64 f, .int .i64 r, .int .i64 t]) (.agg #[.bool o', .int .i64 f', .int .i64 r', .int .i64 t'])).run _ _ = _
  rw [run_equalIn_agg (P := Tryd.prog) w _ _ _ _ (by kernel_rfl) (by kernel_rfl)]
  have hf : (Tryd.prog.fieldsOf 23).toList = [⟨ "On", 4, 0, false, "", "", 0⟩, ⟨ "F", 3, 1, false, "", "", 8⟩, ⟨ "R", 3, 2, false, "", "", 16⟩, ⟨ "Time", 3, 3, false, "", "", 24⟩] := by kernel_rfl
  rw [hf]
  have p0 : ∀ (o : Bool) (x y v : Int) (w : World), (part 4 #[.bool o, .int .i64 x, .int .i64 y, .int .i64 v] 0).run Tryd.prog w = .ok (.bool o) w := fun _ _ _ _ _ => by kernel_rfl
  have p1 : ∀ (o : Bool) (x y v : Int) (w : World), (part 3 #[.bool o, .int .i64 x, .int .i64 y, .int .i64 v] 1).run Tryd.prog w = .ok (.int .i64 x) w := fun _ _ _ _ _ => by kernel_rfl
  have p2 : ∀ (o : Bool) (x y v : Int) (w : World), (part 3 #[.bool o, .int .i64 x, .int .i64 y, .int .i64 v] 2).run Tryd.prog w = .ok (.int .i64 y) w := fun _ _ _ _ _ => by kernel_rfl
  have p3 : ∀ (o : Bool) (x y v : Int) (w : World), (part 3 #[.bool o, .int .i64 x, .int .i64 y, .int .i64 v] 3).run Tryd.prog w = .ok (.int .i64 v) w := fun _ _ _ _ _ => by kernel_rfl
  have q0 : ∀ (x y : Bool) (w : World), (Op.equalIn (9998 + 1) 4 (.bool x) (.bool y)).run Tryd.prog w = .ok (x == y) w := fun x y w => run_equalIn_bool w 9998 4 x y Tryd.underlying4
  have q : ∀ (x y : Int) (w : World), (Op.equalIn (9998 + 1) 3 (.int .i64 x) (.int .i64 y)).run Tryd.prog w = .ok (x == y) w := fun x y w => run_equalIn_int w 9998 3 .i64 .i64 x y Tryd.underlying3
  simp only [Op.eqFields, Sem.run_bind, Sem.run_ite, p0, p1, p2, p3, q0, q, Result.andThen_ok, Sem.run_pure]
  by_cases h1 : o = o' <;> by_cases h2 : f = f' <;> by_cases h3 : r = r' <;> by_cases h4 : t = t' <;> simp [h1, h2, h3, h4]
theorem eqlP (o : Bool) (f r t : Int) (w : World) : (binOp .eql 23 (.agg #[.bool o, .int .i64 f, .int .i64 r, .int .i64 t]) (.agg #[.bool o, .int .i64 f, .int .i64 r, .int .i64 t])).run Tryd.prog w = .ok (.bool true) w := by
  rw [run_eql_struct, eqP]
  simp
theorem neqP (o : Bool) (f r t : Int) (w : World) : (binOp .neq 23 (.agg #[.bool o, .int .i64 f, .int .i64 r, .int .i64 t]) (.agg #[.bool o, .int .i64 f, .int .i64 r, .int .i64 t])).run Tryd.prog w = .ok (.bool false) w := by
  rw [run_neq_struct, eqP]
  simp
end Go.Proofs.YthmbipcfmciolaaDoor.Ppte
