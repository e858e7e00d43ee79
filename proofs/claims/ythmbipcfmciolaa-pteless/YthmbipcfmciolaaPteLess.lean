/- For every mapping and every four numbers: what Less leaves has the same frame, is right, and allows nothing that the mapping does not; what is Quiet for the earlier of two floors is for the later one; what is Quiet allows nothing. No condition. -/
import Derived.Test.YthmbipcfmciolaaRows
import Derived.Test.YthmbipcfmciolaaPteI
import Derived.Deep.CutBlock
import Derived.WalkKit
import Derived.ProofKit
import Derived.OpenShut
import Derived.ShutString
import Derived.ChangeOld
import Derived.Below
namespace Go.Proofs.Ythmbipcfmciolaa.pteLess
open Go.ChangeShapes Go.WideShapes Go.ChangeAt Go.RowKit Go.Proofs.Ythmbipcfmciolaa.Pbase Go.Proofs.Ythmbipcfmciolaa.Ppte
set_option linter.unusedVariables false

theorem own : ownKnob Try.prog.godebug = none := by kernel_rfl
theorem laidOut : laidOutB Try.prog = true := by kernel_rfl

/-- The mapping in a block of the call's own. -/
structure Al (w0 w : World) (o : Bool) (f r t : Int) : Prop where
  below : Below w0.heap.size w0 w
  box : BoxP w w0.heap.size o f r t
theorem Al.on {w0 w w' : World} {o : Bool} {f r t : Int} (h : Al w0 w o f r t) (hB : Below w.heap.size w w') : Al w0 w' o f r t := ⟨h.below.trans (hB.mono h.below.size), h.box.on hB⟩
theorem al_new (w : World) (o : Bool) (f r t : Int) (ty : TypeId) : Al w (w.alloc (.cells #[.bool o, .int .i64 f, .int .i64 r, .int .i64 t] ty)) o f r t := ⟨bal (Below.refl _ _) _, boxP_new w o f r t ty⟩
/-- It, and what Less answered, in another. -/
structure Ax (w0 w : World) (o : Bool) (f r t : Int) (D : Nat) (xo : Bool) (xf xr : Int) : Prop where
  below : Below w0.heap.size w0 w
  box : BoxP w w0.heap.size o f r t
  got : BoxP w D xo xf xr 0
theorem Ax.on {w0 w w' : World} {o xo : Bool} {f r t xf xr : Int} {D : Nat} (h : Ax w0 w o f r t D xo xf xr) (hB : Below w.heap.size w w') : Ax w0 w' o f r t D xo xf xr := ⟨h.below.trans (hB.mono h.below.size), h.box.on hB, h.got.on hB⟩
theorem Al.two {w0 w : World} {o : Bool} {f r t : Int} (h : Al w0 w o f r t) (xo : Bool) (xf xr : Int) (ty : TypeId) : Ax w0 (w.alloc (.cells #[.bool xo, .int .i64 xf, .int .i64 xr, .int .i64 0] ty)) o f r t w.heap.size xo xf xr := ⟨(h.on (bal (Below.refl _ _) _)).below, (h.on (bal (Below.refl _ _) _)).box, boxP_new w xo xf xr 0 ty⟩
theorem hidden {p : Prop} (h : p) : Hid p := h
abbrev pv (o : Bool) (f r t : Int) : Value := .agg #[.bool o, .int .i64 f, .int .i64 r, .int .i64 t]
/-- Of one that is On: what Less answers, and what it allows; it is never quiet. -/
theorem on_parts (f r t q k : Int) (hk : -9223372036854775808 ≤ k ∧ k ≤ 9223372036854775807) : ∃ (xo : Bool) (xf xr xe : Int) (b1 b2 : Bool), ((xe = 0 ∧ xf = f ∧ (∀ w, Calls Try.prog 6 #[.agg #[.bool xo, .int .i64 xf, .int .i64 xr, .int .i64 0]] w fun e w' => e = .returned (.int .i64 0) ∧ Below w.heap.size w w') ∧ (b1 = false ∨ b1 = true ∧ b2 = true)) ∨ xe = 1) ∧
    (∀ w, Calls Try.prog 4 #[.agg #[.bool true, .int .i64 f, .int .i64 r, .int .i64 t], .int .i64 q] w fun e w' => e = .returned (.tuple #[.agg #[.bool xo, .int .i64 xf, .int .i64 xr, .int .i64 0], .int .i64 xe]) ∧ Below w.heap.size w w') ∧
    (∀ w, Calls Try.prog 5 #[.agg #[.bool xo, .int .i64 xf, .int .i64 xr, .int .i64 0], .int .i64 k] w fun e w' => e = .returned (.bool b1) ∧ Below w.heap.size w w') ∧
    (∀ w, Calls Try.prog 5 #[.agg #[.bool true, .int .i64 f, .int .i64 r, .int .i64 t], .int .i64 k] w fun e w' => e = .returned (.bool b2) ∧ Below w.heap.size w w') ∧
    (∀ c w, Calls Try.prog 7 #[.agg #[.bool true, .int .i64 f, .int .i64 r, .int .i64 t], .int .i64 c] w fun e w' => e = .returned (.bool false) ∧ Below w.heap.size w w') := by
  refine ⟨leO true f r t q, leF true f r t q, leR true f r t q, leE true f r t q, alB (leO true f r t q) (leF true f r t q) (leR true f r t q) 0 k, alB true f r t k, ?_, fun w => less_any true f r t q w, fun w => allows_any _ _ _ _ k w hk, fun w => allows_any _ _ _ _ k w hk, fun c w => ?_⟩
  · by_cases he : leE true f r t q = 0
    · obtain ⟨h1, h2, h3, h4, h5⟩ := less_all (k := k) he
      rw [h1, h2, h3]
      refine .inl ⟨he, rfl, fun w => ?_, ?_⟩
      · have := check_any true f (anR r q) 0 w
        rwa [h5] at this
      · by_cases hb : alB true f (anR r q) 0 k = true
        · exact .inr ⟨hb, h4 hb⟩
        · exact .inl (by simpa using hb)
    · refine .inr ?_
      unfold leE at he ⊢
      split at he
      · exact absurd rfl he
      · rw [if_neg (by assumption)]
  · have := quiet_any true f r t c w
    rwa [show quB true f r t c = false by simp [quB]] at this
/-- Of one that is not On: Less refuses it, nothing is allowed; what is quiet for a floor is for a later one. -/
theorem off_parts (f r t q a b : Int) : ∃ qa qb : Bool, ((a ≤ b → qa = true → qb = true) ∧ (b ≤ a → qb = true → qa = true)) ∧
    (∀ w, Calls Try.prog 4 #[.agg #[.bool false, .int .i64 f, .int .i64 r, .int .i64 t], .int .i64 q] w fun e w' => e = .returned (.tuple #[.agg #[.bool false, .int .i64 0, .int .i64 0, .int .i64 0], .int .i64 1]) ∧ Below w.heap.size w w') ∧
    (∀ w, Calls Try.prog 5 #[.agg #[.bool false, .int .i64 f, .int .i64 r, .int .i64 t], .int .i64 0] w fun e w' => e = .returned (.bool false) ∧ Below w.heap.size w w') ∧
    (∀ w, Calls Try.prog 7 #[.agg #[.bool false, .int .i64 f, .int .i64 r, .int .i64 t], .int .i64 a] w fun e w' => e = .returned (.bool qa) ∧ Below w.heap.size w w') ∧
    (∀ w, Calls Try.prog 7 #[.agg #[.bool false, .int .i64 f, .int .i64 r, .int .i64 t], .int .i64 b] w fun e w' => e = .returned (.bool qb) ∧ Below w.heap.size w w') := by
  refine ⟨quB false f r t a, quB false f r t b, ⟨fun h => quiet_more h, fun h => quiet_more h⟩, fun w => ?_, fun w => ?_, fun w => quiet_any false f r t a w, fun w => quiet_any false f r t b w⟩
  · have := less_any false f r t q w
    rwa [show leO false f r t q = false by simp [leO, leB], show leF false f r t q = 0 by simp [leF, leB], show leR false f r t q = 0 by simp [leR, leB], show leE false f r t q = 1 by simp [leE, leB]] at this
  · have := allows_any false f r t 0 w (by omega)
    rwa [show alB false f r t 0 = false by simp [alB]] at this
set_option maxRecDepth 100000 in
set_option maxHeartbeats 4000000 in
theorem walk_on (f r t a1 a2 a3 a4 : Int) (w : World) (hk : -9223372036854775808 ≤ a2 ∧ a2 ≤ 9223372036854775807) :
    Calls Try.prog 3 #[.agg #[.bool true, .int .i64 f, .int .i64 r, .int .i64 t], .int .i64 a1, .int .i64 a2, .int .i64 a3, .int .i64 a4] w fun e w' => e = .returned (.bool true) ∧ Below w.heap.size w w' := by
  have HA : Hid (∀ ty, Al w (w.alloc (.cells #[.bool true, .int .i64 f, .int .i64 r, .int .i64 t] ty)) true f r t) := fun ty => al_new w true f r t ty
  obtain ⟨xo, xf, xr, xe, b1, b2, F1, k1, k2, k3, k4⟩ := on_parts f r t a1 a2 hk
  have K1 := hidden k1
  have K2 := hidden k2
  have K3 := hidden k3
  have K4 := hidden k4
  clear k1 k2 k3 k4 hk
  rcases F1 with ⟨rfl, rfl, k5, rfl | ⟨rfl, rfl⟩⟩ | rfl
  case' inl.inl => have K5 := hidden k5
  case' inl.inr => have K5 := hidden k5
  case' inr => have K5 := hidden trivial; have k5 := trivial
  all_goals
    clear k5
    go_enter Try.func3, Try.ntmps3
    go_upto_region 2 with (first
      | (go_at_call 4; refine (K1.out _).mono ?_; rintro e9 v9 ⟨rfl, hb⟩; have HX := ((HA.out _).on hb).two xo xf xr 23; clear hb HA)
      | fail)
    generalize v9.alloc _ = v1 at HX ⊢
    generalize v9.heap.size = D at HX ⊢
    have HA := hidden HX
    clear HX
    have x0 := HA.out.box.c0
    have x1 := HA.out.box.c1
    have x2 := HA.out.box.c2
    have x3 := HA.out.box.c3
    have xl := HA.out.box.lt
    have y0 := HA.out.got.c0
    have y1 := HA.out.got.c1
    have y2 := HA.out.got.c2
    have y3 := HA.out.got.c3
    have yl := HA.out.got.lt
    go_wp2_with (first
      | (go_at_call 7; with_reducible refine (K4.out _ _).mono ?_; rintro e9 v9 ⟨rfl, hb⟩; have HN := HA.out.on hb; clear hb HA x0 x1 x2 x3 xl y0 y1 y2 y3 yl; have HA := hidden HN; clear HN; have x0 := HA.out.box.c0; have x1 := HA.out.box.c1; have x2 := HA.out.box.c2; have x3 := HA.out.box.c3; have xl := HA.out.box.lt; have y0 := HA.out.got.c0; have y1 := HA.out.got.c1; have y2 := HA.out.got.c2; have y3 := HA.out.got.c3; have yl := HA.out.got.lt)
      | (go_at_call 5; with_reducible refine (K2.out _).mono ?_; clear K2; rintro e9 v9 ⟨rfl, hb⟩; have HN := HA.out.on hb; clear hb HA x0 x1 x2 x3 xl y0 y1 y2 y3 yl; have HA := hidden HN; clear HN; have x0 := HA.out.box.c0; have x1 := HA.out.box.c1; have x2 := HA.out.box.c2; have x3 := HA.out.box.c3; have xl := HA.out.box.lt; have y0 := HA.out.got.c0; have y1 := HA.out.got.c1; have y2 := HA.out.got.c2; have y3 := HA.out.got.c3; have yl := HA.out.got.lt)
      | (go_at_call 5; with_reducible refine (K3.out _).mono ?_; clear K3; rintro e9 v9 ⟨rfl, hb⟩; have HN := HA.out.on hb; clear hb HA x0 x1 x2 x3 xl y0 y1 y2 y3 yl; have HA := hidden HN; clear HN; have x0 := HA.out.box.c0; have x1 := HA.out.box.c1; have x2 := HA.out.box.c2; have x3 := HA.out.box.c3; have xl := HA.out.box.lt; have y0 := HA.out.got.c0; have y1 := HA.out.got.c1; have y2 := HA.out.got.c2; have y3 := HA.out.got.c3; have yl := HA.out.got.lt)
      | (go_at_call 6; refine (K5.out _).mono ?_; clear K5; rintro e9 v9 ⟨rfl, hb⟩; have HN := HA.out.on hb; clear hb HA x0 x1 x2 x3 xl y0 y1 y2 y3 yl; have HA := hidden HN; clear HN; have x0 := HA.out.box.c0; have x1 := HA.out.box.c1; have x2 := HA.out.box.c2; have x3 := HA.out.box.c3; have xl := HA.out.box.lt; have y0 := HA.out.got.c0; have y1 := HA.out.got.c1; have y2 := HA.out.got.c2; have y3 := HA.out.got.c3; have yl := HA.out.got.lt)
      | (go_at_call 8; refine (awake_any _).mono ?_; rintro e9 v9 ⟨rfl, hb⟩; have HN := HA.out.on hb; clear hb HA x0 x1 x2 x3 xl y0 y1 y2 y3 yl; have HA := hidden HN; clear HN; have x0 := HA.out.box.c0; have x1 := HA.out.box.c1; have x2 := HA.out.box.c2; have x3 := HA.out.box.c3; have xl := HA.out.box.lt; have y0 := HA.out.got.c0; have y1 := HA.out.got.c1; have y2 := HA.out.got.c2; have y3 := HA.out.got.c3; have yl := HA.out.got.lt)
      | fail)
    all_goals
      go_ret
      exact ⟨rfl, HA.out.below⟩
set_option maxRecDepth 100000 in
set_option maxHeartbeats 4000000 in
theorem walk_off (f r t a1 a2 a3 a4 : Int) (w : World) :
    Calls Try.prog 3 #[.agg #[.bool false, .int .i64 f, .int .i64 r, .int .i64 t], .int .i64 a1, .int .i64 a2, .int .i64 a3, .int .i64 a4] w fun e w' => e = .returned (.bool true) ∧ Below w.heap.size w w' := by
  have HA : Hid (∀ ty, Al w (w.alloc (.cells #[.bool false, .int .i64 f, .int .i64 r, .int .i64 t] ty)) false f r t) := fun ty => al_new w false f r t ty
  obtain ⟨qa, qb, ⟨F1, F2⟩, k1, k2, k3, k4⟩ := off_parts f r t a1 a3 a4
  have K1 := hidden k1
  have K2 := hidden k2
  have K3 := hidden k3
  have K4 := hidden k4
  clear k1 k2 k3 k4
  have hc : (a3 ≤ a4 ∧ ((qa = false) ∨ (qa = true ∧ qb = true))) ∨ (¬ a3 ≤ a4 ∧ ((qb = false ∧ qa = false) ∨ (qb = false ∧ qa = true) ∨ (qb = true ∧ qa = true))) := by
    by_cases hle : a3 ≤ a4
    · refine .inl ⟨hle, ?_⟩
      cases qa
      · exact .inl rfl
      · exact .inr ⟨rfl, F1 hle rfl⟩
    · refine .inr ⟨hle, ?_⟩
      cases qb
      · cases qa
        · exact .inl ⟨rfl, rfl⟩
        · exact .inr (.inl ⟨rfl, rfl⟩)
      · exact .inr (.inr ⟨rfl, F2 (by omega) rfl⟩)
  clear F1 F2
  rcases hc with ⟨hle, rfl | ⟨rfl, rfl⟩⟩ | ⟨hle, ⟨rfl, rfl⟩ | ⟨rfl, rfl⟩ | ⟨rfl, rfl⟩⟩
  all_goals
    go_enter Try.func3, Try.ntmps3
    go_upto_region 2 with (first
      | (go_at_call 4; refine (K1.out _).mono ?_; rintro e9 v9 ⟨rfl, hb⟩; have HX := ((HA.out _).on hb).two false 0 0 23; clear hb HA)
      | fail)
    generalize v9.alloc _ = v1 at HX ⊢
    generalize v9.heap.size = D at HX ⊢
    have HA := hidden HX
    clear HX
    have x0 := HA.out.box.c0
    have x1 := HA.out.box.c1
    have x2 := HA.out.box.c2
    have x3 := HA.out.box.c3
    have xl := HA.out.box.lt
    have y0 := HA.out.got.c0
    have y1 := HA.out.got.c1
    have y2 := HA.out.got.c2
    have y3 := HA.out.got.c3
    have yl := HA.out.got.lt
    go_wp2_with (first
      | (go_at_call 7; with_reducible refine (K3.out _).mono ?_; rintro e9 v9 ⟨rfl, hb⟩; have HN := HA.out.on hb; clear hb HA x0 x1 x2 x3 xl y0 y1 y2 y3 yl; have HA := hidden HN; clear HN; have x0 := HA.out.box.c0; have x1 := HA.out.box.c1; have x2 := HA.out.box.c2; have x3 := HA.out.box.c3; have xl := HA.out.box.lt; have y0 := HA.out.got.c0; have y1 := HA.out.got.c1; have y2 := HA.out.got.c2; have y3 := HA.out.got.c3; have yl := HA.out.got.lt)
      | (go_at_call 7; with_reducible refine (K4.out _).mono ?_; rintro e9 v9 ⟨rfl, hb⟩; have HN := HA.out.on hb; clear hb HA x0 x1 x2 x3 xl y0 y1 y2 y3 yl; have HA := hidden HN; clear HN; have x0 := HA.out.box.c0; have x1 := HA.out.box.c1; have x2 := HA.out.box.c2; have x3 := HA.out.box.c3; have xl := HA.out.box.lt; have y0 := HA.out.got.c0; have y1 := HA.out.got.c1; have y2 := HA.out.got.c2; have y3 := HA.out.got.c3; have yl := HA.out.got.lt)
      | (go_at_call 5; with_reducible refine (K2.out _).mono ?_; rintro e9 v9 ⟨rfl, hb⟩; have HN := HA.out.on hb; clear hb HA x0 x1 x2 x3 xl y0 y1 y2 y3 yl; have HA := hidden HN; clear HN; have x0 := HA.out.box.c0; have x1 := HA.out.box.c1; have x2 := HA.out.box.c2; have x3 := HA.out.box.c3; have xl := HA.out.box.lt; have y0 := HA.out.got.c0; have y1 := HA.out.got.c1; have y2 := HA.out.got.c2; have y3 := HA.out.got.c3; have yl := HA.out.got.lt)
      | (go_at_call 8; refine (awake_any _).mono ?_; rintro e9 v9 ⟨rfl, hb⟩; have HN := HA.out.on hb; clear hb HA x0 x1 x2 x3 xl y0 y1 y2 y3 yl; have HA := hidden HN; clear HN; have x0 := HA.out.box.c0; have x1 := HA.out.box.c1; have x2 := HA.out.box.c2; have x3 := HA.out.box.c3; have xl := HA.out.box.lt; have y0 := HA.out.got.c0; have y1 := HA.out.got.c1; have y2 := HA.out.got.c2; have y3 := HA.out.got.c3; have yl := HA.out.got.lt)
      | fail)
    all_goals
      go_ret
      exact ⟨rfl, HA.out.below⟩

theorem walk (a0 : Pt) (a1 : Int) (a2 : Int) (a3 : Int) (a4 : Int) (w : World) (w1 : (Lit.int .i64 a1).wf = true) (w2 : (Lit.int .i64 a2).wf = true) (w3 : (Lit.int .i64 a3).wf = true) (w4 : (Lit.int .i64 a4).wf = true) :
    Calls Try.prog 3 #[.agg #[.bool a0.1, .int .i64 a0.2.1, .int .i64 a0.2.2.1, .int .i64 a0.2.2.2], .int .i64 a1, .int .i64 a2, .int .i64 a3, .int .i64 a4] w fun e w' => e = .returned (.bool true) ∧ Below w.heap.size w w' := by
  obtain ⟨o, f, r, t⟩ := a0
  cases o
  · exact walk_off f r t a1 a2 a3 a4 w
  · exact walk_on f r t a1 a2 a3 a4 w (bounds_i64 w2)

/-! ### The statement's frame -/
set_option maxRecDepth 100000 in
theorem lifted (os : Os) (started : os.Started) (H : Type) (enc : TypeId × Value → H) :
    ReturnsInHanded {} Try.checked os 3 .any (Rows.pteLessSpec.pre6 enc Try.prog Try.f3 Rows.pteLessRow.domain false) (Rows.pteLessSpec.post enc Try.prog Try.f3 false true false false) := by
  refine returnsInHanded_of_change (C := Try.checked) own started (by kernel_rfl) Try.func3
    (ChangeSpec.witness6 (enc := enc) (C := Try.checked) false ⟨#[], #[.agg #[.bool false, .int .i64 0, .int .i64 0, .int .i64 0], .int .i64 0, .int .i64 0, .int .i64 0, .int .i64 0], []⟩ 8 (by kernel_rfl) (by kernel_rfl) (by kernel_rfl) (by kernel_rfl)) ?_
  intro W base args ds gs before hval0 hW hcnd _
  have hval : ∀ (j : Nat) t v, Try.f3.params[j]? = some t → args[j]? = some v → Value.okWide Try.prog W .any base t v := hval0
  have hW' := hW
  obtain ⟨p, q, hA0, hV, rfl, hfz, hnd⟩ := hW
  have hA : DataW.TrodAll enc Try.prog W 0 (fun _ => true) true Try.f3.params.toList args.toList ds p := hA0
  rw [Try.params3] at hA hval
  obtain ⟨v0, vs0, d0, ds0, p0, q0, hargs, rfl, rfl, h0, r0⟩ := trodAll_cons hA
  obtain ⟨v1, vs1, d1, ds1, p1, q1, rfl, rfl, rfl, h1, r1⟩ := trodAll_cons r0
  obtain ⟨v2, vs2, d2, ds2, p2, q2, rfl, rfl, rfl, h2, r2⟩ := trodAll_cons r1
  obtain ⟨v3, vs3, d3, ds3, p3, q3, rfl, rfl, rfl, h3, r3⟩ := trodAll_cons r2
  obtain ⟨v4, vs4, d4, ds4, p4, q4, rfl, rfl, rfl, h4, r4⟩ := trodAll_cons r3
  obtain ⟨rfl, rfl, rfl⟩ := trodAll_nil r4
  obtain rfl : args = #[v0, v1, v2, v3, v4] := by cases args; simp_all
  obtain ⟨rfl, rfl⟩ := trodVars_none hV
  have k0 := h0
  have lt0 : ∀ x ∈ p0, x.block < W.heap.size := by obtain ⟨m, hm⟩ := k0; exact DataW.trod_lt m _ _ _ hm
  obtain ⟨a0, rfl⟩ := pte_val (hval 0 23 v0 rfl rfl) h0
  obtain ⟨a1, rfl, rfl, rfl, w1⟩ := open_int Try.underlying3 (hval 1 3 v1 rfl rfl) h1
  obtain ⟨a2, rfl, rfl, rfl, w2⟩ := open_int Try.underlying3 (hval 2 3 v2 rfl rfl) h2
  obtain ⟨a3, rfl, rfl, rfl, w3⟩ := open_int Try.underlying3 (hval 3 3 v3 rfl rfl) h3
  obtain ⟨a4, rfl, rfl, rfl, w4⟩ := open_int Try.underlying3 (hval 4 3 v4 rfl rfl) h4
  clear hA0 hval0
  refine (walk a0 a1 a2 a3 a4 W w1 w2 w3 w4).mono fun e W' ⟨he, bel⟩ => ?_
  subst he
  exact ⟨_, rfl, _, _, _, [], _, [], hW', trodAll_mk1 (shut_bool Try.underlying4 _), (trodAll_cons_mk (Below.trod laidOut (by kernel_rfl) (of_decide_eq_true (by kernel_rfl)) k0 bel lt0) (trodAll_cons_mk (shut_int Try.underlying3 w1) (trodAll_cons_mk (shut_int Try.underlying3 w2) (trodAll_cons_mk (shut_int Try.underlying3 w3) (trodAll_cons_mk (shut_int Try.underlying3 w4) trodAll_mk0))))), rfl, bel.frame _, fun h => by cases h⟩

theorem over : Rows.pteLessRow.holds Try.pinned (OpenSpec.ofChange Rows.pteLessSpec) :=
  OpenClaim.holds_of_wide 3 Try.f3 rfl rfl rfl rfl rfl rfl rfl ⟨rfl, rfl, rfl, rfl, rfl⟩ rfl rfl rfl rfl rfl (by kernel_rfl) Try.func3 (by kernel_rfl)
    (of_decide_eq_true (by kernel_rfl)) (by unfold Func.isWrapper; first | (rw [if_pos (by decide +kernel)]; kernel_rfl) | (rw [if_neg (by decide +kernel)]; exact ⟨rfl, rfl⟩))
    (fun os started H enc _ => lifted os started H enc)

theorem proved : Rows.PteLessSaid := over
end Go.Proofs.Ythmbipcfmciolaa.pteLess
namespace Go.Proofs.Ythmbipcfmciolaa
theorem pteLess_holds : Rows.PteLessSaid := pteLess.proved
#print axioms pteLess_holds
end Go.Proofs.Ythmbipcfmciolaa
