/- The walk of RingWords (written by mk_words.py). -/
import Derived.Test.YtdplailaolfpkaaDoorRngA
import Derived.Test.YtdplailaolfpkaaDoorRngI
import Derived.BigRegion
namespace Go.Proofs.YtdplailaolfpkaaDoor.Pring
open Go.Proofs.YtdplailaolfpkaaDoor.Pbase Go.Proofs.YtdplailaolfpkaaDoor.Pfield Go.Proofs.YtdplailaolfpkaaDoor.Play Go.Proofs.YtdplailaolfpkaaDoor.Pmem
open Go.RowKit M Go.Deep
set_option linter.unusedVariables false

theorem w64_wf {a : Int} (h : (Lit.int .u64 a).wf = true) : 0 ≤ a ∧ a ≤ 18446744073709551615 := by
  have h' : (decide (IntKind.u64.min ≤ a) && decide (a ≤ IntKind.u64.max)) = true := h
  have e1 : IntKind.u64.min = 0 := by decide
  have e2 : IntKind.u64.max = 18446744073709551615 := by decide
  rw [e1, e2] at h'
  simpa using h'
/-- Two events held against each other. -/
theorem eqE2 (x y : Ev) (w : World) : (Op.equalIn 10000 32 (.agg #[.int .i64 x.k, .int .i64 x.t]) (.agg #[.int .i64 y.k, .int .i64 y.t])).run Tryd.prog w = .ok ((x.k == y.k) && (x.t == y.t)) w := by
  show (Op.equalIn (9998 + 1 + 1) 32 (.agg #[.int .i64 x.k, .int .i64 x.t]) (.agg #[.int .i64 y.k, .int .i64 y.t])).run _ _ = _
  rw [run_equalIn_agg (P := Tryd.prog) w _ _ _ _ (by kernel_rfl) (by kernel_rfl)]
  have hf : (Tryd.prog.fieldsOf 32).toList = [⟨ "K", 3, 0, false, "", "", 0⟩, ⟨ "T", 3, 1, false, "", "", 8⟩] := by kernel_rfl
  rw [hf]
  have p0 : ∀ (a b : Int) (w : World), (part 3 #[.int .i64 a, .int .i64 b] 0).run Tryd.prog w = .ok (.int .i64 a) w := fun _ _ _ => by kernel_rfl
  have p1 : ∀ (a b : Int) (w : World), (part 3 #[.int .i64 a, .int .i64 b] 1).run Tryd.prog w = .ok (.int .i64 b) w := fun _ _ _ => by kernel_rfl
  have q : ∀ (a b : Int) (w : World), (Op.equalIn (9998 + 1) 3 (.int .i64 a) (.int .i64 b)).run Tryd.prog w = .ok (a == b) w := fun a b w => run_equalIn_int w 9998 3 .i64 .i64 a b Tryd.underlying3
  simp only [Op.eqFields, Sem.run_bind, Sem.run_ite, p0, p1, q, Result.andThen_ok, Sem.run_pure]
  cases x.k == y.k <;> cases x.t == y.t <;> simp
theorem eqlE2 {x y : Ev} (h : x ≠ y) (w : World) : (binOp .eql 32 (.agg #[.int .i64 x.k, .int .i64 x.t]) (.agg #[.int .i64 y.k, .int .i64 y.t])).run Tryd.prog w = .ok (.bool false) w := by
  have e : ((x.k == y.k) && (x.t == y.t)) = false := by
    obtain ⟨a, b⟩ := x
    obtain ⟨c, d⟩ := y
    simp only [Bool.and_eq_false_iff, beq_eq_false_iff_ne]
    by_cases h1 : a = c
    · subst h1
      exact .inr fun h2 => h (by subst h2; rfl)
    · exact .inl h1
  rw [run_eql_struct, eqE2, e]
  simp
/-- Two events that were handed in. -/
structure Bx (w W : World) (B : Nat) (x y : Ev) : Prop where
  ra : RowE W w.heap.size x
  rb : RowE W B y
  below : Below w.heap.size w W
theorem bx_new (w : World) (x y : Ev) : Bx w ((w.alloc (.cells #[.int .i64 x.k, .int .i64 x.t] 32)).alloc (.cells #[.int .i64 y.k, .int .i64 y.t] 32)) (w.heap.size + 1) x y := by
  have r := rowE_new (w.alloc (.cells #[.int .i64 x.k, .int .i64 x.t] 32)) y
  rw [World.size_alloc] at r
  exact ⟨(rowE_new w x).on (bal (Below.refl _ _) _), r, bal (bal (Below.refl _ _) _) _⟩
theorem Bx.on {w W W' : World} {B : Nat} {x y : Ev} (h : Bx w W B x y) (hB : Below W.heap.size W W') : Bx w W' B x y := ⟨h.ra.on hB, h.rb.on hB, h.below.trans (hB.mono h.below.size)⟩
set_option maxRecDepth 100000 in
set_option maxHeartbeats 1000000 in
theorem words_no_no (a b : Ev) (u J I : Int) (w : World)
    (HA : Hid (∀ wx, Below w.heap.size w wx → Calls Tryd.prog 19 #[.agg #[.int .i64 a.k, .int .i64 a.t]] wx fun e w' => e = .returned (.tuple #[.int .u64 0, .int .i64 1]) ∧ Below wx.heap.size wx w'))
    (HB : Hid (∀ wx, Below w.heap.size w wx → Calls Tryd.prog 19 #[.agg #[.int .i64 b.k, .int .i64 b.t]] wx fun e w' => e = .returned (.tuple #[.int .u64 J, .int .i64 I]) ∧ Below wx.heap.size wx w'))
    (HD : Hid (∀ wx, Below w.heap.size w wx → Calls Tryd.prog 7 #[.int .u64 u] wx fun e w' => e = .returned (.tuple #[.agg #[.int .i64 0, .int .i64 0], .int .i64 12]) ∧ Below wx.heap.size wx w'))
    : Calls Tryd.prog 5 #[.agg #[.int .i64 a.k, .int .i64 a.t], .agg #[.int .i64 b.k, .int .i64 b.t], .int .u64 u] w fun e w' => e = .returned (.bool true) ∧ Below w.heap.size w w' := by
  have H0 := rhide (bx_new w a b)
  have he0 : ∀ w : World, (binOp .eql 32 (.agg #[.int .i64 0, .int .i64 0]) (.agg #[.int .i64 0, .int .i64 0])).run Tryd.prog w = .ok (.bool true) w := eqlE ev0
  go_enter Tryd.func5, Tryd.ntmps5
  go_upto_region 1 with fail
  generalize (w.alloc _).alloc _ = v0 at H0 ⊢
  generalize w.heap.size + 1 = B at H0 ⊢
  have x0 := H0.out.ra.c0
  have x1 := H0.out.ra.c1
  have y0 := H0.out.rb.c0
  have y1 := H0.out.rb.c1
  go_upto_region 7 with (first
    | (go_at_call 19; refine (HA.out _ H0.out.below).mono ?_; rintro e1 w1 ⟨rfl, hb⟩; have H1 := rhide (H0.out.on hb); clear hb HA H0 x0 x1 y0 y1; have x0 := H1.out.ra.c0; have x1 := H1.out.ra.c1; have y0 := H1.out.rb.c0; have y1 := H1.out.rb.c1)
    | (go_at_call 19; refine (HB.out _ H1.out.below).mono ?_; rintro e2 w2 ⟨rfl, hb⟩; have H2 := rhide (H1.out.on hb); clear hb HB H1 x0 x1 y0 y1; have x0 := H2.out.ra.c0; have x1 := H2.out.ra.c1; have y0 := H2.out.rb.c0; have y1 := H2.out.rb.c1)
    | fail)
  have H4 := rhide H2.out
  clear H2 x0 x1 y0 y1
  go_upto_region 8 with (first
    | (go_at_call 7; refine (HD.out _ H4.out.below).mono ?_; rintro e5 w5 ⟨rfl, hb⟩; have H5 := rhide (H4.out.on hb); clear hb HD H4)
    | fail)
  have K5 : Below w.heap.size w (w5.alloc (.cells #[.int .i64 0, .int .i64 0] 32)) ∧ RowE (w5.alloc (.cells #[.int .i64 0, .int .i64 0] 32)) w5.heap.size ev0 := ⟨(H5.out.on (bal (Below.refl _ _) _)).below, rowE_new w5 ev0⟩
  generalize w5.alloc _ = v5 at K5 ⊢
  generalize w5.heap.size = F at K5 ⊢
  have H6 := rhide K5.1
  have f0 := K5.2.c0
  have f1 := K5.2.c1
  clear K5 H5
  go_wp2_with (first
    | (go_at_call 24; refine (awake_any _).mono ?_; rintro e6 w6 ⟨rfl, hb⟩; have H7 : Hid (Below w.heap.size w w6) := H6.out.trans (hb.mono H6.out.size); clear hb H6)
    | fail)
  go_ret
  exact ⟨rfl, H7.out⟩
set_option maxRecDepth 100000 in
set_option maxHeartbeats 1000000 in
theorem words_no_yes (a b : Ev) (u J I : Int) (X : Ev) (w : World)
    (HA : Hid (∀ wx, Below w.heap.size w wx → Calls Tryd.prog 19 #[.agg #[.int .i64 a.k, .int .i64 a.t]] wx fun e w' => e = .returned (.tuple #[.int .u64 0, .int .i64 1]) ∧ Below wx.heap.size wx w'))
    (HB : Hid (∀ wx, Below w.heap.size w wx → Calls Tryd.prog 19 #[.agg #[.int .i64 b.k, .int .i64 b.t]] wx fun e w' => e = .returned (.tuple #[.int .u64 J, .int .i64 I]) ∧ Below wx.heap.size wx w'))
    (HD : Hid (∀ wx, Below w.heap.size w wx → Calls Tryd.prog 7 #[.int .u64 u] wx fun e w' => e = .returned (.tuple #[.agg #[.int .i64 X.k, .int .i64 X.t], .int .i64 0]) ∧ Below wx.heap.size wx w'))
    (HE : Hid (∀ wx, Below w.heap.size w wx → Calls Tryd.prog 19 #[.agg #[.int .i64 X.k, .int .i64 X.t]] wx fun e w' => e = .returned (.tuple #[.int .u64 u, .int .i64 0]) ∧ Below wx.heap.size wx w'))
    : Calls Tryd.prog 5 #[.agg #[.int .i64 a.k, .int .i64 a.t], .agg #[.int .i64 b.k, .int .i64 b.t], .int .u64 u] w fun e w' => e = .returned (.bool true) ∧ Below w.heap.size w w' := by
  have H0 := rhide (bx_new w a b)
  have hu : (u == u) = true := by simp
  go_enter Tryd.func5, Tryd.ntmps5
  go_upto_region 1 with fail
  generalize (w.alloc _).alloc _ = v0 at H0 ⊢
  generalize w.heap.size + 1 = B at H0 ⊢
  have x0 := H0.out.ra.c0
  have x1 := H0.out.ra.c1
  have y0 := H0.out.rb.c0
  have y1 := H0.out.rb.c1
  go_upto_region 7 with (first
    | (go_at_call 19; refine (HA.out _ H0.out.below).mono ?_; rintro e1 w1 ⟨rfl, hb⟩; have H1 := rhide (H0.out.on hb); clear hb HA H0 x0 x1 y0 y1; have x0 := H1.out.ra.c0; have x1 := H1.out.ra.c1; have y0 := H1.out.rb.c0; have y1 := H1.out.rb.c1)
    | (go_at_call 19; refine (HB.out _ H1.out.below).mono ?_; rintro e2 w2 ⟨rfl, hb⟩; have H2 := rhide (H1.out.on hb); clear hb HB H1 x0 x1 y0 y1; have x0 := H2.out.ra.c0; have x1 := H2.out.ra.c1; have y0 := H2.out.rb.c0; have y1 := H2.out.rb.c1)
    | fail)
  have H4 := rhide H2.out
  clear H2 x0 x1 y0 y1
  go_upto_region 8 with (first
    | (go_at_call 7; refine (HD.out _ H4.out.below).mono ?_; rintro e5 w5 ⟨rfl, hb⟩; have H5 := rhide (H4.out.on hb); clear hb HD H4)
    | fail)
  have K5 : Below w.heap.size w (w5.alloc (.cells #[.int .i64 X.k, .int .i64 X.t] 32)) ∧ RowE (w5.alloc (.cells #[.int .i64 X.k, .int .i64 X.t] 32)) w5.heap.size X := ⟨(H5.out.on (bal (Below.refl _ _) _)).below, rowE_new w5 X⟩
  generalize w5.alloc _ = v5 at K5 ⊢
  generalize w5.heap.size = F at K5 ⊢
  have H6 := rhide K5.1
  have f0 := K5.2.c0
  have f1 := K5.2.c1
  clear K5 H5
  go_wp2_with (first
    | (go_at_call 19; refine (HE.out _ H6.out).mono ?_; rintro e6 w6 ⟨rfl, hb⟩; have H7 : Hid (Below w.heap.size w w6) := H6.out.trans (hb.mono H6.out.size); clear hb HE H6)
    | (go_at_call 24; refine (awake_any _).mono ?_; rintro e7 w7 ⟨rfl, hb⟩; have H8 : Hid (Below w.heap.size w w7) := H7.out.trans (hb.mono H7.out.size); clear hb H7)
    | fail)
  go_ret
  exact ⟨rfl, H8.out⟩
set_option maxRecDepth 100000 in
set_option maxHeartbeats 1000000 in
theorem words_one_no (a b : Ev) (u za : Int) (w : World)
    (HA : Hid (∀ wx, Below w.heap.size w wx → Calls Tryd.prog 19 #[.agg #[.int .i64 a.k, .int .i64 a.t]] wx fun e w' => e = .returned (.tuple #[.int .u64 za, .int .i64 0]) ∧ Below wx.heap.size wx w'))
    (HB : Hid (∀ wx, Below w.heap.size w wx → Calls Tryd.prog 19 #[.agg #[.int .i64 b.k, .int .i64 b.t]] wx fun e w' => e = .returned (.tuple #[.int .u64 0, .int .i64 1]) ∧ Below wx.heap.size wx w'))
    (HC : Hid (∀ wx, Below w.heap.size w wx → Calls Tryd.prog 7 #[.int .u64 za] wx fun e w' => e = .returned (.tuple #[.agg #[.int .i64 a.k, .int .i64 a.t], .int .i64 0]) ∧ Below wx.heap.size wx w'))
    (HD : Hid (∀ wx, Below w.heap.size w wx → Calls Tryd.prog 7 #[.int .u64 u] wx fun e w' => e = .returned (.tuple #[.agg #[.int .i64 0, .int .i64 0], .int .i64 12]) ∧ Below wx.heap.size wx w'))
    : Calls Tryd.prog 5 #[.agg #[.int .i64 a.k, .int .i64 a.t], .agg #[.int .i64 b.k, .int .i64 b.t], .int .u64 u] w fun e w' => e = .returned (.bool true) ∧ Below w.heap.size w w' := by
  have H0 := rhide (bx_new w a b)
  have hna := neqE a
  have he0 : ∀ w : World, (binOp .eql 32 (.agg #[.int .i64 0, .int .i64 0]) (.agg #[.int .i64 0, .int .i64 0])).run Tryd.prog w = .ok (.bool true) w := eqlE ev0
  go_enter Tryd.func5, Tryd.ntmps5
  go_upto_region 1 with fail
  generalize (w.alloc _).alloc _ = v0 at H0 ⊢
  generalize w.heap.size + 1 = B at H0 ⊢
  have x0 := H0.out.ra.c0
  have x1 := H0.out.ra.c1
  have y0 := H0.out.rb.c0
  have y1 := H0.out.rb.c1
  go_upto_region 4 with (first
    | (go_at_call 19; refine (HA.out _ H0.out.below).mono ?_; rintro e1 w1 ⟨rfl, hb⟩; have H1 := rhide (H0.out.on hb); clear hb HA H0 x0 x1 y0 y1; have x0 := H1.out.ra.c0; have x1 := H1.out.ra.c1; have y0 := H1.out.rb.c0; have y1 := H1.out.rb.c1)
    | (go_at_call 19; refine (HB.out _ H1.out.below).mono ?_; rintro e2 w2 ⟨rfl, hb⟩; have H2 := rhide (H1.out.on hb); clear hb HB H1 x0 x1 y0 y1; have x0 := H2.out.ra.c0; have x1 := H2.out.ra.c1; have y0 := H2.out.rb.c0; have y1 := H2.out.rb.c1)
    | fail)
  go_upto_region 5 with (first
    | (go_at_call 7; refine (HC.out _ H2.out.below).mono ?_; rintro e3 w3 ⟨rfl, hb⟩; have H3 := rhide (H2.out.on hb); clear hb HC H2 x0 x1 y0 y1)
    | fail)
  have K3 : Bx w (w3.alloc (.cells #[.int .i64 a.k, .int .i64 a.t] 32)) B a b ∧ RowE (w3.alloc (.cells #[.int .i64 a.k, .int .i64 a.t] 32)) w3.heap.size a := ⟨H3.out.on (bal (Below.refl _ _) _), rowE_new w3 a⟩
  generalize w3.alloc _ = v3 at K3 ⊢
  generalize w3.heap.size = D at K3 ⊢
  have H4 := rhide K3.1
  have c0 := K3.2.c0
  have c1 := K3.2.c1
  have x0 := K3.1.ra.c0
  have x1 := K3.1.ra.c1
  have y0 := K3.1.rb.c0
  have y1 := K3.1.rb.c1
  clear K3 H3
  go_upto_region 7 with fail
  clear c0 c1 x0 x1 y0 y1
  go_upto_region 8 with (first
    | (go_at_call 7; refine (HD.out _ H4.out.below).mono ?_; rintro e5 w5 ⟨rfl, hb⟩; have H5 := rhide (H4.out.on hb); clear hb HD H4)
    | fail)
  have K5 : Below w.heap.size w (w5.alloc (.cells #[.int .i64 0, .int .i64 0] 32)) ∧ RowE (w5.alloc (.cells #[.int .i64 0, .int .i64 0] 32)) w5.heap.size ev0 := ⟨(H5.out.on (bal (Below.refl _ _) _)).below, rowE_new w5 ev0⟩
  generalize w5.alloc _ = v5 at K5 ⊢
  generalize w5.heap.size = F at K5 ⊢
  have H6 := rhide K5.1
  have f0 := K5.2.c0
  have f1 := K5.2.c1
  clear K5 H5
  go_wp2_with (first
    | (go_at_call 24; refine (awake_any _).mono ?_; rintro e6 w6 ⟨rfl, hb⟩; have H7 : Hid (Below w.heap.size w w6) := H6.out.trans (hb.mono H6.out.size); clear hb H6)
    | fail)
  go_ret
  exact ⟨rfl, H7.out⟩
set_option maxRecDepth 100000 in
set_option maxHeartbeats 1000000 in
theorem words_one_yes (a b : Ev) (u za : Int) (X : Ev) (w : World)
    (HA : Hid (∀ wx, Below w.heap.size w wx → Calls Tryd.prog 19 #[.agg #[.int .i64 a.k, .int .i64 a.t]] wx fun e w' => e = .returned (.tuple #[.int .u64 za, .int .i64 0]) ∧ Below wx.heap.size wx w'))
    (HB : Hid (∀ wx, Below w.heap.size w wx → Calls Tryd.prog 19 #[.agg #[.int .i64 b.k, .int .i64 b.t]] wx fun e w' => e = .returned (.tuple #[.int .u64 0, .int .i64 1]) ∧ Below wx.heap.size wx w'))
    (HC : Hid (∀ wx, Below w.heap.size w wx → Calls Tryd.prog 7 #[.int .u64 za] wx fun e w' => e = .returned (.tuple #[.agg #[.int .i64 a.k, .int .i64 a.t], .int .i64 0]) ∧ Below wx.heap.size wx w'))
    (HD : Hid (∀ wx, Below w.heap.size w wx → Calls Tryd.prog 7 #[.int .u64 u] wx fun e w' => e = .returned (.tuple #[.agg #[.int .i64 X.k, .int .i64 X.t], .int .i64 0]) ∧ Below wx.heap.size wx w'))
    (HE : Hid (∀ wx, Below w.heap.size w wx → Calls Tryd.prog 19 #[.agg #[.int .i64 X.k, .int .i64 X.t]] wx fun e w' => e = .returned (.tuple #[.int .u64 u, .int .i64 0]) ∧ Below wx.heap.size wx w'))
    : Calls Tryd.prog 5 #[.agg #[.int .i64 a.k, .int .i64 a.t], .agg #[.int .i64 b.k, .int .i64 b.t], .int .u64 u] w fun e w' => e = .returned (.bool true) ∧ Below w.heap.size w w' := by
  have H0 := rhide (bx_new w a b)
  have hna := neqE a
  have hu : (u == u) = true := by simp
  go_enter Tryd.func5, Tryd.ntmps5
  go_upto_region 1 with fail
  generalize (w.alloc _).alloc _ = v0 at H0 ⊢
  generalize w.heap.size + 1 = B at H0 ⊢
  have x0 := H0.out.ra.c0
  have x1 := H0.out.ra.c1
  have y0 := H0.out.rb.c0
  have y1 := H0.out.rb.c1
  go_upto_region 4 with (first
    | (go_at_call 19; refine (HA.out _ H0.out.below).mono ?_; rintro e1 w1 ⟨rfl, hb⟩; have H1 := rhide (H0.out.on hb); clear hb HA H0 x0 x1 y0 y1; have x0 := H1.out.ra.c0; have x1 := H1.out.ra.c1; have y0 := H1.out.rb.c0; have y1 := H1.out.rb.c1)
    | (go_at_call 19; refine (HB.out _ H1.out.below).mono ?_; rintro e2 w2 ⟨rfl, hb⟩; have H2 := rhide (H1.out.on hb); clear hb HB H1 x0 x1 y0 y1; have x0 := H2.out.ra.c0; have x1 := H2.out.ra.c1; have y0 := H2.out.rb.c0; have y1 := H2.out.rb.c1)
    | fail)
  go_upto_region 5 with (first
    | (go_at_call 7; refine (HC.out _ H2.out.below).mono ?_; rintro e3 w3 ⟨rfl, hb⟩; have H3 := rhide (H2.out.on hb); clear hb HC H2 x0 x1 y0 y1)
    | fail)
  have K3 : Bx w (w3.alloc (.cells #[.int .i64 a.k, .int .i64 a.t] 32)) B a b ∧ RowE (w3.alloc (.cells #[.int .i64 a.k, .int .i64 a.t] 32)) w3.heap.size a := ⟨H3.out.on (bal (Below.refl _ _) _), rowE_new w3 a⟩
  generalize w3.alloc _ = v3 at K3 ⊢
  generalize w3.heap.size = D at K3 ⊢
  have H4 := rhide K3.1
  have c0 := K3.2.c0
  have c1 := K3.2.c1
  have x0 := K3.1.ra.c0
  have x1 := K3.1.ra.c1
  have y0 := K3.1.rb.c0
  have y1 := K3.1.rb.c1
  clear K3 H3
  go_upto_region 7 with fail
  clear c0 c1 x0 x1 y0 y1
  go_upto_region 8 with (first
    | (go_at_call 7; refine (HD.out _ H4.out.below).mono ?_; rintro e5 w5 ⟨rfl, hb⟩; have H5 := rhide (H4.out.on hb); clear hb HD H4)
    | fail)
  have K5 : Below w.heap.size w (w5.alloc (.cells #[.int .i64 X.k, .int .i64 X.t] 32)) ∧ RowE (w5.alloc (.cells #[.int .i64 X.k, .int .i64 X.t] 32)) w5.heap.size X := ⟨(H5.out.on (bal (Below.refl _ _) _)).below, rowE_new w5 X⟩
  generalize w5.alloc _ = v5 at K5 ⊢
  generalize w5.heap.size = F at K5 ⊢
  have H6 := rhide K5.1
  have f0 := K5.2.c0
  have f1 := K5.2.c1
  clear K5 H5
  go_wp2_with (first
    | (go_at_call 19; refine (HE.out _ H6.out).mono ?_; rintro e6 w6 ⟨rfl, hb⟩; have H7 : Hid (Below w.heap.size w w6) := H6.out.trans (hb.mono H6.out.size); clear hb HE H6)
    | (go_at_call 24; refine (awake_any _).mono ?_; rintro e7 w7 ⟨rfl, hb⟩; have H8 : Hid (Below w.heap.size w w7) := H7.out.trans (hb.mono H7.out.size); clear hb H7)
    | fail)
  go_ret
  exact ⟨rfl, H8.out⟩
set_option maxRecDepth 100000 in
set_option maxHeartbeats 1000000 in
theorem words_same_no (a : Ev) (u za : Int) (w : World)
    (HA : Hid (∀ wx, Below w.heap.size w wx → Calls Tryd.prog 19 #[.agg #[.int .i64 a.k, .int .i64 a.t]] wx fun e w' => e = .returned (.tuple #[.int .u64 za, .int .i64 0]) ∧ Below wx.heap.size wx w'))
    (HB : Hid (∀ wx, Below w.heap.size w wx → Calls Tryd.prog 19 #[.agg #[.int .i64 a.k, .int .i64 a.t]] wx fun e w' => e = .returned (.tuple #[.int .u64 za, .int .i64 0]) ∧ Below wx.heap.size wx w'))
    (HC : Hid (∀ wx, Below w.heap.size w wx → Calls Tryd.prog 7 #[.int .u64 za] wx fun e w' => e = .returned (.tuple #[.agg #[.int .i64 a.k, .int .i64 a.t], .int .i64 0]) ∧ Below wx.heap.size wx w'))
    (HD : Hid (∀ wx, Below w.heap.size w wx → Calls Tryd.prog 7 #[.int .u64 u] wx fun e w' => e = .returned (.tuple #[.agg #[.int .i64 0, .int .i64 0], .int .i64 12]) ∧ Below wx.heap.size wx w'))
    : Calls Tryd.prog 5 #[.agg #[.int .i64 a.k, .int .i64 a.t], .agg #[.int .i64 a.k, .int .i64 a.t], .int .u64 u] w fun e w' => e = .returned (.bool true) ∧ Below w.heap.size w w' := by
  have H0 := rhide (bx_new w a a)
  have hna := neqE a
  have hea := eqlE a
  have hzz : (za == za) = true := by simp
  have he0 : ∀ w : World, (binOp .eql 32 (.agg #[.int .i64 0, .int .i64 0]) (.agg #[.int .i64 0, .int .i64 0])).run Tryd.prog w = .ok (.bool true) w := eqlE ev0
  go_enter Tryd.func5, Tryd.ntmps5
  go_upto_region 1 with fail
  generalize (w.alloc _).alloc _ = v0 at H0 ⊢
  generalize w.heap.size + 1 = B at H0 ⊢
  have x0 := H0.out.ra.c0
  have x1 := H0.out.ra.c1
  have y0 := H0.out.rb.c0
  have y1 := H0.out.rb.c1
  go_upto_region 4 with (first
    | (go_at_call 19; refine (HA.out _ H0.out.below).mono ?_; rintro e1 w1 ⟨rfl, hb⟩; have H1 := rhide (H0.out.on hb); clear hb HA H0 x0 x1 y0 y1; have x0 := H1.out.ra.c0; have x1 := H1.out.ra.c1; have y0 := H1.out.rb.c0; have y1 := H1.out.rb.c1)
    | (go_at_call 19; refine (HB.out _ H1.out.below).mono ?_; rintro e2 w2 ⟨rfl, hb⟩; have H2 := rhide (H1.out.on hb); clear hb HB H1 x0 x1 y0 y1; have x0 := H2.out.ra.c0; have x1 := H2.out.ra.c1; have y0 := H2.out.rb.c0; have y1 := H2.out.rb.c1)
    | fail)
  go_upto_region 5 with (first
    | (go_at_call 7; refine (HC.out _ H2.out.below).mono ?_; rintro e3 w3 ⟨rfl, hb⟩; have H3 := rhide (H2.out.on hb); clear hb HC H2 x0 x1 y0 y1)
    | fail)
  have K3 : Bx w (w3.alloc (.cells #[.int .i64 a.k, .int .i64 a.t] 32)) B a a ∧ RowE (w3.alloc (.cells #[.int .i64 a.k, .int .i64 a.t] 32)) w3.heap.size a := ⟨H3.out.on (bal (Below.refl _ _) _), rowE_new w3 a⟩
  generalize w3.alloc _ = v3 at K3 ⊢
  generalize w3.heap.size = D at K3 ⊢
  have H4 := rhide K3.1
  have c0 := K3.2.c0
  have c1 := K3.2.c1
  have x0 := K3.1.ra.c0
  have x1 := K3.1.ra.c1
  have y0 := K3.1.rb.c0
  have y1 := K3.1.rb.c1
  clear K3 H3
  go_upto_region 7 with fail
  clear c0 c1 x0 x1 y0 y1
  go_upto_region 8 with (first
    | (go_at_call 7; refine (HD.out _ H4.out.below).mono ?_; rintro e5 w5 ⟨rfl, hb⟩; have H5 := rhide (H4.out.on hb); clear hb HD H4)
    | fail)
  have K5 : Below w.heap.size w (w5.alloc (.cells #[.int .i64 0, .int .i64 0] 32)) ∧ RowE (w5.alloc (.cells #[.int .i64 0, .int .i64 0] 32)) w5.heap.size ev0 := ⟨(H5.out.on (bal (Below.refl _ _) _)).below, rowE_new w5 ev0⟩
  generalize w5.alloc _ = v5 at K5 ⊢
  generalize w5.heap.size = F at K5 ⊢
  have H6 := rhide K5.1
  have f0 := K5.2.c0
  have f1 := K5.2.c1
  clear K5 H5
  go_wp2_with (first
    | (go_at_call 24; refine (awake_any _).mono ?_; rintro e6 w6 ⟨rfl, hb⟩; have H7 : Hid (Below w.heap.size w w6) := H6.out.trans (hb.mono H6.out.size); clear hb H6)
    | fail)
  go_ret
  exact ⟨rfl, H7.out⟩
set_option maxRecDepth 100000 in
set_option maxHeartbeats 1000000 in
theorem words_same_yes (a : Ev) (u za : Int) (X : Ev) (w : World)
    (HA : Hid (∀ wx, Below w.heap.size w wx → Calls Tryd.prog 19 #[.agg #[.int .i64 a.k, .int .i64 a.t]] wx fun e w' => e = .returned (.tuple #[.int .u64 za, .int .i64 0]) ∧ Below wx.heap.size wx w'))
    (HB : Hid (∀ wx, Below w.heap.size w wx → Calls Tryd.prog 19 #[.agg #[.int .i64 a.k, .int .i64 a.t]] wx fun e w' => e = .returned (.tuple #[.int .u64 za, .int .i64 0]) ∧ Below wx.heap.size wx w'))
    (HC : Hid (∀ wx, Below w.heap.size w wx → Calls Tryd.prog 7 #[.int .u64 za] wx fun e w' => e = .returned (.tuple #[.agg #[.int .i64 a.k, .int .i64 a.t], .int .i64 0]) ∧ Below wx.heap.size wx w'))
    (HD : Hid (∀ wx, Below w.heap.size w wx → Calls Tryd.prog 7 #[.int .u64 u] wx fun e w' => e = .returned (.tuple #[.agg #[.int .i64 X.k, .int .i64 X.t], .int .i64 0]) ∧ Below wx.heap.size wx w'))
    (HE : Hid (∀ wx, Below w.heap.size w wx → Calls Tryd.prog 19 #[.agg #[.int .i64 X.k, .int .i64 X.t]] wx fun e w' => e = .returned (.tuple #[.int .u64 u, .int .i64 0]) ∧ Below wx.heap.size wx w'))
    : Calls Tryd.prog 5 #[.agg #[.int .i64 a.k, .int .i64 a.t], .agg #[.int .i64 a.k, .int .i64 a.t], .int .u64 u] w fun e w' => e = .returned (.bool true) ∧ Below w.heap.size w w' := by
  have H0 := rhide (bx_new w a a)
  have hna := neqE a
  have hea := eqlE a
  have hzz : (za == za) = true := by simp
  have hu : (u == u) = true := by simp
  go_enter Tryd.func5, Tryd.ntmps5
  go_upto_region 1 with fail
  generalize (w.alloc _).alloc _ = v0 at H0 ⊢
  generalize w.heap.size + 1 = B at H0 ⊢
  have x0 := H0.out.ra.c0
  have x1 := H0.out.ra.c1
  have y0 := H0.out.rb.c0
  have y1 := H0.out.rb.c1
  go_upto_region 4 with (first
    | (go_at_call 19; refine (HA.out _ H0.out.below).mono ?_; rintro e1 w1 ⟨rfl, hb⟩; have H1 := rhide (H0.out.on hb); clear hb HA H0 x0 x1 y0 y1; have x0 := H1.out.ra.c0; have x1 := H1.out.ra.c1; have y0 := H1.out.rb.c0; have y1 := H1.out.rb.c1)
    | (go_at_call 19; refine (HB.out _ H1.out.below).mono ?_; rintro e2 w2 ⟨rfl, hb⟩; have H2 := rhide (H1.out.on hb); clear hb HB H1 x0 x1 y0 y1; have x0 := H2.out.ra.c0; have x1 := H2.out.ra.c1; have y0 := H2.out.rb.c0; have y1 := H2.out.rb.c1)
    | fail)
  go_upto_region 5 with (first
    | (go_at_call 7; refine (HC.out _ H2.out.below).mono ?_; rintro e3 w3 ⟨rfl, hb⟩; have H3 := rhide (H2.out.on hb); clear hb HC H2 x0 x1 y0 y1)
    | fail)
  have K3 : Bx w (w3.alloc (.cells #[.int .i64 a.k, .int .i64 a.t] 32)) B a a ∧ RowE (w3.alloc (.cells #[.int .i64 a.k, .int .i64 a.t] 32)) w3.heap.size a := ⟨H3.out.on (bal (Below.refl _ _) _), rowE_new w3 a⟩
  generalize w3.alloc _ = v3 at K3 ⊢
  generalize w3.heap.size = D at K3 ⊢
  have H4 := rhide K3.1
  have c0 := K3.2.c0
  have c1 := K3.2.c1
  have x0 := K3.1.ra.c0
  have x1 := K3.1.ra.c1
  have y0 := K3.1.rb.c0
  have y1 := K3.1.rb.c1
  clear K3 H3
  go_upto_region 7 with fail
  clear c0 c1 x0 x1 y0 y1
  go_upto_region 8 with (first
    | (go_at_call 7; refine (HD.out _ H4.out.below).mono ?_; rintro e5 w5 ⟨rfl, hb⟩; have H5 := rhide (H4.out.on hb); clear hb HD H4)
    | fail)
  have K5 : Below w.heap.size w (w5.alloc (.cells #[.int .i64 X.k, .int .i64 X.t] 32)) ∧ RowE (w5.alloc (.cells #[.int .i64 X.k, .int .i64 X.t] 32)) w5.heap.size X := ⟨(H5.out.on (bal (Below.refl _ _) _)).below, rowE_new w5 X⟩
  generalize w5.alloc _ = v5 at K5 ⊢
  generalize w5.heap.size = F at K5 ⊢
  have H6 := rhide K5.1
  have f0 := K5.2.c0
  have f1 := K5.2.c1
  clear K5 H5
  go_wp2_with (first
    | (go_at_call 19; refine (HE.out _ H6.out).mono ?_; rintro e6 w6 ⟨rfl, hb⟩; have H7 : Hid (Below w.heap.size w w6) := H6.out.trans (hb.mono H6.out.size); clear hb HE H6)
    | (go_at_call 24; refine (awake_any _).mono ?_; rintro e7 w7 ⟨rfl, hb⟩; have H8 : Hid (Below w.heap.size w w7) := H7.out.trans (hb.mono H7.out.size); clear hb H7)
    | fail)
  go_ret
  exact ⟨rfl, H8.out⟩
set_option maxRecDepth 100000 in
set_option maxHeartbeats 1000000 in
theorem words_other_no (a b : Ev) (u za zb : Int) (w : World) (hab : a ≠ b) (hz : za ≠ zb)
    (HA : Hid (∀ wx, Below w.heap.size w wx → Calls Tryd.prog 19 #[.agg #[.int .i64 a.k, .int .i64 a.t]] wx fun e w' => e = .returned (.tuple #[.int .u64 za, .int .i64 0]) ∧ Below wx.heap.size wx w'))
    (HB : Hid (∀ wx, Below w.heap.size w wx → Calls Tryd.prog 19 #[.agg #[.int .i64 b.k, .int .i64 b.t]] wx fun e w' => e = .returned (.tuple #[.int .u64 zb, .int .i64 0]) ∧ Below wx.heap.size wx w'))
    (HC : Hid (∀ wx, Below w.heap.size w wx → Calls Tryd.prog 7 #[.int .u64 za] wx fun e w' => e = .returned (.tuple #[.agg #[.int .i64 a.k, .int .i64 a.t], .int .i64 0]) ∧ Below wx.heap.size wx w'))
    (HD : Hid (∀ wx, Below w.heap.size w wx → Calls Tryd.prog 7 #[.int .u64 u] wx fun e w' => e = .returned (.tuple #[.agg #[.int .i64 0, .int .i64 0], .int .i64 12]) ∧ Below wx.heap.size wx w'))
    : Calls Tryd.prog 5 #[.agg #[.int .i64 a.k, .int .i64 a.t], .agg #[.int .i64 b.k, .int .i64 b.t], .int .u64 u] w fun e w' => e = .returned (.bool true) ∧ Below w.heap.size w w' := by
  have H0 := rhide (bx_new w a b)
  have hna := neqE a
  have hea := eqlE2 hab
  have hzz : (za == zb) = false := by simp [hz]
  clear hab hz
  have he0 : ∀ w : World, (binOp .eql 32 (.agg #[.int .i64 0, .int .i64 0]) (.agg #[.int .i64 0, .int .i64 0])).run Tryd.prog w = .ok (.bool true) w := eqlE ev0
  go_enter Tryd.func5, Tryd.ntmps5
  go_upto_region 1 with fail
  generalize (w.alloc _).alloc _ = v0 at H0 ⊢
  generalize w.heap.size + 1 = B at H0 ⊢
  have x0 := H0.out.ra.c0
  have x1 := H0.out.ra.c1
  have y0 := H0.out.rb.c0
  have y1 := H0.out.rb.c1
  go_upto_region 4 with (first
    | (go_at_call 19; refine (HA.out _ H0.out.below).mono ?_; rintro e1 w1 ⟨rfl, hb⟩; have H1 := rhide (H0.out.on hb); clear hb HA H0 x0 x1 y0 y1; have x0 := H1.out.ra.c0; have x1 := H1.out.ra.c1; have y0 := H1.out.rb.c0; have y1 := H1.out.rb.c1)
    | (go_at_call 19; refine (HB.out _ H1.out.below).mono ?_; rintro e2 w2 ⟨rfl, hb⟩; have H2 := rhide (H1.out.on hb); clear hb HB H1 x0 x1 y0 y1; have x0 := H2.out.ra.c0; have x1 := H2.out.ra.c1; have y0 := H2.out.rb.c0; have y1 := H2.out.rb.c1)
    | fail)
  go_upto_region 5 with (first
    | (go_at_call 7; refine (HC.out _ H2.out.below).mono ?_; rintro e3 w3 ⟨rfl, hb⟩; have H3 := rhide (H2.out.on hb); clear hb HC H2 x0 x1 y0 y1)
    | fail)
  have K3 : Bx w (w3.alloc (.cells #[.int .i64 a.k, .int .i64 a.t] 32)) B a b ∧ RowE (w3.alloc (.cells #[.int .i64 a.k, .int .i64 a.t] 32)) w3.heap.size a := ⟨H3.out.on (bal (Below.refl _ _) _), rowE_new w3 a⟩
  generalize w3.alloc _ = v3 at K3 ⊢
  generalize w3.heap.size = D at K3 ⊢
  have H4 := rhide K3.1
  have c0 := K3.2.c0
  have c1 := K3.2.c1
  have x0 := K3.1.ra.c0
  have x1 := K3.1.ra.c1
  have y0 := K3.1.rb.c0
  have y1 := K3.1.rb.c1
  clear K3 H3
  go_upto_region 7 with fail
  clear c0 c1 x0 x1 y0 y1
  go_upto_region 8 with (first
    | (go_at_call 7; refine (HD.out _ H4.out.below).mono ?_; rintro e5 w5 ⟨rfl, hb⟩; have H5 := rhide (H4.out.on hb); clear hb HD H4)
    | fail)
  have K5 : Below w.heap.size w (w5.alloc (.cells #[.int .i64 0, .int .i64 0] 32)) ∧ RowE (w5.alloc (.cells #[.int .i64 0, .int .i64 0] 32)) w5.heap.size ev0 := ⟨(H5.out.on (bal (Below.refl _ _) _)).below, rowE_new w5 ev0⟩
  generalize w5.alloc _ = v5 at K5 ⊢
  generalize w5.heap.size = F at K5 ⊢
  have H6 := rhide K5.1
  have f0 := K5.2.c0
  have f1 := K5.2.c1
  clear K5 H5
  go_wp2_with (first
    | (go_at_call 24; refine (awake_any _).mono ?_; rintro e6 w6 ⟨rfl, hb⟩; have H7 : Hid (Below w.heap.size w w6) := H6.out.trans (hb.mono H6.out.size); clear hb H6)
    | fail)
  go_ret
  exact ⟨rfl, H7.out⟩
set_option maxRecDepth 100000 in
set_option maxHeartbeats 1000000 in
theorem words_other_yes (a b : Ev) (u za zb : Int) (X : Ev) (w : World) (hab : a ≠ b) (hz : za ≠ zb)
    (HA : Hid (∀ wx, Below w.heap.size w wx → Calls Tryd.prog 19 #[.agg #[.int .i64 a.k, .int .i64 a.t]] wx fun e w' => e = .returned (.tuple #[.int .u64 za, .int .i64 0]) ∧ Below wx.heap.size wx w'))
    (HB : Hid (∀ wx, Below w.heap.size w wx → Calls Tryd.prog 19 #[.agg #[.int .i64 b.k, .int .i64 b.t]] wx fun e w' => e = .returned (.tuple #[.int .u64 zb, .int .i64 0]) ∧ Below wx.heap.size wx w'))
    (HC : Hid (∀ wx, Below w.heap.size w wx → Calls Tryd.prog 7 #[.int .u64 za] wx fun e w' => e = .returned (.tuple #[.agg #[.int .i64 a.k, .int .i64 a.t], .int .i64 0]) ∧ Below wx.heap.size wx w'))
    (HD : Hid (∀ wx, Below w.heap.size w wx → Calls Tryd.prog 7 #[.int .u64 u] wx fun e w' => e = .returned (.tuple #[.agg #[.int .i64 X.k, .int .i64 X.t], .int .i64 0]) ∧ Below wx.heap.size wx w'))
    (HE : Hid (∀ wx, Below w.heap.size w wx → Calls Tryd.prog 19 #[.agg #[.int .i64 X.k, .int .i64 X.t]] wx fun e w' => e = .returned (.tuple #[.int .u64 u, .int .i64 0]) ∧ Below wx.heap.size wx w'))
    : Calls Tryd.prog 5 #[.agg #[.int .i64 a.k, .int .i64 a.t], .agg #[.int .i64 b.k, .int .i64 b.t], .int .u64 u] w fun e w' => e = .returned (.bool true) ∧ Below w.heap.size w w' := by
  have H0 := rhide (bx_new w a b)
  have hna := neqE a
  have hea := eqlE2 hab
  have hzz : (za == zb) = false := by simp [hz]
  clear hab hz
  have hu : (u == u) = true := by simp
  go_enter Tryd.func5, Tryd.ntmps5
  go_upto_region 1 with fail
  generalize (w.alloc _).alloc _ = v0 at H0 ⊢
  generalize w.heap.size + 1 = B at H0 ⊢
  have x0 := H0.out.ra.c0
  have x1 := H0.out.ra.c1
  have y0 := H0.out.rb.c0
  have y1 := H0.out.rb.c1
  go_upto_region 4 with (first
    | (go_at_call 19; refine (HA.out _ H0.out.below).mono ?_; rintro e1 w1 ⟨rfl, hb⟩; have H1 := rhide (H0.out.on hb); clear hb HA H0 x0 x1 y0 y1; have x0 := H1.out.ra.c0; have x1 := H1.out.ra.c1; have y0 := H1.out.rb.c0; have y1 := H1.out.rb.c1)
    | (go_at_call 19; refine (HB.out _ H1.out.below).mono ?_; rintro e2 w2 ⟨rfl, hb⟩; have H2 := rhide (H1.out.on hb); clear hb HB H1 x0 x1 y0 y1; have x0 := H2.out.ra.c0; have x1 := H2.out.ra.c1; have y0 := H2.out.rb.c0; have y1 := H2.out.rb.c1)
    | fail)
  go_upto_region 5 with (first
    | (go_at_call 7; refine (HC.out _ H2.out.below).mono ?_; rintro e3 w3 ⟨rfl, hb⟩; have H3 := rhide (H2.out.on hb); clear hb HC H2 x0 x1 y0 y1)
    | fail)
  have K3 : Bx w (w3.alloc (.cells #[.int .i64 a.k, .int .i64 a.t] 32)) B a b ∧ RowE (w3.alloc (.cells #[.int .i64 a.k, .int .i64 a.t] 32)) w3.heap.size a := ⟨H3.out.on (bal (Below.refl _ _) _), rowE_new w3 a⟩
  generalize w3.alloc _ = v3 at K3 ⊢
  generalize w3.heap.size = D at K3 ⊢
  have H4 := rhide K3.1
  have c0 := K3.2.c0
  have c1 := K3.2.c1
  have x0 := K3.1.ra.c0
  have x1 := K3.1.ra.c1
  have y0 := K3.1.rb.c0
  have y1 := K3.1.rb.c1
  clear K3 H3
  go_upto_region 7 with fail
  clear c0 c1 x0 x1 y0 y1
  go_upto_region 8 with (first
    | (go_at_call 7; refine (HD.out _ H4.out.below).mono ?_; rintro e5 w5 ⟨rfl, hb⟩; have H5 := rhide (H4.out.on hb); clear hb HD H4)
    | fail)
  have K5 : Below w.heap.size w (w5.alloc (.cells #[.int .i64 X.k, .int .i64 X.t] 32)) ∧ RowE (w5.alloc (.cells #[.int .i64 X.k, .int .i64 X.t] 32)) w5.heap.size X := ⟨(H5.out.on (bal (Below.refl _ _) _)).below, rowE_new w5 X⟩
  generalize w5.alloc _ = v5 at K5 ⊢
  generalize w5.heap.size = F at K5 ⊢
  have H6 := rhide K5.1
  have f0 := K5.2.c0
  have f1 := K5.2.c1
  clear K5 H5
  go_wp2_with (first
    | (go_at_call 19; refine (HE.out _ H6.out).mono ?_; rintro e6 w6 ⟨rfl, hb⟩; have H7 : Hid (Below w.heap.size w w6) := H6.out.trans (hb.mono H6.out.size); clear hb HE H6)
    | (go_at_call 24; refine (awake_any _).mono ?_; rintro e7 w7 ⟨rfl, hb⟩; have H8 : Hid (Below w.heap.size w w7) := H7.out.trans (hb.mono H7.out.size); clear hb H7)
    | fail)
  go_ret
  exact ⟨rfl, H8.out⟩
theorem words_walk (a b : Ev) (u : Int) (w : World) (hu : 0 ≤ u ∧ u ≤ 18446744073709551615) (hT : TabR w) :
    Calls Tryd.prog 5 #[.agg #[.int .i64 a.k, .int .i64 a.t], .agg #[.int .i64 b.k, .int .i64 b.t], .int .u64 u] w fun e w' => e = .returned (.bool true) ∧ Below w.heap.size w w' := by
  have HT := rhide hT
  have W0 : ∀ x wx, Below w.heap.size w wx → Calls Tryd.prog 19 #[.agg #[.int .i64 x.k, .int .i64 x.t]] wx fun e w' => e = .returned (.tuple #[.int .u64 (wdW x), .int .i64 (ckE x)]) ∧ Below wx.heap.size wx w' := fun x wx h => word_any x wx (HT.out.on h)
  have Wy : ∀ x, Eo x → ∀ wx, Below w.heap.size w wx → Calls Tryd.prog 19 #[.agg #[.int .i64 x.k, .int .i64 x.t]] wx fun e w' => e = .returned (.tuple #[.int .u64 (ewd x), .int .i64 0]) ∧ Below wx.heap.size wx w' := fun x hx wx h => by
    have := W0 x wx h
    rwa [wd_yes hx, ck_yes hx] at this
  have Wn : ∀ x, ¬ Eo x → ∀ wx, Below w.heap.size w wx → Calls Tryd.prog 19 #[.agg #[.int .i64 x.k, .int .i64 x.t]] wx fun e w' => e = .returned (.tuple #[.int .u64 0, .int .i64 1]) ∧ Below wx.heap.size wx w' := fun x hx wx h => by
    have := W0 x wx h
    rwa [wd_no hx, ck_no hx] at this
  have Oy : ∀ x, Eo x → ∀ wx, Below w.heap.size w wx → Calls Tryd.prog 7 #[.int .u64 (ewd x)] wx fun e w' => e = .returned (.tuple #[.agg #[.int .i64 x.k, .int .i64 x.t], .int .i64 0]) ∧ Below wx.heap.size wx w' := fun x hx wx h => by
    have := of_any (ewd x) (ewd_bd hx) wx (HT.out.on h)
    rwa [(of_back hx).1, (of_back hx).2] at this
  have Ou : ∀ wx, Below w.heap.size w wx → Calls Tryd.prog 7 #[.int .u64 u] wx fun e w' => e = .returned (.tuple #[.agg #[.int .i64 (ofX u).k, .int .i64 (ofX u).t], .int .i64 (ofE u)]) ∧ Below wx.heap.size wx w' := fun wx h => of_any u hu wx (HT.out.on h)
  by_cases ho : ofE u = 0
  · obtain ⟨h1, h2, h3⟩ := of_yes ho
    rw [ho, h3] at Ou
    have We := Wy (ofR u) h2
    rw [ewd_back hu h1] at We
    by_cases ha : Eo a
    · by_cases hb : Eo b
      · by_cases hab : a = b
        · subst hab
          exact words_same_yes a u (ewd a) (ofR u) w (Wy a ha) (Wy a ha) (Oy a ha) Ou We
        · exact words_other_yes a b u (ewd a) (ewd b) (ofR u) w hab (fun h => hab (ewd_one ha hb h)) (Wy a ha) (Wy b hb) (Oy a ha) Ou We
      · exact words_one_yes a b u (ewd a) (ofR u) w (Wy a ha) (Wn b hb) (Oy a ha) Ou We
    · exact words_no_yes a b u (wdW b) (ckE b) (ofR u) w (Wn a ha) (W0 b) Ou We
  · rw [(of_no ho).1, (of_no ho).2] at Ou
    by_cases ha : Eo a
    · by_cases hb : Eo b
      · by_cases hab : a = b
        · subst hab
          exact words_same_no a u (ewd a) w (Wy a ha) (Wy a ha) (Oy a ha) Ou
        · exact words_other_no a b u (ewd a) (ewd b) w hab (fun h => hab (ewd_one ha hb h)) (Wy a ha) (Wy b hb) (Oy a ha) Ou
      · exact words_one_no a b u (ewd a) w (Wy a ha) (Wn b hb) (Oy a ha) Ou
    · exact words_no_no a b u (wdW b) (ckE b) w (Wn a ha) (W0 b) Ou
end Go.Proofs.YtdplailaolfpkaaDoor.Pring
