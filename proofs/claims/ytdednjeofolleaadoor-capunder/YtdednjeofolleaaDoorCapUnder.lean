/- For every three capabilities (whatever numbers, right or not) and every number of rights: one that is weakened is under what it was, if that is right and above CQuiet; what is under what is under is under; and what is under something is right, and of its kind. Conditions: none but that package cap's table starts as the program's text lays it (tied). -/
import Derived.Test.YtdednjeofolleaaDoorRows
import Derived.Test.YtdednjeofolleaaDoorTie
import Derived.Test.YtdednjeofolleaaDoorCards
import Derived.Test.YtdednjeofolleaaDoorCapU
import Derived.Test.YtdednjeofolleaaDoorCapI
import Derived.WalkKit
import Derived.ProofKit
import Derived.OpenShut
import Derived.ShutString
import Derived.ChangeOld
import Derived.Below
import Derived.LaidMore
import Derived.Stop.Joined
import Derived.SevenTiedAt
namespace Go.Proofs.YtdednjeofolleaaDoor.capUnder
open Go.ChangeShapes Go.WideShapes Go.ChangeAt Go.RowKit
set_option linter.unusedVariables false

theorem own : ownKnob Tryd.prog.godebug = none := by kernel_rfl
theorem laidOut : laidOutB Tryd.prog = true := by kernel_rfl

theorem awake_any (w : World) : Calls Tryd.prog 20 #[] w fun e w' => e = .returned (.bool true) ∧ Below w.heap.size w w' := by
  go_enter Tryd.func20, Tryd.ntmps20
  go_wp2_with (first
    | (go_at_call 18; refine (lives_any _ _ _ _ _ _ _).mono ?_; rintro e1 w1 ⟨rfl, hb1⟩; rw [show livB 7 = true from rfl]; have H1 : Hid (Below w.heap.size w w1) := hb1; clear hb1)
    | fail)
  go_ret
  exact ⟨rfl, H1.out⟩
/-- Three capabilities in three blocks of the call's own. -/
structure Tri (w0 w : World) (k r t l e a k' r' t' l' e' a' k2 r2 t2 l2 e2 a2 : Int) : Prop where
  tab : TabM w
  below : Below w0.heap.size w0 w
  p : Box6 w w0.heap.size k r t l e a
  q : Box6 w (w0.heap.size + 1) k' r' t' l' e' a'
  s : Box6 w (w0.heap.size + 2) k2 r2 t2 l2 e2 a2
theorem tri_on {w0 w w' : World} {k r t l e a k' r' t' l' e' a' k2 r2 t2 l2 e2 a2 : Int} (h : Tri w0 w k r t l e a k' r' t' l' e' a' k2 r2 t2 l2 e2 a2) (hB : Below w.heap.size w w') : Tri w0 w' k r t l e a k' r' t' l' e' a' k2 r2 t2 l2 e2 a2 :=
  ⟨h.tab.on hB, h.below.trans (hB.mono h.below.size), h.p.on hB, h.q.on hB, h.s.on hB⟩
theorem tri_new (w : World) (hT : TabM w) (k r t l e a k' r' t' l' e' a' k2 r2 t2 l2 e2 a2 : Int) (ty ty' ty2 : TypeId) :
    Tri w (((w.alloc (.cells #[.int .i64 k, .int .i64 r, .int .i64 t, .int .i64 l, .int .i64 e, .int .i64 a] ty)).alloc (.cells #[.int .i64 k', .int .i64 r', .int .i64 t', .int .i64 l', .int .i64 e', .int .i64 a'] ty')).alloc (.cells #[.int .i64 k2, .int .i64 r2, .int .i64 t2, .int .i64 l2, .int .i64 e2, .int .i64 a2] ty2)) k r t l e a k' r' t' l' e' a' k2 r2 t2 l2 e2 a2 := by
  have h := pair_new w hT k r t l e a k' r' t' l' e' a' ty ty'
  have q := box6_new ((w.alloc (.cells #[.int .i64 k, .int .i64 r, .int .i64 t, .int .i64 l, .int .i64 e, .int .i64 a] ty)).alloc (.cells #[.int .i64 k', .int .i64 r', .int .i64 t', .int .i64 l', .int .i64 e', .int .i64 a'] ty')) k2 r2 t2 l2 e2 a2 ty2
  have hB := bal (Below.refl ((w.alloc (.cells #[.int .i64 k, .int .i64 r, .int .i64 t, .int .i64 l, .int .i64 e, .int .i64 a] ty)).alloc (.cells #[.int .i64 k', .int .i64 r', .int .i64 t', .int .i64 l', .int .i64 e', .int .i64 a'] ty')).heap.size _) (.cells #[.int .i64 k2, .int .i64 r2, .int .i64 t2, .int .i64 l2, .int .i64 e2, .int .i64 a2] ty2)
  have h2 := h.on hB
  rw [show ((w.alloc (.cells #[.int .i64 k, .int .i64 r, .int .i64 t, .int .i64 l, .int .i64 e, .int .i64 a] ty)).alloc (.cells #[.int .i64 k', .int .i64 r', .int .i64 t', .int .i64 l', .int .i64 e', .int .i64 a'] ty')).heap.size = w.heap.size + 2 by simp] at q
  exact ⟨h2.tab, h2.below, h2.p, h2.q, q⟩
/-- And a fourth one. -/
structure Quad (w0 w : World) (D : Nat) (x : Int) (k r t l e a k' r' t' l' e' a' k2 r2 t2 l2 e2 a2 : Int) : Prop where
  tri : Tri w0 w k r t l e a k' r' t' l' e' a' k2 r2 t2 l2 e2 a2
  u : Box6 w D k (bits .and .i64 r x) t l e a
theorem quad_on {w0 w w' : World} {D : Nat} {x : Int} {k r t l e a k' r' t' l' e' a' k2 r2 t2 l2 e2 a2 : Int} (h : Quad w0 w D x k r t l e a k' r' t' l' e' a' k2 r2 t2 l2 e2 a2) (hB : Below w.heap.size w w') : Quad w0 w' D x k r t l e a k' r' t' l' e' a' k2 r2 t2 l2 e2 a2 := ⟨tri_on h.tri hB, h.u.on hB⟩
theorem quad_new {w0 w w' : World} {x : Int} {k r t l e a k' r' t' l' e' a' k2 r2 t2 l2 e2 a2 : Int} {ty : TypeId} (h : Tri w0 w k r t l e a k' r' t' l' e' a' k2 r2 t2 l2 e2 a2) (hB : Below (w.alloc (.cells #[.int .i64 k, .int .i64 (bits .and .i64 r x), .int .i64 t, .int .i64 l, .int .i64 e, .int .i64 a] ty)).heap.size (w.alloc (.cells #[.int .i64 k, .int .i64 (bits .and .i64 r x), .int .i64 t, .int .i64 l, .int .i64 e, .int .i64 a] ty)) w') : Quad w0 w' w.heap.size x k r t l e a k' r' t' l' e' a' k2 r2 t2 l2 e2 a2 :=
  ⟨tri_on (tri_on h (bal (Below.refl _ _) _)) hB, (box6_new w k (bits .and .i64 r x) t l e a ty).on hB⟩
theorem quad_tab {w0 w : World} {D : Nat} {x : Int} {k r t l e a k' r' t' l' e' a' k2 r2 t2 l2 e2 a2 : Int} (h : Quad w0 w D x k r t l e a k' r' t' l' e' a' k2 r2 t2 l2 e2 a2) : TabM w := h.tri.tab
theorem und_self {k r t l e a : Int} (h : Rt k r t l e a) (hk : 1 < k) : undB k r t l e a k r t l e a = true := by
  simp [undB, rtB_yes h, hk, sub5_refl]
theorem und_weak {k r t l e a : Int} (x : Int) (h : Rt k r t l e a) (hk : 1 < k) : undB k (bits .and .i64 r x) t l e a k r t l e a = true := by
  have hw := weak_rt x hk h
  simp [undB, rtB_yes h, rtB_yes hw.1, hw.2, hk]
theorem und_fine {k r t l e a k' r' t' l' e' a' : Int} (h : undB k r t l e a k' r' t' l' e' a' = true) : Rt k r t l e a ∧ Rt k' r' t' l' e' a' ∧ k = k' ∧ 1 < k := by
  by_cases h1 : Rt k r t l e a
  · by_cases h2 : Rt k' r' t' l' e' a'
    · by_cases h3 : k = k'
      · by_cases h4 : 1 < k
        · exact ⟨h1, h2, h3, h4⟩
        · rw [und_low (by omega)] at h; cases h
      · rw [und_kind h3] at h; cases h
    · rw [und_badq h2] at h; cases h
  · rw [und_badp h1] at h; cases h
theorem und_trans {k r t l e a k' r' t' l' e' a' k2 r2 t2 l2 e2 a2 : Int} (h : undB k r t l e a k' r' t' l' e' a' = true) (h' : undB k' r' t' l' e' a' k2 r2 t2 l2 e2 a2 = true) : undB k r t l e a k2 r2 t2 l2 e2 a2 = true := by
  obtain ⟨g1, g2, g3, g4⟩ := und_fine h
  obtain ⟨_, g6, g7, _⟩ := und_fine h'
  subst g3
  subst g7
  unfold undB at h h' ⊢
  rw [rtB_yes g1, rtB_yes g2] at h
  rw [rtB_yes g2, rtB_yes g6] at h'
  rw [rtB_yes g1, rtB_yes g6]
  by_cases hk : k = 2
  · simp only [hk, if_true, Bool.true_and, Bool.and_eq_true, decide_eq_true_eq] at h h' ⊢
    exact ⟨⟨by simp, sub5_trans h.1.2 h'.1.2⟩, by omega, by omega⟩
  · simp only [hk, if_false, Bool.true_and, Bool.and_eq_true, decide_eq_true_eq] at h h' ⊢
    exact ⟨⟨⟨trivial, g4⟩, sub5_trans h.1.2 h'.1.2⟩, by omega⟩

theorem walk (a0k a0r a0t a0l a0e a0c : Int) (a1k a1r a1t a1l a1e a1c : Int) (a2k a2r a2t a2l a2e a2c : Int) (a3 : Int) (w : World) (w3 : (Lit.int .i64 a3).wf = true) (hT : TabM w) :
    Calls Tryd.prog 5 #[.agg #[.int .i64 a0k, .int .i64 a0r, .int .i64 a0t, .int .i64 a0l, .int .i64 a0e, .int .i64 a0c], .agg #[.int .i64 a1k, .int .i64 a1r, .int .i64 a1t, .int .i64 a1l, .int .i64 a1e, .int .i64 a1c], .agg #[.int .i64 a2k, .int .i64 a2r, .int .i64 a2t, .int .i64 a2l, .int .i64 a2e, .int .i64 a2c], .int .i64 a3] w fun e w' => e = .returned (.bool true) ∧ Below w.heap.size w w' := by
  have HI : Hid (∀ ty ty' ty2, Tri w (((w.alloc (.cells #[.int .i64 a0k, .int .i64 a0r, .int .i64 a0t, .int .i64 a0l, .int .i64 a0e, .int .i64 a0c] ty)).alloc (.cells #[.int .i64 a1k, .int .i64 a1r, .int .i64 a1t, .int .i64 a1l, .int .i64 a1e, .int .i64 a1c] ty')).alloc (.cells #[.int .i64 a2k, .int .i64 a2r, .int .i64 a2t, .int .i64 a2l, .int .i64 a2e, .int .i64 a2c] ty2)) a0k a0r a0t a0l a0e a0c a1k a1r a1t a1l a1e a1c a2k a2r a2t a2l a2e a2c) := fun ty ty' ty2 => tri_new w hT _ _ _ _ _ _ _ _ _ _ _ _ _ _ _ _ _ _ ty ty' ty2
  clear hT w3
  obtain ⟨ab, hab⟩ : ∃ b, b = undB a0k a0r a0t a0l a0e a0c a1k a1r a1t a1l a1e a1c := ⟨_, rfl⟩
  obtain ⟨bc, hbc⟩ : ∃ b, b = undB a1k a1r a1t a1l a1e a1c a2k a2r a2t a2l a2e a2c := ⟨_, rfl⟩
  replace hab := hab.symm
  replace hbc := hbc.symm
  by_cases hr : Rt a0k a0r a0t a0l a0e a0c
  case neg =>
    have hca : chk a0k a0r a0t a0l a0e a0c = 1 := chk_no hr
    cases ab
    case true => exact absurd (und_fine hab).1 hr
    case false =>
    clear hr
    go_enter Tryd.func5, Tryd.ntmps5
    go_wp2_with (first
      | (go_at_call 14; refine (weaken_any _ _ _ _ _ _ _ _).mono ?_; rintro e1 w1 ⟨rfl, hb1⟩; have HT1 : Hid (Tri w w1 a0k a0r a0t a0l a0e a0c a1k a1r a1t a1l a1e a1c a2k a2r a2t a2l a2e a2c) := tri_on (HI.out _ _ _) hb1; clear hb1 HI; have x0 := HT1.out.p.c0; have x1 := HT1.out.p.c1; have x2 := HT1.out.p.c2; have x3 := HT1.out.p.c3; have x4 := HT1.out.p.c4; have x5 := HT1.out.p.c5; have y0 := HT1.out.q.c0; have y1 := HT1.out.q.c1; have y2 := HT1.out.q.c2; have y3 := HT1.out.q.c3; have y4 := HT1.out.q.c4; have y5 := HT1.out.q.c5; have z0 := HT1.out.s.c0; have z1 := HT1.out.s.c1; have z2 := HT1.out.s.c2; have z3 := HT1.out.s.c3; have z4 := HT1.out.s.c4; have z5 := HT1.out.s.c5; have xl := HT1.out.p.lt; have yl := HT1.out.q.lt; have zl := HT1.out.s.lt)
      | (go_at_call 12; refine (check_any _ _ _ _ _ _ _ (HT1.out.tab.on (bal (Below.refl _ _) _))).mono ?_; rintro e2 w2 ⟨rfl, hb2⟩; (first | rw [hca] | rw [hab]); have HQ : Hid (Quad w w2 w1.heap.size a3 a0k a0r a0t a0l a0e a0c a1k a1r a1t a1l a1e a1c a2k a2r a2t a2l a2e a2c) := quad_new HT1.out hb2; clear hb2 HT1 xl yl zl x0 x1 x2 x3 x4 x5 y0 y1 y2 y3 y4 y5 z0 z1 z2 z3 z4 z5; have x0 := HQ.out.tri.p.c0; have x1 := HQ.out.tri.p.c1; have x2 := HQ.out.tri.p.c2; have x3 := HQ.out.tri.p.c3; have x4 := HQ.out.tri.p.c4; have x5 := HQ.out.tri.p.c5; have y0 := HQ.out.tri.q.c0; have y1 := HQ.out.tri.q.c1; have y2 := HQ.out.tri.q.c2; have y3 := HQ.out.tri.q.c3; have y4 := HQ.out.tri.q.c4; have y5 := HQ.out.tri.q.c5; have z0 := HQ.out.tri.s.c0; have z1 := HQ.out.tri.s.c1; have z2 := HQ.out.tri.s.c2; have z3 := HQ.out.tri.s.c3; have z4 := HQ.out.tri.s.c4; have z5 := HQ.out.tri.s.c5; have u0 := HQ.out.u.c0; have u1 := HQ.out.u.c1; have u2 := HQ.out.u.c2; have u3 := HQ.out.u.c3; have u4 := HQ.out.u.c4; have u5 := HQ.out.u.c5)
      | (go_at_call 12; refine (check_any _ _ _ _ _ _ _ (quad_tab HQ.out)).mono ?_; rintro e3 w3 ⟨rfl, hb3⟩; (first | rw [hca] | rw [hab]); have HQ3 : Hid (Quad w w3 w1.heap.size a3 a0k a0r a0t a0l a0e a0c a1k a1r a1t a1l a1e a1c a2k a2r a2t a2l a2e a2c) := quad_on HQ.out hb3; clear hb3 HQ x0 x1 x2 x3 x4 x5 y0 y1 y2 y3 y4 y5 z0 z1 z2 z3 z4 z5 u0 u1 u2 u3 u4 u5; have HQ := HQ3; clear HQ3; have x0 := HQ.out.tri.p.c0; have x1 := HQ.out.tri.p.c1; have x2 := HQ.out.tri.p.c2; have x3 := HQ.out.tri.p.c3; have x4 := HQ.out.tri.p.c4; have x5 := HQ.out.tri.p.c5; have y0 := HQ.out.tri.q.c0; have y1 := HQ.out.tri.q.c1; have y2 := HQ.out.tri.q.c2; have y3 := HQ.out.tri.q.c3; have y4 := HQ.out.tri.q.c4; have y5 := HQ.out.tri.q.c5; have z0 := HQ.out.tri.s.c0; have z1 := HQ.out.tri.s.c1; have z2 := HQ.out.tri.s.c2; have z3 := HQ.out.tri.s.c3; have z4 := HQ.out.tri.s.c4; have z5 := HQ.out.tri.s.c5; have u0 := HQ.out.u.c0; have u1 := HQ.out.u.c1; have u2 := HQ.out.u.c2; have u3 := HQ.out.u.c3; have u4 := HQ.out.u.c4; have u5 := HQ.out.u.c5)
      | (go_at_call 16; refine (under_any _ _ _ _ _ _ _ _ _ _ _ _ _ (quad_tab HQ.out)).mono ?_; rintro e3 w3 ⟨rfl, hb3⟩; (first | rw [hca] | rw [hab]); have HQ3 : Hid (Quad w w3 w1.heap.size a3 a0k a0r a0t a0l a0e a0c a1k a1r a1t a1l a1e a1c a2k a2r a2t a2l a2e a2c) := quad_on HQ.out hb3; clear hb3 HQ x0 x1 x2 x3 x4 x5 y0 y1 y2 y3 y4 y5 z0 z1 z2 z3 z4 z5 u0 u1 u2 u3 u4 u5; have HQ := HQ3; clear HQ3; have x0 := HQ.out.tri.p.c0; have x1 := HQ.out.tri.p.c1; have x2 := HQ.out.tri.p.c2; have x3 := HQ.out.tri.p.c3; have x4 := HQ.out.tri.p.c4; have x5 := HQ.out.tri.p.c5; have y0 := HQ.out.tri.q.c0; have y1 := HQ.out.tri.q.c1; have y2 := HQ.out.tri.q.c2; have y3 := HQ.out.tri.q.c3; have y4 := HQ.out.tri.q.c4; have y5 := HQ.out.tri.q.c5; have z0 := HQ.out.tri.s.c0; have z1 := HQ.out.tri.s.c1; have z2 := HQ.out.tri.s.c2; have z3 := HQ.out.tri.s.c3; have z4 := HQ.out.tri.s.c4; have z5 := HQ.out.tri.s.c5; have u0 := HQ.out.u.c0; have u1 := HQ.out.u.c1; have u2 := HQ.out.u.c2; have u3 := HQ.out.u.c3; have u4 := HQ.out.u.c4; have u5 := HQ.out.u.c5)
      | (go_at_call 20; refine (awake_any _).mono ?_; rintro e4 w4 ⟨rfl, hb4⟩; have H4 : Hid (Below w.heap.size w w4) := HQ.out.tri.below.trans (hb4.mono HQ.out.tri.below.size); clear hb4)
      | fail)
    go_ret
    exact ⟨rfl, H4.out⟩
  case pos =>
  have hca : chk a0k a0r a0t a0l a0e a0c = 0 := chk_yes hr
  by_cases hk : 1 < a0k
  case neg =>
    cases ab
    case true => exact absurd (und_fine hab).2.2.2 hk
    case false =>
    clear hr
    go_enter Tryd.func5, Tryd.ntmps5
    go_wp2_with (first
      | (go_at_call 14; refine (weaken_any _ _ _ _ _ _ _ _).mono ?_; rintro e1 w1 ⟨rfl, hb1⟩; have HT1 : Hid (Tri w w1 a0k a0r a0t a0l a0e a0c a1k a1r a1t a1l a1e a1c a2k a2r a2t a2l a2e a2c) := tri_on (HI.out _ _ _) hb1; clear hb1 HI; have x0 := HT1.out.p.c0; have x1 := HT1.out.p.c1; have x2 := HT1.out.p.c2; have x3 := HT1.out.p.c3; have x4 := HT1.out.p.c4; have x5 := HT1.out.p.c5; have y0 := HT1.out.q.c0; have y1 := HT1.out.q.c1; have y2 := HT1.out.q.c2; have y3 := HT1.out.q.c3; have y4 := HT1.out.q.c4; have y5 := HT1.out.q.c5; have z0 := HT1.out.s.c0; have z1 := HT1.out.s.c1; have z2 := HT1.out.s.c2; have z3 := HT1.out.s.c3; have z4 := HT1.out.s.c4; have z5 := HT1.out.s.c5; have xl := HT1.out.p.lt; have yl := HT1.out.q.lt; have zl := HT1.out.s.lt)
      | (go_at_call 12; refine (check_any _ _ _ _ _ _ _ (HT1.out.tab.on (bal (Below.refl _ _) _))).mono ?_; rintro e2 w2 ⟨rfl, hb2⟩; (first | rw [hca] | rw [hab]); have HQ : Hid (Quad w w2 w1.heap.size a3 a0k a0r a0t a0l a0e a0c a1k a1r a1t a1l a1e a1c a2k a2r a2t a2l a2e a2c) := quad_new HT1.out hb2; clear hb2 HT1 xl yl zl x0 x1 x2 x3 x4 x5 y0 y1 y2 y3 y4 y5 z0 z1 z2 z3 z4 z5; have x0 := HQ.out.tri.p.c0; have x1 := HQ.out.tri.p.c1; have x2 := HQ.out.tri.p.c2; have x3 := HQ.out.tri.p.c3; have x4 := HQ.out.tri.p.c4; have x5 := HQ.out.tri.p.c5; have y0 := HQ.out.tri.q.c0; have y1 := HQ.out.tri.q.c1; have y2 := HQ.out.tri.q.c2; have y3 := HQ.out.tri.q.c3; have y4 := HQ.out.tri.q.c4; have y5 := HQ.out.tri.q.c5; have z0 := HQ.out.tri.s.c0; have z1 := HQ.out.tri.s.c1; have z2 := HQ.out.tri.s.c2; have z3 := HQ.out.tri.s.c3; have z4 := HQ.out.tri.s.c4; have z5 := HQ.out.tri.s.c5; have u0 := HQ.out.u.c0; have u1 := HQ.out.u.c1; have u2 := HQ.out.u.c2; have u3 := HQ.out.u.c3; have u4 := HQ.out.u.c4; have u5 := HQ.out.u.c5)
      | (go_at_call 12; refine (check_any _ _ _ _ _ _ _ (quad_tab HQ.out)).mono ?_; rintro e3 w3 ⟨rfl, hb3⟩; (first | rw [hca] | rw [hab]); have HQ3 : Hid (Quad w w3 w1.heap.size a3 a0k a0r a0t a0l a0e a0c a1k a1r a1t a1l a1e a1c a2k a2r a2t a2l a2e a2c) := quad_on HQ.out hb3; clear hb3 HQ x0 x1 x2 x3 x4 x5 y0 y1 y2 y3 y4 y5 z0 z1 z2 z3 z4 z5 u0 u1 u2 u3 u4 u5; have HQ := HQ3; clear HQ3; have x0 := HQ.out.tri.p.c0; have x1 := HQ.out.tri.p.c1; have x2 := HQ.out.tri.p.c2; have x3 := HQ.out.tri.p.c3; have x4 := HQ.out.tri.p.c4; have x5 := HQ.out.tri.p.c5; have y0 := HQ.out.tri.q.c0; have y1 := HQ.out.tri.q.c1; have y2 := HQ.out.tri.q.c2; have y3 := HQ.out.tri.q.c3; have y4 := HQ.out.tri.q.c4; have y5 := HQ.out.tri.q.c5; have z0 := HQ.out.tri.s.c0; have z1 := HQ.out.tri.s.c1; have z2 := HQ.out.tri.s.c2; have z3 := HQ.out.tri.s.c3; have z4 := HQ.out.tri.s.c4; have z5 := HQ.out.tri.s.c5; have u0 := HQ.out.u.c0; have u1 := HQ.out.u.c1; have u2 := HQ.out.u.c2; have u3 := HQ.out.u.c3; have u4 := HQ.out.u.c4; have u5 := HQ.out.u.c5)
      | (go_at_call 16; refine (under_any _ _ _ _ _ _ _ _ _ _ _ _ _ (quad_tab HQ.out)).mono ?_; rintro e3 w3 ⟨rfl, hb3⟩; (first | rw [hca] | rw [hab]); have HQ3 : Hid (Quad w w3 w1.heap.size a3 a0k a0r a0t a0l a0e a0c a1k a1r a1t a1l a1e a1c a2k a2r a2t a2l a2e a2c) := quad_on HQ.out hb3; clear hb3 HQ x0 x1 x2 x3 x4 x5 y0 y1 y2 y3 y4 y5 z0 z1 z2 z3 z4 z5 u0 u1 u2 u3 u4 u5; have HQ := HQ3; clear HQ3; have x0 := HQ.out.tri.p.c0; have x1 := HQ.out.tri.p.c1; have x2 := HQ.out.tri.p.c2; have x3 := HQ.out.tri.p.c3; have x4 := HQ.out.tri.p.c4; have x5 := HQ.out.tri.p.c5; have y0 := HQ.out.tri.q.c0; have y1 := HQ.out.tri.q.c1; have y2 := HQ.out.tri.q.c2; have y3 := HQ.out.tri.q.c3; have y4 := HQ.out.tri.q.c4; have y5 := HQ.out.tri.q.c5; have z0 := HQ.out.tri.s.c0; have z1 := HQ.out.tri.s.c1; have z2 := HQ.out.tri.s.c2; have z3 := HQ.out.tri.s.c3; have z4 := HQ.out.tri.s.c4; have z5 := HQ.out.tri.s.c5; have u0 := HQ.out.u.c0; have u1 := HQ.out.u.c1; have u2 := HQ.out.u.c2; have u3 := HQ.out.u.c3; have u4 := HQ.out.u.c4; have u5 := HQ.out.u.c5)
      | (go_at_call 20; refine (awake_any _).mono ?_; rintro e4 w4 ⟨rfl, hb4⟩; have H4 : Hid (Below w.heap.size w w4) := HQ.out.tri.below.trans (hb4.mono HQ.out.tri.below.size); clear hb4)
      | fail)
    go_ret
    exact ⟨rfl, H4.out⟩
  case pos =>
  have haa : undB a0k a0r a0t a0l a0e a0c a0k a0r a0t a0l a0e a0c = true := und_self hr hk
  have hwa : undB a0k (bits .and .i64 a0r a3) a0t a0l a0e a0c a0k a0r a0t a0l a0e a0c = true := und_weak a3 hr hk
  cases ab
  case false =>
    clear hr
    go_enter Tryd.func5, Tryd.ntmps5
    go_wp2_with (first
      | (go_at_call 14; refine (weaken_any _ _ _ _ _ _ _ _).mono ?_; rintro e1 w1 ⟨rfl, hb1⟩; have HT1 : Hid (Tri w w1 a0k a0r a0t a0l a0e a0c a1k a1r a1t a1l a1e a1c a2k a2r a2t a2l a2e a2c) := tri_on (HI.out _ _ _) hb1; clear hb1 HI; have x0 := HT1.out.p.c0; have x1 := HT1.out.p.c1; have x2 := HT1.out.p.c2; have x3 := HT1.out.p.c3; have x4 := HT1.out.p.c4; have x5 := HT1.out.p.c5; have y0 := HT1.out.q.c0; have y1 := HT1.out.q.c1; have y2 := HT1.out.q.c2; have y3 := HT1.out.q.c3; have y4 := HT1.out.q.c4; have y5 := HT1.out.q.c5; have z0 := HT1.out.s.c0; have z1 := HT1.out.s.c1; have z2 := HT1.out.s.c2; have z3 := HT1.out.s.c3; have z4 := HT1.out.s.c4; have z5 := HT1.out.s.c5; have xl := HT1.out.p.lt; have yl := HT1.out.q.lt; have zl := HT1.out.s.lt)
      | (go_at_call 12; refine (check_any _ _ _ _ _ _ _ (HT1.out.tab.on (bal (Below.refl _ _) _))).mono ?_; rintro e2 w2 ⟨rfl, hb2⟩; (first | rw [hwa] | rw [haa] | rw [hca] | rw [hab]); have HQ : Hid (Quad w w2 w1.heap.size a3 a0k a0r a0t a0l a0e a0c a1k a1r a1t a1l a1e a1c a2k a2r a2t a2l a2e a2c) := quad_new HT1.out hb2; clear hb2 HT1 xl yl zl x0 x1 x2 x3 x4 x5 y0 y1 y2 y3 y4 y5 z0 z1 z2 z3 z4 z5; have x0 := HQ.out.tri.p.c0; have x1 := HQ.out.tri.p.c1; have x2 := HQ.out.tri.p.c2; have x3 := HQ.out.tri.p.c3; have x4 := HQ.out.tri.p.c4; have x5 := HQ.out.tri.p.c5; have y0 := HQ.out.tri.q.c0; have y1 := HQ.out.tri.q.c1; have y2 := HQ.out.tri.q.c2; have y3 := HQ.out.tri.q.c3; have y4 := HQ.out.tri.q.c4; have y5 := HQ.out.tri.q.c5; have z0 := HQ.out.tri.s.c0; have z1 := HQ.out.tri.s.c1; have z2 := HQ.out.tri.s.c2; have z3 := HQ.out.tri.s.c3; have z4 := HQ.out.tri.s.c4; have z5 := HQ.out.tri.s.c5; have u0 := HQ.out.u.c0; have u1 := HQ.out.u.c1; have u2 := HQ.out.u.c2; have u3 := HQ.out.u.c3; have u4 := HQ.out.u.c4; have u5 := HQ.out.u.c5)
      | (go_at_call 12; refine (check_any _ _ _ _ _ _ _ (quad_tab HQ.out)).mono ?_; rintro e3 w3 ⟨rfl, hb3⟩; (first | rw [hwa] | rw [haa] | rw [hca] | rw [hab]); have HQ3 : Hid (Quad w w3 w1.heap.size a3 a0k a0r a0t a0l a0e a0c a1k a1r a1t a1l a1e a1c a2k a2r a2t a2l a2e a2c) := quad_on HQ.out hb3; clear hb3 HQ x0 x1 x2 x3 x4 x5 y0 y1 y2 y3 y4 y5 z0 z1 z2 z3 z4 z5 u0 u1 u2 u3 u4 u5; have HQ := HQ3; clear HQ3; have x0 := HQ.out.tri.p.c0; have x1 := HQ.out.tri.p.c1; have x2 := HQ.out.tri.p.c2; have x3 := HQ.out.tri.p.c3; have x4 := HQ.out.tri.p.c4; have x5 := HQ.out.tri.p.c5; have y0 := HQ.out.tri.q.c0; have y1 := HQ.out.tri.q.c1; have y2 := HQ.out.tri.q.c2; have y3 := HQ.out.tri.q.c3; have y4 := HQ.out.tri.q.c4; have y5 := HQ.out.tri.q.c5; have z0 := HQ.out.tri.s.c0; have z1 := HQ.out.tri.s.c1; have z2 := HQ.out.tri.s.c2; have z3 := HQ.out.tri.s.c3; have z4 := HQ.out.tri.s.c4; have z5 := HQ.out.tri.s.c5; have u0 := HQ.out.u.c0; have u1 := HQ.out.u.c1; have u2 := HQ.out.u.c2; have u3 := HQ.out.u.c3; have u4 := HQ.out.u.c4; have u5 := HQ.out.u.c5)
      | (go_at_call 16; refine (under_any _ _ _ _ _ _ _ _ _ _ _ _ _ (quad_tab HQ.out)).mono ?_; rintro e3 w3 ⟨rfl, hb3⟩; (first | rw [hwa] | rw [haa] | rw [hca] | rw [hab]); have HQ3 : Hid (Quad w w3 w1.heap.size a3 a0k a0r a0t a0l a0e a0c a1k a1r a1t a1l a1e a1c a2k a2r a2t a2l a2e a2c) := quad_on HQ.out hb3; clear hb3 HQ x0 x1 x2 x3 x4 x5 y0 y1 y2 y3 y4 y5 z0 z1 z2 z3 z4 z5 u0 u1 u2 u3 u4 u5; have HQ := HQ3; clear HQ3; have x0 := HQ.out.tri.p.c0; have x1 := HQ.out.tri.p.c1; have x2 := HQ.out.tri.p.c2; have x3 := HQ.out.tri.p.c3; have x4 := HQ.out.tri.p.c4; have x5 := HQ.out.tri.p.c5; have y0 := HQ.out.tri.q.c0; have y1 := HQ.out.tri.q.c1; have y2 := HQ.out.tri.q.c2; have y3 := HQ.out.tri.q.c3; have y4 := HQ.out.tri.q.c4; have y5 := HQ.out.tri.q.c5; have z0 := HQ.out.tri.s.c0; have z1 := HQ.out.tri.s.c1; have z2 := HQ.out.tri.s.c2; have z3 := HQ.out.tri.s.c3; have z4 := HQ.out.tri.s.c4; have z5 := HQ.out.tri.s.c5; have u0 := HQ.out.u.c0; have u1 := HQ.out.u.c1; have u2 := HQ.out.u.c2; have u3 := HQ.out.u.c3; have u4 := HQ.out.u.c4; have u5 := HQ.out.u.c5)
      | (go_at_call 20; refine (awake_any _).mono ?_; rintro e4 w4 ⟨rfl, hb4⟩; have H4 : Hid (Below w.heap.size w w4) := HQ.out.tri.below.trans (hb4.mono HQ.out.tri.below.size); clear hb4)
      | fail)
    go_ret
    exact ⟨rfl, H4.out⟩
  case true =>
  obtain ⟨_, g2, g3, _⟩ := und_fine hab
  have hcb : chk a1k a1r a1t a1l a1e a1c = 0 := chk_yes g2
  cases bc
  case false =>
    clear hr g2
    subst g3
    go_enter Tryd.func5, Tryd.ntmps5
    go_wp2_with (first
      | (go_at_call 14; refine (weaken_any _ _ _ _ _ _ _ _).mono ?_; rintro e1 w1 ⟨rfl, hb1⟩; have HT1 : Hid (Tri w w1 a0k a0r a0t a0l a0e a0c a0k a1r a1t a1l a1e a1c a2k a2r a2t a2l a2e a2c) := tri_on (HI.out _ _ _) hb1; clear hb1 HI; have x0 := HT1.out.p.c0; have x1 := HT1.out.p.c1; have x2 := HT1.out.p.c2; have x3 := HT1.out.p.c3; have x4 := HT1.out.p.c4; have x5 := HT1.out.p.c5; have y0 := HT1.out.q.c0; have y1 := HT1.out.q.c1; have y2 := HT1.out.q.c2; have y3 := HT1.out.q.c3; have y4 := HT1.out.q.c4; have y5 := HT1.out.q.c5; have z0 := HT1.out.s.c0; have z1 := HT1.out.s.c1; have z2 := HT1.out.s.c2; have z3 := HT1.out.s.c3; have z4 := HT1.out.s.c4; have z5 := HT1.out.s.c5; have xl := HT1.out.p.lt; have yl := HT1.out.q.lt; have zl := HT1.out.s.lt)
      | (go_at_call 12; refine (check_any _ _ _ _ _ _ _ (HT1.out.tab.on (bal (Below.refl _ _) _))).mono ?_; rintro e2 w2 ⟨rfl, hb2⟩; (first | rw [hwa] | rw [haa] | rw [hca] | rw [hab] | rw [hbc] | rw [hcb]); have HQ : Hid (Quad w w2 w1.heap.size a3 a0k a0r a0t a0l a0e a0c a0k a1r a1t a1l a1e a1c a2k a2r a2t a2l a2e a2c) := quad_new HT1.out hb2; clear hb2 HT1 xl yl zl x0 x1 x2 x3 x4 x5 y0 y1 y2 y3 y4 y5 z0 z1 z2 z3 z4 z5; have x0 := HQ.out.tri.p.c0; have x1 := HQ.out.tri.p.c1; have x2 := HQ.out.tri.p.c2; have x3 := HQ.out.tri.p.c3; have x4 := HQ.out.tri.p.c4; have x5 := HQ.out.tri.p.c5; have y0 := HQ.out.tri.q.c0; have y1 := HQ.out.tri.q.c1; have y2 := HQ.out.tri.q.c2; have y3 := HQ.out.tri.q.c3; have y4 := HQ.out.tri.q.c4; have y5 := HQ.out.tri.q.c5; have z0 := HQ.out.tri.s.c0; have z1 := HQ.out.tri.s.c1; have z2 := HQ.out.tri.s.c2; have z3 := HQ.out.tri.s.c3; have z4 := HQ.out.tri.s.c4; have z5 := HQ.out.tri.s.c5; have u0 := HQ.out.u.c0; have u1 := HQ.out.u.c1; have u2 := HQ.out.u.c2; have u3 := HQ.out.u.c3; have u4 := HQ.out.u.c4; have u5 := HQ.out.u.c5)
      | (go_at_call 12; refine (check_any _ _ _ _ _ _ _ (quad_tab HQ.out)).mono ?_; rintro e3 w3 ⟨rfl, hb3⟩; (first | rw [hwa] | rw [haa] | rw [hca] | rw [hab] | rw [hbc] | rw [hcb]); have HQ3 : Hid (Quad w w3 w1.heap.size a3 a0k a0r a0t a0l a0e a0c a0k a1r a1t a1l a1e a1c a2k a2r a2t a2l a2e a2c) := quad_on HQ.out hb3; clear hb3 HQ x0 x1 x2 x3 x4 x5 y0 y1 y2 y3 y4 y5 z0 z1 z2 z3 z4 z5 u0 u1 u2 u3 u4 u5; have HQ := HQ3; clear HQ3; have x0 := HQ.out.tri.p.c0; have x1 := HQ.out.tri.p.c1; have x2 := HQ.out.tri.p.c2; have x3 := HQ.out.tri.p.c3; have x4 := HQ.out.tri.p.c4; have x5 := HQ.out.tri.p.c5; have y0 := HQ.out.tri.q.c0; have y1 := HQ.out.tri.q.c1; have y2 := HQ.out.tri.q.c2; have y3 := HQ.out.tri.q.c3; have y4 := HQ.out.tri.q.c4; have y5 := HQ.out.tri.q.c5; have z0 := HQ.out.tri.s.c0; have z1 := HQ.out.tri.s.c1; have z2 := HQ.out.tri.s.c2; have z3 := HQ.out.tri.s.c3; have z4 := HQ.out.tri.s.c4; have z5 := HQ.out.tri.s.c5; have u0 := HQ.out.u.c0; have u1 := HQ.out.u.c1; have u2 := HQ.out.u.c2; have u3 := HQ.out.u.c3; have u4 := HQ.out.u.c4; have u5 := HQ.out.u.c5)
      | (go_at_call 16; refine (under_any _ _ _ _ _ _ _ _ _ _ _ _ _ (quad_tab HQ.out)).mono ?_; rintro e3 w3 ⟨rfl, hb3⟩; (first | rw [hwa] | rw [haa] | rw [hca] | rw [hab] | rw [hbc] | rw [hcb]); have HQ3 : Hid (Quad w w3 w1.heap.size a3 a0k a0r a0t a0l a0e a0c a0k a1r a1t a1l a1e a1c a2k a2r a2t a2l a2e a2c) := quad_on HQ.out hb3; clear hb3 HQ x0 x1 x2 x3 x4 x5 y0 y1 y2 y3 y4 y5 z0 z1 z2 z3 z4 z5 u0 u1 u2 u3 u4 u5; have HQ := HQ3; clear HQ3; have x0 := HQ.out.tri.p.c0; have x1 := HQ.out.tri.p.c1; have x2 := HQ.out.tri.p.c2; have x3 := HQ.out.tri.p.c3; have x4 := HQ.out.tri.p.c4; have x5 := HQ.out.tri.p.c5; have y0 := HQ.out.tri.q.c0; have y1 := HQ.out.tri.q.c1; have y2 := HQ.out.tri.q.c2; have y3 := HQ.out.tri.q.c3; have y4 := HQ.out.tri.q.c4; have y5 := HQ.out.tri.q.c5; have z0 := HQ.out.tri.s.c0; have z1 := HQ.out.tri.s.c1; have z2 := HQ.out.tri.s.c2; have z3 := HQ.out.tri.s.c3; have z4 := HQ.out.tri.s.c4; have z5 := HQ.out.tri.s.c5; have u0 := HQ.out.u.c0; have u1 := HQ.out.u.c1; have u2 := HQ.out.u.c2; have u3 := HQ.out.u.c3; have u4 := HQ.out.u.c4; have u5 := HQ.out.u.c5)
      | (go_at_call 20; refine (awake_any _).mono ?_; rintro e4 w4 ⟨rfl, hb4⟩; have H4 : Hid (Below w.heap.size w w4) := HQ.out.tri.below.trans (hb4.mono HQ.out.tri.below.size); clear hb4)
      | fail)
    go_ret
    exact ⟨rfl, H4.out⟩
  case true =>
    have hac : undB a0k a0r a0t a0l a0e a0c a2k a2r a2t a2l a2e a2c = true := und_trans hab hbc
    clear hr g2
    subst g3
    go_enter Tryd.func5, Tryd.ntmps5
    go_wp2_with (first
      | (go_at_call 14; refine (weaken_any _ _ _ _ _ _ _ _).mono ?_; rintro e1 w1 ⟨rfl, hb1⟩; have HT1 : Hid (Tri w w1 a0k a0r a0t a0l a0e a0c a0k a1r a1t a1l a1e a1c a2k a2r a2t a2l a2e a2c) := tri_on (HI.out _ _ _) hb1; clear hb1 HI; have x0 := HT1.out.p.c0; have x1 := HT1.out.p.c1; have x2 := HT1.out.p.c2; have x3 := HT1.out.p.c3; have x4 := HT1.out.p.c4; have x5 := HT1.out.p.c5; have y0 := HT1.out.q.c0; have y1 := HT1.out.q.c1; have y2 := HT1.out.q.c2; have y3 := HT1.out.q.c3; have y4 := HT1.out.q.c4; have y5 := HT1.out.q.c5; have z0 := HT1.out.s.c0; have z1 := HT1.out.s.c1; have z2 := HT1.out.s.c2; have z3 := HT1.out.s.c3; have z4 := HT1.out.s.c4; have z5 := HT1.out.s.c5; have xl := HT1.out.p.lt; have yl := HT1.out.q.lt; have zl := HT1.out.s.lt)
      | (go_at_call 12; refine (check_any _ _ _ _ _ _ _ (HT1.out.tab.on (bal (Below.refl _ _) _))).mono ?_; rintro e2 w2 ⟨rfl, hb2⟩; (first | rw [hwa] | rw [haa] | rw [hca] | rw [hab] | rw [hbc] | rw [hac] | rw [hcb]); have HQ : Hid (Quad w w2 w1.heap.size a3 a0k a0r a0t a0l a0e a0c a0k a1r a1t a1l a1e a1c a2k a2r a2t a2l a2e a2c) := quad_new HT1.out hb2; clear hb2 HT1 xl yl zl x0 x1 x2 x3 x4 x5 y0 y1 y2 y3 y4 y5 z0 z1 z2 z3 z4 z5; have x0 := HQ.out.tri.p.c0; have x1 := HQ.out.tri.p.c1; have x2 := HQ.out.tri.p.c2; have x3 := HQ.out.tri.p.c3; have x4 := HQ.out.tri.p.c4; have x5 := HQ.out.tri.p.c5; have y0 := HQ.out.tri.q.c0; have y1 := HQ.out.tri.q.c1; have y2 := HQ.out.tri.q.c2; have y3 := HQ.out.tri.q.c3; have y4 := HQ.out.tri.q.c4; have y5 := HQ.out.tri.q.c5; have z0 := HQ.out.tri.s.c0; have z1 := HQ.out.tri.s.c1; have z2 := HQ.out.tri.s.c2; have z3 := HQ.out.tri.s.c3; have z4 := HQ.out.tri.s.c4; have z5 := HQ.out.tri.s.c5; have u0 := HQ.out.u.c0; have u1 := HQ.out.u.c1; have u2 := HQ.out.u.c2; have u3 := HQ.out.u.c3; have u4 := HQ.out.u.c4; have u5 := HQ.out.u.c5)
      | (go_at_call 12; refine (check_any _ _ _ _ _ _ _ (quad_tab HQ.out)).mono ?_; rintro e3 w3 ⟨rfl, hb3⟩; (first | rw [hwa] | rw [haa] | rw [hca] | rw [hab] | rw [hbc] | rw [hac] | rw [hcb]); have HQ3 : Hid (Quad w w3 w1.heap.size a3 a0k a0r a0t a0l a0e a0c a0k a1r a1t a1l a1e a1c a2k a2r a2t a2l a2e a2c) := quad_on HQ.out hb3; clear hb3 HQ x0 x1 x2 x3 x4 x5 y0 y1 y2 y3 y4 y5 z0 z1 z2 z3 z4 z5 u0 u1 u2 u3 u4 u5; have HQ := HQ3; clear HQ3; have x0 := HQ.out.tri.p.c0; have x1 := HQ.out.tri.p.c1; have x2 := HQ.out.tri.p.c2; have x3 := HQ.out.tri.p.c3; have x4 := HQ.out.tri.p.c4; have x5 := HQ.out.tri.p.c5; have y0 := HQ.out.tri.q.c0; have y1 := HQ.out.tri.q.c1; have y2 := HQ.out.tri.q.c2; have y3 := HQ.out.tri.q.c3; have y4 := HQ.out.tri.q.c4; have y5 := HQ.out.tri.q.c5; have z0 := HQ.out.tri.s.c0; have z1 := HQ.out.tri.s.c1; have z2 := HQ.out.tri.s.c2; have z3 := HQ.out.tri.s.c3; have z4 := HQ.out.tri.s.c4; have z5 := HQ.out.tri.s.c5; have u0 := HQ.out.u.c0; have u1 := HQ.out.u.c1; have u2 := HQ.out.u.c2; have u3 := HQ.out.u.c3; have u4 := HQ.out.u.c4; have u5 := HQ.out.u.c5)
      | (go_at_call 16; refine (under_any _ _ _ _ _ _ _ _ _ _ _ _ _ (quad_tab HQ.out)).mono ?_; rintro e3 w3 ⟨rfl, hb3⟩; (first | rw [hwa] | rw [haa] | rw [hca] | rw [hab] | rw [hbc] | rw [hac] | rw [hcb]); have HQ3 : Hid (Quad w w3 w1.heap.size a3 a0k a0r a0t a0l a0e a0c a0k a1r a1t a1l a1e a1c a2k a2r a2t a2l a2e a2c) := quad_on HQ.out hb3; clear hb3 HQ x0 x1 x2 x3 x4 x5 y0 y1 y2 y3 y4 y5 z0 z1 z2 z3 z4 z5 u0 u1 u2 u3 u4 u5; have HQ := HQ3; clear HQ3; have x0 := HQ.out.tri.p.c0; have x1 := HQ.out.tri.p.c1; have x2 := HQ.out.tri.p.c2; have x3 := HQ.out.tri.p.c3; have x4 := HQ.out.tri.p.c4; have x5 := HQ.out.tri.p.c5; have y0 := HQ.out.tri.q.c0; have y1 := HQ.out.tri.q.c1; have y2 := HQ.out.tri.q.c2; have y3 := HQ.out.tri.q.c3; have y4 := HQ.out.tri.q.c4; have y5 := HQ.out.tri.q.c5; have z0 := HQ.out.tri.s.c0; have z1 := HQ.out.tri.s.c1; have z2 := HQ.out.tri.s.c2; have z3 := HQ.out.tri.s.c3; have z4 := HQ.out.tri.s.c4; have z5 := HQ.out.tri.s.c5; have u0 := HQ.out.u.c0; have u1 := HQ.out.u.c1; have u2 := HQ.out.u.c2; have u3 := HQ.out.u.c3; have u4 := HQ.out.u.c4; have u5 := HQ.out.u.c5)
      | (go_at_call 20; refine (awake_any _).mono ?_; rintro e4 w4 ⟨rfl, hb4⟩; have H4 : Hid (Below w.heap.size w w4) := HQ.out.tri.below.trans (hb4.mono HQ.out.tri.below.size); clear hb4)
      | fail)
    go_ret
    exact ⟨rfl, H4.out⟩

/-! ### The statement's frame -/
/-- The heap that the program's own initialisers leave meets the condition. -/
theorem door_met (os : Os) (args : Array Value) : laidMetH Tryd.prog Rows.capUnderRow.laid ((World.doorLaid Tryd.prog 400 os).forCall (fun _ _ => 0) ⟨#[], args, []⟩).memory :=
  laidMetH_of_parts3 (fuel := 8) (laidMet_of_run' 8 (by kernel_rfl) (by kernel_rfl)) (by kernel_rfl) (by kernel_rfl)
set_option maxRecDepth 100000 in
theorem lifted (os : Os) (started : os.Started) (H : Type) (enc : TypeId × Value → H) :
    ReturnsInHanded {} Tryd.checked os 5 .any (fun w args => (Rows.capUnderSpec.pre enc Tryd.prog Tryd.f5 [] false w args ∧ laidMetH Tryd.prog Rows.capUnderRow.laid w) ∧ sizedMet enc Tryd.prog Tryd.f5 (OpenSpec.ofChange Rows.capUnderSpec) false w args) (Rows.capUnderSpec.post enc Tryd.prog Tryd.f5 false true false false) := by
  refine returnsInHanded_of_change_and (C := Tryd.checked) (X := fun w _ => laidMetH Tryd.prog Rows.capUnderRow.laid w) (fun _ _ _ hh h => h.of_heap hh) own started (by kernel_rfl) Tryd.func5
    (ChangeSpec.witness_shaped (enc := enc) (C := Tryd.checked) (os := os) (X := fun w _ => laidMetH Tryd.prog Rows.capUnderRow.laid w) false (World.doorLaid Tryd.prog 400 os) #[.agg #[.int .i64 0, .int .i64 0, .int .i64 0, .int .i64 0, .int .i64 0, .int .i64 0], .agg #[.int .i64 0, .int .i64 0, .int .i64 0, .int .i64 0, .int .i64 0, .int .i64 0], .agg #[.int .i64 0, .int .i64 0, .int .i64 0, .int .i64 0, .int .i64 0, .int .i64 0], .int .i64 0] 8 rfl (World.shaped_of_RefB (by kernel_rfl) (by kernel_rfl)) (by kernel_rfl) (by kernel_rfl) (by kernel_rfl) (door_met os _)) ?_
  intro W base args ds gs before hval0 hW _ _ hL _
  have hval : ∀ (j : Nat) t v, Tryd.f5.params[j]? = some t → args[j]? = some v → Value.okWide Tryd.prog W .any base t v := hval0
  have hW' := hW
  obtain ⟨p, q, hA0, hV, rfl, hfz, hnd⟩ := hW
  have hA : DataW.TrodAll enc Tryd.prog W 0 (fun _ => true) true Tryd.f5.params.toList args.toList ds p := hA0
  rw [Tryd.params5] at hA hval
  obtain ⟨v0, vs0, d0, ds0, p0, q0, hargs, rfl, rfl, h0, r0⟩ := trodAll_cons hA
  obtain ⟨v1, vs1, d1, ds1, p1, q1, rfl, rfl, rfl, h1, r1⟩ := trodAll_cons r0
  obtain ⟨v2, vs2, d2, ds2, p2, q2, rfl, rfl, rfl, h2, r2⟩ := trodAll_cons r1
  obtain ⟨v3, vs3, d3, ds3, p3, q3, rfl, rfl, rfl, h3, r3⟩ := trodAll_cons r2
  obtain ⟨rfl, rfl, rfl⟩ := trodAll_nil r3
  obtain rfl : args = #[v0, v1, v2, v3] := by cases args; simp_all
  obtain ⟨rfl, rfl⟩ := trodVars_none hV
  have k0 := h0
  have lt0 : ∀ x ∈ p0, x.block < W.heap.size := by obtain ⟨m, hm⟩ := k0; exact DataW.trod_lt m _ _ _ hm
  obtain ⟨a0k, a0r, a0t, a0l, a0e, a0c, rfl⟩ := cap_val (hval 0 23 v0 rfl rfl) h0
  have k1 := h1
  have lt1 : ∀ x ∈ p1, x.block < W.heap.size := by obtain ⟨m, hm⟩ := k1; exact DataW.trod_lt m _ _ _ hm
  obtain ⟨a1k, a1r, a1t, a1l, a1e, a1c, rfl⟩ := cap_val (hval 1 23 v1 rfl rfl) h1
  have k2 := h2
  have lt2 : ∀ x ∈ p2, x.block < W.heap.size := by obtain ⟨m, hm⟩ := k2; exact DataW.trod_lt m _ _ _ hm
  obtain ⟨a2k, a2r, a2t, a2l, a2e, a2c, rfl⟩ := cap_val (hval 2 23 v2 rfl rfl) h2
  obtain ⟨a3, rfl, rfl, rfl, w3⟩ := open_int Tryd.underlying3 (hval 3 3 v3 rfl rfl) h3
  clear hA0 hval0
  refine (walk a0k a0r a0t a0l a0e a0c a1k a1r a1t a1l a1e a1c a2k a2r a2t a2l a2e a2c a3 W w3 (of_laid1 hL)).mono fun e W' ⟨he, bel⟩ => ?_
  subst he
  exact ⟨_, rfl, _, _, _, [], _, [], hW', trodAll_mk1 (shut_bool Tryd.underlying4 _), (trodAll_cons_mk (Below.trod laidOut (by kernel_rfl) (of_decide_eq_true (by kernel_rfl)) k0 bel lt0) (trodAll_cons_mk (Below.trod laidOut (by kernel_rfl) (of_decide_eq_true (by kernel_rfl)) k1 bel lt1) (trodAll_cons_mk (Below.trod laidOut (by kernel_rfl) (of_decide_eq_true (by kernel_rfl)) k2 bel lt2) (trodAll_cons_mk (shut_int Tryd.underlying3 w3) trodAll_mk0)))), rfl, bel.frame _, fun h => by cases h⟩

theorem over : Rows.capUnderRow.holds Tryd.pinned (OpenSpec.ofChange Rows.capUnderSpec) :=
  OpenClaim.holds_of_wide 5 Tryd.f5 rfl rfl rfl rfl rfl rfl rfl ⟨rfl, rfl, rfl, rfl, rfl⟩ rfl rfl rfl rfl rfl (by kernel_rfl) Tryd.func5 (by kernel_rfl)
    (of_decide_eq_true (by kernel_rfl)) (by unfold Func.isWrapper; first | (rw [if_pos (by decide +kernel)]; kernel_rfl) | (rw [if_neg (by decide +kernel)]; exact ⟨rfl, rfl⟩))
    (fun os started H enc _ => lifted os started H enc)

theorem proved : Rows.CapUnderCardSaid :=
  Claim7.holds_tied_plain_at .later [] [.data] true (true, "d5f88be2eaf5d1560f58489bfb54e48e94ffe99f7f0f18d7c6c9b7a1f5d33d37") false
    over (fun _ h => by cases h) (by kernel_rfl) (fun _ h => by cases h) capUnder_row_tie rfl ⟨rfl, rfl⟩ (by kernel_rfl) rfl
    (fun g fn hf hfn => by
      obtain rfl : g = 5 := Option.some.inj ((show Tryd.prog.funcNamed Rows.capUnderRow.func = some 5 by kernel_rfl).symm.trans hf) |>.symm
      obtain rfl : fn = Tryd.f5 := (Option.some.inj (Tryd.func5.symm.trans hfn)).symm
      exact ⟨by kernel_rfl, fun j t ht => by
        rw [Tryd.params5] at ht
        have hm : t ∈ [23, 23, 23, 3] := by simpa using Array.mem_of_getElem? ht
        have hall : ([23, 23, 23, 3].all fun u => !Tryd.prog.wantsStandIn u) = true := by kernel_rfl
        exact (show Tryd.prog.wantsStandIn t = false by simpa using List.all_eq_true.1 hall t hm)⟩)
    (by kernel_rfl)
end Go.Proofs.YtdednjeofolleaaDoor.capUnder
namespace Go.Proofs.YtdednjeofolleaaDoor
theorem capUnder_holds : Rows.CapUnderCardSaid := capUnder.proved
#print axioms capUnder_holds
end Go.Proofs.YtdednjeofolleaaDoor
