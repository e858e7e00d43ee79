/- What Under of package cap answers, for every argument that its types allow. -/
import Derived.Test.YtdednjeofolleaaDoorCapA
namespace Go.Proofs.YtdednjeofolleaaDoor
open Go.RowKit M
set_option linter.unusedVariables false

/-- A capability in a block. -/
structure Box6 (w : World) (B : Nat) (k r t l e a : Int) : Prop where
  lt : B < w.heap.size
  c0 : w.cell? ⟨B, 0, none⟩ = some (.int .i64 k)
  c1 : w.cell? ⟨B, 1, none⟩ = some (.int .i64 r)
  c2 : w.cell? ⟨B, 2, none⟩ = some (.int .i64 t)
  c3 : w.cell? ⟨B, 3, none⟩ = some (.int .i64 l)
  c4 : w.cell? ⟨B, 4, none⟩ = some (.int .i64 e)
  c5 : w.cell? ⟨B, 5, none⟩ = some (.int .i64 a)
  fz : ∀ j, w.frozen? ⟨B, j, none⟩ = false
theorem Box6.on {w w' : World} {B : Nat} {k r t l e a : Int} (h : Box6 w B k r t l e a) (hB : Below w.heap.size w w') : Box6 w' B k r t l e a :=
  ⟨Nat.lt_of_lt_of_le h.lt hB.size, (hB.cell (p := ⟨B, 0, none⟩) h.lt).trans h.c0, (hB.cell (p := ⟨B, 1, none⟩) h.lt).trans h.c1, (hB.cell (p := ⟨B, 2, none⟩) h.lt).trans h.c2, (hB.cell (p := ⟨B, 3, none⟩) h.lt).trans h.c3, (hB.cell (p := ⟨B, 4, none⟩) h.lt).trans h.c4, (hB.cell (p := ⟨B, 5, none⟩) h.lt).trans h.c5, fun j => (hB.frozen (p := ⟨B, j, none⟩) h.lt).trans (h.fz j)⟩
theorem box6_new (w : World) (k r t l e a : Int) (ty : TypeId) : Box6 (w.alloc (.cells #[.int .i64 k, .int .i64 r, .int .i64 t, .int .i64 l, .int .i64 e, .int .i64 a] ty)) w.heap.size k r t l e a := by
  have h := heap_alloc_new w (.cells #[.int .i64 k, .int .i64 r, .int .i64 t, .int .i64 l, .int .i64 e, .int .i64 a] ty)
  refine ⟨by simp, ?_, ?_, ?_, ?_, ?_, ?_, fun j => frozen_of_row _ _ _ _ _ h⟩ <;> (rw [cell_of_row _ _ _ _ _ _ h]; rfl)
/-- Two capabilities in two blocks of the call's own. -/
structure Pair (w0 w : World) (k r t l e a k' r' t' l' e' a' : Int) : Prop where
  tab : TabM w
  below : Below w0.heap.size w0 w
  p : Box6 w w0.heap.size k r t l e a
  q : Box6 w (w0.heap.size + 1) k' r' t' l' e' a'
theorem Pair.on {w0 w w' : World} {k r t l e a k' r' t' l' e' a' : Int} (h : Pair w0 w k r t l e a k' r' t' l' e' a') (hB : Below w.heap.size w w') : Pair w0 w' k r t l e a k' r' t' l' e' a' :=
  ⟨h.tab.on hB, h.below.trans (hB.mono h.below.size), h.p.on hB, h.q.on hB⟩
theorem pair_new (w : World) (hT : TabM w) (k r t l e a k' r' t' l' e' a' : Int) (ty ty' : TypeId) :
    Pair w ((w.alloc (.cells #[.int .i64 k, .int .i64 r, .int .i64 t, .int .i64 l, .int .i64 e, .int .i64 a] ty)).alloc (.cells #[.int .i64 k', .int .i64 r', .int .i64 t', .int .i64 l', .int .i64 e', .int .i64 a'] ty')) k r t l e a k' r' t' l' e' a' := by
  have B1 := bal (Below.refl w.heap.size w) (.cells #[.int .i64 k, .int .i64 r, .int .i64 t, .int .i64 l, .int .i64 e, .int .i64 a] ty)
  have B2 := bal B1 (.cells #[.int .i64 k', .int .i64 r', .int .i64 t', .int .i64 l', .int .i64 e', .int .i64 a'] ty')
  have q := box6_new (w.alloc (.cells #[.int .i64 k, .int .i64 r, .int .i64 t, .int .i64 l, .int .i64 e, .int .i64 a] ty)) k' r' t' l' e' a' ty'
  rw [World.size_alloc] at q
  exact ⟨hT.on B2, B2, (box6_new w k r t l e a ty).on (bal (Below.refl _ _) _), q⟩
theorem und_badp {k r t l e a k' r' t' l' e' a' : Int} (h : ¬ Rt k r t l e a) : undB k r t l e a k' r' t' l' e' a' = false := by simp [undB, rtB_no h]
theorem und_badq {k r t l e a k' r' t' l' e' a' : Int} (h : ¬ Rt k' r' t' l' e' a') : undB k r t l e a k' r' t' l' e' a' = false := by simp [undB, rtB_no h]
theorem und_kind {k r t l e a k' r' t' l' e' a' : Int} (h : k ≠ k') : undB k r t l e a k' r' t' l' e' a' = false := by simp [undB, h]
theorem und_low {k r t l e a k' r' t' l' e' a' : Int} (h : k ≤ 1) : undB k r t l e a k' r' t' l' e' a' = false := by simp [undB, show ¬ 1 < k by omega]
theorem und_rights {k r t l e a k' r' t' l' e' a' : Int} (h : sub5 r r' = false) : undB k r t l e a k' r' t' l' e' a' = false := by simp [undB, h]
theorem und_mem {r t l e a r' t' l' e' a' : Int} (h1 : Rt 2 r t l e a) (h2 : Rt 2 r' t' l' e' a') (h : sub5 r r' = true) : undB 2 r t l e a 2 r' t' l' e' a' = (decide (t' ≤ t) && decide (t + a ≤ t' + a')) := by simp [undB, h, rtB_yes h1, rtB_yes h2]
theorem und_else {k r t l e a r' t' l' e' a' : Int} (h1 : Rt k r t l e a) (h2 : Rt k r' t' l' e' a') (hk : 1 < k) (hk2 : k ≠ 2) (h : sub5 r r' = true) : undB k r t l e a k r' t' l' e' a' = (decide (t = t') && decide (l = l') && decide (e = e') && decide (a = a')) := by simp [undB, h, rtB_yes h1, rtB_yes h2, hk, hk2]
set_option maxRecDepth 100000 in
theorem under_any (k r t l e a k' r' t' l' e' a' : Int) (w : World) (hT : TabM w) :
    Calls Tryd.prog 16 #[.agg #[.int .i64 k, .int .i64 r, .int .i64 t, .int .i64 l, .int .i64 e, .int .i64 a], .agg #[.int .i64 k', .int .i64 r', .int .i64 t', .int .i64 l', .int .i64 e', .int .i64 a']] w fun x w' => x = .returned (.bool (undB k r t l e a k' r' t' l' e' a')) ∧ Below w.heap.size w w' := by
  have HI : Hid (∀ ty ty', Pair w ((w.alloc (.cells #[.int .i64 k, .int .i64 r, .int .i64 t, .int .i64 l, .int .i64 e, .int .i64 a] ty)).alloc (.cells #[.int .i64 k', .int .i64 r', .int .i64 t', .int .i64 l', .int .i64 e', .int .i64 a'] ty')) k r t l e a k' r' t' l' e' a') := fun ty ty' => pair_new w hT _ _ _ _ _ _ _ _ _ _ _ _ ty ty'
  clear hT
  by_cases hp : Rt k r t l e a
  case neg =>
    rw [und_badp hp]
    have hc : chk k r t l e a = 1 := chk_no hp
    clear hp
    go_enter Tryd.func16, Tryd.ntmps16
    go_wp2_with (first
      | (go_at_call 12; refine (check_any _ _ _ _ _ _ _ (HI.out _ _).tab).mono ?_; rintro e1 w1 ⟨rfl, hb1⟩; rw [hc]; have H1 : Hid (Pair w w1 k r t l e a k' r' t' l' e' a') := (HI.out _ _).on hb1; clear hb1)
      | fail)
    go_ret
    exact ⟨rfl, H1.out.below⟩
  case pos =>
  have hc : chk k r t l e a = 0 := chk_yes hp
  by_cases hq : Rt k' r' t' l' e' a'
  case neg =>
    rw [und_badq hq]
    have hd : chk k' r' t' l' e' a' = 1 := chk_no hq
    clear hp hq
    go_enter Tryd.func16, Tryd.ntmps16
    go_wp2_with (first
      | (go_at_call 12; refine (check_any _ _ _ _ _ _ _ (HI.out _ _).tab).mono ?_; rintro e1 w1 ⟨rfl, hb1⟩; rw [hc]; have H1 : Hid (Pair w w1 k r t l e a k' r' t' l' e' a') := (HI.out _ _).on hb1; clear hb1 HI; have y0 := H1.out.q.c0; have y1 := H1.out.q.c1; have y2 := H1.out.q.c2; have y3 := H1.out.q.c3; have y4 := H1.out.q.c4; have y5 := H1.out.q.c5)
      | (go_at_call 12; refine (check_any _ _ _ _ _ _ _ H1.out.tab).mono ?_; rintro e2 w2 ⟨rfl, hb2⟩; rw [hd]; have H2 : Hid (Pair w w2 k r t l e a k' r' t' l' e' a') := H1.out.on hb2; clear hb2 H1 y0 y1 y2 y3 y4 y5; have x0 := H2.out.p.c0; have x1 := H2.out.p.c1; have x2 := H2.out.p.c2; have x3 := H2.out.p.c3; have x4 := H2.out.p.c4; have x5 := H2.out.p.c5; have y0 := H2.out.q.c0; have y1 := H2.out.q.c1; have y2 := H2.out.q.c2; have y3 := H2.out.q.c3; have y4 := H2.out.q.c4; have y5 := H2.out.q.c5; have z1 := H2.out.p.fz 1)
      | fail)
    go_ret
    exact ⟨rfl, H2.out.below⟩
  case pos =>
  have hd : chk k' r' t' l' e' a' = 0 := chk_yes hq
  by_cases hk : k = k'
  case neg =>
    rw [und_kind hk]
    have b1 : (k == k') = false := by simp [hk]
    have b2 : (k != k') = true := by simp [hk]
    clear hp hq
    go_enter Tryd.func16, Tryd.ntmps16
    go_wp2_with (first
      | (go_at_call 12; refine (check_any _ _ _ _ _ _ _ (HI.out _ _).tab).mono ?_; rintro e1 w1 ⟨rfl, hb1⟩; rw [hc]; have H1 : Hid (Pair w w1 k r t l e a k' r' t' l' e' a') := (HI.out _ _).on hb1; clear hb1 HI; have y0 := H1.out.q.c0; have y1 := H1.out.q.c1; have y2 := H1.out.q.c2; have y3 := H1.out.q.c3; have y4 := H1.out.q.c4; have y5 := H1.out.q.c5)
      | (go_at_call 12; refine (check_any _ _ _ _ _ _ _ H1.out.tab).mono ?_; rintro e2 w2 ⟨rfl, hb2⟩; rw [hd]; have H2 : Hid (Pair w w2 k r t l e a k' r' t' l' e' a') := H1.out.on hb2; clear hb2 H1 y0 y1 y2 y3 y4 y5; have x0 := H2.out.p.c0; have x1 := H2.out.p.c1; have x2 := H2.out.p.c2; have x3 := H2.out.p.c3; have x4 := H2.out.p.c4; have x5 := H2.out.p.c5; have y0 := H2.out.q.c0; have y1 := H2.out.q.c1; have y2 := H2.out.q.c2; have y3 := H2.out.q.c3; have y4 := H2.out.q.c4; have y5 := H2.out.q.c5; have z1 := H2.out.p.fz 1)
      | fail)
    go_ret
    exact ⟨rfl, H2.out.below⟩
  case pos =>
  subst hk
  by_cases hl : k ≤ 1
  case pos =>
    rw [und_low hl]
    clear hp hq
    go_enter Tryd.func16, Tryd.ntmps16
    go_wp2_with (first
      | (go_at_call 12; refine (check_any _ _ _ _ _ _ _ (HI.out _ _).tab).mono ?_; rintro e1 w1 ⟨rfl, hb1⟩; rw [hc]; have H1 : Hid (Pair w w1 k r t l e a k r' t' l' e' a') := (HI.out _ _).on hb1; clear hb1 HI; have y0 := H1.out.q.c0; have y1 := H1.out.q.c1; have y2 := H1.out.q.c2; have y3 := H1.out.q.c3; have y4 := H1.out.q.c4; have y5 := H1.out.q.c5)
      | (go_at_call 12; refine (check_any _ _ _ _ _ _ _ H1.out.tab).mono ?_; rintro e2 w2 ⟨rfl, hb2⟩; rw [hd]; have H2 : Hid (Pair w w2 k r t l e a k r' t' l' e' a') := H1.out.on hb2; clear hb2 H1 y0 y1 y2 y3 y4 y5; have x0 := H2.out.p.c0; have x1 := H2.out.p.c1; have x2 := H2.out.p.c2; have x3 := H2.out.p.c3; have x4 := H2.out.p.c4; have x5 := H2.out.p.c5; have y0 := H2.out.q.c0; have y1 := H2.out.q.c1; have y2 := H2.out.q.c2; have y3 := H2.out.q.c3; have y4 := H2.out.q.c4; have y5 := H2.out.q.c5; have z1 := H2.out.p.fz 1)
      | fail)
    go_ret
    exact ⟨rfl, H2.out.below⟩
  case neg =>
  have hr := hp
  have hr' := hq
  unfold Rt at hr hr'
  have hs := andNot_sub hr.2.2.1 hr.2.2.2.1 hr'.2.2.1 hr'.2.2.2.1
  clear hr hr'
  by_cases h5 : sub5 r r' = true
  case neg =>
    rw [und_rights (by simpa using h5)]
    rw [show sub5 r r' = false by simpa using h5] at hs
    have hs' : (bits .andNot .i64 r r' != 0) = true := by simp only [bne, hs, Bool.not_false]
    clear hp hq h5
    go_enter Tryd.func16, Tryd.ntmps16
    go_wp2_with (first
      | (go_at_call 12; refine (check_any _ _ _ _ _ _ _ (HI.out _ _).tab).mono ?_; rintro e1 w1 ⟨rfl, hb1⟩; rw [hc]; have H1 : Hid (Pair w w1 k r t l e a k r' t' l' e' a') := (HI.out _ _).on hb1; clear hb1 HI; have y0 := H1.out.q.c0; have y1 := H1.out.q.c1; have y2 := H1.out.q.c2; have y3 := H1.out.q.c3; have y4 := H1.out.q.c4; have y5 := H1.out.q.c5)
      | (go_at_call 12; refine (check_any _ _ _ _ _ _ _ H1.out.tab).mono ?_; rintro e2 w2 ⟨rfl, hb2⟩; rw [hd]; have H2 : Hid (Pair w w2 k r t l e a k r' t' l' e' a') := H1.out.on hb2; clear hb2 H1 y0 y1 y2 y3 y4 y5; have x0 := H2.out.p.c0; have x1 := H2.out.p.c1; have x2 := H2.out.p.c2; have x3 := H2.out.p.c3; have x4 := H2.out.p.c4; have x5 := H2.out.p.c5; have y0 := H2.out.q.c0; have y1 := H2.out.q.c1; have y2 := H2.out.q.c2; have y3 := H2.out.q.c3; have y4 := H2.out.q.c4; have y5 := H2.out.q.c5; have z1 := H2.out.p.fz 1)
      | fail)
    go_ret
    exact ⟨rfl, H2.out.below⟩
  case pos =>
  rw [h5] at hs
  have hs' : (bits .andNot .i64 r r' != 0) = false := by simp only [bne, hs, Bool.not_true]
  by_cases h2 : k = 2
  case pos =>
    subst h2
    rw [und_mem hp hq h5]
    have hr := hp
    have hr' := hq
    unfold Rt at hr hr'
    have w1' : wrap64 (t + a) = t + a := by unfold wrap64; omega
    have w2' : wrap64 (t' + a') = t' + a' := by unfold wrap64; omega
    clear hp hq h5 hr hr'
    by_cases ht : t' ≤ t
    case neg =>
      have ht' : decide (t' ≤ t) = false := decide_eq_false ht
      rw [ht', Bool.false_and]
      go_enter Tryd.func16, Tryd.ntmps16
      go_wp2_with (first
        | (go_at_call 12; refine (check_any _ _ _ _ _ _ _ (HI.out _ _).tab).mono ?_; rintro e1 w1 ⟨rfl, hb1⟩; rw [hc]; have H1 : Hid (Pair w w1 2 r t l e a 2 r' t' l' e' a') := (HI.out _ _).on hb1; clear hb1 HI; have y0 := H1.out.q.c0; have y1 := H1.out.q.c1; have y2 := H1.out.q.c2; have y3 := H1.out.q.c3; have y4 := H1.out.q.c4; have y5 := H1.out.q.c5)
        | (go_at_call 12; refine (check_any _ _ _ _ _ _ _ H1.out.tab).mono ?_; rintro e2 w2 ⟨rfl, hb2⟩; rw [hd]; have H2 : Hid (Pair w w2 2 r t l e a 2 r' t' l' e' a') := H1.out.on hb2; clear hb2 H1 y0 y1 y2 y3 y4 y5; have x0 := H2.out.p.c0; have x1 := H2.out.p.c1; have x2 := H2.out.p.c2; have x3 := H2.out.p.c3; have x4 := H2.out.p.c4; have x5 := H2.out.p.c5; have y0 := H2.out.q.c0; have y1 := H2.out.q.c1; have y2 := H2.out.q.c2; have y3 := H2.out.q.c3; have y4 := H2.out.q.c4; have y5 := H2.out.q.c5; have z1 := H2.out.p.fz 1)
        | fail)
      go_quiet (fail)
      go_wp2
      go_ret
      exact ⟨rfl, H2.out.below.trans (below_drew' _ _ _)⟩
    case pos =>
      have ht' : decide (t' ≤ t) = true := decide_eq_true ht
      rw [ht', Bool.true_and]
      go_enter Tryd.func16, Tryd.ntmps16
      go_wp2_with (first
        | (go_at_call 12; refine (check_any _ _ _ _ _ _ _ (HI.out _ _).tab).mono ?_; rintro e1 w1 ⟨rfl, hb1⟩; rw [hc]; have H1 : Hid (Pair w w1 2 r t l e a 2 r' t' l' e' a') := (HI.out _ _).on hb1; clear hb1 HI; have y0 := H1.out.q.c0; have y1 := H1.out.q.c1; have y2 := H1.out.q.c2; have y3 := H1.out.q.c3; have y4 := H1.out.q.c4; have y5 := H1.out.q.c5)
        | (go_at_call 12; refine (check_any _ _ _ _ _ _ _ H1.out.tab).mono ?_; rintro e2 w2 ⟨rfl, hb2⟩; rw [hd]; have H2 : Hid (Pair w w2 2 r t l e a 2 r' t' l' e' a') := H1.out.on hb2; clear hb2 H1 y0 y1 y2 y3 y4 y5; have x0 := H2.out.p.c0; have x1 := H2.out.p.c1; have x2 := H2.out.p.c2; have x3 := H2.out.p.c3; have x4 := H2.out.p.c4; have x5 := H2.out.p.c5; have y0 := H2.out.q.c0; have y1 := H2.out.q.c1; have y2 := H2.out.q.c2; have y3 := H2.out.q.c3; have y4 := H2.out.q.c4; have y5 := H2.out.q.c5; have z1 := H2.out.p.fz 1)
        | fail)
      go_region_held3 (fun w' => w'.cell? ⟨w.heap.size, 0, none⟩ = some (.int .i64 2) ∧ w'.cell? ⟨w.heap.size, 1, none⟩ = some (.int .i64 r) ∧ w'.cell? ⟨w.heap.size, 2, none⟩ = some (.int .i64 t) ∧ w'.cell? ⟨w.heap.size, 3, none⟩ = some (.int .i64 l) ∧ w'.cell? ⟨w.heap.size, 4, none⟩ = some (.int .i64 e) ∧ w'.cell? ⟨w.heap.size, 5, none⟩ = some (.int .i64 a) ∧ w'.cell? ⟨w.heap.size + 1, 0, none⟩ = some (.int .i64 2) ∧ w'.cell? ⟨w.heap.size + 1, 1, none⟩ = some (.int .i64 r') ∧ w'.cell? ⟨w.heap.size + 1, 2, none⟩ = some (.int .i64 t') ∧ w'.cell? ⟨w.heap.size + 1, 3, none⟩ = some (.int .i64 l') ∧ w'.cell? ⟨w.heap.size + 1, 4, none⟩ = some (.int .i64 e') ∧ w'.cell? ⟨w.heap.size + 1, 5, none⟩ = some (.int .i64 a')) (first | exact ⟨by assumption, by assumption, by assumption, by assumption, by assumption, by assumption, by assumption, by assumption, by assumption, by assumption, by assumption, by assumption⟩ | go_keep)
      (first
        | (go_at_call 28; refine (end_any _ _ _ _ _ _ _).mono ?_; rintro e3 w3 ⟨rfl, hb3⟩; (first | rw [w1'] | rw [w2']); have H3 : Hid (Pair w w3 2 r t l e a 2 r' t' l' e' a') := (by first | exact H2.out.on hb3 | exact H2.out.on ((Below.refl _ _).drew.trans hb3)); clear hb3 H2 x0 x1 x2 x3 x4 x5 y0 y1 y2 y3 y4 y5; have H2 := H3; clear H3; have x0 := H2.out.p.c0; have x1 := H2.out.p.c1; have x2 := H2.out.p.c2; have x3 := H2.out.p.c3; have x4 := H2.out.p.c4; have x5 := H2.out.p.c5; have y0 := H2.out.q.c0; have y1 := H2.out.q.c1; have y2 := H2.out.q.c2; have y3 := H2.out.q.c3; have y4 := H2.out.q.c4; have y5 := H2.out.q.c5)
        | fail)
      go_wp2
      go_ret
      exact ⟨rfl, H2.out.below⟩
  case neg =>
  rw [und_else hp hq (by omega) h2 h5]
  have b2 : (k == 2) = false := by simp [h2]
  clear hp hq h5
  go_enter Tryd.func16, Tryd.ntmps16
  go_wp2_with (first
    | (go_at_call 12; refine (check_any _ _ _ _ _ _ _ (HI.out _ _).tab).mono ?_; rintro e1 w1 ⟨rfl, hb1⟩; rw [hc]; have H1 : Hid (Pair w w1 k r t l e a k r' t' l' e' a') := (HI.out _ _).on hb1; clear hb1 HI; have y0 := H1.out.q.c0; have y1 := H1.out.q.c1; have y2 := H1.out.q.c2; have y3 := H1.out.q.c3; have y4 := H1.out.q.c4; have y5 := H1.out.q.c5)
    | (go_at_call 12; refine (check_any _ _ _ _ _ _ _ H1.out.tab).mono ?_; rintro e2 w2 ⟨rfl, hb2⟩; rw [hd]; have H2 : Hid (Pair w w2 k r t l e a k r' t' l' e' a') := H1.out.on hb2; clear hb2 H1 y0 y1 y2 y3 y4 y5; have x0 := H2.out.p.c0; have x1 := H2.out.p.c1; have x2 := H2.out.p.c2; have x3 := H2.out.p.c3; have x4 := H2.out.p.c4; have x5 := H2.out.p.c5; have y0 := H2.out.q.c0; have y1 := H2.out.q.c1; have y2 := H2.out.q.c2; have y3 := H2.out.q.c3; have y4 := H2.out.q.c4; have y5 := H2.out.q.c5; have z1 := H2.out.p.fz 1)
    | fail)
  all_goals
    go_ret
    exact ⟨by simp [*], H2.out.below.setCell (p := ⟨w.heap.size, 1, none⟩) (Nat.le_refl _) _⟩
end Go.Proofs.YtdednjeofolleaaDoor
