/- What the document's Get and Under answer. -/
import Derived.Test.YtkodanflobclhaaDoorCapS
namespace Go.Proofs.YtkodanflobclhaaDoor.Pcap
open Go.Proofs.YtkodanflobclhaaDoor.Pbase Go.Proofs.YtkodanflobclhaaDoor.Pfield
open Go.RowKit M
set_option linter.unusedVariables false

theorem runpack_five (a0 : Option Addr) (x : Int) (w : World) (hx : 0 ≤ x ∧ x ≤ 18446744073709551615) (hI : Ints .i64 w.heap.size w (.slice a0 5 5) ws) (hA : canU x ws) :
    Calls Tryd.prog 45 #[.slice a0 5 5, .int .u64 x] w fun e' W' => ∃ b o c, e' = .returned (.tuple #[.slice (some ⟨b, o, none⟩) 5 c, .int .i64 0]) ∧ Five W' b o x ∧ Below w.heap.size w W' :=
  (runpack_ok a0 5 ws x w (by decide) hx hI hA).mono fun e' W' ⟨a, c, he, hi, hB⟩ => by
    obtain ⟨b, o, rfl, h5⟩ := five_of hi
    exact ⟨b, o, c, he, h5, hB⟩
theorem runpack_none (a0 : Option Addr) (x : Int) (w : World) (hx : 0 ≤ x ∧ x ≤ 18446744073709551615) (hI : Ints .i64 w.heap.size w (.slice a0 5 5) ws) (hA : ¬ canU x ws) :
    Calls Tryd.prog 45 #[.slice a0 5 5, .int .u64 x] w fun e' W' => e' = .returned (.tuple #[.slice none 0 0, .int .i64 1]) ∧ Below w.heap.size w W' := runpack_bad a0 5 ws x w (by decide) hx hI hA
set_option maxRecDepth 100000 in
set_option maxHeartbeats 2000000 in
theorem rget_any (x y : Int) (w : World) (hx : 0 ≤ x ∧ x ≤ 18446744073709551615) (hy : 0 ≤ y ∧ y ≤ 18446744073709551615) :
    Calls Tryd.prog 29 #[.int .u64 x, .int .u64 y] w fun v w' => v = .returned (.tuple #[.agg #[.int .i64 (getC x y 0), .int .i64 (getC x y 1), .int .i64 (getC x y 2), .int .i64 (getC x y 3), .int .i64 (getC x y 4), .int .i64 (getC x y 5)], .int .i64 (getE x y)]) ∧ Below w.heap.size w w' := by
  have HO : Hid (∀ ty, Box6 (w.alloc (.cells #[.int .i64 0, .int .i64 0, .int .i64 0, .int .i64 0, .int .i64 0, .int .i64 0] ty)) w.heap.size 0 0 0 0 0 0) := fun ty => box6_new w 0 0 0 0 0 0 ty
  have HX : Hid (0 ≤ x ∧ x ≤ 18446744073709551615) := hx
  clear hx
  by_cases hc : canU x ws
  case neg =>
    have hno : ¬ Got x y := fun h => hc h.1
    simp only [getC_no hno, getE_no hno]
    have HN : Hid (¬ canU x ws) := hc
    clear hc hno hy
    go_enter Tryd.func29, Tryd.ntmps29
    go_wp2_with (first
      | (go_at_call 43; refine (rwidths_any _).mono ?_; rintro e1 w1 ⟨b1, rfl, hi1, hb1⟩; have H1 : Hid (Below w.heap.size w w1) := (bal (Below.refl _ _) _).trans (hb1.mono (by simp)); have HX1 : Hid (Box6 w1 w.heap.size 0 0 0 0 0 0) := (HO.out _).on hb1; have HI1 : Hid (Ints .i64 w1.heap.size w1 (.slice (some ⟨b1, 0, none⟩) 5 5) ws) := hi1; clear hi1 hb1 HO)
      | (go_at_call 45; refine (runpack_none (some ⟨b1, 0, none⟩) x _ HX.out HI1.out HN.out).mono ?_; rintro e2 w2 ⟨rfl, hb2⟩; have H2 : Hid (Below w.heap.size w w2) := H1.out.trans (hb2.mono H1.out.size); have X1 := HX1.out.on hb2; clear hb2 HX1 H1 HI1; have x0 := X1.c0; have x1 := X1.c1; have x2 := X1.c2; have x3 := X1.c3; have x4 := X1.c4; have x5 := X1.c5; have z0 := X1.fz 0; have z1 := X1.fz 1; have z2 := X1.fz 2; have z3 := X1.fz 3; have z4 := X1.fz 4; have z5 := X1.fz 5; have xl := X1.lt; clear X1)
      | fail)
    refine bodyPost_ret (v := .tuple #[.agg #[.int .i64 0, .int .i64 0, .int .i64 0, .int .i64 0, .int .i64 0, .int .i64 0], .int .i64 12]) (by simp [results, Tryd.results29, go_sem, x0, x1, x2, x3, x4, x5]) rfl ⟨rfl, ?_⟩
    exact bst (bst (bst (bst (bst (bst H2.out (Nat.le_refl _) _ _) (Nat.le_refl _) _ _) (Nat.le_refl _) _ _) (Nat.le_refl _) _ _) (Nat.le_refl _) _ _) (Nat.le_refl _) _ _
  case pos =>
  have HN : Hid (canU x ws) := hc
  clear hc
  obtain ⟨⟨p0, q0⟩, ⟨p1, q1⟩, ⟨p2, q2⟩, ⟨p3, q3⟩, ⟨p4, q4⟩⟩ := gN_bd HX.out HN.out
  by_cases hy1 : 1073741824 < y
  case pos =>
    have hno : ¬ Got x y := fun h => by have := h.2.1; omega
    simp only [getC_no hno, getE_no hno]
    clear hno p0 p1 p2 p3 p4 q0 q1 q2 q3 q4
    go_enter Tryd.func29, Tryd.ntmps29
    go_wp2_with (first
      | (go_at_call 43; refine (rwidths_any _).mono ?_; rintro e1 w1 ⟨b1, rfl, hi1, hb1⟩; have H1 : Hid (Below w.heap.size w w1) := (bal (Below.refl _ _) _).trans (hb1.mono (by simp)); have HX1 : Hid (Box6 w1 w.heap.size 0 0 0 0 0 0) := (HO.out _).on hb1; have HI1 : Hid (Ints .i64 w1.heap.size w1 (.slice (some ⟨b1, 0, none⟩) 5 5) ws) := hi1; clear hi1 hb1 HO)
      | (go_at_call 45; refine (runpack_five (some ⟨b1, 0, none⟩) x _ HX.out HI1.out HN.out).mono ?_; rintro e2 w2 ⟨b, o, c, rfl, h5, hb2⟩; have H2 : Hid (Below w.heap.size w w2) := H1.out.trans (hb2.mono H1.out.size); have X1 := HX1.out.on hb2; clear hb2 HX1 H1 HI1 h5; have x0 := X1.c0; have x1 := X1.c1; have x2 := X1.c2; have x3 := X1.c3; have x4 := X1.c4; have x5 := X1.c5; have z0 := X1.fz 0; have z1 := X1.fz 1; have z2 := X1.fz 2; have z3 := X1.fz 3; have z4 := X1.fz 4; have z5 := X1.fz 5; have xl := X1.lt; clear X1)
      | fail)
    refine bodyPost_ret (v := .tuple #[.agg #[.int .i64 0, .int .i64 0, .int .i64 0, .int .i64 0, .int .i64 0, .int .i64 0], .int .i64 12]) (by simp [results, Tryd.results29, go_sem, x0, x1, x2, x3, x4, x5]) rfl ⟨rfl, ?_⟩
    exact bst (bst (bst (bst (bst (bst H2.out (Nat.le_refl _) _ _) (Nat.le_refl _) _ _) (Nat.le_refl _) _ _) (Nat.le_refl _) _ _) (Nat.le_refl _) _ _) (Nat.le_refl _) _ _
  case neg =>
  have hy2 : y ≤ 1073741824 := by omega
  have dv : IntKind.i64.wrap y = y := wrapi_small hy.1 (by omega)
  have d0 : IntKind.i64.wrap (gN x 0) = gN x 0 := wrapi_small p0 (by omega)
  have d1 : IntKind.i64.wrap (gN x 1) = gN x 1 := wrapi_small p1 (by omega)
  have d2 : IntKind.i64.wrap (gN x 2) = gN x 2 := wrapi_small p2 (by omega)
  have d3 : IntKind.i64.wrap (gN x 3) = gN x 3 := wrapi_small p3 (by omega)
  have d4 : IntKind.i64.wrap (gN x 4) = gN x 4 := wrapi_small p4 (by omega)
  by_cases hr : Rt (gN x 0) (gN x 1) (gN x 2) (gN x 3) (gN x 4) y
  case pos =>
    have hG : Got x y := ⟨HN.out, hy2, hr⟩
    obtain ⟨e0, e1, e2, e3, e4, e5⟩ := getC_yes hG
    rw [e0, e1, e2, e3, e4, e5, getE_yes hG]
    clear e0 e1 e2 e3 e4 e5 hG
    have hc : rtB (gN x 0) (gN x 1) (gN x 2) (gN x 3) (gN x 4) y = true := rtB_yes hr
    clear hr p0 p1 p2 p3 p4 q0 q1 q2 q3 q4 hy
    go_enter Tryd.func29, Tryd.ntmps29
    go_wp2_with (first
      | (go_at_call 43; refine (rwidths_any _).mono ?_; rintro e1 w1 ⟨b1, rfl, hi1, hb1⟩; have H1 : Hid (Below w.heap.size w w1) := (bal (Below.refl _ _) _).trans (hb1.mono (by simp)); have HX1 : Hid (Box6 w1 w.heap.size 0 0 0 0 0 0) := (HO.out _).on hb1; have HI1 : Hid (Ints .i64 w1.heap.size w1 (.slice (some ⟨b1, 0, none⟩) 5 5) ws) := hi1; clear hi1 hb1 HO)
      | (go_at_call 45; refine (runpack_five (some ⟨b1, 0, none⟩) x _ HX.out HI1.out HN.out).mono ?_; rintro e2 w2 ⟨b, o, c, rfl, h5, hb2⟩; have H2 : Hid (Below w.heap.size w w2) := H1.out.trans (hb2.mono H1.out.size); have HX2 : Hid (Box6 w2 w.heap.size 0 0 0 0 0 0) := HX1.out.on hb2; have H5 : Hid (Five w2 b o x) := h5; clear hb2 HX1 H1 HI1 h5; have f0 := H5.out.c0; have f1 := H5.out.c1; have f2 := H5.out.c2; have f3 := H5.out.c3; have f4 := H5.out.c4; have fl := H5.out.lt)
      | fail)
    go_region_held3 (fun w' => w'.cell? ⟨b, o, none⟩ = some (.int .u64 (gN x 0)) ∧ w'.cell? ⟨b, o + 1, none⟩ = some (.int .u64 (gN x 1)) ∧ w'.cell? ⟨b, o + 2, none⟩ = some (.int .u64 (gN x 2)) ∧ w'.cell? ⟨b, o + 3, none⟩ = some (.int .u64 (gN x 3)) ∧ w'.cell? ⟨b, o + 4, none⟩ = some (.int .u64 (gN x 4))) (first | exact ⟨by assumption, by assumption, by assumption, by assumption, by assumption⟩ | go_keep)
    (fail)
    try simp only [d0, d1, d2, d3, d4, dv]
    have hbx := (box6_new w2 (gN x 0) (gN x 1) (gN x 2) (gN x 3) (gN x 4) y 32).on (Below.refl _ _).drew
    have hbr := HX2.out.on (bal (Below.refl _ _) (.cells #[.int .i64 (gN x 0), .int .i64 (gN x 1), .int .i64 (gN x 2), .int .i64 (gN x 3), .int .i64 (gN x 4), .int .i64 y] 32)).drew
    have hbb := (bal H2.out (.cells #[.int .i64 (gN x 0), .int .i64 (gN x 1), .int .i64 (gN x 2), .int .i64 (gN x 3), .int .i64 (gN x 4), .int .i64 y] 32)).drew
    have hne := HX2.out.lt
    clear f0 f1 f2 f3 f4 fl H5
    generalize (w2.alloc _).drew = w3 at hbx hbr hbb ⊢
    have HP3 : Hid (Box6 w3 w2.heap.size (gN x 0) (gN x 1) (gN x 2) (gN x 3) (gN x 4) y) := hbx
    have HR3 : Hid (Box6 w3 w.heap.size 0 0 0 0 0 0) := hbr
    have HB3 : Hid (Below w.heap.size w w3) := hbb
    have HQ3 : Hid (w.heap.size < w2.heap.size) := hne
    have y0 := hbx.c0
    have y1 := hbx.c1
    have y2 := hbx.c2
    have y3 := hbx.c3
    have y4 := hbx.c4
    have y5 := hbx.c5
    clear hbx hbr hbb hne HX2
    generalize w2.heap.size = D at HP3 HQ3 y0 y1 y2 y3 y4 y5 ⊢
    go_wp2_with (first
      | (go_at_call 41; refine (right_any _ _ _ _ _ _ _).mono ?_; rintro e3 w4 ⟨rfl, hb4⟩; rw [hc]; have H4 : Hid (Below w.heap.size w w4) := HB3.out.trans (hb4.mono HB3.out.size); clear y0 y1 y2 y3 y4 y5; have Y1 := HP3.out.on hb4; have y0 := Y1.c0; have y1 := Y1.c1; have y2 := Y1.c2; have y3 := Y1.c3; have y4 := Y1.c4; have y5 := Y1.c5; clear Y1; have X1 := HR3.out.on hb4; have x0 := X1.c0; have x1 := X1.c1; have x2 := X1.c2; have x3 := X1.c3; have x4 := X1.c4; have x5 := X1.c5; have z0 := X1.fz 0; have z1 := X1.fz 1; have z2 := X1.fz 2; have z3 := X1.fz 3; have z4 := X1.fz 4; have z5 := X1.fz 5; have xl := X1.lt; clear X1 hb4; have ne1 : ¬ D = w.heap.size := Nat.ne_of_gt HQ3.out; have ne2 : ¬ w.heap.size = D := Nat.ne_of_lt HQ3.out)
      | fail)
    refine bodyPost_ret (v := .tuple #[.agg #[.int .i64 (gN x 0), .int .i64 (gN x 1), .int .i64 (gN x 2), .int .i64 (gN x 3), .int .i64 (gN x 4), .int .i64 y], .int .i64 0]) (by simp [results, Tryd.results29, go_sem, x0, x1, x2, x3, x4, x5]) rfl ⟨rfl, ?_⟩
    exact bst (bst (bst (bst (bst (bst H4.out (Nat.le_refl _) _ _) (Nat.le_refl _) _ _) (Nat.le_refl _) _ _) (Nat.le_refl _) _ _) (Nat.le_refl _) _ _) (Nat.le_refl _) _ _
  case neg =>
    have hG : ¬ Got x y := fun h => hr h.2.2
    simp only [getC_no hG, getE_no hG]
    have hc : rtB (gN x 0) (gN x 1) (gN x 2) (gN x 3) (gN x 4) y = false := rtB_no hr
    clear hr p0 p1 p2 p3 p4 q0 q1 q2 q3 q4 hy hG
    go_enter Tryd.func29, Tryd.ntmps29
    go_wp2_with (first
      | (go_at_call 43; refine (rwidths_any _).mono ?_; rintro e1 w1 ⟨b1, rfl, hi1, hb1⟩; have H1 : Hid (Below w.heap.size w w1) := (bal (Below.refl _ _) _).trans (hb1.mono (by simp)); have HX1 : Hid (Box6 w1 w.heap.size 0 0 0 0 0 0) := (HO.out _).on hb1; have HI1 : Hid (Ints .i64 w1.heap.size w1 (.slice (some ⟨b1, 0, none⟩) 5 5) ws) := hi1; clear hi1 hb1 HO)
      | (go_at_call 45; refine (runpack_five (some ⟨b1, 0, none⟩) x _ HX.out HI1.out HN.out).mono ?_; rintro e2 w2 ⟨b, o, c, rfl, h5, hb2⟩; have H2 : Hid (Below w.heap.size w w2) := H1.out.trans (hb2.mono H1.out.size); have HX2 : Hid (Box6 w2 w.heap.size 0 0 0 0 0 0) := HX1.out.on hb2; have H5 : Hid (Five w2 b o x) := h5; clear hb2 HX1 H1 HI1 h5; have f0 := H5.out.c0; have f1 := H5.out.c1; have f2 := H5.out.c2; have f3 := H5.out.c3; have f4 := H5.out.c4; have fl := H5.out.lt)
      | fail)
    go_region_held3 (fun w' => w'.cell? ⟨b, o, none⟩ = some (.int .u64 (gN x 0)) ∧ w'.cell? ⟨b, o + 1, none⟩ = some (.int .u64 (gN x 1)) ∧ w'.cell? ⟨b, o + 2, none⟩ = some (.int .u64 (gN x 2)) ∧ w'.cell? ⟨b, o + 3, none⟩ = some (.int .u64 (gN x 3)) ∧ w'.cell? ⟨b, o + 4, none⟩ = some (.int .u64 (gN x 4))) (first | exact ⟨by assumption, by assumption, by assumption, by assumption, by assumption⟩ | go_keep)
    (fail)
    try simp only [d0, d1, d2, d3, d4, dv]
    have hbx := (box6_new w2 (gN x 0) (gN x 1) (gN x 2) (gN x 3) (gN x 4) y 32).on (Below.refl _ _).drew
    have hbr := HX2.out.on (bal (Below.refl _ _) (.cells #[.int .i64 (gN x 0), .int .i64 (gN x 1), .int .i64 (gN x 2), .int .i64 (gN x 3), .int .i64 (gN x 4), .int .i64 y] 32)).drew
    have hbb := (bal H2.out (.cells #[.int .i64 (gN x 0), .int .i64 (gN x 1), .int .i64 (gN x 2), .int .i64 (gN x 3), .int .i64 (gN x 4), .int .i64 y] 32)).drew
    have hne := HX2.out.lt
    clear f0 f1 f2 f3 f4 fl H5
    generalize (w2.alloc _).drew = w3 at hbx hbr hbb ⊢
    have HP3 : Hid (Box6 w3 w2.heap.size (gN x 0) (gN x 1) (gN x 2) (gN x 3) (gN x 4) y) := hbx
    have HR3 : Hid (Box6 w3 w.heap.size 0 0 0 0 0 0) := hbr
    have HB3 : Hid (Below w.heap.size w w3) := hbb
    have HQ3 : Hid (w.heap.size < w2.heap.size) := hne
    have y0 := hbx.c0
    have y1 := hbx.c1
    have y2 := hbx.c2
    have y3 := hbx.c3
    have y4 := hbx.c4
    have y5 := hbx.c5
    clear hbx hbr hbb hne HX2
    generalize w2.heap.size = D at HP3 HQ3 y0 y1 y2 y3 y4 y5 ⊢
    go_wp2_with (first
      | (go_at_call 41; refine (right_any _ _ _ _ _ _ _).mono ?_; rintro e3 w4 ⟨rfl, hb4⟩; rw [hc]; have H4 : Hid (Below w.heap.size w w4) := HB3.out.trans (hb4.mono HB3.out.size); clear y0 y1 y2 y3 y4 y5; have Y1 := HP3.out.on hb4; have y0 := Y1.c0; have y1 := Y1.c1; have y2 := Y1.c2; have y3 := Y1.c3; have y4 := Y1.c4; have y5 := Y1.c5; clear Y1; have X1 := HR3.out.on hb4; have x0 := X1.c0; have x1 := X1.c1; have x2 := X1.c2; have x3 := X1.c3; have x4 := X1.c4; have x5 := X1.c5; have z0 := X1.fz 0; have z1 := X1.fz 1; have z2 := X1.fz 2; have z3 := X1.fz 3; have z4 := X1.fz 4; have z5 := X1.fz 5; have xl := X1.lt; clear X1 hb4; have ne1 : ¬ D = w.heap.size := Nat.ne_of_gt HQ3.out; have ne2 : ¬ w.heap.size = D := Nat.ne_of_lt HQ3.out)
      | fail)
    refine bodyPost_ret (v := .tuple #[.agg #[.int .i64 0, .int .i64 0, .int .i64 0, .int .i64 0, .int .i64 0, .int .i64 0], .int .i64 12]) (by simp [results, Tryd.results29, go_sem, x0, x1, x2, x3, x4, x5]) rfl ⟨rfl, ?_⟩
    exact bst (bst (bst (bst (bst (bst H4.out (Nat.le_refl _) _ _) (Nat.le_refl _) _ _) (Nat.le_refl _) _ _) (Nat.le_refl _) _ _) (Nat.le_refl _) _ _) (Nat.le_refl _) _ _
/-- Two capabilities in two blocks of the call's own. -/
structure Pair' (w0 w : World) (k r t l e a k' r' t' l' e' a' : Int) : Prop where
  below : Below w0.heap.size w0 w
  p : Box6 w w0.heap.size k r t l e a
  q : Box6 w (w0.heap.size + 1) k' r' t' l' e' a'
theorem Pair'.on {w0 w w' : World} {k r t l e a k' r' t' l' e' a' : Int} (h : Pair' w0 w k r t l e a k' r' t' l' e' a') (hB : Below w.heap.size w w') : Pair' w0 w' k r t l e a k' r' t' l' e' a' :=
  ⟨h.below.trans (hB.mono h.below.size), h.p.on hB, h.q.on hB⟩
theorem pair_new' (w : World) (k r t l e a k' r' t' l' e' a' : Int) (ty ty' : TypeId) :
    Pair' w ((w.alloc (.cells #[.int .i64 k, .int .i64 r, .int .i64 t, .int .i64 l, .int .i64 e, .int .i64 a] ty)).alloc (.cells #[.int .i64 k', .int .i64 r', .int .i64 t', .int .i64 l', .int .i64 e', .int .i64 a'] ty')) k r t l e a k' r' t' l' e' a' := by
  have B1 := bal (Below.refl w.heap.size w) (.cells #[.int .i64 k, .int .i64 r, .int .i64 t, .int .i64 l, .int .i64 e, .int .i64 a] ty)
  have B2 := bal B1 (.cells #[.int .i64 k', .int .i64 r', .int .i64 t', .int .i64 l', .int .i64 e', .int .i64 a'] ty')
  have q := box6_new (w.alloc (.cells #[.int .i64 k, .int .i64 r, .int .i64 t, .int .i64 l, .int .i64 e, .int .i64 a] ty)) k' r' t' l' e' a' ty'
  rw [World.size_alloc] at q
  exact ⟨B2, (box6_new w k r t l e a ty).on (bal (Below.refl _ _) _), q⟩
theorem ret_b {b c : Bool} (h : b = c) : Ending.returned (Value.bool b) = .returned (.bool c) := by rw [h]
end Go.Proofs.YtkodanflobclhaaDoor.Pcap
