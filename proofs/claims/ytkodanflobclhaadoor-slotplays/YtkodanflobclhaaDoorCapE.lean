/- What Get of package cap answers, for every two words. -/
import Derived.Test.YtkodanflobclhaaDoorCapP
import Derived.Deep.RegionHeld3
import Derived.BigRegion
namespace Go.Proofs.YtkodanflobclhaaDoor.Pcap
open Go.Proofs.YtkodanflobclhaaDoor.Pbase Go.Proofs.YtkodanflobclhaaDoor.Pfield
open Go.RowKit M
set_option linter.unusedVariables false

/-- The j-th part of a word. -/
def gN (x : Int) (j : Nat) : Int := (getsI x ws)[j]?.getD 0
/-- The two words are some right one's. -/
def Got (x y : Int) : Prop := canU x ws ∧ y ≤ 1073741824 ∧ Rt (gN x 0) (gN x 1) (gN x 2) (gN x 3) (gN x 4) y
def gotB (x y : Int) : Bool := (List.range ws.length).all (okU ws) && fitsB x (sumTo ws ws.length) && decide (y ≤ 1073741824) && rtB (gN x 0) (gN x 1) (gN x 2) (gN x 3) (gN x 4) y
theorem gotB_iff (x y : Int) : gotB x y = true ↔ Got x y := by
  unfold gotB Got canU
  simp only [Bool.and_eq_true, decide_eq_true_eq, rtB_iff, List.all_eq_true, List.mem_range, and_assoc]
theorem gotB_yes {x y : Int} (h : Got x y) : gotB x y = true := (gotB_iff x y).2 h
theorem gotB_no {x y : Int} (h : ¬ Got x y) : gotB x y = false := Bool.eq_false_iff.2 fun e1 => h ((gotB_iff x y).1 e1)
/-- Its numbers, or 0. -/
def getC (x y : Int) (j : Nat) : Int := if gotB x y = true then nth (gN x 0) (gN x 1) (gN x 2) (gN x 3) (gN x 4) y j else 0
def getE (x y : Int) : Int := if gotB x y = true then 0 else 12
theorem getC_no {x y : Int} (h : ¬ Got x y) (j : Nat) : getC x y j = 0 := by simp [getC, gotB_no h]
theorem getE_no {x y : Int} (h : ¬ Got x y) : getE x y = 12 := by simp [getE, gotB_no h]
theorem getE_yes {x y : Int} (h : Got x y) : getE x y = 0 := by simp [getE, gotB_yes h]
theorem getC_yes {x y : Int} (h : Got x y) : getC x y 0 = gN x 0 ∧ getC x y 1 = gN x 1 ∧ getC x y 2 = gN x 2 ∧ getC x y 3 = gN x 3 ∧ getC x y 4 = gN x 4 ∧ getC x y 5 = y := by simp [getC, gotB_yes h, nth]
theorem ws_length : ws.length = 5 := rfl
theorem gN_bd {x : Int} (hx : 0 ≤ x ∧ x ≤ 18446744073709551615) (h : canU x ws) : (0 ≤ gN x 0 ∧ gN x 0 ≤ 15) ∧ (0 ≤ gN x 1 ∧ gN x 1 ≤ 31) ∧ (0 ≤ gN x 2 ∧ gN x 2 ≤ 63) ∧ (0 ≤ gN x 3 ∧ gN x 3 ≤ 63) ∧ (0 ≤ gN x 4 ∧ gN x 4 ≤ 65535) := by
  obtain ⟨h1, h2, _⟩ := unpack_pack hx h
  have m0 := (ok_parts (h2 0 (by decide))).2
  have m1 := (ok_parts (h2 1 (by decide))).2
  have m2 := (ok_parts (h2 2 (by decide))).2
  have m3 := (ok_parts (h2 3 (by decide))).2
  have m4 := (ok_parts (h2 4 (by decide))).2
  rw [show ws[0]?.getD 0 = 4 from rfl, fitsB, mask4, decide_eq_true_eq] at m0
  rw [show ws[1]?.getD 0 = 5 from rfl, fitsB, mask5, decide_eq_true_eq] at m1
  rw [show ws[2]?.getD 0 = 6 from rfl, fitsB, mask6, decide_eq_true_eq] at m2
  rw [show ws[3]?.getD 0 = 6 from rfl, fitsB, mask6, decide_eq_true_eq] at m3
  rw [show ws[4]?.getD 0 = 16 from rfl, fitsB, mask16, decide_eq_true_eq] at m4
  exact ⟨⟨(h1 0).1, m0⟩, ⟨(h1 1).1, m1⟩, ⟨(h1 2).1, m2⟩, ⟨(h1 3).1, m3⟩, ⟨(h1 4).1, m4⟩⟩
theorem ints_wide (w : World) (ty : TypeId) :
    Ints .i64 (w.alloc (.cells #[.int .i64 4, .int .i64 5, .int .i64 6, .int .i64 6, .int .i64 16] ty)).heap.size (w.alloc (.cells #[.int .i64 4, .int .i64 5, .int .i64 6, .int .i64 6, .int .i64 16] ty)) (.slice (some ⟨w.heap.size, 0, none⟩) ws.length 5) ws := by
  refine .inr ⟨w.heap.size, 0, 5, rfl, by simp, fun j hj => ?_⟩
  rw [Nat.zero_add, cell_of_row _ _ j _ _ _ (heap_alloc_new w _)]
  match j, hj with
  | 0, _ | 1, _ | 2, _ | 3, _ | 4, _ => rfl
/-- The parts of a word, in a block. -/
structure Five (w : World) (b o : Nat) (x : Int) : Prop where
  lt : b < w.heap.size
  c0 : w.cell? ⟨b, o, none⟩ = some (.int .u64 (gN x 0))
  c1 : w.cell? ⟨b, o + 1, none⟩ = some (.int .u64 (gN x 1))
  c2 : w.cell? ⟨b, o + 2, none⟩ = some (.int .u64 (gN x 2))
  c3 : w.cell? ⟨b, o + 3, none⟩ = some (.int .u64 (gN x 3))
  c4 : w.cell? ⟨b, o + 4, none⟩ = some (.int .u64 (gN x 4))
theorem five_of {w : World} {a : Option Addr} {c : Nat} {x : Int} (h : Ints .u64 w.heap.size w (.slice a ws.length c) (getsI x ws)) : ∃ b o, a = some ⟨b, o, none⟩ ∧ Five w b o x := by
  have hl := getsI_length x ws
  rcases h with ⟨_, _, e1, e2⟩ | ⟨b, o, cap, e1, hb, hc⟩
  · rw [e2, ws_length] at hl; cases hl
  · cases e1
    rw [hl, ws_length] at hc
    exact ⟨b, o, rfl, hb, hc 0 (by omega), hc 1 (by omega), hc 2 (by omega), hc 3 (by omega), hc 4 (by omega)⟩
theorem Five.on {w w' : World} {b o : Nat} {x : Int} (h : Five w b o x) (hB : Below w.heap.size w w') : Five w' b o x :=
  ⟨Nat.lt_of_lt_of_le h.lt hB.size, (hB.cell (p := ⟨b, o, none⟩) h.lt).trans h.c0, (hB.cell (p := ⟨b, o + 1, none⟩) h.lt).trans h.c1, (hB.cell (p := ⟨b, o + 2, none⟩) h.lt).trans h.c2, (hB.cell (p := ⟨b, o + 3, none⟩) h.lt).trans h.c3, (hB.cell (p := ⟨b, o + 4, none⟩) h.lt).trans h.c4⟩
theorem unpack_five (a0 : Option Addr) (x : Int) (w : World) (hx : 0 ≤ x ∧ x ≤ 18446744073709551615) (hI : Ints .i64 w.heap.size w (.slice a0 5 5) ws) (hA : canU x ws) :
    Calls Tryd.prog 44 #[.slice a0 5 5, .int .u64 x] w fun e' W' => ∃ b o c, e' = .returned (.tuple #[.slice (some ⟨b, o, none⟩) 5 c, .int .i64 0]) ∧ Five W' b o x ∧ Below w.heap.size w W' :=
  (unpack_ok a0 5 ws x w (by decide) hx hI hA).mono fun e' W' ⟨a, c, he, hi, hB⟩ => by
    obtain ⟨b, o, rfl, h5⟩ := five_of hi
    exact ⟨b, o, c, he, h5, hB⟩
set_option maxRecDepth 100000 in
set_option maxHeartbeats 2000000 in
theorem get_any (x y : Int) (w : World) (hx : 0 ≤ x ∧ x ≤ 18446744073709551615) (hy : 0 ≤ y ∧ y ≤ 18446744073709551615) (hT : TabM w) (hW : TabW w) :
    Calls Tryd.prog 27 #[.int .u64 x, .int .u64 y] w fun v w' => v = .returned (.tuple #[.agg #[.int .i64 (getC x y 0), .int .i64 (getC x y 1), .int .i64 (getC x y 2), .int .i64 (getC x y 3), .int .i64 (getC x y 4), .int .i64 (getC x y 5)], .int .i64 (getE x y)]) ∧ Below w.heap.size w w' := by
  have HT : Hid (TabM w) := hT
  obtain ⟨t1, fr, hg⟩ := hW.row
  have g0 : w.cell? ⟨0, 0, none⟩ = some (.int .i64 4) := (cell_of_row _ _ 0 _ _ _ hg).trans rfl
  have g1 : w.cell? ⟨0, 1, none⟩ = some (.int .i64 5) := (cell_of_row _ _ 1 _ _ _ hg).trans rfl
  have g2 : w.cell? ⟨0, 2, none⟩ = some (.int .i64 6) := (cell_of_row _ _ 2 _ _ _ hg).trans rfl
  have g3 : w.cell? ⟨0, 3, none⟩ = some (.int .i64 6) := (cell_of_row _ _ 3 _ _ _ hg).trans rfl
  have g4 : w.cell? ⟨0, 4, none⟩ = some (.int .i64 16) := (cell_of_row _ _ 4 _ _ _ hg).trans rfl
  have gl := hW.lt
  clear hg hW hT
  have HO : Hid (∀ ty o w1, Below ((w.alloc (.cells #[.int .i64 0, .int .i64 0, .int .i64 0, .int .i64 0, .int .i64 0, .int .i64 0] ty)).alloc o).heap.size ((w.alloc (.cells #[.int .i64 0, .int .i64 0, .int .i64 0, .int .i64 0, .int .i64 0, .int .i64 0] ty)).alloc o) w1 → Box6 w1 w.heap.size 0 0 0 0 0 0) := fun ty o w1 h => ((box6_new w 0 0 0 0 0 0 ty).on (bal (Below.refl _ _) o)).on h
  have HX : Hid (0 ≤ x ∧ x ≤ 18446744073709551615) := hx
  clear hx
  have HW : Hid (∀ o ty, Ints .i64 ((w.alloc o).alloc (.cells #[.int .i64 4, .int .i64 5, .int .i64 6, .int .i64 6, .int .i64 16] ty)).heap.size ((w.alloc o).alloc (.cells #[.int .i64 4, .int .i64 5, .int .i64 6, .int .i64 6, .int .i64 16] ty)) (.slice (some ⟨w.heap.size + 1, 0, none⟩) 5 5) ws ∧ Below w.heap.size w ((w.alloc o).alloc (.cells #[.int .i64 4, .int .i64 5, .int .i64 6, .int .i64 6, .int .i64 16] ty))) := fun o ty => ⟨by have := ints_wide (w.alloc o) ty; rwa [show (w.alloc o).heap.size = w.heap.size + 1 by simp] at this, bal (bal (Below.refl _ _) _) _⟩
  by_cases hc : canU x ws
  case neg =>
    have hno : ¬ Got x y := fun h => hc h.1
    simp only [getC_no hno, getE_no hno]
    have HN : Hid (¬ canU x ws) := hc
    clear hc hno
    go_enter Tryd.func27, Tryd.ntmps27
    go_wp2_with (first
      | (go_at_call 44; refine (unpack_bad (some ⟨w.heap.size + 1, 0, none⟩) 5 ws x _ (by decide) HX.out (HW.out _ _).1 HN.out).mono ?_; rintro e1 w1 ⟨rfl, hb1⟩; have H1 : Hid (Below w.heap.size w w1) := (HW.out _ _).2.trans (hb1.mono (HW.out _ _).2.size); have X1 := HO.out _ _ _ hb1; clear hb1 HO; have x0 := X1.c0; have x1 := X1.c1; have x2 := X1.c2; have x3 := X1.c3; have x4 := X1.c4; have x5 := X1.c5; have z0 := X1.fz 0; have z1 := X1.fz 1; have z2 := X1.fz 2; have z3 := X1.fz 3; have z4 := X1.fz 4; have z5 := X1.fz 5; have xl := X1.lt; clear X1)
      | fail)
    refine bodyPost_ret (v := .tuple #[.agg #[.int .i64 0, .int .i64 0, .int .i64 0, .int .i64 0, .int .i64 0, .int .i64 0], .int .i64 12]) (by simp [results, Tryd.results27, go_sem, x0, x1, x2, x3, x4, x5]) rfl ⟨rfl, ?_⟩
    exact bst (bst (bst (bst (bst (bst H1.out (Nat.le_refl _) _ _) (Nat.le_refl _) _ _) (Nat.le_refl _) _ _) (Nat.le_refl _) _ _) (Nat.le_refl _) _ _) (Nat.le_refl _) _ _
  case pos =>
  have HN : Hid (canU x ws) := hc
  clear hc
  obtain ⟨⟨p0, q0⟩, ⟨p1, q1⟩, ⟨p2, q2⟩, ⟨p3, q3⟩, ⟨p4, q4⟩⟩ := gN_bd HX.out HN.out
  obtain ⟨v, hv⟩ : ∃ v, v = IntKind.i64.wrap y := ⟨_, rfl⟩
  have dv : IntKind.i64.wrap y = v := hv.symm
  have d0 : IntKind.i64.wrap (gN x 0) = gN x 0 := wrapi_small p0 (by omega)
  have d1 : IntKind.i64.wrap (gN x 1) = gN x 1 := wrapi_small p1 (by omega)
  have d2 : IntKind.i64.wrap (gN x 2) = gN x 2 := wrapi_small p2 (by omega)
  have d3 : IntKind.i64.wrap (gN x 3) = gN x 3 := wrapi_small p3 (by omega)
  have d4 : IntKind.i64.wrap (gN x 4) = gN x 4 := wrapi_small p4 (by omega)
  by_cases hr : Rt (gN x 0) (gN x 1) (gN x 2) (gN x 3) (gN x 4) v
  case pos =>
    have hvy : v = y := wrapi_back hy hv (by unfold Rt at hr; omega)
    have hG : Got x y := ⟨HN.out, by unfold Rt at hr; omega, by rw [← hvy]; exact hr⟩
    obtain ⟨e0, e1, e2, e3, e4, e5⟩ := getC_yes hG
    rw [e0, e1, e2, e3, e4, e5.trans hvy.symm, getE_yes hG]
    clear e0 e1 e2 e3 e4 e5 hG
    have hc : chk (gN x 0) (gN x 1) (gN x 2) (gN x 3) (gN x 4) v = 0 := chk_yes hr
    clear hr hvy hv p0 p1 p2 p3 p4 q0 q1 q2 q3 q4 hy
    go_enter Tryd.func27, Tryd.ntmps27
    go_wp2_with (first
      | (go_at_call 44; refine (unpack_five (some ⟨w.heap.size + 1, 0, none⟩) x _ HX.out (HW.out _ _).1 HN.out).mono ?_; rintro e1 w1 ⟨b, o, c, rfl, h5, hb1⟩; have H1 : Hid (Below w.heap.size w w1) := (HW.out _ _).2.trans (hb1.mono (HW.out _ _).2.size); have H5 : Hid (Five w1 b o x) := h5; have HX1 : Hid (Box6 w1 w.heap.size 0 0 0 0 0 0) := HO.out _ _ _ hb1; clear hb1 HO h5; have f0 := H5.out.c0; have f1 := H5.out.c1; have f2 := H5.out.c2; have f3 := H5.out.c3; have f4 := H5.out.c4; have fl := H5.out.lt)
      | fail)
    go_region_held3 (fun w' => w'.cell? ⟨b, o, none⟩ = some (.int .u64 (gN x 0)) ∧ w'.cell? ⟨b, o + 1, none⟩ = some (.int .u64 (gN x 1)) ∧ w'.cell? ⟨b, o + 2, none⟩ = some (.int .u64 (gN x 2)) ∧ w'.cell? ⟨b, o + 3, none⟩ = some (.int .u64 (gN x 3)) ∧ w'.cell? ⟨b, o + 4, none⟩ = some (.int .u64 (gN x 4))) (first | exact ⟨by assumption, by assumption, by assumption, by assumption, by assumption⟩ | go_keep)
    (fail)
    try simp only [d0, d1, d2, d3, d4, dv]
    have hbx := (box6_new w1 (gN x 0) (gN x 1) (gN x 2) (gN x 3) (gN x 4) v 32).on (Below.refl _ _).drew
    have hbr := HX1.out.on (bal (Below.refl _ _) (.cells #[.int .i64 (gN x 0), .int .i64 (gN x 1), .int .i64 (gN x 2), .int .i64 (gN x 3), .int .i64 (gN x 4), .int .i64 v] 32)).drew
    have hbb := (bal H1.out (.cells #[.int .i64 (gN x 0), .int .i64 (gN x 1), .int .i64 (gN x 2), .int .i64 (gN x 3), .int .i64 (gN x 4), .int .i64 v] 32)).drew
    have hne := HX1.out.lt
    clear f0 f1 f2 f3 f4 fl H5
    generalize (w1.alloc _).drew = w2 at hbx hbr hbb ⊢
    have HP2 : Hid (Box6 w2 w1.heap.size (gN x 0) (gN x 1) (gN x 2) (gN x 3) (gN x 4) v) := hbx
    have HR2 : Hid (Box6 w2 w.heap.size 0 0 0 0 0 0) := hbr
    have HB2 : Hid (Below w.heap.size w w2) := hbb
    have HQ2 : Hid (w.heap.size < w1.heap.size) := hne
    have y0 := hbx.c0
    have y1 := hbx.c1
    have y2 := hbx.c2
    have y3 := hbx.c3
    have y4 := hbx.c4
    have y5 := hbx.c5
    clear hbx hbr hbb hne HX1
    generalize w1.heap.size = D at HP2 HQ2 y0 y1 y2 y3 y4 y5 ⊢
    go_wp2_with (first
      | (go_at_call 38; refine (check_any _ _ _ _ _ _ _ (HT.out.on HB2.out)).mono ?_; rintro e2 w3 ⟨rfl, hb3⟩; rw [hc]; have H3 : Hid (Below w.heap.size w w3) := HB2.out.trans (hb3.mono HB2.out.size); clear y0 y1 y2 y3 y4 y5; have Y1 := HP2.out.on hb3; have y0 := Y1.c0; have y1 := Y1.c1; have y2 := Y1.c2; have y3 := Y1.c3; have y4 := Y1.c4; have y5 := Y1.c5; clear Y1; have X1 := HR2.out.on hb3; have x0 := X1.c0; have x1 := X1.c1; have x2 := X1.c2; have x3 := X1.c3; have x4 := X1.c4; have x5 := X1.c5; have z0 := X1.fz 0; have z1 := X1.fz 1; have z2 := X1.fz 2; have z3 := X1.fz 3; have z4 := X1.fz 4; have z5 := X1.fz 5; have xl := X1.lt; clear X1 hb3; have ne1 : ¬ D = w.heap.size := Nat.ne_of_gt HQ2.out; have ne2 : ¬ w.heap.size = D := Nat.ne_of_lt HQ2.out)
      | fail)
    refine bodyPost_ret (v := .tuple #[.agg #[.int .i64 (gN x 0), .int .i64 (gN x 1), .int .i64 (gN x 2), .int .i64 (gN x 3), .int .i64 (gN x 4), .int .i64 v], .int .i64 0]) (by simp [results, Tryd.results27, go_sem, x0, x1, x2, x3, x4, x5]) rfl ⟨rfl, ?_⟩
    exact bst (bst (bst (bst (bst (bst H3.out (Nat.le_refl _) _ _) (Nat.le_refl _) _ _) (Nat.le_refl _) _ _) (Nat.le_refl _) _ _) (Nat.le_refl _) _ _) (Nat.le_refl _) _ _
  case neg =>
    have hG : ¬ Got x y := fun h => hr (by
      have hvy : v = y := by rw [hv]; exact wrapi_small hy.1 (by have := h.2.1; omega)
      rw [hvy]; exact h.2.2)
    simp only [getC_no hG, getE_no hG]
    have hc : chk (gN x 0) (gN x 1) (gN x 2) (gN x 3) (gN x 4) v = 1 := chk_no hr
    clear hr hv p0 p1 p2 p3 p4 q0 q1 q2 q3 q4 hy hG
    go_enter Tryd.func27, Tryd.ntmps27
    go_wp2_with (first
      | (go_at_call 44; refine (unpack_five (some ⟨w.heap.size + 1, 0, none⟩) x _ HX.out (HW.out _ _).1 HN.out).mono ?_; rintro e1 w1 ⟨b, o, c, rfl, h5, hb1⟩; have H1 : Hid (Below w.heap.size w w1) := (HW.out _ _).2.trans (hb1.mono (HW.out _ _).2.size); have H5 : Hid (Five w1 b o x) := h5; have HX1 : Hid (Box6 w1 w.heap.size 0 0 0 0 0 0) := HO.out _ _ _ hb1; clear hb1 HO h5; have f0 := H5.out.c0; have f1 := H5.out.c1; have f2 := H5.out.c2; have f3 := H5.out.c3; have f4 := H5.out.c4; have fl := H5.out.lt)
      | fail)
    go_region_held3 (fun w' => w'.cell? ⟨b, o, none⟩ = some (.int .u64 (gN x 0)) ∧ w'.cell? ⟨b, o + 1, none⟩ = some (.int .u64 (gN x 1)) ∧ w'.cell? ⟨b, o + 2, none⟩ = some (.int .u64 (gN x 2)) ∧ w'.cell? ⟨b, o + 3, none⟩ = some (.int .u64 (gN x 3)) ∧ w'.cell? ⟨b, o + 4, none⟩ = some (.int .u64 (gN x 4))) (first | exact ⟨by assumption, by assumption, by assumption, by assumption, by assumption⟩ | go_keep)
    (fail)
    try simp only [d0, d1, d2, d3, d4, dv]
    have hbx := (box6_new w1 (gN x 0) (gN x 1) (gN x 2) (gN x 3) (gN x 4) v 32).on (Below.refl _ _).drew
    have hbr := HX1.out.on (bal (Below.refl _ _) (.cells #[.int .i64 (gN x 0), .int .i64 (gN x 1), .int .i64 (gN x 2), .int .i64 (gN x 3), .int .i64 (gN x 4), .int .i64 v] 32)).drew
    have hbb := (bal H1.out (.cells #[.int .i64 (gN x 0), .int .i64 (gN x 1), .int .i64 (gN x 2), .int .i64 (gN x 3), .int .i64 (gN x 4), .int .i64 v] 32)).drew
    have hne := HX1.out.lt
    clear f0 f1 f2 f3 f4 fl H5
    generalize (w1.alloc _).drew = w2 at hbx hbr hbb ⊢
    have HP2 : Hid (Box6 w2 w1.heap.size (gN x 0) (gN x 1) (gN x 2) (gN x 3) (gN x 4) v) := hbx
    have HR2 : Hid (Box6 w2 w.heap.size 0 0 0 0 0 0) := hbr
    have HB2 : Hid (Below w.heap.size w w2) := hbb
    have HQ2 : Hid (w.heap.size < w1.heap.size) := hne
    have y0 := hbx.c0
    have y1 := hbx.c1
    have y2 := hbx.c2
    have y3 := hbx.c3
    have y4 := hbx.c4
    have y5 := hbx.c5
    clear hbx hbr hbb hne HX1
    generalize w1.heap.size = D at HP2 HQ2 y0 y1 y2 y3 y4 y5 ⊢
    go_wp2_with (first
      | (go_at_call 38; refine (check_any _ _ _ _ _ _ _ (HT.out.on HB2.out)).mono ?_; rintro e2 w3 ⟨rfl, hb3⟩; rw [hc]; have H3 : Hid (Below w.heap.size w w3) := HB2.out.trans (hb3.mono HB2.out.size); clear y0 y1 y2 y3 y4 y5; have Y1 := HP2.out.on hb3; have y0 := Y1.c0; have y1 := Y1.c1; have y2 := Y1.c2; have y3 := Y1.c3; have y4 := Y1.c4; have y5 := Y1.c5; clear Y1; have X1 := HR2.out.on hb3; have x0 := X1.c0; have x1 := X1.c1; have x2 := X1.c2; have x3 := X1.c3; have x4 := X1.c4; have x5 := X1.c5; have z0 := X1.fz 0; have z1 := X1.fz 1; have z2 := X1.fz 2; have z3 := X1.fz 3; have z4 := X1.fz 4; have z5 := X1.fz 5; have xl := X1.lt; clear X1 hb3; have ne1 : ¬ D = w.heap.size := Nat.ne_of_gt HQ2.out; have ne2 : ¬ w.heap.size = D := Nat.ne_of_lt HQ2.out)
      | fail)
    refine bodyPost_ret (v := .tuple #[.agg #[.int .i64 0, .int .i64 0, .int .i64 0, .int .i64 0, .int .i64 0, .int .i64 0], .int .i64 12]) (by simp [results, Tryd.results27, go_sem, x0, x1, x2, x3, x4, x5]) rfl ⟨rfl, ?_⟩
    exact bst (bst (bst (bst (bst (bst H3.out (Nat.le_refl _) _ _) (Nat.le_refl _) _ _) (Nat.le_refl _) _ _) (Nat.le_refl _) _ _) (Nat.le_refl _) _ _) (Nat.le_refl _) _ _
end Go.Proofs.YtkodanflobclhaaDoor.Pcap
