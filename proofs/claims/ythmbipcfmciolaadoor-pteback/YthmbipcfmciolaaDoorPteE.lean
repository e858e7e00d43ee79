/- What Get of package pte answers, for every word. -/
import Derived.Test.YthmbipcfmciolaaDoorPteB
namespace Go.Proofs.YthmbipcfmciolaaDoor.Ppte
open Go.Proofs.YthmbipcfmciolaaDoor.Pbase Go.Proofs.YthmbipcfmciolaaDoor.Pfield
open Go.RowKit M
set_option linter.unusedVariables false

/-- The parts of a word, in a block. -/
structure Four (w : World) (b o : Nat) (x : Int) : Prop where
  lt : b < w.heap.size
  c0 : w.cell? ⟨b, o, none⟩ = some (.int .u64 (gN x 0))
  c1 : w.cell? ⟨b, o + 1, none⟩ = some (.int .u64 (gN x 1))
  c2 : w.cell? ⟨b, o + 2, none⟩ = some (.int .u64 (gN x 2))
  c3 : w.cell? ⟨b, o + 3, none⟩ = some (.int .u64 (gN x 3))
theorem four_of {w : World} {a : Option Addr} {c : Nat} {x : Int} (h : Ints .u64 w.heap.size w (.slice a ws.length c) (getsI x ws)) : ∃ b o, a = some ⟨b, o, none⟩ ∧ Four w b o x := by
  have hl := getsI_length x ws
  rcases h with ⟨_, _, e1, e2⟩ | ⟨b, o, cap, e1, hb, hc⟩
  · rw [e2, ws_length] at hl; cases hl
  · cases e1
    rw [hl, ws_length] at hc
    exact ⟨b, o, rfl, hb, hc 0 (by omega), hc 1 (by omega), hc 2 (by omega), hc 3 (by omega)⟩
theorem unpack_four (a0 : Option Addr) (x : Int) (w : World) (hx : 0 ≤ x ∧ x ≤ 18446744073709551615) (hI : Ints .i64 w.heap.size w (.slice a0 4 4) ws) (hA : canU x ws) :
    Calls Tryd.prog 22 #[.slice a0 4 4, .int .u64 x] w fun e' W' => ∃ b o c, e' = .returned (.tuple #[.slice (some ⟨b, o, none⟩) 4 c, .int .i64 0]) ∧ Four W' b o x ∧ Below w.heap.size w W' :=
  (unpack_ok a0 4 ws x w (by decide) hx hI hA).mono fun e' W' ⟨a, c, he, hi, hB⟩ => by
    obtain ⟨b, o, rfl, h5⟩ := four_of hi
    exact ⟨b, o, c, he, h5, hB⟩
theorem on_bit {n : Int} (h : 0 ≤ n ∧ n ≤ 1) : (n != 0) = (n == 1) := by
  rcases (show n = 0 ∨ n = 1 by omega) with rfl | rfl <;> rfl
set_option maxRecDepth 100000 in
set_option maxHeartbeats 2000000 in
theorem get_any (x : Int) (w : World) (hx : 0 ≤ x ∧ x ≤ 18446744073709551615) (hW : TabW w) :
    Calls Tryd.prog 7 #[.int .u64 x] w fun v w' => v = .returned (.tuple #[.agg #[.bool (getO x), .int .i64 (getF x), .int .i64 (getR x), .int .i64 (getT x)], .int .i64 (getE x)]) ∧ Below w.heap.size w w' := by
  obtain ⟨g0, g1, g2, g3⟩ := hW.cells
  have gl := hW.lt
  clear hW
  have HO : Hid (∀ ty o w1, Below ((w.alloc (.cells #[.bool false, .int .i64 0, .int .i64 0, .int .i64 0] ty)).alloc o).heap.size ((w.alloc (.cells #[.bool false, .int .i64 0, .int .i64 0, .int .i64 0] ty)).alloc o) w1 → BoxP w1 w.heap.size false 0 0 0) := fun ty o w1 h => ((boxP_new w false 0 0 0 ty).on (bal (Below.refl _ _) o)).on h
  have HX : Hid (0 ≤ x ∧ x ≤ 18446744073709551615) := hx
  clear hx
  have HW : Hid (∀ o ty, Ints .i64 ((w.alloc o).alloc (.cells #[.int .i64 1, .int .i64 6, .int .i64 2, .int .i64 31] ty)).heap.size ((w.alloc o).alloc (.cells #[.int .i64 1, .int .i64 6, .int .i64 2, .int .i64 31] ty)) (.slice (some ⟨w.heap.size + 1, 0, none⟩) 4 4) ws ∧ Below w.heap.size w ((w.alloc o).alloc (.cells #[.int .i64 1, .int .i64 6, .int .i64 2, .int .i64 31] ty))) := fun o ty => ⟨by have := ints_ws (w.alloc o) ty; rwa [show (w.alloc o).heap.size = w.heap.size + 1 by simp] at this, bal (bal (Below.refl _ _) _) _⟩
  by_cases hc : canU x ws
  case neg =>
    have hno : ¬ Got x := fun h => hc h.1
    obtain ⟨e0, e1, e2, e3, e4⟩ := get_no hno
    rw [e0, e1, e2, e3, e4]
    have HN : Hid (¬ canU x ws) := hc
    clear hc hno e0 e1 e2 e3 e4
    go_enter Tryd.func7, Tryd.ntmps7
    go_wp2_with (first
      | (go_at_call 22; refine (unpack_bad (some ⟨w.heap.size + 1, 0, none⟩) 4 ws x _ (by decide) HX.out (HW.out _ _).1 HN.out).mono ?_; rintro e1 w1 ⟨rfl, hb1⟩; have H1 : Hid (Below w.heap.size w w1) := (HW.out _ _).2.trans (hb1.mono (HW.out _ _).2.size); have X1 := HO.out _ _ _ hb1; clear hb1 HO; have x0 := X1.c0; have x1 := X1.c1; have x2 := X1.c2; have x3 := X1.c3; have z0 := X1.fz 0; have z1 := X1.fz 1; have z2 := X1.fz 2; have z3 := X1.fz 3; have xl := X1.lt; clear X1)
      | fail)
    refine bodyPost_ret (v := .tuple #[.agg #[.bool false, .int .i64 0, .int .i64 0, .int .i64 0], .int .i64 12]) (by simp [results, Tryd.results7, go_sem, x0, x1, x2, x3]) rfl ⟨rfl, ?_⟩
    exact bst (bst (bst (bst H1.out (Nat.le_refl _) _ _) (Nat.le_refl _) _ _) (Nat.le_refl _) _ _) (Nat.le_refl _) _ _
  case pos =>
  have HN : Hid (canU x ws) := hc
  clear hc
  obtain ⟨hp0, ⟨p1, q1⟩, ⟨p2, q2⟩, ⟨p3, q3⟩⟩ := gN_bd HX.out HN.out
  have d0 : (gN x 0 != 0) = (gN x 0 == 1) := on_bit hp0
  have d1 : IntKind.i64.wrap (gN x 1) = gN x 1 := wrapi_small p1 (by omega)
  have d2 : IntKind.i64.wrap (gN x 2) = gN x 2 := wrapi_small p2 (by omega)
  have d3 : IntKind.i64.wrap (gN x 3) = gN x 3 := wrapi_small p3 (by omega)
  obtain ⟨ob, hob⟩ : ∃ ob, (gN x 0 == 1) = ob := ⟨_, rfl⟩
  rw [hob] at d0
  by_cases hr : Rt ob (gN x 1) (gN x 2) (gN x 3)
  case pos =>
    have hG : Got x := ⟨HN.out, by rw [hob]; exact hr⟩
    obtain ⟨e0, e1, e2, e3, e4⟩ := get_yes hG
    rw [e0, e1, e2, e3, e4, hob]
    clear e0 e1 e2 e3 e4 hG
    have hc : chk ob (gN x 1) (gN x 2) (gN x 3) = 0 := chk_yes hr
    clear hr p1 p2 p3 q1 q2 q3 hp0 hob
    go_enter Tryd.func7, Tryd.ntmps7
    go_wp2_with (first
      | (go_at_call 22; refine (unpack_four (some ⟨w.heap.size + 1, 0, none⟩) x _ HX.out (HW.out _ _).1 HN.out).mono ?_; rintro e1 w1 ⟨b, o, c, rfl, h5, hb1⟩; have H1 : Hid (Below w.heap.size w w1) := (HW.out _ _).2.trans (hb1.mono (HW.out _ _).2.size); have H5 : Hid (Four w1 b o x) := h5; have HX1 : Hid (BoxP w1 w.heap.size false 0 0 0) := HO.out _ _ _ hb1; clear hb1 HO h5; have f0 := H5.out.c0; have f1 := H5.out.c1; have f2 := H5.out.c2; have f3 := H5.out.c3; have fl := H5.out.lt)
      | fail)
    go_region_held3 (fun w' => w'.cell? ⟨b, o, none⟩ = some (.int .u64 (gN x 0)) ∧ w'.cell? ⟨b, o + 1, none⟩ = some (.int .u64 (gN x 1)) ∧ w'.cell? ⟨b, o + 2, none⟩ = some (.int .u64 (gN x 2)) ∧ w'.cell? ⟨b, o + 3, none⟩ = some (.int .u64 (gN x 3))) (first | exact ⟨by assumption, by assumption, by assumption, by assumption⟩ | go_keep)
    (fail)
    try simp only [d0, d1, d2, d3]
    have hbx := (boxP_new w1 ob (gN x 1) (gN x 2) (gN x 3) 23).on (Below.refl _ _).drew
    have hbr := HX1.out.on (bal (Below.refl _ _) (.cells #[.bool ob, .int .i64 (gN x 1), .int .i64 (gN x 2), .int .i64 (gN x 3)] 23)).drew
    have hbb := (bal H1.out (.cells #[.bool ob, .int .i64 (gN x 1), .int .i64 (gN x 2), .int .i64 (gN x 3)] 23)).drew
    have hne := HX1.out.lt
    clear f0 f1 f2 f3 fl H5
    generalize (w1.alloc _).drew = w2 at hbx hbr hbb ⊢
    have HP2 : Hid (BoxP w2 w1.heap.size ob (gN x 1) (gN x 2) (gN x 3)) := hbx
    have HR2 : Hid (BoxP w2 w.heap.size false 0 0 0) := hbr
    have HB2 : Hid (Below w.heap.size w w2) := hbb
    have HQ2 : Hid (w.heap.size < w1.heap.size) := hne
    have y0 := hbx.c0
    have y1 := hbx.c1
    have y2 := hbx.c2
    have y3 := hbx.c3
    clear hbx hbr hbb hne HX1
    generalize w1.heap.size = D at HP2 HQ2 y0 y1 y2 y3 ⊢
    go_wp2_with (first
      | (go_at_call 11; refine (check_any _ _ _ _ _).mono ?_; rintro e2 w3 ⟨rfl, hb3⟩; rw [hc]; have H3 : Hid (Below w.heap.size w w3) := HB2.out.trans (hb3.mono HB2.out.size); clear y0 y1 y2 y3; have Y1 := HP2.out.on hb3; have y0 := Y1.c0; have y1 := Y1.c1; have y2 := Y1.c2; have y3 := Y1.c3; clear Y1; have X1 := HR2.out.on hb3; have x0 := X1.c0; have x1 := X1.c1; have x2 := X1.c2; have x3 := X1.c3; have z0 := X1.fz 0; have z1 := X1.fz 1; have z2 := X1.fz 2; have z3 := X1.fz 3; have xl := X1.lt; clear X1 hb3; have ne1 : ¬ D = w.heap.size := Nat.ne_of_gt HQ2.out; have ne2 : ¬ w.heap.size = D := Nat.ne_of_lt HQ2.out)
      | fail)
    refine bodyPost_ret (v := .tuple #[.agg #[.bool ob, .int .i64 (gN x 1), .int .i64 (gN x 2), .int .i64 (gN x 3)], .int .i64 0]) (by simp [results, Tryd.results7, go_sem, x0, x1, x2, x3]) rfl ⟨rfl, ?_⟩
    exact bst (bst (bst (bst H3.out (Nat.le_refl _) _ _) (Nat.le_refl _) _ _) (Nat.le_refl _) _ _) (Nat.le_refl _) _ _
  case neg =>
    have hG : ¬ Got x := fun h => hr (by rw [← hob]; exact h.2)
    obtain ⟨e0, e1, e2, e3, e4⟩ := get_no hG
    rw [e0, e1, e2, e3, e4]
    clear e0 e1 e2 e3 e4 hG
    have hc : chk ob (gN x 1) (gN x 2) (gN x 3) = 1 := chk_no hr
    clear hr p1 p2 p3 q1 q2 q3 hp0 hob
    go_enter Tryd.func7, Tryd.ntmps7
    go_wp2_with (first
      | (go_at_call 22; refine (unpack_four (some ⟨w.heap.size + 1, 0, none⟩) x _ HX.out (HW.out _ _).1 HN.out).mono ?_; rintro e1 w1 ⟨b, o, c, rfl, h5, hb1⟩; have H1 : Hid (Below w.heap.size w w1) := (HW.out _ _).2.trans (hb1.mono (HW.out _ _).2.size); have H5 : Hid (Four w1 b o x) := h5; have HX1 : Hid (BoxP w1 w.heap.size false 0 0 0) := HO.out _ _ _ hb1; clear hb1 HO h5; have f0 := H5.out.c0; have f1 := H5.out.c1; have f2 := H5.out.c2; have f3 := H5.out.c3; have fl := H5.out.lt)
      | fail)
    go_region_held3 (fun w' => w'.cell? ⟨b, o, none⟩ = some (.int .u64 (gN x 0)) ∧ w'.cell? ⟨b, o + 1, none⟩ = some (.int .u64 (gN x 1)) ∧ w'.cell? ⟨b, o + 2, none⟩ = some (.int .u64 (gN x 2)) ∧ w'.cell? ⟨b, o + 3, none⟩ = some (.int .u64 (gN x 3))) (first | exact ⟨by assumption, by assumption, by assumption, by assumption⟩ | go_keep)
    (fail)
    try simp only [d0, d1, d2, d3]
    have hbx := (boxP_new w1 ob (gN x 1) (gN x 2) (gN x 3) 23).on (Below.refl _ _).drew
    have hbr := HX1.out.on (bal (Below.refl _ _) (.cells #[.bool ob, .int .i64 (gN x 1), .int .i64 (gN x 2), .int .i64 (gN x 3)] 23)).drew
    have hbb := (bal H1.out (.cells #[.bool ob, .int .i64 (gN x 1), .int .i64 (gN x 2), .int .i64 (gN x 3)] 23)).drew
    have hne := HX1.out.lt
    clear f0 f1 f2 f3 fl H5
    generalize (w1.alloc _).drew = w2 at hbx hbr hbb ⊢
    have HP2 : Hid (BoxP w2 w1.heap.size ob (gN x 1) (gN x 2) (gN x 3)) := hbx
    have HR2 : Hid (BoxP w2 w.heap.size false 0 0 0) := hbr
    have HB2 : Hid (Below w.heap.size w w2) := hbb
    have HQ2 : Hid (w.heap.size < w1.heap.size) := hne
    have y0 := hbx.c0
    have y1 := hbx.c1
    have y2 := hbx.c2
    have y3 := hbx.c3
    clear hbx hbr hbb hne HX1
    generalize w1.heap.size = D at HP2 HQ2 y0 y1 y2 y3 ⊢
    go_wp2_with (first
      | (go_at_call 11; refine (check_any _ _ _ _ _).mono ?_; rintro e2 w3 ⟨rfl, hb3⟩; rw [hc]; have H3 : Hid (Below w.heap.size w w3) := HB2.out.trans (hb3.mono HB2.out.size); clear y0 y1 y2 y3; have Y1 := HP2.out.on hb3; have y0 := Y1.c0; have y1 := Y1.c1; have y2 := Y1.c2; have y3 := Y1.c3; clear Y1; have X1 := HR2.out.on hb3; have x0 := X1.c0; have x1 := X1.c1; have x2 := X1.c2; have x3 := X1.c3; have z0 := X1.fz 0; have z1 := X1.fz 1; have z2 := X1.fz 2; have z3 := X1.fz 3; have xl := X1.lt; clear X1 hb3; have ne1 : ¬ D = w.heap.size := Nat.ne_of_gt HQ2.out; have ne2 : ¬ w.heap.size = D := Nat.ne_of_lt HQ2.out)
      | fail)
    refine bodyPost_ret (v := .tuple #[.agg #[.bool false, .int .i64 0, .int .i64 0, .int .i64 0], .int .i64 12]) (by simp [results, Tryd.results7, go_sem, x0, x1, x2, x3]) rfl ⟨rfl, ?_⟩
    exact bst (bst (bst (bst H3.out (Nat.le_refl _) _ _) (Nat.le_refl _) _ _) (Nat.le_refl _) _ _) (Nat.le_refl _) _ _
end Go.Proofs.YthmbipcfmciolaaDoor.Ppte
