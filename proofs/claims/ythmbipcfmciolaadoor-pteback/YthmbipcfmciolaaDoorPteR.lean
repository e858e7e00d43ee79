/- What the document's right, Check, Put, Get, Allows, Less, Quiet of layer 14 answer, for every mapping and every word. -/
import Derived.Test.YthmbipcfmciolaaDoorPteE
namespace Go.Proofs.YthmbipcfmciolaaDoor.Ppte
open Go.Proofs.YthmbipcfmciolaaDoor.Pbase Go.Proofs.YthmbipcfmciolaaDoor.Pfield
open Go.RowKit M
set_option linter.unusedVariables false

/-! ### right, Check -/
set_option maxRecDepth 100000 in
theorem right_any (o : Bool) (f r t : Int) (w : World) :
    Calls Tryd.prog 20 #[.agg #[.bool o, .int .i64 f, .int .i64 r, .int .i64 t]] w fun e w' => e = .returned (.bool (rtB o f r t)) ∧ Below w.heap.size w w' := by
  cases o
  case true =>
    by_cases hc : 0 ≤ f ∧ f ≤ 63 ∧ 1 ≤ r ∧ r ≤ 3 ∧ t = 0
    · rw [rtB_yes (o := true) ⟨fun _ => hc, fun e => by cases e⟩]
      obtain ⟨h0, h1, h2, h3, rfl⟩ := hc
      have h4 : f < 64 := by omega
      go_enter Tryd.func20, Tryd.ntmps20
      go_wp2
      go_ret
      exact ⟨rfl, bal (Below.refl _ _) _⟩
    · rw [rtB_no (o := true) fun h => hc (h.1 rfl)]
      have hk : f < 0 ∨ (¬ f < 0 ∧ ¬ f < 64) ∨ (¬ f < 0 ∧ f < 64 ∧ r < 1) ∨ (¬ f < 0 ∧ f < 64 ∧ ¬ r < 1 ∧ 3 < r) ∨ ¬ f < 0 ∧ f < 64 ∧ ¬ r < 1 ∧ ¬ 3 < r ∧ ((t : Int) == 0) = false := by
        simp only [beq_eq_false_iff_ne, ne_eq]
        omega
      clear hc
      rcases hk with h0 | ⟨h0, h1⟩ | ⟨h0, h1, h2⟩ | ⟨h0, h1, h2, h3⟩ | ⟨h0, h1, h2, h3, h4⟩
      all_goals
        go_enter Tryd.func20, Tryd.ntmps20
        go_wp2
        go_ret
        exact ⟨rfl, bal (Below.refl _ _) _⟩
  case false =>
  by_cases hc : f = 0 ∧ r = 0 ∧ 0 ≤ t ∧ t ≤ 1073741824
  · rw [rtB_yes (o := false) ⟨fun e => (by cases e), fun _ => hc⟩]
    obtain ⟨rfl, rfl, h2, h3⟩ := hc
    go_enter Tryd.func20, Tryd.ntmps20
    go_wp2
    go_ret
    exact ⟨rfl, bal (Below.refl _ _) _⟩
  · rw [rtB_no (o := false) fun h => hc (h.2 rfl)]
    have hk : ((f : Int) == 0) = false ∨ (f = 0 ∧ ((r : Int) == 0) = false) ∨ (f = 0 ∧ r = 0 ∧ t < 0) ∨ f = 0 ∧ r = 0 ∧ ¬ t < 0 ∧ 1073741824 < t := by
      simp only [beq_eq_false_iff_ne, ne_eq]
      omega
    clear hc
    rcases hk with h0 | ⟨rfl, h1⟩ | ⟨rfl, rfl, h2⟩ | ⟨rfl, rfl, h2, h3⟩
    all_goals
      go_enter Tryd.func20, Tryd.ntmps20
      go_wp2
      go_ret
      exact ⟨by first | rfl | (show Ending.returned (.bool (decide (t ≤ 1073741824))) = _; rw [decide_eq_false (by omega)]), bal (Below.refl _ _) _⟩
theorem chk_rt (o : Bool) (f r t : Int) : chk o f r t = if rtB o f r t = true then 0 else 1 := rfl
set_option maxRecDepth 100000 in
theorem rcheck_any (o : Bool) (f r t : Int) (w : World) :
    Calls Tryd.prog 12 #[.agg #[.bool o, .int .i64 f, .int .i64 r, .int .i64 t]] w fun e w' => e = .returned (.int .i64 (chk o f r t)) ∧ Below w.heap.size w w' := by
  rw [chk_rt]
  have HR : Hid (∀ w1, Calls Tryd.prog 20 #[.agg #[.bool o, .int .i64 f, .int .i64 r, .int .i64 t]] w1 fun e w' => e = .returned (.bool (rtB o f r t)) ∧ Below w1.heap.size w1 w') := fun w1 => right_any o f r t w1
  generalize rtB o f r t = m at HR ⊢
  cases m
  all_goals
    go_enter Tryd.func12, Tryd.ntmps12
    go_wp2_with (first
      | (go_at_call 20; refine (HR.out _).mono ?_; rintro e1 w1 ⟨rfl, hb1⟩; have H1 : Hid (Below w.heap.size w w1) := (bal (Below.refl _ _) _).trans (hb1.mono (by simp)); clear hb1)
      | fail)
    go_ret
    exact ⟨rfl, H1.out⟩

/-! ### Put -/
/-- Packing behind the building of the widths and of the parts. -/
theorem rpack_four {o : Bool} {f r t : Int} (hp : Rt o f r t) (w1 : World) :
    Calls Tryd.prog 21 #[.slice (some ⟨w1.heap.size, 0, none⟩) 4 4, .slice (some ⟨w1.heap.size + 1, 0, none⟩) 4 4] ((w1.alloc (.cells #[.int .i64 1, .int .i64 6, .int .i64 2, .int .i64 31] 3)).alloc (.cells #[.int .u64 (bz o), .int .u64 f, .int .u64 r, .int .u64 t] 24)) fun e' W' => e' = .returned (.tuple #[.int .u64 (wd o f r t), .int .i64 0]) ∧ Below w1.heap.size w1 W' := by
  have hi := (ints_ws w1 3).on (bal (Below.refl _ _) (.cells #[.int .u64 (bz o), .int .u64 f, .int .u64 r, .int .u64 t] 24))
  have hj := ints_four .u64 (w1.alloc (.cells #[.int .i64 1, .int .i64 6, .int .i64 2, .int .i64 31] 3)) (bz o) f r t 24
  rw [show (w1.alloc (.cells #[.int .i64 1, .int .i64 6, .int .i64 2, .int .i64 31] 3)).heap.size = w1.heap.size + 1 by simp] at hj
  exact (rpack_ok (some ⟨w1.heap.size, 0, none⟩) (some ⟨w1.heap.size + 1, 0, none⟩) 4 4 ws [bz o, f, r, t] _ (by decide) rfl (put_can hp).1 hi hj (put_can hp).2).mono fun e' W' ⟨h1, h2⟩ => ⟨h1, (bal (bal (Below.refl _ _) _) _).trans (h2.mono (by simp; omega))⟩
set_option maxRecDepth 100000 in
set_option maxHeartbeats 1000000 in
theorem rput_any (o : Bool) (f r t : Int) (w : World) :
    Calls Tryd.prog 6 #[.agg #[.bool o, .int .i64 f, .int .i64 r, .int .i64 t]] w fun e w' => e = .returned (.tuple #[.int .u64 (putW o f r t), .int .i64 (chk o f r t)]) ∧ Below w.heap.size w w' := by
  have HX : Hid (∀ ty, BoxP (w.alloc (.cells #[.bool o, .int .i64 f, .int .i64 r, .int .i64 t] ty)) w.heap.size o f r t) := fun ty => boxP_new w o f r t ty
  have HR : Hid (∀ w1, Calls Tryd.prog 20 #[.agg #[.bool o, .int .i64 f, .int .i64 r, .int .i64 t]] w1 fun e w' => e = .returned (.bool (rtB o f r t)) ∧ Below w1.heap.size w1 w') := fun w1 => right_any o f r t w1
  by_cases hp : Rt o f r t
  case neg =>
    rw [putW_no hp, chk_no hp]
    rw [rtB_no hp] at HR
    clear hp
    go_enter Tryd.func6, Tryd.ntmps6
    go_wp2_with (first
      | (go_at_call 20; refine (HR.out _).mono ?_; rintro e1 w1 ⟨rfl, hb1⟩; have H1 : Hid (Below w.heap.size w w1) := (bal (Below.refl _ _) _).trans (hb1.mono (by simp)); clear hb1)
      | fail)
    go_ret2
    exact ⟨rfl, H1.out⟩
  case pos =>
  rw [putW_yes hp, chk_yes hp]
  rw [rtB_yes hp] at HR
  have hb := rt_bd hp
  have d1 : IntKind.u64.wrap f = f := wrapu_small (by omega) (by omega)
  have d2 : IntKind.u64.wrap r = r := wrapu_small (by omega) (by omega)
  have d3 : IntKind.u64.wrap t = t := wrapu_small (by omega) (by omega)
  have HK := fun w1 => rpack_four hp w1
  clear hb hp
  obtain ⟨y, hy⟩ : ∃ y, y = wd o f r t := ⟨_, rfl⟩
  rw [← hy] at HK ⊢
  clear hy
  cases o
  case' false => rw [show bz false = 0 from rfl] at HK
  case' true => rw [show bz true = 1 from rfl] at HK
  all_goals
    have HP : Hid (∀ w1, _) := HK
    clear HK
    go_enter Tryd.func6, Tryd.ntmps6
    go_wp2_with (first
      | (go_at_call 20; refine (HR.out _).mono ?_; rintro e1 w1 ⟨rfl, hb1⟩; have H1 : Hid (Below w.heap.size w w1) := (bal (Below.refl _ _) _).trans (hb1.mono (by simp)); have X1 := (HX.out _).on hb1; clear hb1 HX; have x0 := X1.c0; have x1 := X1.c1; have x2 := X1.c2; have x3 := X1.c3; have xl := X1.lt; clear X1)
      | (go_at_call 21; refine (HP.out _).mono ?_; rintro e2 w2 ⟨rfl, hb2⟩; have H2 : Hid (Below w.heap.size w w2) := H1.out.trans (hb2.mono H1.out.size); clear hb2)
      | fail)
    go_ret2
    exact ⟨rfl, H2.out⟩

/-! ### Get -/
theorem runpack_four (a0 : Option Addr) (x : Int) (w : World) (hx : 0 ≤ x ∧ x ≤ 18446744073709551615) (hI : Ints .i64 w.heap.size w (.slice a0 4 4) ws) (hA : canU x ws) :
    Calls Tryd.prog 23 #[.slice a0 4 4, .int .u64 x] w fun e' W' => ∃ b o c, e' = .returned (.tuple #[.slice (some ⟨b, o, none⟩) 4 c, .int .i64 0]) ∧ Four W' b o x ∧ Below w.heap.size w W' :=
  (runpack_ok a0 4 ws x w (by decide) hx hI hA).mono fun e' W' ⟨a, c, he, hi, hB⟩ => by
    obtain ⟨b, o, rfl, h5⟩ := four_of hi
    exact ⟨b, o, c, he, h5, hB⟩
set_option maxRecDepth 100000 in
set_option maxHeartbeats 2000000 in
theorem rget_any (x : Int) (w : World) (hx : 0 ≤ x ∧ x ≤ 18446744073709551615) :
    Calls Tryd.prog 8 #[.int .u64 x] w fun v w' => v = .returned (.tuple #[.agg #[.bool (getO x), .int .i64 (getF x), .int .i64 (getR x), .int .i64 (getT x)], .int .i64 (getE x)]) ∧ Below w.heap.size w w' := by
  have HO : Hid (∀ ty o w1, Below ((w.alloc (.cells #[.bool false, .int .i64 0, .int .i64 0, .int .i64 0] ty)).alloc o).heap.size ((w.alloc (.cells #[.bool false, .int .i64 0, .int .i64 0, .int .i64 0] ty)).alloc o) w1 → BoxP w1 w.heap.size false 0 0 0) := fun ty o w1 h => ((boxP_new w false 0 0 0 ty).on (bal (Below.refl _ _) o)).on h
  have HX : Hid (0 ≤ x ∧ x ≤ 18446744073709551615) := hx
  clear hx
  have HW : Hid (∀ o ty, Ints .i64 ((w.alloc o).alloc (.cells #[.int .i64 1, .int .i64 6, .int .i64 2, .int .i64 31] ty)).heap.size ((w.alloc o).alloc (.cells #[.int .i64 1, .int .i64 6, .int .i64 2, .int .i64 31] ty)) (.slice (some ⟨w.heap.size + 1, 0, none⟩) 4 4) ws ∧ Below w.heap.size w ((w.alloc o).alloc (.cells #[.int .i64 1, .int .i64 6, .int .i64 2, .int .i64 31] ty))) := fun o ty => ⟨by have := ints_ws (w.alloc o) ty; rwa [show (w.alloc o).heap.size = w.heap.size + 1 by simp] at this, bal (bal (Below.refl _ _) _) _⟩
  by_cases hc : canU x ws
  case neg =>
    have hno : ¬ Got x := fun h => hc h.1
    obtain ⟨e0, e1, e2, e3, e4⟩ := get_no hno
    rw [e0, e1, e2, e3, e4]
    have HN : Hid (¬ canU x ws) := hc
    clear hc hno e0 e1 e2 e3 e4
    go_enter Tryd.func8, Tryd.ntmps8
    go_wp2_with (first
      | (go_at_call 23; refine (runpack_bad (some ⟨w.heap.size + 1, 0, none⟩) 4 ws x _ (by decide) HX.out (HW.out _ _).1 HN.out).mono ?_; rintro e1 w1 ⟨rfl, hb1⟩; have H1 : Hid (Below w.heap.size w w1) := (HW.out _ _).2.trans (hb1.mono (HW.out _ _).2.size); have X1 := HO.out _ _ _ hb1; clear hb1 HO; have x0 := X1.c0; have x1 := X1.c1; have x2 := X1.c2; have x3 := X1.c3; have z0 := X1.fz 0; have z1 := X1.fz 1; have z2 := X1.fz 2; have z3 := X1.fz 3; have xl := X1.lt; clear X1)
      | fail)
    refine bodyPost_ret (v := .tuple #[.agg #[.bool false, .int .i64 0, .int .i64 0, .int .i64 0], .int .i64 12]) (by simp [results, Tryd.results8, go_sem, x0, x1, x2, x3]) rfl ⟨rfl, ?_⟩
    exact bst (bst (bst (bst H1.out (Nat.le_refl _) _ _) (Nat.le_refl _) _ _) (Nat.le_refl _) _ _) (Nat.le_refl _) _ _
  case pos =>
  have HN : Hid (canU x ws) := hc
  clear hc
  obtain ⟨hp0, ⟨p1, q1⟩, ⟨p2, q2⟩, ⟨p3, q3⟩⟩ := gN_bd HX.out HN.out
  have d1 : IntKind.i64.wrap (gN x 1) = gN x 1 := wrapi_small p1 (by omega)
  have d2 : IntKind.i64.wrap (gN x 2) = gN x 2 := wrapi_small p2 (by omega)
  have d3 : IntKind.i64.wrap (gN x 3) = gN x 3 := wrapi_small p3 (by omega)
  obtain ⟨ob, d0⟩ : ∃ ob, (gN x 0 == 1) = ob := ⟨_, rfl⟩
  by_cases hr : Rt ob (gN x 1) (gN x 2) (gN x 3)
  case pos =>
    have hG : Got x := ⟨HN.out, by rw [d0]; exact hr⟩
    obtain ⟨e0, e1, e2, e3, e4⟩ := get_yes hG
    rw [e0, e1, e2, e3, e4, d0]
    clear e0 e1 e2 e3 e4 hG
    have hc : rtB ob (gN x 1) (gN x 2) (gN x 3) = true := rtB_yes hr
    clear hr p1 p2 p3 q1 q2 q3 hp0
    go_enter Tryd.func8, Tryd.ntmps8
    go_wp2_with (first
      | (go_at_call 23; refine (runpack_four (some ⟨w.heap.size + 1, 0, none⟩) x _ HX.out (HW.out _ _).1 HN.out).mono ?_; rintro e1 w1 ⟨b, o, c, rfl, h5, hb1⟩; have H1 : Hid (Below w.heap.size w w1) := (HW.out _ _).2.trans (hb1.mono (HW.out _ _).2.size); have H5 : Hid (Four w1 b o x) := h5; have HX1 : Hid (BoxP w1 w.heap.size false 0 0 0) := HO.out _ _ _ hb1; clear hb1 HO h5; have f0 := H5.out.c0; have f1 := H5.out.c1; have f2 := H5.out.c2; have f3 := H5.out.c3; have fl := H5.out.lt)
      | fail)
    go_region_held3 (fun w' => w'.cell? ⟨b, o, none⟩ = some (.int .u64 (gN x 0)) ∧ w'.cell? ⟨b, o + 1, none⟩ = some (.int .u64 (gN x 1)) ∧ w'.cell? ⟨b, o + 2, none⟩ = some (.int .u64 (gN x 2)) ∧ w'.cell? ⟨b, o + 3, none⟩ = some (.int .u64 (gN x 3))) (first | exact ⟨by assumption, by assumption, by assumption, by assumption⟩ | go_keep)
    (fail)
    try simp only [d0, d1, d2, d3]
    have hbx := (boxP_new w1 ob (gN x 1) (gN x 2) (gN x 3) 23).on (Below.refl _ _).drew
    have hbr := HX1.out.on (bal (Below.refl _ _) (.cells #[.bool ob, .int .i64 (gN x 1), .int .i64 (gN x 2), .int .i64 (gN x 3)] 23)).drew
    have hbb := (bal H1.out (.cells #[.bool ob, .int .i64 (gN x 1), .int .i64 (gN x 2), .int .i64 (gN x 3)] 23)).drew
    have hne := HX1.out.lt
    clear f0 f1 f2 f3 fl H5
    generalize (w1.alloc _).drew = w2 at hbx hbr hbb ⊢
    have HP2 : Hid (BoxP w2 w1.heap.size ob (gN x 1) (gN x 2) (gN x 3)) := hbx
    have HR2 : Hid (BoxP w2 w.heap.size false 0 0 0) := hbr
    have HB2 : Hid (Below w.heap.size w w2) := hbb
    have HQ2 : Hid (w.heap.size < w1.heap.size) := hne
    have y0 := hbx.c0
    have y1 := hbx.c1
    have y2 := hbx.c2
    have y3 := hbx.c3
    clear hbx hbr hbb hne HX1
    generalize w1.heap.size = D at HP2 HQ2 y0 y1 y2 y3 ⊢
    go_wp2_with (first
      | (go_at_call 20; refine (right_any _ _ _ _ _).mono ?_; rintro e2 w3 ⟨rfl, hb3⟩; rw [hc]; have H3 : Hid (Below w.heap.size w w3) := HB2.out.trans (hb3.mono HB2.out.size); clear y0 y1 y2 y3; have Y1 := HP2.out.on hb3; have y0 := Y1.c0; have y1 := Y1.c1; have y2 := Y1.c2; have y3 := Y1.c3; clear Y1; have X1 := HR2.out.on hb3; have x0 := X1.c0; have x1 := X1.c1; have x2 := X1.c2; have x3 := X1.c3; have z0 := X1.fz 0; have z1 := X1.fz 1; have z2 := X1.fz 2; have z3 := X1.fz 3; have xl := X1.lt; clear X1 hb3; have ne1 : ¬ D = w.heap.size := Nat.ne_of_gt HQ2.out; have ne2 : ¬ w.heap.size = D := Nat.ne_of_lt HQ2.out)
      | fail)
    refine bodyPost_ret (v := .tuple #[.agg #[.bool ob, .int .i64 (gN x 1), .int .i64 (gN x 2), .int .i64 (gN x 3)], .int .i64 0]) (by simp [results, Tryd.results8, go_sem, x0, x1, x2, x3]) rfl ⟨rfl, ?_⟩
    exact bst (bst (bst (bst H3.out (Nat.le_refl _) _ _) (Nat.le_refl _) _ _) (Nat.le_refl _) _ _) (Nat.le_refl _) _ _
  case neg =>
    have hG : ¬ Got x := fun h => hr (by rw [← d0]; exact h.2)
    obtain ⟨e0, e1, e2, e3, e4⟩ := get_no hG
    rw [e0, e1, e2, e3, e4]
    clear e0 e1 e2 e3 e4 hG
    have hc : rtB ob (gN x 1) (gN x 2) (gN x 3) = false := rtB_no hr
    clear hr p1 p2 p3 q1 q2 q3 hp0
    go_enter Tryd.func8, Tryd.ntmps8
    go_wp2_with (first
      | (go_at_call 23; refine (runpack_four (some ⟨w.heap.size + 1, 0, none⟩) x _ HX.out (HW.out _ _).1 HN.out).mono ?_; rintro e1 w1 ⟨b, o, c, rfl, h5, hb1⟩; have H1 : Hid (Below w.heap.size w w1) := (HW.out _ _).2.trans (hb1.mono (HW.out _ _).2.size); have H5 : Hid (Four w1 b o x) := h5; have HX1 : Hid (BoxP w1 w.heap.size false 0 0 0) := HO.out _ _ _ hb1; clear hb1 HO h5; have f0 := H5.out.c0; have f1 := H5.out.c1; have f2 := H5.out.c2; have f3 := H5.out.c3; have fl := H5.out.lt)
      | fail)
    go_region_held3 (fun w' => w'.cell? ⟨b, o, none⟩ = some (.int .u64 (gN x 0)) ∧ w'.cell? ⟨b, o + 1, none⟩ = some (.int .u64 (gN x 1)) ∧ w'.cell? ⟨b, o + 2, none⟩ = some (.int .u64 (gN x 2)) ∧ w'.cell? ⟨b, o + 3, none⟩ = some (.int .u64 (gN x 3))) (first | exact ⟨by assumption, by assumption, by assumption, by assumption⟩ | go_keep)
    (fail)
    try simp only [d0, d1, d2, d3]
    have hbx := (boxP_new w1 ob (gN x 1) (gN x 2) (gN x 3) 23).on (Below.refl _ _).drew
    have hbr := HX1.out.on (bal (Below.refl _ _) (.cells #[.bool ob, .int .i64 (gN x 1), .int .i64 (gN x 2), .int .i64 (gN x 3)] 23)).drew
    have hbb := (bal H1.out (.cells #[.bool ob, .int .i64 (gN x 1), .int .i64 (gN x 2), .int .i64 (gN x 3)] 23)).drew
    have hne := HX1.out.lt
    clear f0 f1 f2 f3 fl H5
    generalize (w1.alloc _).drew = w2 at hbx hbr hbb ⊢
    have HP2 : Hid (BoxP w2 w1.heap.size ob (gN x 1) (gN x 2) (gN x 3)) := hbx
    have HR2 : Hid (BoxP w2 w.heap.size false 0 0 0) := hbr
    have HB2 : Hid (Below w.heap.size w w2) := hbb
    have HQ2 : Hid (w.heap.size < w1.heap.size) := hne
    have y0 := hbx.c0
    have y1 := hbx.c1
    have y2 := hbx.c2
    have y3 := hbx.c3
    clear hbx hbr hbb hne HX1
    generalize w1.heap.size = D at HP2 HQ2 y0 y1 y2 y3 ⊢
    go_wp2_with (first
      | (go_at_call 20; refine (right_any _ _ _ _ _).mono ?_; rintro e2 w3 ⟨rfl, hb3⟩; rw [hc]; have H3 : Hid (Below w.heap.size w w3) := HB2.out.trans (hb3.mono HB2.out.size); clear y0 y1 y2 y3; have Y1 := HP2.out.on hb3; have y0 := Y1.c0; have y1 := Y1.c1; have y2 := Y1.c2; have y3 := Y1.c3; clear Y1; have X1 := HR2.out.on hb3; have x0 := X1.c0; have x1 := X1.c1; have x2 := X1.c2; have x3 := X1.c3; have z0 := X1.fz 0; have z1 := X1.fz 1; have z2 := X1.fz 2; have z3 := X1.fz 3; have xl := X1.lt; clear X1 hb3; have ne1 : ¬ D = w.heap.size := Nat.ne_of_gt HQ2.out; have ne2 : ¬ w.heap.size = D := Nat.ne_of_lt HQ2.out)
      | fail)
    refine bodyPost_ret (v := .tuple #[.agg #[.bool false, .int .i64 0, .int .i64 0, .int .i64 0], .int .i64 12]) (by simp [results, Tryd.results8, go_sem, x0, x1, x2, x3]) rfl ⟨rfl, ?_⟩
    exact bst (bst (bst (bst H3.out (Nat.le_refl _) _ _) (Nat.le_refl _) _ _) (Nat.le_refl _) _ _) (Nat.le_refl _) _ _
end Go.Proofs.YthmbipcfmciolaaDoor.Ppte
