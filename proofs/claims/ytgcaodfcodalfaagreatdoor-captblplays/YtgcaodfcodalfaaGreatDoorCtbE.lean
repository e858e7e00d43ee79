/- What Make, Look, Room, Put and Freeze of package captbl answer and do, for every argument, over a memory that New made. -/
import Derived.Test.YtgcaodfcodalfaaGreatDoorCtbD
namespace Go.Proofs.YtgcaodfcodalfaaGreatDoor.Pcaptbl
open Go.Proofs.YtgcaodfcodalfaaGreatDoor.Pbase Go.Proofs.YtgcaodfcodalfaaGreatDoor.Pmem Go.Proofs.YtgcaodfcodalfaaGreatDoor.Pradix Go.Proofs.YtgcaodfcodalfaaGreatDoor.Pslot
open Go.RowKit
set_option linter.unusedVariables false

theorem hide {q : Prop} (h : q) : Hid q := h
def wk (a fl fr at_ : Int) : Wk := ⟨a, fl, fr, at_, 0, 0, 0, false, 0, 0, 0, 0, 0, 0, 0⟩
theorem wi_new {w : World} {p b N : Nat} {M : Nat → Nat → Int} (h : Mx w p b N M) (a fl fr at_ : Int) (ha : -9223372036854775808 ≤ a ∧ a ≤ 9223372036854775807) : Wi w (w.alloc (.cells #[.pointer (some ⟨p, 0, none⟩), .int .i64 a, .int .i64 fl, .int .i64 fr, .int .i64 at_, .int .i64 0, .int .i64 0, .int .i64 0, .bool false, .int .i64 0, .int .i64 0, .int .i64 0, .int .i64 0, .int .i64 0, .int .i64 0, .int .i64 0] 84)) p b N M w.heap.size (wk a fl fr at_) :=
  ⟨h, bal (Below.refl _ _) _, Nat.le_refl _, heap_alloc_new w _, ha⟩
set_option maxRecDepth 100000 in
theorem make_any (p b N : Nat) (f l : Int) (M : Nat → Nat → Int) (w : World) (h : Mx w p b N M) : Calls Tryz.prog 12 #[.pointer (some ⟨p, 0, none⟩), .int .i64 f, .int .i64 l] w fun x w' => x = .returned (.int .i64 (Phead.errP N f 1 l false 0)) ∧ Mx w' p b N (Phead.mkM N M f 1 l false 0) ∧ But b w w' := by
  have HM : Hid (Calls Tryz.prog 33 #[.pointer (some ⟨p, 0, none⟩), .int .i64 f, .agg #[.int .i64 1, .int .i64 l, .bool false, .int .i64 0]] w fun x w' => x = .returned (.int .i64 (Phead.errP N f 1 l false 0)) ∧ Mx w' p b N (Phead.mkM N M f 1 l false 0) ∧ But b w w') := by
    refine (Phead.hmake_any p b N f 1 l false 0 M w h.mt.n1 h.mt.n64 h.mt.mem h.th).mono ?_
    rintro x w' ⟨rfl, h1, h2⟩
    exact ⟨rfl, h.but h1 (Phead.fit_mk h.mt.fit N f 1 l false 0) h2, h2⟩
  clear h
  go_enter Tryz.func12, Tryz.ntmps12
  go_wp2_with (first
    | (go_at_call 33; refine HM.out.mono ?_; rintro e1 w1 ⟨rfl, hb⟩; have H1 : Hid (Mx w1 p b N (Phead.mkM N M f 1 l false 0) ∧ But b w w1) := hb; clear hb)
    | fail)
  go_ret
  exact ⟨rfl, H1.out⟩
/-! ### Look -/
/-- A result's block, a walk's, behind the look. -/
structure LkI (w w3 : World) (p b N : Nat) (M : Nat → Nat → Int) (u : Wk) : Prop where
  wi : Wi (w.alloc (.cells #[.int .i64 0, .int .i64 0, .int .i64 0, .int .i64 0, .int .i64 0, .int .i64 0] 32)) w3 p b N M (w.heap.size + 1) u
theorem LkI.res {w w3 : World} {p b N : Nat} {M : Nat → Nat → Int} {u : Wk} (h : LkI w w3 p b N M u) : Pcap.Box6 w3 w.heap.size 0 0 0 0 0 0 := (Pcap.box6_new w 0 0 0 0 0 0 32).on h.wi.below
theorem LkI.below {w w3 : World} {p b N : Nat} {M : Nat → Nat → Int} {u : Wk} (h : LkI w w3 p b N M u) : Below w.heap.size w w3 := (bal (Below.refl _ _) _).trans (h.wi.below.mono (by simp))
theorem lk_new {w : World} {p b N : Nat} {M : Nat → Nat → Int} (h : Mx w p b N M) (a fl fr at_ : Int) (ha : -9223372036854775808 ≤ a ∧ a ≤ 9223372036854775807) : LkI w ((w.alloc (.cells #[.int .i64 0, .int .i64 0, .int .i64 0, .int .i64 0, .int .i64 0, .int .i64 0] 32)).alloc (.cells #[.pointer (some ⟨p, 0, none⟩), .int .i64 a, .int .i64 fl, .int .i64 fr, .int .i64 at_, .int .i64 0, .int .i64 0, .int .i64 0, .bool false, .int .i64 0, .int .i64 0, .int .i64 0, .int .i64 0, .int .i64 0, .int .i64 0, .int .i64 0] 84)) p b N M (wk a fl fr at_) := by
  have := wi_new (h.on (bal (Below.refl _ _) (.cells #[.int .i64 0, .int .i64 0, .int .i64 0, .int .i64 0, .int .i64 0, .int .i64 0] 32))) a fl fr at_ ha
  rw [World.size_alloc] at this
  exact ⟨this⟩
theorem look_laid {w : World} {p b N : Nat} {M : Nat → Nat → Int} {root a : Int} (h : Mx w p b N M) (ha : -9223372036854775808 ≤ a ∧ a ≤ 9223372036854775807) :
    ∃ u : Wk, (∀ wc, Below ((w.alloc (.cells #[.int .i64 0, .int .i64 0, .int .i64 0, .int .i64 0, .int .i64 0, .int .i64 0] 32)).alloc (.cells #[.pointer (some ⟨p, 0, none⟩), .int .i64 a, .int .i64 0, .int .i64 root, .int .i64 0, .int .i64 0, .int .i64 0, .int .i64 0, .bool false, .int .i64 0, .int .i64 0, .int .i64 0, .int .i64 0, .int .i64 0, .int .i64 0, .int .i64 0] 84)).heap.size ((w.alloc (.cells #[.int .i64 0, .int .i64 0, .int .i64 0, .int .i64 0, .int .i64 0, .int .i64 0] 32)).alloc (.cells #[.pointer (some ⟨p, 0, none⟩), .int .i64 a, .int .i64 0, .int .i64 root, .int .i64 0, .int .i64 0, .int .i64 0, .int .i64 0, .bool false, .int .i64 0, .int .i64 0, .int .i64 0, .int .i64 0, .int .i64 0, .int .i64 0, .int .i64 0] 84)) wc → Calls Tryz.prog 46 #[.pointer (some ⟨w.heap.size + 1, 0, none⟩)] wc fun x w' => x = .returned (.int .i64 (lkE N M root a)) ∧ LkI w w' p b N M u) ∧
      (lkE N M root a = 0 → (u.k = lkC N M root a 0 ∧ u.r = lkC N M root a 1 ∧ u.t = lkC N M root a 2 ∧ u.l = lkC N M root a 3 ∧ u.e = lkC N M root a 4 ∧ u.x = lkC N M root a 5) ∧ u.fr = lfF N M root a ∧ u.at_ = lfI N M root a ∧ u.hz = lfZ N M root a) := by
  obtain ⟨he, hok⟩ := look_run N M (wk a 0 root 0)
  refine ⟨(stLook N M (wk a 0 root 0)).1, fun wc hb => ?_, hok⟩
  have := look_any ((lk_new h a 0 root 0 ha).wi.on hb)
  rw [he] at this
  refine this.mono ?_
  rintro x w' ⟨rfl, h1, _⟩
  exact ⟨rfl, ⟨h1⟩⟩
set_option maxRecDepth 100000 in
set_option maxHeartbeats 1000000 in
theorem clook_any (p b N : Nat) (root a : Int) (M : Nat → Nat → Int) (w : World) (h : Mx w p b N M) (ha : -9223372036854775808 ≤ a ∧ a ≤ 9223372036854775807) : Calls Tryz.prog 24 #[.pointer (some ⟨p, 0, none⟩), .int .i64 root, .int .i64 a] w fun x w' => x = .returned (.tuple #[.agg #[.int .i64 (lkC N M root a 0), .int .i64 (lkC N M root a 1), .int .i64 (lkC N M root a 2), .int .i64 (lkC N M root a 3), .int .i64 (lkC N M root a 4), .int .i64 (lkC N M root a 5)], .int .i64 (lkE N M root a)]) ∧ Below w.heap.size w w' := by
  obtain ⟨u, hL, hok⟩ := look_laid (root := root) h ha
  have HL := hide (hL _ (Below.refl _ _))
  clear h ha hL
  by_cases hE : lkE N M root a = 0
  · obtain ⟨⟨h0, h1, h2, h3, h4, h5⟩, _⟩ := hok hE
    rw [← h0, ← h1, ← h2, ← h3, ← h4, ← h5]
    rw [hE] at HL ⊢
    clear hok h0 h1 h2 h3 h4 h5 hE
    go_enter Tryz.func24, Tryz.ntmps24
    go_wp2_with (first
      | (go_at_call 46; refine HL.out.mono ?_; rintro e1 w1 ⟨rfl, hb⟩; have H1 : Hid (LkI w w1 p b N M u) := hb; clear hb HL; have x0 := H1.out.res.c0; have x1 := H1.out.res.c1; have x2 := H1.out.res.c2; have x3 := H1.out.res.c3; have x4 := H1.out.res.c4; have x5 := H1.out.res.c5; have z0 := H1.out.res.fz 0; have z1 := H1.out.res.fz 1; have z2 := H1.out.res.fz 2; have z3 := H1.out.res.fz 3; have z4 := H1.out.res.fz 4; have z5 := H1.out.res.fz 5; have y0 := H1.out.wi.c10; have y1 := H1.out.wi.c11; have y2 := H1.out.wi.c12; have y3 := H1.out.wi.c13; have y4 := H1.out.wi.c14; have y5 := H1.out.wi.c15)
      | fail)
    refine bodyPost_ret (v := .tuple #[.agg #[.int .i64 u.k, .int .i64 u.r, .int .i64 u.t, .int .i64 u.l, .int .i64 u.e, .int .i64 u.x], .int .i64 0]) (by simp [results, Tryz.results24, go_sem, x0, x1, x2, x3, x4, x5]) rfl ⟨rfl, ?_⟩
    exact bst (bst (bst (bst (bst (bst H1.out.below (Nat.le_refl _) _ _) (Nat.le_refl _) _ _) (Nat.le_refl _) _ _) (Nat.le_refl _) _ _) (Nat.le_refl _) _ _) (Nat.le_refl _) _ _
  · have hz : ∀ j, lkC N M root a j = 0 := fun j => by simp [lkC, hE]
    simp only [hz]
    generalize lkE N M root a = E at HL hE ⊢
    have hE' : (E != 0) = true := by simp [hE]
    clear hok hz hE
    go_enter Tryz.func24, Tryz.ntmps24
    go_wp2_with (first
      | (go_at_call 46; refine HL.out.mono ?_; rintro e1 w1 ⟨rfl, hb⟩; have H1 : Hid (LkI w w1 p b N M u) := hb; clear hb HL; have x0 := H1.out.res.c0; have x1 := H1.out.res.c1; have x2 := H1.out.res.c2; have x3 := H1.out.res.c3; have x4 := H1.out.res.c4; have x5 := H1.out.res.c5; have z0 := H1.out.res.fz 0; have z1 := H1.out.res.fz 1; have z2 := H1.out.res.fz 2; have z3 := H1.out.res.fz 3; have z4 := H1.out.res.fz 4; have z5 := H1.out.res.fz 5)
      | fail)
    refine bodyPost_ret (v := .tuple #[.agg #[.int .i64 0, .int .i64 0, .int .i64 0, .int .i64 0, .int .i64 0, .int .i64 0], .int .i64 E]) (by simp [results, Tryz.results24, go_sem, x0, x1, x2, x3, x4, x5]) rfl ⟨rfl, ?_⟩
    exact bst (bst (bst (bst (bst (bst H1.out.below (Nat.le_refl _) _ _) (Nat.le_refl _) _ _) (Nat.le_refl _) _ _) (Nat.le_refl _) _ _) (Nat.le_refl _) _ _) (Nat.le_refl _) _ _

/-! ### Room, Put -/
theorem room_laid {w : World} {p b N : Nat} {M : Nat → Nat → Int} {root a floor : Int} (h : Mx w p b N M) (ha : -9223372036854775808 ≤ a ∧ a ≤ 9223372036854775807) :
    ∃ u : Wk, Calls Tryz.prog 37 #[.pointer (some ⟨w.heap.size, 0, none⟩)] (w.alloc (.cells #[.pointer (some ⟨p, 0, none⟩), .int .i64 a, .int .i64 floor, .int .i64 root, .int .i64 0, .int .i64 0, .int .i64 0, .int .i64 0, .bool false, .int .i64 0, .int .i64 0, .int .i64 0, .int .i64 0, .int .i64 0, .int .i64 0, .int .i64 0] 84)) (fun x w' => x = .returned (.int .i64 (roE N M root a floor)) ∧ Wi w w' p b N M w.heap.size u) ∧
      (roE N M root a floor = 0 → u.fr = lfF N M root a ∧ u.at_ = lfI N M root a) := by
  obtain ⟨he, hok⟩ := room_run N M (wk a floor root 0)
  refine ⟨(stRoom N M (wk a floor root 0)).1, ?_, hok⟩
  have := room_any (wi_new h a floor root 0 ha)
  rw [he] at this
  refine this.mono ?_
  rintro x w' ⟨rfl, h1, _⟩
  exact ⟨rfl, h1⟩
set_option maxRecDepth 100000 in
theorem croom_any (p b N : Nat) (root a floor : Int) (M : Nat → Nat → Int) (w : World) (h : Mx w p b N M) (ha : -9223372036854775808 ≤ a ∧ a ≤ 9223372036854775807) : Calls Tryz.prog 16 #[.pointer (some ⟨p, 0, none⟩), .int .i64 root, .int .i64 a, .int .i64 floor] w fun x w' => x = .returned (.int .i64 (roE N M root a floor)) ∧ Below w.heap.size w w' := by
  obtain ⟨u, hL, _⟩ := room_laid (root := root) (floor := floor) h ha
  have HL := hide hL
  clear h ha hL
  go_enter Tryz.func16, Tryz.ntmps16
  go_wp2_with (first
    | (go_at_call 37; refine HL.out.mono ?_; rintro e1 w1 ⟨rfl, hb⟩; have H1 : Hid (Wi w w1 p b N M w.heap.size u) := hb; clear hb HL)
    | fail)
  go_ret
  exact ⟨rfl, H1.out.below⟩
/-- A capability, a memory and the tables behind calls that leave what was. -/
structure PuI (w0 w : World) (p b N : Nat) (M : Nat → Nat → Int) (D : Nat) (k r t l e c : Int) : Prop where
  mx : Mx w p b N M
  box : Pcap.Box6 w D k r t l e c
  below : Below w0.heap.size w0 w
theorem PuI.on {w0 w w' : World} {p b N : Nat} {M : Nat → Nat → Int} {D : Nat} {k r t l e c : Int} (h : PuI w0 w p b N M D k r t l e c) (hB : Below w.heap.size w w') : PuI w0 w' p b N M D k r t l e c :=
  ⟨h.mx.on hB, h.box.on hB, h.below.trans (hB.mono h.below.size)⟩
theorem put_box {w : World} {p b N : Nat} {M : Nat → Nat → Int} (h : Mx w p b N M) (k r t l e c : Int) : PuI w (w.alloc (.cells #[.int .i64 k, .int .i64 r, .int .i64 t, .int .i64 l, .int .i64 e, .int .i64 c] 32)) p b N M w.heap.size k r t l e c :=
  ⟨h.on (bal (Below.refl _ _) _), Pcap.box6_new w k r t l e c 32, bal (Below.refl _ _) _⟩
set_option maxRecDepth 100000 in
set_option maxHeartbeats 1000000 in
theorem cput_any (p b N : Nat) (root a k r t l e c floor : Int) (M : Nat → Nat → Int) (w : World) (h : Mx w p b N M) (ha : -9223372036854775808 ≤ a ∧ a ≤ 9223372036854775807) : Calls Tryz.prog 14 #[.pointer (some ⟨p, 0, none⟩), .int .i64 root, .int .i64 a, .agg #[.int .i64 k, .int .i64 r, .int .i64 t, .int .i64 l, .int .i64 e, .int .i64 c], .int .i64 floor] w fun x w' => x = .returned (.int .i64 (ptE N M root a k r t l e c floor)) ∧ Mx w' p b N (ptM N M root a k r t l e c floor) ∧ But b w w' := by
  have HM : Hid (Mx w p b N M) := h
  have HA : Hid (-9223372036854775808 ≤ a ∧ a ≤ 9223372036854775807) := ha
  have HP := put_box h k r t l e c
  clear h ha
  by_cases hr : Pcap.Rt k r t l e c
  case neg =>
    have e1 : ptE N M root a k r t l e c floor = 1 := by simp [ptE, upB, Pcap.rtB_no hr]
    have e2 : ptM N M root a k r t l e c floor = M := by simp [ptM, e1]
    have hc : Pcap.chk k r t l e c = 1 := Pcap.chk_no hr
    rw [e1, e2]
    clear e1 e2 hr
    go_enter Tryz.func14, Tryz.ntmps14
    go_upto_region 1 with fail
    generalize w.alloc _ = w1 at HP ⊢
    generalize w.heap.size = D at HP ⊢
    have H1 : Hid (PuI w w1 p b N M D k r t l e c) := HP
    clear HP
    have x0 := H1.out.box.c0
    have x1 := H1.out.box.c1
    have x2 := H1.out.box.c2
    have x3 := H1.out.box.c3
    have x4 := H1.out.box.c4
    have x5 := H1.out.box.c5
    go_wp2_with (first
      | (go_at_call 35; refine (Pcap.check_any k r t l e c _ H1.out.mx.mt.tab).mono ?_; rintro e2 w2 ⟨rfl, hb⟩; rw [hc]; have H2 : Hid (PuI w w2 p b N M D k r t l e c) := H1.out.on hb; clear hb x0 x1 x2 x3 x4 x5; have x0 := H2.out.box.c0; have x1 := H2.out.box.c1; have x2 := H2.out.box.c2; have x3 := H2.out.box.c3; have x4 := H2.out.box.c4; have x5 := H2.out.box.c5)
      | fail)
    go_ret
    exact ⟨rfl, HM.out.on H2.out.below, But.of_below b H2.out.below⟩
  have hc : Pcap.chk k r t l e c = 0 := Pcap.chk_yes hr
  by_cases hk : 1 < k
  case neg =>
    have e1 : ptE N M root a k r t l e c floor = 1 := by simp [ptE, upB, hk]
    have e2 : ptM N M root a k r t l e c floor = M := by simp [ptM, e1]
    have hd : decide (1 < k) = false := decide_eq_false hk
    rw [e1, e2]
    clear e1 e2 hr hk
    go_enter Tryz.func14, Tryz.ntmps14
    go_upto_region 1 with fail
    generalize w.alloc _ = w1 at HP ⊢
    generalize w.heap.size = D at HP ⊢
    have H1 : Hid (PuI w w1 p b N M D k r t l e c) := HP
    clear HP
    have x0 := H1.out.box.c0
    have x1 := H1.out.box.c1
    have x2 := H1.out.box.c2
    have x3 := H1.out.box.c3
    have x4 := H1.out.box.c4
    have x5 := H1.out.box.c5
    go_wp2_with (first
      | (go_at_call 35; refine (Pcap.check_any k r t l e c _ H1.out.mx.mt.tab).mono ?_; rintro e2 w2 ⟨rfl, hb⟩; rw [hc]; have H2 : Hid (PuI w w2 p b N M D k r t l e c) := H1.out.on hb; clear hb x0 x1 x2 x3 x4 x5; have x0 := H2.out.box.c0; have x1 := H2.out.box.c1; have x2 := H2.out.box.c2; have x3 := H2.out.box.c3; have x4 := H2.out.box.c4; have x5 := H2.out.box.c5)
      | (go_at_call 36; refine (above_any _ _ _ _ _ _ _).mono ?_; rintro e3 w3 ⟨rfl, hb⟩; rw [hd]; have H3 : Hid (PuI w w3 p b N M D k r t l e c) := H2.out.on hb; clear hb x0 x1 x2 x3 x4 x5; have x0 := H3.out.box.c0; have x1 := H3.out.box.c1; have x2 := H3.out.box.c2; have x3 := H3.out.box.c3; have x4 := H3.out.box.c4; have x5 := H3.out.box.c5)
      | fail)
    go_ret
    exact ⟨rfl, HM.out.on H3.out.below, But.of_below b H3.out.below⟩
  have hd : decide (1 < k) = true := decide_eq_true hk
  have e1 : ptE N M root a k r t l e c floor = roE N M root a floor := by simp [ptE, upB, hk, Pcap.rtB_yes hr]
  have e2 : ptM N M root a k r t l e c floor = if roE N M root a floor = 0 then pM N M (lfF N M root a) (lfI N M root a) k r t l e c else M := by simp [ptM, e1]
  have e3 : roE N M root a floor = 0 → pE N (lfF N M root a) (lfI N M root a) k r t l e c = 0 := fun h => ro_put hr h
  rw [e1, e2]
  clear e1 e2 hr hk
  by_cases hE : roE N M root a floor = 0
  case neg =>
    rw [if_neg hE]
    generalize hEE : roE N M root a floor = E at hE ⊢
    have HEE : Hid (roE N M root a floor = E) := hEE
    have hE' : (E != 0) = true := by simp [hE]
    clear e3 hE hEE
    go_enter Tryz.func14, Tryz.ntmps14
    go_upto_region 1 with fail
    generalize w.alloc _ = w1 at HP ⊢
    generalize w.heap.size = D at HP ⊢
    have H1 : Hid (PuI w w1 p b N M D k r t l e c) := HP
    clear HP
    have x0 := H1.out.box.c0
    have x1 := H1.out.box.c1
    have x2 := H1.out.box.c2
    have x3 := H1.out.box.c3
    have x4 := H1.out.box.c4
    have x5 := H1.out.box.c5
    go_upto_region 4 with (first
      | (go_at_call 35; refine (Pcap.check_any k r t l e c _ H1.out.mx.mt.tab).mono ?_; rintro e2 w2 ⟨rfl, hb⟩; rw [hc]; have H2 : Hid (PuI w w2 p b N M D k r t l e c) := H1.out.on hb; clear hb x0 x1 x2 x3 x4 x5; have x0 := H2.out.box.c0; have x1 := H2.out.box.c1; have x2 := H2.out.box.c2; have x3 := H2.out.box.c3; have x4 := H2.out.box.c4; have x5 := H2.out.box.c5)
      | (go_at_call 36; refine (above_any _ _ _ _ _ _ _).mono ?_; rintro e3 w3 ⟨rfl, hb⟩; rw [hd]; have H3 : Hid (PuI w w3 p b N M D k r t l e c) := H2.out.on hb; clear hb x0 x1 x2 x3 x4 x5; have x0 := H3.out.box.c0; have x1 := H3.out.box.c1; have x2 := H3.out.box.c2; have x3 := H3.out.box.c3; have x4 := H3.out.box.c4; have x5 := H3.out.box.c5)
      | fail)
    obtain ⟨u, hL, _⟩ := room_laid (root := root) (floor := floor) H3.out.mx HA.out
    rw [HEE.out] at hL
    have HL := hide hL
    clear hL
    go_wp2_with (first
      | (go_at_call 37; refine HL.out.mono ?_; rintro e4 w4 ⟨rfl, hb⟩; have H4 : Hid (Wi w3 w4 p b N M w3.heap.size u) := hb; clear hb HL)
      | fail)
    go_ret
    have hb4 : Below w.heap.size w w4 := H3.out.below.trans (H4.out.below.mono H3.out.below.size)
    exact ⟨rfl, HM.out.on hb4, But.of_below b hb4⟩
  have e4 := e3 hE
  rw [if_pos hE, hE]
  have HEE : Hid (roE N M root a floor = 0) := hE
  have HE4 : Hid (pE N (lfF N M root a) (lfI N M root a) k r t l e c = 0) := e4
  clear e3 hE e4
  go_enter Tryz.func14, Tryz.ntmps14
  go_upto_region 1 with fail
  generalize w.alloc _ = w1 at HP ⊢
  generalize w.heap.size = D at HP ⊢
  have H1 : Hid (PuI w w1 p b N M D k r t l e c) := HP
  clear HP
  have x0 := H1.out.box.c0
  have x1 := H1.out.box.c1
  have x2 := H1.out.box.c2
  have x3 := H1.out.box.c3
  have x4 := H1.out.box.c4
  have x5 := H1.out.box.c5
  go_upto_region 4 with (first
    | (go_at_call 35; refine (Pcap.check_any k r t l e c _ H1.out.mx.mt.tab).mono ?_; rintro e2 w2 ⟨rfl, hb⟩; rw [hc]; have H2 : Hid (PuI w w2 p b N M D k r t l e c) := H1.out.on hb; clear hb x0 x1 x2 x3 x4 x5; have x0 := H2.out.box.c0; have x1 := H2.out.box.c1; have x2 := H2.out.box.c2; have x3 := H2.out.box.c3; have x4 := H2.out.box.c4; have x5 := H2.out.box.c5)
    | (go_at_call 36; refine (above_any _ _ _ _ _ _ _).mono ?_; rintro e3 w3 ⟨rfl, hb⟩; rw [hd]; have H3 : Hid (PuI w w3 p b N M D k r t l e c) := H2.out.on hb; clear hb x0 x1 x2 x3 x4 x5; have x0 := H3.out.box.c0; have x1 := H3.out.box.c1; have x2 := H3.out.box.c2; have x3 := H3.out.box.c3; have x4 := H3.out.box.c4; have x5 := H3.out.box.c5)
    | fail)
  obtain ⟨u, hL, hu⟩ := room_laid (root := root) (floor := floor) H3.out.mx HA.out
  rw [HEE.out] at hL
  have HL := hide hL
  have HU := hide (hu HEE.out)
  clear hL hu
  go_wp2_with (first
    | (go_at_call 37; refine HL.out.mono ?_; rintro e4 w4 ⟨rfl, hb⟩; have H4 : Hid (Wi w3 w4 p b N M w3.heap.size u) := hb; have HX : Hid (Pcap.Box6 w4 D k r t l e c) := H3.out.box.on hb.below; clear hb HL x0 x1 x2 x3 x4 x5; have x0 := HX.out.c0; have x1 := HX.out.c1; have x2 := HX.out.c2; have x3 := HX.out.c3; have x4 := HX.out.c4; have x5 := HX.out.c5)
    | (go_at_call 38; refine (wput_any k r t l e c H4.out).mono ?_; rintro e5 w5 ⟨rfl, hm, hb⟩; rw [HU.out.1, HU.out.2] at hm ⊢; rw [HE4.out]; have H5 : Hid (Mx w5 p b N (pM N M (lfF N M root a) (lfI N M root a) k r t l e c) ∧ But b w4 w5) := ⟨hm, hb⟩; clear hm hb)
    | fail)
  go_ret
  have hb4 : Below w.heap.size w w4 := H3.out.below.trans (H4.out.below.mono H3.out.below.size)
  exact ⟨rfl, H5.out.1, (But.of_below b hb4).trans H5.out.2⟩
end Go.Proofs.YtgcaodfcodalfaaGreatDoor.Pcaptbl
